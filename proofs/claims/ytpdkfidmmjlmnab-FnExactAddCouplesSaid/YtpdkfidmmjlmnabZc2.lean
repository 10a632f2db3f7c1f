/-
  Texts that ProofAcl needs, part 2.
-/
import Derived.Test.YtpdkfidmmjlmnabZc1
import Derived.WalkKit
import Derived.Lib.Hide
import Derived.Deep.OwnRows
import Derived.Deep.Draws
import Derived.Test.YtpdkfidmmjlmnabChecked
import Derived.Outline
import Derived.Deep.QuietTactic
import Derived.BigQuiet
import Derived.BigRegion
import Derived.WalkLawsBesides
import Derived.Laws.CopyOwn
import Derived.OrdersHeld
import Derived.Deep.MidRow
import Derived.Deep.RegionHeld3
import Derived.StillTailTactics
import Derived.Deep.Cut
import Derived.Deep.CutRange
import Derived.Test.YtpdkfidmmjlmnabRows
import Derived.ProofKit
import Derived.OpenShut
import Derived.ChangeOld
import Derived.Deep.Slices
import Derived.Lib.SmallJoins
import Derived.KernelRfl
import Derived.Deep.Strs
import Derived.Great.Walk
import Derived.WideKeyArr
import Derived.Maps.OwnOps
import Derived.Maps.OwnSet
import Derived.Carry
import Derived.Great.BuildSlice
import Derived.Laws.CopyRow
import Derived.Lib.Overlaps
import Derived.Lib.AppendZerosOnto
import Derived.Lib.JoinLaws
import Derived.Deep.RegionLaw
import Derived.Deep.LoopGhost
import Derived.WalkMore
import Derived.OwnWalk
import Derived.Laws.AppendOwn
import Derived.Deep.AppendLies
import Derived.Lib.AppendZeros
import Derived.Maps.AppendAt
namespace Go.Proofs.Ytpdkfidmmjlmnab
open Go.RowKit

theorem cell_lt {w : World} {b o : Nat} {u : Value} (h : w.cell? ⟨b, o, none⟩ = some u) : b < w.heap.size := World.block_lt_of_cell? _ _ h

/-- Cells of blocks from lo on (that were there) read as they did. -/
def Keep (lo : Nat) (w w' : World) : Prop := w.heap.size ≤ w'.heap.size ∧ ∀ b o, lo ≤ b → b < w.heap.size → w'.cell? ⟨b, o, none⟩ = w.cell? ⟨b, o, none⟩

theorem Keep.of_below {lo : Nat} {w w' : World} (h : Below w.heap.size w w') : Keep lo w w' := ⟨h.size, fun _ _ _ hb => h.cell (p := ⟨_, _, none⟩) hb⟩
theorem Keep.trans {lo : Nat} {a b c : World} (h : Keep lo a b) (k : Keep lo b c) : Keep lo a c :=
  ⟨Nat.le_trans h.1 k.1, fun i o hl hi => (k.2 i o hl (Nat.lt_of_lt_of_le hi h.1)).trans (h.2 i o hl hi)⟩
theorem Keep.set {lo g o : Nat} {w : World} (u : Value) (h : g < lo) : Keep lo w (w.setCell ⟨g, o, none⟩ u) :=
  ⟨by simp [World.setCell], fun b i hl _ => World.cell?_of_block (w := w) (a := ⟨b, i, none⟩) (Below.heap_setCell w ⟨g, o, none⟩ u b (by show b ≠ g; omega))⟩
theorem Keep.drewN {lo : Nat} (w : World) (n : Nat) : Keep lo w (w.drewN n) := ⟨Nat.le_refl _, fun _ _ _ _ => rfl⟩

/-- The slice value v reads, cell by cell, as the list xs (R: how one cell reads); its cells lie in blocks from lo on. -/
def Sl {α : Type} (lo : Nat) (R : World → Value → α → Prop) (w : World) (v : Value) (xs : List α) : Prop :=
  (xs = [] ∧ ∃ ad cap, v = .slice ad 0 cap) ∨
  ∃ b o cap, v = .slice (some ⟨b, o, none⟩) xs.length cap ∧ lo ≤ b ∧ 0 < xs.length ∧ ∀ k (h : k < xs.length), ∃ u, w.cell? ⟨b, o + k, none⟩ = some u ∧ R w u xs[k]

def IsI (_ : World) (v : Value) (x : Int) : Prop := v = .int .i64 x
def L1 (lo : Nat) := Sl lo IsI
def L2 (lo : Nat) := Sl lo (L1 lo)
def L3 (lo : Nat) := Sl lo (L2 lo)

def Stable {α : Type} (lo : Nat) (R : World → Value → α → Prop) : Prop := ∀ w w' v x, Keep lo w w' → R w v x → R w' v x
theorem stableI (lo : Nat) : Stable lo IsI := fun _ _ _ _ _ h => h
theorem Stable.sl {α : Type} {lo : Nat} {R : World → Value → α → Prop} (hR : Stable lo R) : Stable lo (Sl lo R) := by
  intro w w' v xs hk h
  rcases h with h | ⟨b, o, cap, hv, hlo, hpos, hc⟩
  · exact Or.inl h
  · refine Or.inr ⟨b, o, cap, hv, hlo, hpos, fun k hk' => ?_⟩
    obtain ⟨u, hu, hr⟩ := hc k hk'
    exact ⟨u, (hk.2 b (o + k) hlo (cell_lt hu)).trans hu, hR _ _ _ _ hk hr⟩
theorem stable1 (lo : Nat) : Stable lo (L1 lo) := (stableI lo).sl
theorem stable2 (lo : Nat) : Stable lo (L2 lo) := (stable1 lo).sl
theorem stable3 (lo : Nat) : Stable lo (L3 lo) := (stable2 lo).sl

theorem Sl.lower {α : Type} {lo lo' : Nat} {R R' : World → Value → α → Prop} (hl : lo' ≤ lo) (hR : ∀ w v x, R w v x → R' w v x) {w : World} {v : Value} {xs : List α} (h : Sl lo R w v xs) : Sl lo' R' w v xs := by
  rcases h with h | ⟨b, o, cap, hv, hlo, hpos, hc⟩
  · exact Or.inl h
  · refine Or.inr ⟨b, o, cap, hv, Nat.le_trans hl hlo, hpos, fun k hk' => ?_⟩
    obtain ⟨u, hu, hr⟩ := hc k hk'
    exact ⟨u, hu, hR _ _ _ hr⟩
theorem L1.lower {lo lo' : Nat} (hl : lo' ≤ lo) {w : World} {v : Value} {xs : List Int} (h : L1 lo w v xs) : L1 lo' w v xs := Sl.lower hl (fun _ _ _ h => h) h
theorem L2.lower {lo lo' : Nat} (hl : lo' ≤ lo) {w : World} {v : Value} {xs : List (List Int)} (h : L2 lo w v xs) : L2 lo' w v xs := Sl.lower hl (fun _ _ _ h => L1.lower hl h) h
theorem L3.lower {lo lo' : Nat} (hl : lo' ≤ lo) {w : World} {v : Value} {xs : List (List (List Int))} (h : L3 lo w v xs) : L3 lo' w v xs := Sl.lower hl (fun _ _ _ h => L2.lower hl h) h

theorem L1.below {lo : Nat} {w w' : World} {v : Value} {xs : List Int} (h : L1 lo w v xs) (hb : Below w.heap.size w w') : L1 lo w' v xs := stable1 lo _ _ _ _ (Keep.of_below hb) h
theorem L2.below {lo : Nat} {w w' : World} {v : Value} {xs : List (List Int)} (h : L2 lo w v xs) (hb : Below w.heap.size w w') : L2 lo w' v xs := stable2 lo _ _ _ _ (Keep.of_below hb) h
theorem L3.below {lo : Nat} {w w' : World} {v : Value} {xs : List (List (List Int))} (h : L3 lo w v xs) (hb : Below w.heap.size w w') : L3 lo w' v xs := stable3 lo _ _ _ _ (Keep.of_below hb) h

/-- The two shapes of a slice value. -/
theorem Sl.cases {α : Type} {lo : Nat} {R : World → Value → α → Prop} {w : World} {v : Value} {xs : List α} (h : Sl lo R w v xs) {P : Prop}
    (h0 : ∀ ad cap, xs = [] → v = .slice ad 0 cap → P)
    (h1 : ∀ b o cap, v = .slice (some ⟨b, o, none⟩) xs.length cap → lo ≤ b → 0 < xs.length → (∀ k (h : k < xs.length), ∃ u, w.cell? ⟨b, o + k, none⟩ = some u ∧ R w u xs[k]) → P) : P := by
  rcases h with ⟨h, ad, cap, hv⟩ | ⟨b, o, cap, hv, hlo, hpos, hc⟩
  · exact h0 ad cap h hv
  · exact h1 b o cap hv hlo hpos hc

/-- A slice that a call is filling: its own block g (the first that it made), n cells, the first k filled. -/
structure Fill {α : Type} (w wr : World) (t : TypeId) (n k : Nat) (z : Value) (R : World → Value → α → Prop) (xs : List α) (f : Nat → Value) : Prop where
  below : Below w.heap.size w wr
  row : wr.rowIs w.heap.size t n f
  done : ∀ j (h : j < xs.length), j < k → R wr (f j) (xs[j]'h)
  rest : ∀ j, k ≤ j → j < n → f j = z

theorem Fill.start {α : Type} (w : World) (t : TypeId) (n : Nat) (z : Value) (R : World → Value → α → Prop) (xs : List α) : Fill w (w.alloc (.cells (madeCells #[z] n) t)) t n 0 z R xs (fun _ => z) :=
  ⟨(Below.refl _ _).alloc (Nat.le_refl _) _, World.rowIs_made w z n t, fun _ _ h => absurd h (Nat.not_lt_zero _), fun _ _ _ => rfl⟩

/-- One cell more: behind a call that left w1 (all that was there is as it was), the store of u. -/
theorem Fill.step {α : Type} {w wr w1 : World} {t : TypeId} {n k : Nat} {z u : Value} {R : World → Value → α → Prop} {xs : List α} {f : Nat → Value} (hR : Stable (w.heap.size + 1) R) (h : Fill w wr t n k z R xs f)
    (hb : Below wr.heap.size wr w1) (hk : k < xs.length) (hu : R w1 u xs[k]) :
    Fill w (w1.setCell ⟨w.heap.size, k, none⟩ u) t n (k + 1) z R xs (fun j => if j = k then u else f j) := by
  have hlt := h.row.lt
  have hrow1 : w1.rowIs w.heap.size t n f := h.row.of_block (hb.block _ hlt)
  refine ⟨(h.below.trans (hb.mono (Nat.le_of_lt (by exact Nat.lt_of_le_of_lt (Nat.le_refl _) hlt)))).setCell (Nat.le_refl _) _, hrow1.set k u, fun j hj hjk => ?_, fun j h1 h2 => ?_⟩
  · by_cases e : j = k
    · subst e
      simp only [if_true]
      exact hR _ _ _ _ (Keep.set u (Nat.lt_succ_self _)) hu
    · rw [if_neg e]
      exact hR _ _ _ _ ((Keep.of_below hb).trans (Keep.set u (Nat.lt_succ_self _))) (h.done j hj (by omega))
  · rw [if_neg (by omega)]
    exact h.rest j (by omega) h2

/-- The filled slice reads as the list. -/
theorem Fill.sl {α : Type} {lo : Nat} {w wr : World} {t : TypeId} {z : Value} {R : World → Value → α → Prop} {xs : List α} {f : Nat → Value} (hlo : lo ≤ w.heap.size) (h : Fill w wr t xs.length xs.length z R xs f) :
    Sl lo R wr (.slice (some ⟨w.heap.size, 0, none⟩) xs.length xs.length) xs := by
  by_cases h0 : xs.length = 0
  · exact Or.inl ⟨List.eq_nil_of_length_eq_zero h0, _, _, by rw [h0]⟩
  · exact Or.inr ⟨w.heap.size, 0, xs.length, rfl, hlo, by omega, fun k hk => ⟨f k, by rw [Nat.zero_add]; exact h.row.cell hk, h.done k hk hk⟩⟩

/-- What is below B, said cell by cell, in the walk's own words. -/
theorem bcell {W w1 : World} (hb : Below W.heap.size W w1) : (∀ b o, b < W.heap.size → w1.cell? ⟨b, o, none⟩ = W.cell? ⟨b, o, none⟩) ∧ (∀ b o, b < W.heap.size → w1.frozen? ⟨b, o, none⟩ = W.frozen? ⟨b, o, none⟩) :=
  ⟨fun b o h => hb.cell (p := ⟨b, o, none⟩) h, fun b o h => hb.frozen (p := ⟨b, o, none⟩) h⟩

theorem drewN_below (w : World) (n : Nat) : Below w.heap.size w (w.drewN n) := ⟨rfl, rfl, rfl, Nat.le_refl _, fun _ _ => rfl⟩
theorem ret_int {k : IntKind} {a b : Int} (h : a = b) : Ending.returned (.int k a) = .returned (.int k b) := by rw [h]
theorem ret_bool {a b : Bool} (h : a = b) : Ending.returned (.bool a) = .returned (.bool b) := by rw [h]

/-- Every number of the list is at most n long, at every depth. -/
def Bd1 (n : Nat) (xs : List Int) : Prop := xs.length ≤ n
def Bd2 (n : Nat) (xs : List (List Int)) : Prop := xs.length ≤ n ∧ ∀ x ∈ xs, Bd1 n x
/-- How one of the bounds answers: -1, or a number from 0 on, and then the list is short. -/
def SzR (left : Int) (ok : Prop) (w : World) (e : Ending) (w' : World) : Prop := ∃ r : Int, e = .returned (.int .i64 r) ∧ w = w' ∧ (r = -1 ∨ 0 ≤ r ∧ r ≤ left ∧ ok)
def SzB (left : Int) (ok : Prop) (w : World) (e : Ending) (w' : World) : Prop := ∃ r : Int, e = .returned (.int .i64 r) ∧ Below w.heap.size w w' ∧ (r = -1 ∨ 0 ≤ r ∧ r ≤ left ∧ ok)

theorem Sl.shape {α : Type} {lo : Nat} {R : World → Value → α → Prop} {w : World} {v : Value} {xs : List α} (h : Sl lo R w v xs) : ∃ ad cap, v = .slice ad xs.length cap :=
  h.cases (fun ad cap hx hv => ⟨ad, cap, by subst hx; exact hv⟩) (fun b o cap hv _ _ _ => ⟨some ⟨b, o, none⟩, cap, hv⟩)
theorem owns_below {w w' : World} {base : Nat} {e : TypeId} {size n : Nat} {v : Value} {xs : List Value} (h : w.ownsRow base e size v n xs) (hb : Below w.heap.size w w') : w'.ownsRow base e size v n xs := by
  refine ⟨h.1, ?_⟩
  rcases h.2 with h2 | ⟨g, cap, cur, hv, hg, hh, r⟩
  · exact Or.inl h2
  · exact Or.inr ⟨g, cap, cur, hv, hg, by rw [hb.block g (Array.getElem?_eq_some_iff.1 hh).1]; exact hh, r⟩
/-- An owned slice of values reads as the list that its values read as. -/
theorem sl_of_owns {α : Type} {w : World} {base lo : Nat} {e : TypeId} {n : Nat} {v : Value} {vs : List Value} {R : World → Value → α → Prop} {xs : List α} (h : w.ownsRow base e 1 v n vs) (hlo : lo ≤ base) (hl : xs.length = n)
    (hR : ∀ k (h1 : k < xs.length) (h2 : k < vs.length), R w vs[k] xs[k]) : Sl lo R w v xs := by
  have hvl : vs.length = n := by have := h.1; omega
  rcases h.2 with ⟨rfl, h0⟩ | ⟨g, cap, cur, rfl, hg, hh, hnc, _, hcs, htk⟩
  · exact Or.inl ⟨List.eq_nil_of_length_eq_zero (by omega), _, _, rfl⟩
  · by_cases h0 : n = 0
    · subst h0
      exact Or.inl ⟨List.eq_nil_of_length_eq_zero hl, _, _, rfl⟩
    · refine Or.inr ⟨g, 0, cap, by rw [hl], by omega, by omega, fun k hk => ⟨vs[k]'(by omega), ?_, hR k hk (by omega)⟩⟩
      rw [Nat.zero_add, h.cellAt k (by omega)]
      simp
end Go.Proofs.Ytpdkfidmmjlmnab

namespace Go.Proofs.Ytpdkfidmmjlmnab
open Go.RowKit

theorem Try.infoI : (Try.prog.info? 2).map (fun i => (i.zero, i.size, i.bytes)) = some (some (.int .i64 0), 1, 8) := by kernel_rfl
theorem Try.infoS : (Try.prog.info? 22).map (fun i => (i.zero, i.size, i.bytes)) = some (some (.slice none 0 0), 1, 24) := by kernel_rfl
/-- A copy: a new slice in memory of its own that reads as the list. -/
def ToR {α : Type} (R : Nat → World → Value → α → Prop) (x : α) (w : World) (e : Ending) (w' : World) : Prop := ∃ v, e = .returned v ∧ R w.heap.size w' v x ∧ Below w.heap.size w w'

set_option maxHeartbeats 400000 in
theorem to1_any (v : Value) (xs : List Int) (w : World) (h : L1 0 w v xs) (hm : xs.length ≤ 1048576) :
    Calls Try.prog 51 #[v] w (ToR L1 xs w) := by
  have hmk := run_make_row' (P := Try.prog) 22 2 (.int .i64 0) 8 Try.underlying22 Try.infoI rfl .i64 .i64 xs.length (by omega) (by omega)
  refine Sl.cases h (fun ad cap hx hv => ?_) (fun b o cap hv _ hpos hc => ?_)
  · subst hx hv
    have hmk0 : ∀ w, (Instr.makeSlice 22 (.int .i64 0) (.int .i64 0)).run Try.prog w = .ok (.slice (some ⟨w.heap.size, 0, none⟩) 0 0) (w.alloc (.cells #[] 2)) := fun _ => by kernel_rfl
    clear hmk
    go_enter Try.func51, Try.ntmps51
    go_wp2
    refine wp_loop_rounds 1 ?_
    rw [rounds_succ]
    go_wp2
    go_ret
    exact ⟨_, rfl, Or.inl ⟨rfl, _, _, rfl⟩, (Below.refl _ _).alloc (Nat.le_refl _) _⟩
  · subst hv
    clear h
    have HC := Lib.hid hc
    clear hc
    go_enter Try.func51, Try.ntmps51
    go_wp2
    clear hmk
    go_loopw [4] (fun i wr => ∃ (k : Nat) (f : Nat → Value), k ≤ xs.length ∧ i = .int .i64 k ∧ Fill w wr 2 xs.length k (.int .i64 0) IsI xs f) (fun i _ => xs.length - (intOf i).toNat)
    case atStart => exact ⟨0, _, Nat.zero_le _, rfl, Fill.start _ _ _ _ _ _⟩
    case round =>
      obtain ⟨k, f, hk, rfl, HF⟩ := hrel
      by_cases hlt2 : k < xs.length
      · obtain ⟨u, hu, hr⟩ := HC.out k hlt2
        have hu' : wr.cell? ⟨b, o + k, none⟩ = some (.int .i64 xs[k]) := by
          rw [HF.below.cell (p := ⟨b, o + k, none⟩) (cell_lt hu), hu, hr]
        have hc1 := HF.row.cell hlt2
        have hc2 := HF.row.frozen k
        have HS := HF.step (w1 := wr) (u := .int .i64 xs[k]) (stableI _) (Below.refl _ _) hlt2 rfl
        have HF' := Lib.hid HF
        have HS' := Lib.hid HS
        clear HF HS hu hr
        go_wp2
        go_roundw
        case rel => exact ⟨k + 1, _, by omega, by go_num, HS'.out⟩
        case measure => simp [intOf]; omega
      · obtain rfl : k = xs.length := by omega
        have HF' := Lib.hid HF
        clear HF
        go_wp2
        go_ret
        exact ⟨_, rfl, HF'.out.sl (Nat.le_refl _), HF'.out.below⟩

set_option maxHeartbeats 400000 in
theorem to2_any (v : Value) (xs : List (List Int)) (w : World) (h : L2 0 w v xs) (hm : Bd2 1048576 xs) :
    Calls Try.prog 88 #[v] w (ToR L2 xs w) := by
  have hml : xs.length ≤ 1048576 := hm.1
  have HM := Lib.hid hm
  clear hm
  have hmk := run_make_row' (P := Try.prog) 26 22 (.slice none 0 0) 24 Try.underlying26 Try.infoS rfl .i64 .i64 xs.length (by omega) (by omega)
  refine Sl.cases h (fun ad cap hx hv => ?_) (fun b o cap hv _ hpos hc => ?_)
  · subst hx hv
    have hmk0 : ∀ w, (Instr.makeSlice 26 (.int .i64 0) (.int .i64 0)).run Try.prog w = .ok (.slice (some ⟨w.heap.size, 0, none⟩) 0 0) (w.alloc (.cells #[] 22)) := fun _ => by kernel_rfl
    clear hmk
    go_enter Try.func88, Try.ntmps88
    go_wp2
    refine wp_loop_rounds 1 ?_
    rw [rounds_succ]
    go_wp2
    go_ret
    exact ⟨_, rfl, Or.inl ⟨rfl, _, _, rfl⟩, (Below.refl _ _).alloc (Nat.le_refl _) _⟩
  · subst hv
    clear h
    have HC := Lib.hid hc
    clear hc
    go_enter Try.func88, Try.ntmps88
    go_wp2
    clear hmk
    go_loopw [4] (fun i wr => ∃ (k : Nat) (f : Nat → Value), k ≤ xs.length ∧ i = .int .i64 k ∧ Fill w wr 22 xs.length k (.slice none 0 0) (L1 (w.heap.size + 1)) xs f) (fun i _ => xs.length - (intOf i).toNat)
    case atStart => exact ⟨0, _, Nat.zero_le _, rfl, Fill.start _ _ _ _ _ _⟩
    case round =>
      obtain ⟨k, f, hk, rfl, HF⟩ := hrel
      by_cases hlt2 : k < xs.length
      · obtain ⟨u, hu, hr⟩ := HC.out k hlt2
        have hu' : wr.cell? ⟨b, o + k, none⟩ = some u := by
          rw [HF.below.cell (p := ⟨b, o + k, none⟩) (cell_lt hu), hu]
        have hr' : L1 0 wr u xs[k] := hr.below HF.below
        have hmx : (xs[k]).length ≤ 1048576 := HM.out.2 _ (List.getElem_mem hlt2)
        have HF' := Lib.hid HF
        have HR' := Lib.hid hr'
        clear HF hu hr hr'
        go_wp2_with fail
        refine (to1_any u xs[k] _ HR'.out hmx).mono ?_
        rintro e w1 ⟨u1, rfl, hr1, hb1⟩
        obtain ⟨ad1, cap1, rfl⟩ := Sl.shape hr1
        have hlr := HF'.out.row.lt
        have hc1 : w1.cell? ⟨w.heap.size, k, none⟩ = some (f k) := (hb1.cell (p := ⟨w.heap.size, k, none⟩) hlr).trans (HF'.out.row.cell hlt2)
        have hc2 : w1.frozen? ⟨w.heap.size, k, none⟩ = false := (hb1.frozen (p := ⟨w.heap.size, k, none⟩) hlr).trans (HF'.out.row.frozen k)
        have HS := Lib.hid (HF'.out.step (w1 := w1) (u := _) (stable1 _) hb1 hlt2 (hr1.lower hlr))
        clear hr1 hb1 hlr
        go_wp2
        go_roundw
        case rel => exact ⟨k + 1, _, by omega, by go_num, HS.out⟩
        case measure => simp [intOf]; omega
      · obtain rfl : k = xs.length := by omega
        have HF' := Lib.hid HF
        clear HF
        go_wp2
        go_ret
        exact ⟨_, rfl, Sl.lower (Nat.le_refl _) (fun _ _ _ h => h.lower (Nat.le_succ _)) (HF'.out.sl (Nat.le_refl _)), HF'.out.below⟩

/-- A whole complex in three values. -/
structure Cx (lo : Nat) (w : World) (dv mv : Value) (ds : List Int) (ms : List (List (List Int))) : Prop where
  dims : L1 lo w dv ds
  maps : L3 lo w mv ms
theorem Cx.below {lo : Nat} {w w' : World} {dv mv : Value} {ds : List Int} {ms : List (List (List Int))} (h : Cx lo w dv mv ds ms) (hb : Below w.heap.size w w') : Cx lo w' dv mv ds ms := ⟨h.dims.below hb, h.maps.below hb⟩
theorem Cx.lower {lo lo' : Nat} (hl : lo' ≤ lo) {w : World} {dv mv : Value} {ds : List Int} {ms : List (List (List Int))} (h : Cx lo w dv mv ds ms) : Cx lo' w dv mv ds ms := ⟨h.dims.lower hl, h.maps.lower hl⟩

end Go.Proofs.Ytpdkfidmmjlmnab

namespace Go.Proofs.Ytpdkfidmmjlmnab
open Go.RowKit

/-- A call that only reads: its value, and a world that parts from the first in draws alone. -/
def QR (v : Value) (w : World) (e : Ending) (w' : World) : Prop := e = .returned v ∧ ∃ m, w' = w.drewN m

theorem list_eq_take {α : Type} {xs ys : List α} {k : Nat} (hl : ys.length = xs.length) (hk : k = xs.length) (h : ∀ j (h1 : j < xs.length) (h2 : j < ys.length), j < k → xs[j] = ys[j]) : xs = ys :=
  List.ext_getElem hl.symm fun j h1 h2 => h j h1 h2 (by omega)

set_option maxHeartbeats 800000 in
theorem eq1_any (va vb : Value) (xs ys : List Int) (w : World) (ha : L1 0 w va xs) (hb : L1 0 w vb ys) (hm : xs.length ≤ 1048576) (hn : ys.length ≤ 1048576) :
    Calls Try.prog 53 #[va, vb] w (QR (.bool (decide (xs = ys))) w) := by
  by_cases hl : ys.length = xs.length
  · refine Sl.cases ha (fun ad cap hx hv => ?_) (fun b o cap hv _ hpos hc => ?_)
    · subst hx hv
      obtain ⟨ad2, cap2, hv2⟩ := Sl.shape hb
      rw [hl] at hv2
      obtain rfl : ys = [] := List.eq_nil_of_length_eq_zero hl
      subst hv2
      clear ha hb hl
      go_enter Try.func53, Try.ntmps53
      go_wp2
      refine wp_loop_rounds 1 ?_
      rw [rounds_succ]
      go_wp2
      go_ret
      exact ⟨rfl, 0, rfl⟩
    · refine Sl.cases hb (fun ad cap hx hv => absurd hl (by subst hx; simp; omega)) (fun b2 o2 cap2 hv2 _ hpos2 hc2 => ?_)
      rw [hl] at hv2
      subst hv hv2
      clear ha hb
      have HL := Lib.hid hl
      have HC := Lib.hid hc
      have HC2 := Lib.hid hc2
      clear hl hc hc2
      go_enter Try.func53, Try.ntmps53
      go_wp2
      go_loopw [5] (fun i wr => ∃ (k m : Nat), k ≤ xs.length ∧ i = .int .i64 k ∧ wr = w.drewN m ∧ Hid (∀ j (h1 : j < xs.length) (h2 : j < ys.length), j < k → xs[j] = ys[j])) (fun i _ => xs.length - (intOf i).toNat)
      case atStart => exact ⟨0, 0, Nat.zero_le _, rfl, rfl, Lib.hid (fun _ _ _ h => absurd h (Nat.not_lt_zero _))⟩
      case round =>
        obtain ⟨k, m, hk, rfl, rfl, HD⟩ := hrel
        by_cases hlt2 : k < xs.length
        · have hlt3 : k < ys.length := by have := HL.out; omega
          obtain ⟨u, hu, hr⟩ := HC.out k hlt2
          obtain ⟨u2, hu2, hr2⟩ := HC2.out k hlt3
          obtain ⟨x, hx⟩ : ∃ x, x = xs[k] := ⟨_, rfl⟩
          obtain ⟨y, hy⟩ : ∃ y, y = ys[k] := ⟨_, rfl⟩
          rw [hr, ← hx] at hu
          rw [hr2, ← hy] at hu2
          have HX := Lib.hid hx
          have HY := Lib.hid hy
          clear hx hy hr hr2
          by_cases hxy : x = y
          · have HXY := Lib.hid hxy
            have hq : (x != y) = false := by simp [hxy]
            have hq2 : (x == y) = true := by simp [hxy]
            clear hxy
            go_wp2
            go_quiet (fail)
            go_wp2
            go_roundw
            case rel => exact ⟨k + 1, _, by omega, by go_num, rfl, Lib.hid (fun j h1 h2 hjk => by
              by_cases e : j = k
              · subst e; rw [← HX.out, ← HY.out, HXY.out]
              · exact HD.out j h1 h2 (by omega))⟩
            case measure => simp [intOf]; omega
          · have HXY := Lib.hid hxy
            have hq : (x != y) = true := by simp [hxy]
            have hq2 : (x == y) = false := by simp [hxy]
            clear hxy
            go_wp2
            go_quiet (fail)
            go_wp2
            go_ret
            refine ⟨ret_bool ?_, m + nq, by rw [World.drewN_drewN]⟩
            have hne : ¬ xs = ys := fun e => HXY.out (by rw [HX.out, HY.out]; subst e; rfl)
            simp [hne]
        · go_wp2
          go_ret
          refine ⟨ret_bool ?_, m, rfl⟩
          have := list_eq_take HL.out (by omega) HD.out
          simp [this]
  · obtain ⟨ad, cap, rfl⟩ := Sl.shape ha
    obtain ⟨ad2, cap2, rfl⟩ := Sl.shape hb
    clear ha hb
    have hq : ((xs.length : Int) != (ys.length : Int)) = true := by simp; omega
    have hq2 : ((xs.length : Int) == (ys.length : Int)) = false := by simp; omega
    have HL := Lib.hid hl
    clear hl
    go_enter Try.func53, Try.ntmps53
    go_wp2
    go_ret
    refine ⟨ret_bool ?_, 0, rfl⟩
    have hne : ¬ xs = ys := fun e => HL.out (by rw [e])
    simp [hne]

set_option maxHeartbeats 800000 in
theorem eq2_any (va vb : Value) (xs ys : List (List Int)) (w : World) (ha : L2 0 w va xs) (hb : L2 0 w vb ys) (hm : Bd2 1048576 xs) (hn : Bd2 1048576 ys) :
    Calls Try.prog 28 #[va, vb] w (QR (.bool (decide (xs = ys))) w) := by
  have hm0 : xs.length ≤ 1048576 := hm.1
  have hn0 : ys.length ≤ 1048576 := hn.1
  have HM := Lib.hid hm
  have HN := Lib.hid hn
  clear hm hn
  by_cases hl : ys.length = xs.length
  · refine Sl.cases ha (fun ad cap hx hv => ?_) (fun b o cap hv _ hpos hc => ?_)
    · subst hx hv
      obtain ⟨ad2, cap2, hv2⟩ := Sl.shape hb
      rw [hl] at hv2
      obtain rfl : ys = [] := List.eq_nil_of_length_eq_zero hl
      subst hv2
      clear ha hb hl
      go_enter Try.func28, Try.ntmps28
      go_wp2
      refine wp_loop_rounds 1 ?_
      rw [rounds_succ]
      go_wp2
      go_ret
      exact ⟨rfl, 0, rfl⟩
    · refine Sl.cases hb (fun ad cap hx hv => absurd hl (by subst hx; simp; omega)) (fun b2 o2 cap2 hv2 _ hpos2 hc2 => ?_)
      rw [hl] at hv2
      subst hv hv2
      clear ha hb
      have HL := Lib.hid hl
      have HC := Lib.hid hc
      have HC2 := Lib.hid hc2
      clear hl hc hc2
      go_enter Try.func28, Try.ntmps28
      go_wp2
      go_loopw [5] (fun i wr => ∃ (k m : Nat), k ≤ xs.length ∧ i = .int .i64 k ∧ wr = w.drewN m ∧ Hid (∀ j (h1 : j < xs.length) (h2 : j < ys.length), j < k → xs[j] = ys[j])) (fun i _ => xs.length - (intOf i).toNat)
      case atStart => exact ⟨0, 0, Nat.zero_le _, rfl, rfl, Lib.hid (fun _ _ _ h => absurd h (Nat.not_lt_zero _))⟩
      case round =>
        obtain ⟨k, m, hk, rfl, hw, HD⟩ := hrel
        have HW := Lib.hid hw
        clear hw
        by_cases hlt2 : k < xs.length
        · have hlt3 : k < ys.length := by have := HL.out; omega
          obtain ⟨u, hu, hr⟩ := HC.out k hlt2
          obtain ⟨u2, hu2, hr2⟩ := HC2.out k hlt3
          have hu' : wr.cell? ⟨b, o + k, none⟩ = some u := by rw [HW.out]; exact hu
          have hu2' : wr.cell? ⟨b2, o2 + k, none⟩ = some u2 := by rw [HW.out]; exact hu2
          have HE := Lib.hid (fun (m2 : Nat) => eq1_any u u2 xs[k] ys[k] (wr.drewN m2) (by rw [HW.out]; exact (hr.below (drewN_below w m)).below (drewN_below _ m2)) (by rw [HW.out]; exact (hr2.below (drewN_below w m)).below (drewN_below _ m2)) (HM.out.2 _ (List.getElem_mem hlt2)) (HN.out.2 _ (List.getElem_mem hlt3)))
          clear hr hr2 hu hu2
          by_cases hxy : xs[k] = ys[k]
          · have HXY := Lib.hid hxy
            have HE' : Hid (∀ m2 : Nat, Calls Try.prog 53 #[u, u2] (wr.drewN m2) (QR (.bool true) (wr.drewN m2))) := Lib.hid (fun m2 => by have := HE.out m2; rwa [decide_eq_true hxy] at this)
            clear hxy HE
            go_wp2
            go_quiet ((go_at_call 53; exact Calls.quiet_of (HE'.out _)))
            go_wp2
            go_roundw
            case rel => exact ⟨k + 1, m + nq, by omega, by go_num, by rw [HW.out, World.drewN_drewN], Lib.hid (fun j h1 h2 hjk => by
              by_cases e : j = k
              · subst e; exact HXY.out
              · exact HD.out j h1 h2 (by omega))⟩
            case measure => simp [intOf]; omega
          · have HXY := Lib.hid hxy
            have HE' : Hid (∀ m2 : Nat, Calls Try.prog 53 #[u, u2] (wr.drewN m2) (QR (.bool false) (wr.drewN m2))) := Lib.hid (fun m2 => by have := HE.out m2; rwa [decide_eq_false hxy] at this)
            clear hxy HE
            go_wp2
            go_quiet ((go_at_call 53; exact Calls.quiet_of (HE'.out _)))
            go_wp2
            go_ret
            refine ⟨ret_bool ?_, m + nq, by rw [HW.out, World.drewN_drewN]⟩
            have hne : ¬ xs = ys := fun e => HXY.out (by subst e; rfl)
            simp [hne]
        · go_wp2
          go_ret
          refine ⟨ret_bool ?_, m, HW.out⟩
          have := list_eq_take HL.out (by omega) HD.out
          simp [this]
  · obtain ⟨ad, cap, rfl⟩ := Sl.shape ha
    obtain ⟨ad2, cap2, rfl⟩ := Sl.shape hb
    clear ha hb
    have hq : ((xs.length : Int) != (ys.length : Int)) = true := by simp; omega
    have hq2 : ((xs.length : Int) == (ys.length : Int)) = false := by simp; omega
    have HL := Lib.hid hl
    clear hl
    go_enter Try.func28, Try.ntmps28
    go_wp2
    go_ret
    refine ⟨ret_bool ?_, 0, rfl⟩
    have hne : ¬ xs = ys := fun e => HL.out (by rw [e])
    simp [hne]

/-- A call that answers a value and leaves what was there. -/
def BR (v : Value) (w : World) (e : Ending) (w' : World) : Prop := e = .returned v ∧ Below w.heap.size w w'

end Go.Proofs.Ytpdkfidmmjlmnab

namespace Go.Proofs.Ytpdkfidmmjlmnab
open Go.RowKit

def IsP (p : Int) : Prop := p = 2 ∨ p = 3 ∨ p = 5 ∨ p = 7
theorem IsP.lo {p : Int} (h : IsP p) : 2 ≤ p := by unfold IsP at h; omega
theorem IsP.hi {p : Int} (h : IsP p) : p ≤ 7 := by unfold IsP at h; omega
def RowOk (p n : Int) (xs : List Int) : Prop := (xs.length : Int) = n ∧ ∀ x ∈ xs, 0 ≤ x ∧ x ≤ p - 1
def TabOk (p r c : Int) (t : List (List Int)) : Prop := (t.length : Int) = r ∧ ∀ x ∈ t, RowOk p c x

/-- A call that answers a value and turns nothing. -/
def QW (v : Value) (w : World) (e : Ending) (w' : World) : Prop := e = .returned v ∧ w = w'
/-- .. a truth value that says whether P. -/
def BW (P : Prop) (w : World) (e : Ending) (w' : World) : Prop := ∃ b : Bool, e = .returned (.bool b) ∧ w = w' ∧ (b = true ↔ P)
theorem bw_true {P : Prop} {w : World} (h : P) : BW P w (.returned (.bool true)) w := ⟨true, rfl, rfl, by simp [h]⟩
theorem bw_false {P : Prop} {w : World} (h : ¬ P) : BW P w (.returned (.bool false)) w := ⟨false, rfl, rfl, by simp [h]⟩

theorem all_of_lt {α : Type} {xs : List α} {P : α → Prop} (h : ∀ j (hj : j < xs.length), P xs[j]) : ∀ x ∈ xs, P x := fun x hx => by
  obtain ⟨j, hj, rfl⟩ := List.getElem_of_mem hx
  exact h j hj

theorem in_any (n lo hi : Int) (w : World) : Calls Try.prog 130 #[.int .i64 n, .int .i64 lo, .int .i64 hi] w (QW (.bool (decide (lo ≤ n ∧ n ≤ hi))) w) := by
  by_cases h1 : lo ≤ n
  · by_cases h2 : n ≤ hi
    · rw [decide_eq_true ⟨h1, h2⟩]
      go_enter Try.func130, Try.ntmps130
      go_wp2
      go_ret
      exact ⟨rfl, rfl⟩
    · rw [decide_eq_false (fun h => h2 h.2)]
      go_enter Try.func130, Try.ntmps130
      go_wp2
      go_ret
      exact ⟨rfl, rfl⟩
  · rw [decide_eq_false (fun h => h1 h.1)]
    go_enter Try.func130, Try.ntmps130
    go_wp2
    go_ret
    exact ⟨rfl, rfl⟩

theorem spin_any (n lo hi : Int) (w : World) : Calls Try.prog 117 #[.int .i64 n, .int .i64 lo, .int .i64 hi] w (QW (.bool (decide (lo ≤ n ∧ n ≤ hi))) w) := by
  by_cases h1 : lo ≤ n
  · by_cases h2 : n ≤ hi
    · rw [decide_eq_true ⟨h1, h2⟩]
      go_enter Try.func117, Try.ntmps117
      go_wp2
      go_ret
      exact ⟨rfl, rfl⟩
    · rw [decide_eq_false (fun h => h2 h.2)]
      go_enter Try.func117, Try.ntmps117
      go_wp2
      go_ret
      exact ⟨rfl, rfl⟩
  · rw [decide_eq_false (fun h => h1 h.1)]
    go_enter Try.func117, Try.ntmps117
    go_wp2
    go_ret
    exact ⟨rfl, rfl⟩

theorem in_yes {n lo hi : Int} (h : lo ≤ n ∧ n ≤ hi) (w : World) : Calls Try.prog 130 #[.int .i64 n, .int .i64 lo, .int .i64 hi] w (QW (.bool true) w) := by
  have := in_any n lo hi w
  rwa [decide_eq_true h] at this
theorem in_no {n lo hi : Int} (h : ¬ (lo ≤ n ∧ n ≤ hi)) (w : World) : Calls Try.prog 130 #[.int .i64 n, .int .i64 lo, .int .i64 hi] w (QW (.bool false) w) := by
  have := in_any n lo hi w
  rwa [decide_eq_false h] at this
theorem spin_yes {n lo hi : Int} (h : lo ≤ n ∧ n ≤ hi) (w : World) : Calls Try.prog 117 #[.int .i64 n, .int .i64 lo, .int .i64 hi] w (QW (.bool true) w) := by
  have := spin_any n lo hi w
  rwa [decide_eq_true h] at this
theorem spin_no {n lo hi : Int} (h : ¬ (lo ≤ n ∧ n ≤ hi)) (w : World) : Calls Try.prog 117 #[.int .i64 n, .int .i64 lo, .int .i64 hi] w (QW (.bool false) w) := by
  have := spin_any n lo hi w
  rwa [decide_eq_false h] at this

theorem prime_yes {p : Int} (h : IsP p) (w : World) : Calls Try.prog 133 #[.int .i64 p] w (QW (.bool true) w) := by
  rcases h with rfl | rfl | rfl | rfl
  all_goals
    go_enter Try.func133, Try.ntmps133
    go_wp2
    go_ret
    exact ⟨rfl, rfl⟩
theorem prime_no {p : Int} (h : ¬ IsP p) (w : World) : Calls Try.prog 133 #[.int .i64 p] w (QW (.bool false) w) := by
  have h2 : (p == 2) = false := by simp; intro e; exact h (by simp [IsP, e])
  have h3 : (p == 3) = false := by simp; intro e; exact h (by simp [IsP, e])
  have h5 : (p == 5) = false := by simp; intro e; exact h (by simp [IsP, e])
  have h7 : (p == 7) = false := by simp; intro e; exact h (by simp [IsP, e])
  clear h
  go_enter Try.func133, Try.ntmps133
  go_wp2
  go_ret
  exact ⟨rfl, rfl⟩
theorem spprime_yes {p : Int} (h : IsP p) (w : World) : Calls Try.prog 186 #[.int .i64 p] w (QW (.bool true) w) := by
  rcases h with rfl | rfl | rfl | rfl
  all_goals
    go_enter Try.func186, Try.ntmps186
    go_wp2
    go_ret
    exact ⟨rfl, rfl⟩
theorem spprime_no {p : Int} (h : ¬ IsP p) (w : World) : Calls Try.prog 186 #[.int .i64 p] w (QW (.bool false) w) := by
  have h2 : (p == 2) = false := by simp; intro e; exact h (by simp [IsP, e])
  have h3 : (p == 3) = false := by simp; intro e; exact h (by simp [IsP, e])
  have h5 : (p == 5) = false := by simp; intro e; exact h (by simp [IsP, e])
  have h7 : (p == 7) = false := by simp; intro e; exact h (by simp [IsP, e])
  clear h
  go_enter Try.func186, Try.ntmps186
  go_wp2
  go_ret
  exact ⟨rfl, rfl⟩

/-- All numbers of a row are in lo..hi. -/
def AllIn (lo hi : Int) (xs : List Int) : Prop := ∀ x ∈ xs, lo ≤ x ∧ x ≤ hi
/-- A table of r rows of c numbers in lo..hi. -/
def TabIn (lo hi r c : Int) (t : List (List Int)) : Prop := (t.length : Int) = r ∧ ∀ x ∈ t, (x.length : Int) = c ∧ AllIn lo hi x

set_option maxHeartbeats 800000 in
theorem areWithin_any (lo hi : Int) (v : Value) (xs : List Int) (w : World) (h : L1 0 w v xs) (hm : xs.length ≤ 1048576) :
    Calls Try.prog 194 #[v, .int .i64 lo, .int .i64 hi] w (BW (AllIn lo hi xs) w) := by
  refine Sl.cases h (fun ad cap hx hv => ?_) (fun b o cap hv _ hpos hc => ?_)
  · subst hx hv
    go_enter Try.func194, Try.ntmps194
    go_wp2
    refine wp_loop_rounds 1 ?_
    rw [rounds_succ]
    go_wp2
    go_ret
    exact bw_true (by simp [AllIn])
  · subst hv
    clear h
    have HC := Lib.hid hc
    clear hc
    go_enter Try.func194, Try.ntmps194
    go_wp2
    go_loop [11] (fun i => ∃ (k : Nat), k ≤ xs.length ∧ i = .int .i64 k ∧ Hid (∀ j (h1 : j < xs.length), j < k → lo ≤ xs[j] ∧ xs[j] ≤ hi)) (fun i => xs.length - (intOf i).toNat)
    case atStart => exact ⟨0, Nat.zero_le _, rfl, Lib.hid (fun _ _ h => absurd h (Nat.not_lt_zero _))⟩
    case round =>
      obtain ⟨k, hk, rfl, HD⟩ := hrel
      by_cases hlt2 : k < xs.length
      · obtain ⟨u, hu, hr⟩ := HC.out k hlt2
        obtain ⟨x, hx⟩ : ∃ x, x = xs[k] := ⟨_, rfl⟩
        rw [hr, ← hx] at hu
        have HX := Lib.hid hx
        clear hx hr
        by_cases hxy : lo ≤ x ∧ x ≤ hi
        · have HXY := Lib.hid hxy
          clear hxy
          go_wp2_with fail
          refine (in_yes HXY.out _).mono ?_
          rintro e w' ⟨rfl, rfl⟩
          go_wp2
          go_round
          case rel => exact ⟨k + 1, by omega, by go_num, Lib.hid (fun j h1 hjk => by
            by_cases e : j = k
            · subst e; rw [← HX.out]; exact HXY.out
            · exact HD.out j h1 (by omega))⟩
          case measure => simp [intOf]; omega
        · have HXY := Lib.hid hxy
          clear hxy
          go_wp2_with fail
          refine (in_no HXY.out _).mono ?_
          rintro e w' ⟨rfl, rfl⟩
          go_wp2
          go_ret
          exact bw_false (fun h => HXY.out (by rw [HX.out]; exact h _ (List.getElem_mem hlt2)))
      · go_wp2
        go_ret
        exact bw_true (all_of_lt (fun j hj => HD.out j hj (by omega)))

set_option maxHeartbeats 800000 in
theorem isTableWithin_any (lo hi r c : Int) (v : Value) (xs : List (List Int)) (w : World) (h : L2 0 w v xs) (hm : Bd2 1048576 xs) :
    Calls Try.prog 191 #[v, .int .i64 r, .int .i64 c, .int .i64 lo, .int .i64 hi] w (BW (TabIn lo hi r c xs) w) := by
  have hm0 : xs.length ≤ 1048576 := hm.1
  have HM := Lib.hid hm
  clear hm
  by_cases hl : (xs.length : Int) = r
  · refine Sl.cases h (fun ad cap hx hv => ?_) (fun b o cap hv _ hpos hc => ?_)
    · subst hx hv
      subst hl
      go_enter Try.func191, Try.ntmps191
      go_wp2
      refine wp_loop_rounds 1 ?_
      rw [rounds_succ]
      go_wp2
      go_ret
      exact bw_true ⟨rfl, by simp⟩
    · subst hv
      subst hl
      clear h
      have HC := Lib.hid hc
      clear hc
      go_enter Try.func191, Try.ntmps191
      go_wp2
      go_loop [19] (fun i => ∃ (k : Nat), k ≤ xs.length ∧ i = .int .i64 k ∧ Hid (∀ j (h1 : j < xs.length), j < k → ((xs[j]).length : Int) = c ∧ AllIn lo hi xs[j])) (fun i => xs.length - (intOf i).toNat)
      case atStart => exact ⟨0, Nat.zero_le _, rfl, Lib.hid (fun _ _ h => absurd h (Nat.not_lt_zero _))⟩
      case round =>
        obtain ⟨k, hk, rfl, HD⟩ := hrel
        by_cases hlt2 : k < xs.length
        · obtain ⟨u, hu, hr⟩ := HC.out k hlt2
          have hml : (xs[k]).length ≤ 1048576 := HM.out.2 _ (List.getElem_mem hlt2)
          have HR := Lib.hid (fun W => areWithin_any lo hi u xs[k] W)
          obtain ⟨ys, hy⟩ : ∃ ys, ys = xs[k] := ⟨_, rfl⟩
          rw [← hy] at hr hml HR
          have HY := Lib.hid hy
          clear hy
          have HA := Lib.hid (HR.out _ hr hml)
          clear HR
          obtain ⟨ad, cap, rfl⟩ := Sl.shape hr
          clear hr
          by_cases hlc : (ys.length : Int) = c
          · have hq : ((ys.length : Int) != c) = false := by simp [hlc]
            have hq2 : ((ys.length : Int) == c) = true := by simp [hlc]
            have HLC := Lib.hid hlc
            clear hlc
            go_wp2_with fail
            refine HA.out.mono ?_
            rintro e w' ⟨bb, rfl, rfl, hbb⟩
            have HBB := Lib.hid hbb
            clear hbb
            cases bb with
            | true =>
              go_wp2
              go_round
              case rel => exact ⟨k + 1, by omega, by go_num, Lib.hid (fun j h1 hjk => by
                by_cases e : j = k
                · subst e; rw [← HY.out]; exact ⟨HLC.out, HBB.out.1 (by simp)⟩
                · exact HD.out j h1 (by omega))⟩
              case measure => simp [intOf]; omega
            | false =>
              go_wp2
              go_ret
              exact bw_false (fun h => absurd (HBB.out.2 (by rw [HY.out]; exact (h.2 _ (List.getElem_mem hlt2)).2)) (by simp))
          · have hq : ((ys.length : Int) != c) = true := by simp [hlc]
            have hq2 : ((ys.length : Int) == c) = false := by simp [hlc]
            have HLC := Lib.hid hlc
            clear hlc
            go_wp2
            go_ret
            exact bw_false (fun h => HLC.out (by rw [HY.out]; exact (h.2 _ (List.getElem_mem hlt2)).1))
        · go_wp2
          go_ret
          exact bw_true ⟨rfl, all_of_lt (fun j hj => HD.out j hj (by omega))⟩
  · obtain ⟨ad, cap, rfl⟩ := Sl.shape h
    clear h
    have hq : ((xs.length : Int) != r) = true := by simp [hl]
    have hq2 : ((xs.length : Int) == r) = false := by simp [hl]
    have HL := Lib.hid hl
    clear hl
    go_enter Try.func191, Try.ntmps191
    go_wp2
    go_ret
    exact bw_false (fun h => HL.out h.1)

theorem isTable_any (p r c : Int) (v : Value) (xs : List (List Int)) (w : World) (hp : IsP p) (h : L2 0 w v xs) (hm : Bd2 1048576 xs) :
    Calls Try.prog 135 #[.int .i64 p, v, .int .i64 r, .int .i64 c] w (BW (TabOk p r c xs) w) := by
  have hp0 := hp.lo
  have hp1 := hp.hi
  have HA := Lib.hid (isTableWithin_any 0 (p - 1) r c v xs w h hm)
  obtain ⟨ad, cap, rfl⟩ := Sl.shape h
  clear h hm
  go_enter Try.func135, Try.ntmps135
  go_wp2_with fail
  refine HA.out.mono ?_
  rintro e w' ⟨bb, rfl, rfl, hbb⟩
  have HBB := Lib.hid hbb
  clear hbb
  go_wp2
  go_ret
  exact ⟨bb, rfl, rfl, HBB.out⟩
end Go.Proofs.Ytpdkfidmmjlmnab

namespace Go.Proofs.Ytpdkfidmmjlmnab
open Go.RowKit

set_option maxHeartbeats 1600000 in
theorem l01Table_any (p r c : Int) (v : Value) (xs : List (List Int)) (w : World) (hp : IsP p) (h : L2 0 w v xs) (hm : Bd2 1048576 xs) :
    Calls Try.prog 187 #[.int .i64 p, v, .int .i64 r, .int .i64 c] w (BW (TabOk p r c xs) w) := by
  have hm0 : xs.length ≤ 1048576 := hm.1
  have HM := Lib.hid hm
  have hp0 := hp.lo
  have hp1 := hp.hi
  clear hm hp
  by_cases hl : (xs.length : Int) = r
  · refine Sl.cases h (fun ad cap hx hv => ?_) (fun b o cap hv _ hpos hc => ?_)
    · subst hx hv
      subst hl
      go_enter Try.func187, Try.ntmps187
      go_wp2
      refine wp_loop_rounds 1 ?_
      rw [rounds_succ]
      go_wp2
      go_ret
      exact bw_true ⟨rfl, by simp⟩
    · subst hv
      subst hl
      clear h
      have HC := Lib.hid hc
      clear hc
      go_enter Try.func187, Try.ntmps187
      go_wp2
      go_loop [9, 10] (fun i _ => ∃ (k : Nat), k ≤ xs.length ∧ i = .int .i64 k ∧ Hid (∀ j (h1 : j < xs.length), j < k → RowOk p c xs[j])) (fun i _ => xs.length - (intOf i).toNat)
      case atStart => exact ⟨0, Nat.zero_le _, rfl, Lib.hid (fun _ _ h => absurd h (Nat.not_lt_zero _))⟩
      case round =>
        obtain ⟨k, hk, rfl, HD⟩ := hrel
        by_cases hlt2 : k < xs.length
        · obtain ⟨u, hu, hr⟩ := HC.out k hlt2
          have hml : (xs[k]).length ≤ 1048576 := HM.out.2 _ (List.getElem_mem hlt2)
          obtain ⟨ys, hy⟩ : ∃ ys, ys = xs[k] := ⟨_, rfl⟩
          rw [← hy] at hr hml
          have HY := Lib.hid hy
          clear hy
          by_cases hlc : (ys.length : Int) = c
          · refine Sl.cases hr (fun ad2 cap2 hx hv => ?_) (fun b2 o2 cap2 hv _ hpos2 hc2 => ?_)
            · subst hv
              have hc0 : ((0 : Int) != c) = false := by rw [← hlc, hx]; rfl
              have hc1 : ((0 : Int) == c) = true := by rw [← hlc, hx]; rfl
              have HX := Lib.hid hx
              have HLC := Lib.hid hlc
              clear hx hlc hr
              go_wp2
              refine wp_loop_rounds 1 ?_
              rw [rounds_succ]
              go_wp2
              go_round
              case rel => exact ⟨k + 1, by omega, by go_num, Lib.hid (fun j h1 hjk => by
                by_cases e : j = k
                · subst e; rw [← HY.out]; exact ⟨HLC.out, by simp [HX.out]⟩
                · exact HD.out j h1 (by omega))⟩
              case measure => simp [intOf]; omega
            · subst hv
              have hc0 : ((ys.length : Int) != c) = false := by rw [hlc]; simp
              have hc1 : ((ys.length : Int) == c) = true := by rw [hlc]; simp
              have HLC := Lib.hid hlc
              have HC2 := Lib.hid hc2
              clear hlc hr hc2
              go_wp2
              go_loop [10] (fun i => ∃ (q : Nat), q ≤ ys.length ∧ i = .int .i64 q ∧ Hid (∀ j (h1 : j < ys.length), j < q → 0 ≤ ys[j] ∧ ys[j] ≤ p - 1)) (fun i => ys.length - (intOf i).toNat)
              case atStart => exact ⟨0, Nat.zero_le _, rfl, Lib.hid (fun _ _ h => absurd h (Nat.not_lt_zero _))⟩
              case round =>
                obtain ⟨q, hq, rfl, HD2⟩ := hrel
                by_cases hlt3 : q < ys.length
                · obtain ⟨u2, hu2, hr2⟩ := HC2.out q hlt3
                  obtain ⟨x, hx⟩ : ∃ x, x = ys[q] := ⟨_, rfl⟩
                  rw [hr2, ← hx] at hu2
                  have HX := Lib.hid hx
                  clear hx hr2
                  by_cases hxy : 0 ≤ x ∧ x ≤ p - 1
                  · have HXY := Lib.hid hxy
                    clear hxy
                    go_wp2_with fail
                    refine (spin_yes HXY.out _).mono ?_
                    rintro e w' ⟨rfl, rfl⟩
                    go_wp2
                    go_round
                    case rel => exact ⟨q + 1, by omega, by go_num, Lib.hid (fun j h1 hjk => by
                      by_cases e : j = q
                      · subst e; rw [← HX.out]; exact HXY.out
                      · exact HD2.out j h1 (by omega))⟩
                    case measure => simp [intOf]; omega
                  · have HXY := Lib.hid hxy
                    clear hxy
                    go_wp2_with fail
                    refine (spin_no HXY.out _).mono ?_
                    rintro e w' ⟨rfl, rfl⟩
                    go_wp2
                    go_ret
                    exact bw_false (fun h => HXY.out (by
                      rw [HX.out]
                      exact (h.2 ys (by rw [HY.out]; exact List.getElem_mem hlt2)).2 _ (List.getElem_mem hlt3)))
                · go_wp2
                  go_round
                  case rel => exact ⟨k + 1, by omega, by go_num, Lib.hid (fun j h1 hjk => by
                    by_cases e : j = k
                    · subst e; rw [← HY.out]; exact ⟨HLC.out, all_of_lt (fun j2 hj2 => HD2.out j2 hj2 (by omega))⟩
                    · exact HD.out j h1 (by omega))⟩
                  case measure => simp [intOf]; omega
          · obtain ⟨ad2, cap2, rfl⟩ := Sl.shape hr
            have hc0 : ((ys.length : Int) != c) = true := by simp [hlc]
            have hc1 : ((ys.length : Int) == c) = false := by simp [hlc]
            have HLC := Lib.hid hlc
            clear hlc hr
            go_wp2
            go_ret
            exact bw_false (fun h => HLC.out (h.2 ys (by rw [HY.out]; exact List.getElem_mem hlt2)).1)
        · go_wp2
          go_ret
          exact bw_true ⟨rfl, all_of_lt (fun j hj => HD.out j hj (by omega))⟩
  · obtain ⟨ad, cap, rfl⟩ := Sl.shape h
    clear h
    have hq : ((xs.length : Int) != r) = true := by simp [hl]
    have hq2 : ((xs.length : Int) == r) = false := by simp [hl]
    have HL := Lib.hid hl
    clear hl
    go_enter Try.func187, Try.ntmps187
    go_wp2
    go_ret
    exact bw_false (fun h => HL.out h.1)

end Go.Proofs.Ytpdkfidmmjlmnab

namespace Go.Proofs.Ytpdkfidmmjlmnab
open Go.RowKit

def apRow (p f : Int) (acc row : List Int) : List Int := List.zipWith (fun a x => (a + f * x) % p) acc row
/-- The sum of the first k numbers of v times the first k rows of t, modulo p. -/
def apTo (p : Int) (c : Nat) (v : List Int) (t : List (List Int)) : Nat → List Int
  | 0 => List.replicate c 0
  | k + 1 => apRow p (v.getD k 0) (apTo p c v t k) (t.getD k [])
def apT (p : Int) (c : Nat) (v : List Int) (t : List (List Int)) : List Int := apTo p c v t v.length

/-- What a table has to be for a vector of numbers modulo p. -/
structure ApOk (p : Int) (c : Nat) (v : List Int) (t : List (List Int)) : Prop where
  prime : IsP p
  len : v.length ≤ t.length
  nums : ∀ x ∈ v, 0 ≤ x ∧ x ≤ p - 1
  rows : ∀ r ∈ t, RowOk p c r

theorem getD_of_lt {α : Type} {xs : List α} {k : Nat} (d : α) (h : k < xs.length) : xs.getD k d = xs[k] := by simp [List.getD, h]

theorem ApOk.row {p : Int} {c : Nat} {v : List Int} {t : List (List Int)} (h : ApOk p c v t) {k : Nat} (hk : k < v.length) : RowOk p c (t.getD k []) := by
  have hl := h.len
  rw [getD_of_lt _ (by omega)]
  exact h.rows _ (List.getElem_mem _)
theorem apTo_length {p : Int} {c : Nat} {v : List Int} {t : List (List Int)} (h : ApOk p c v t) : ∀ {k : Nat}, k ≤ v.length → (apTo p c v t k).length = c := by
  intro k
  induction k with
  | zero => intro _; simp [apTo]
  | succ k ih =>
    intro hk
    have hr := (h.row (k := k) (by omega)).1
    simp only [apTo, apRow, List.length_zipWith, ih (by omega)]
    omega
theorem apTo_at {p : Int} {c : Nat} {v : List Int} {t : List (List Int)} (h : ApOk p c v t) {k q : Nat} (hk : k < v.length) (hq : q < c) :
    (apTo p c v t (k + 1)).getD q 0 = ((apTo p c v t k).getD q 0 + v.getD k 0 * (t.getD k []).getD q 0) % p := by
  have hr := (h.row hk).1
  have hl := apTo_length h (Nat.le_of_lt hk)
  have hl2 := apTo_length h (k := k + 1) hk
  have q2 : q < (t.getD k []).length := by omega
  have q1 : q < (apTo p c v t (k + 1)).length := by omega
  have q3 : q < (apTo p c v t k).length := by omega
  rw [getD_of_lt _ q1, getD_of_lt _ q2, getD_of_lt _ q3]
  simp only [apTo, apRow, List.getElem_zipWith]
/-- The row of sums while it is being made: k numbers of v are done, and of the next one the first q places. -/
def apCell (p : Int) (c : Nat) (v : List Int) (t : List (List Int)) (k q : Nat) : Nat → Value := fun j => .int .i64 (if j < q then (apTo p c v t (k + 1)).getD j 0 else (apTo p c v t k).getD j 0)
structure Ap (w wr : World) (ty : TypeId) (p : Int) (c : Nat) (v : List Int) (t : List (List Int)) (k q : Nat) : Prop where
  below : Below w.heap.size w wr
  row : wr.rowIs w.heap.size ty c (apCell p c v t k q)

theorem Ap.start (w : World) (ty : TypeId) (p : Int) (c : Nat) (v : List Int) (t : List (List Int)) : Ap w (w.alloc (.cells (madeCells #[.int .i64 0] c) ty)) ty p c v t 0 0 :=
  ⟨(Below.refl _ _).alloc (Nat.le_refl _) _, (World.rowIs_made w (.int .i64 0) c ty).congr (fun j hj => by simp [apCell, apTo, List.getD, hj])⟩
theorem Ap.drew {w wr : World} {ty : TypeId} {p : Int} {c : Nat} {v : List Int} {t : List (List Int)} {k q : Nat} (h : Ap w wr ty p c v t k q) : Ap w wr.drew ty p c v t k q := ⟨h.below.drew, h.row.drew⟩
theorem Ap.step {w wr : World} {ty : TypeId} {p : Int} {c : Nat} {v : List Int} {t : List (List Int)} {k q : Nat} (ok : ApOk p c v t) (h : Ap w wr ty p c v t k q) (hk : k < v.length) (hq : q < c) {x : Int}
    (hx : x = ((apTo p c v t k).getD q 0 + v.getD k 0 * (t.getD k []).getD q 0) % p) : Ap w (wr.setCell ⟨w.heap.size, q, none⟩ (.int .i64 x)) ty p c v t k (q + 1) := by
  refine ⟨h.below.setCell (Nat.le_refl _) _, (h.row.set q _).congr (fun j hj => ?_)⟩
  by_cases e : j = q
  · subst e
    simp only [apCell, if_true]
    rw [if_pos (Nat.lt_succ_self _), apTo_at ok hk hq, hx]
  · rw [if_neg e]
    simp only [apCell]
    by_cases h2 : j < q
    · rw [if_pos h2, if_pos (by omega)]
    · rw [if_neg h2, if_neg (by omega)]
theorem Ap.next {w wr : World} {ty : TypeId} {p : Int} {c : Nat} {v : List Int} {t : List (List Int)} {k : Nat} (h : Ap w wr ty p c v t k c) : Ap w wr ty p c v t (k + 1) 0 :=
  ⟨h.below, h.row.congr (fun j hj => by simp [apCell, hj])⟩
theorem Ap.cell {w wr : World} {ty : TypeId} {p : Int} {c : Nat} {v : List Int} {t : List (List Int)} {k q : Nat} (h : Ap w wr ty p c v t k q) (hq : q < c) :
    wr.cell? ⟨w.heap.size, q, none⟩ = some (.int .i64 ((apTo p c v t k).getD q 0)) := by
  have := h.row.cell hq
  simpa [apCell] using this
theorem Ap.done {w wr : World} {ty : TypeId} {p : Int} {c : Nat} {v : List Int} {t : List (List Int)} (ok : ApOk p c v t) (h : Ap w wr ty p c v t v.length 0) : L1 w.heap.size wr (.slice (some ⟨w.heap.size, 0, none⟩) c c) (apT p c v t) := by
  have hl := apTo_length ok (Nat.le_refl _)
  by_cases h0 : c = 0
  · subst h0
    exact Or.inl ⟨List.eq_nil_of_length_eq_zero hl, _, _, rfl⟩
  · refine Or.inr ⟨w.heap.size, 0, c, by rw [apT, hl], Nat.le_refl _, by rw [apT, hl]; omega, fun j hj => ⟨_, h.row.cell (by rw [apT, hl] at hj; omega), ?_⟩⟩
    have hj' : j < (apTo p c v t v.length).length := hj
    simp only [apCell, IsI, Nat.not_lt_zero, if_false, apT, Nat.zero_add]
    rw [getD_of_lt _ hj']

end Go.Proofs.Ytpdkfidmmjlmnab

namespace Go.Proofs.Ytpdkfidmmjlmnab
open Go.RowKit

end Go.Proofs.Ytpdkfidmmjlmnab

namespace Go.Proofs.Ytpdkfidmmjlmnab
open Go.RowKit

section
variable {P : Program}
theorem run_part_int (w : World) {e : TypeId} (he : P.underlying e = some (.int .i64)) (cs : Array Value) (i : Nat) (v : Value) (h : cs[i]? = some v) : (part e cs i).run P w = .ok v w := by
  simp [part, isAgg, run_underlying he, h]

end
end Go.Proofs.Ytpdkfidmmjlmnab

namespace Go.Proofs.Ytpdkfidmmjlmnab
open Go.RowKit

theorem Try.underlyingV : Try.prog.underlying 161 = some (.array 40 2) := by kernel_rfl
theorem Try.infoI1 : (Try.prog.info? 2).map (·.size) = some 1 := by kernel_rfl

end Go.Proofs.Ytpdkfidmmjlmnab

namespace Go.Proofs.Ytpdkfidmmjlmnab
open Go.RowKit

section
variable {P : Program} {ops : Array Oper} {Q : Exit → Act → World → Prop} {md : Region.Mode} {S : World → Prop} {n : Nat}

/-- One call alone may come up. -/
theorem held_call {i : Nat} {oi : Oper} {fuel : Nat} {listed : Array Bool} {a : Act} {w : World} (hr : Region.ready md ops listed = [i]) (hi : ops[i]? = some oi) (hg : oi.guard = none)
    (h : oi.wp P a w (fun a' w' => S w' ∧ wpAnyH P md ops Q S fuel (listed.setIfInBounds i true) a' w') Q) : wpAnyH P md ops Q S (fuel + 1) listed a w :=
  wpAnyH_all hr (by simp) (fun j hj => by
    obtain rfl := List.mem_singleton.1 hj
    unfold wpOp
    rw [hi]
    have hw : Region.wanted oi (yielded ops a.tmps) = true := by unfold Region.wanted; rw [hg]
    simp only [hw, if_true]
    exact Or.inl h)
theorem wp_enter {o : Oper} {a : Act} {w : World} {K : Act → World → Prop} {f : FuncId} {args : Array Value} (h : (execOp a.eval o).run P w = .ok (.enter f args) w) {R : Ending → World → Prop} (hc : Calls P f args w R) (hR : ∀ v w', R (.returned v) w' → K (a.put o.dst v) w') (h2 : ∀ c w', ¬ R (.panicked c) w') (h3 : ∀ w', ¬ R .outgrown w') : o.wp P a w K Q := by
  unfold Oper.wp
  rw [h]
  refine hc.mono fun e w' he => ?_
  cases e with
  | returned v => exact hR v w' he
  | panicked c => exact absurd he (h2 c w')
  | outgrown => exact absurd he (h3 w')
theorem held_take {i : Nat} {oi : Oper} {v : Value} {fuel : Nat} {listed : Array Bool} {a : Act} {w : World} (d : Option Tmp) (hi : ops[i]? = some oi) (hd : oi.dst = d)
    (hs : Region.noSelect ops = true) (hf : Region.free md ops listed i = true) (hr : (Region.ready md ops listed).contains i = true)
    (hQ : ∀ c a w, Q (.panic c) (a.put oi.dst v) w → Q (.panic c) a w) (hy : YieldsIf P ops S oi v a) (hS : S w)
    (h : wpAnyH P md ops Q S fuel (listed.setIfInBounds i true) (a.put d v) w) : wpAnyH P md ops Q S (fuel + 1) listed a w :=
  wpAnyH_take hi hs hf hr hQ hy hS (by rw [hd]; exact h)
theorem yieldsIf_move {o : Oper} {a : Act} {x : Operand} {v : Value} (hg : o.guard = none) (ho : o.op = .move x) (hx : a.eval x = v) : YieldsIf P ops S o v a :=
  Or.inl ⟨by unfold Region.wanted; rw [hg], fun w _ => by
    unfold execOp
    simp only [ho, hx]
    rfl⟩
theorem yieldsIf_cell {o : Oper} {a : Act} {x : Operand} {v : Value} {t : TypeId} {b off : Nat} (hg : o.guard = none) (ho : o.op = .load t x) (hx : a.eval x = .pointer (some ⟨b, off, none⟩)) (hrun : ∀ w, S w → (Instr.loadAt t (.pointer (some ⟨b, off, none⟩))).run P w = .ok v w) : YieldsIf P ops S o v a :=
  Or.inl ⟨by unfold Region.wanted; rw [hg], fun w hw => by
    unfold execOp
    simp only [ho, hx, Sem.run_bind, hrun w hw, Result.andThen_ok]
    rfl⟩
theorem yieldsIf_index {o : Oper} {a : Act} {x y : Operand} {v u i : Value} {t : TypeId} (hg : o.guard = none) (ho : o.op = .indexAddr t x y) (hx : a.eval x = u) (hy : a.eval y = i) (hrun : ∀ w, (Instr.indexAt t u i).run P w = .ok v w) : YieldsIf P ops S o v a :=
  Or.inl ⟨by unfold Region.wanted; rw [hg], fun w _ => by
    unfold execOp
    simp only [ho, hx, hy, Sem.run_bind, hrun w, Result.andThen_ok]
    rfl⟩
end
end Go.Proofs.Ytpdkfidmmjlmnab


namespace Go.Proofs.Ytpdkfidmmjlmnab
open Go.RowKit

/-- Differentials of differentials are 0. -/
def SqOk (p : Int) (ds : List Int) (ms : List (List (List Int))) : Prop :=
  ∀ q, q + 1 < ms.length → ∀ r ∈ ms.getD (q + 1) [], ∀ x ∈ apT p (ds.getD q 0).toNat r (ms.getD q []), x = 0
/-- All that a complex is asked besides. -/
structure PreOk (p : Int) (ds : List Int) (ms : List (List (List Int))) : Prop where
  prime : IsP p
  len0 : 1 ≤ ds.length
  len1 : ds.length ≤ 6
  mlen : ms.length + 1 = ds.length
  dims : ∀ d ∈ ds, 0 ≤ d ∧ d ≤ 8
  tabs : ∀ k, k < ms.length → TabOk p (ds.getD (k + 1) 0) (ds.getD k 0) (ms.getD k [])

theorem PreOk.dim {p : Int} {ds : List Int} {ms : List (List (List Int))} (h : PreOk p ds ms) (k : Nat) : 0 ≤ ds.getD k 0 ∧ ds.getD k 0 ≤ 8 := by
  by_cases hk : k < ds.length
  · rw [getD_of_lt _ hk]; exact h.dims _ (List.getElem_mem _)
  · simp [List.getD, show ds.length ≤ k by omega]
/-- A call that says whether P, and leaves what was there. -/
def BB (P : Prop) (w : World) (e : Ending) (w' : World) : Prop := ∃ b : Bool, e = .returned (.bool b) ∧ Below w.heap.size w w' ∧ (b = true ↔ P)
/-- A cell of what was there, read in a later world. -/
theorem later {w w' : World} {b o : Nat} {u : Value} {B : Nat} (hb : Below B w w') (hB : w.heap.size ≤ B) (h : w.cell? ⟨b, o, none⟩ = some u) : w'.cell? ⟨b, o, none⟩ = some u := by
  rw [hb.cell (p := ⟨b, o, none⟩) (Nat.lt_of_lt_of_le (cell_lt h) hB), h]

end Go.Proofs.Ytpdkfidmmjlmnab

namespace Go.Proofs.Ytpdkfidmmjlmnab
open Go.RowKit

def IsCx (p : Int) (ds : List Int) (ms : List (List (List Int))) : Prop := PreOk p ds ms ∧ SqOk p ds ms

/-- What stands in the boxes of a call over a complex, in whatever later world. -/
structure Bx (w wr : World) (b : Nat) (p : Int) (dv mv : Value) (ds : List Int) (ms : List (List (List Int))) : Prop where
  below : Below w.heap.size w wr
  c0 : wr.cell? ⟨b, 0, none⟩ = some (.int .i64 p)
  c1 : wr.cell? ⟨b, 1, none⟩ = some dv
  c2 : wr.cell? ⟨b, 2, none⟩ = some mv
  lt : b < wr.heap.size
  cx : Cx 0 wr dv mv ds ms
theorem Bx.next {w wr w' : World} {b : Nat} {p : Int} {dv mv : Value} {ds : List Int} {ms : List (List (List Int))} (h : Bx w wr b p dv mv ds ms) (hb : Below wr.heap.size wr w') : Bx w w' b p dv mv ds ms :=
  ⟨h.below.trans (hb.mono h.below.size), later hb (Nat.le_refl _) h.c0, later hb (Nat.le_refl _) h.c1, later hb (Nat.le_refl _) h.c2, Nat.lt_of_lt_of_le h.lt hb.size, h.cx.below hb⟩
theorem Bx.start {w : World} {p : Int} {dv mv : Value} {ds : List Int} {ms : List (List (List Int))} (t : TypeId) (h : Cx 0 w dv mv ds ms) : Bx w (w.alloc (.cells #[.int .i64 p, dv, mv] t)) w.heap.size p dv mv ds ms :=
  ⟨(Below.refl _ _).alloc (Nat.le_refl _) _, by simp, by simp, by simp, by simp, h.below ((Below.refl _ _).alloc (Nat.le_refl _) _)⟩

section
variable {P : Program} {md : Region.Mode} {ops : Array Oper} {Q : Exit → Act → World → Prop} {S : World → Prop}
end

end Go.Proofs.Ytpdkfidmmjlmnab

namespace Go.Proofs.Ytpdkfidmmjlmnab
open Go.RowKit

theorem Sl.at {α : Type} {lo : Nat} {R : World → Value → α → Prop} {w : World} {b o n cap : Nat} {xs : List α} (h : Sl lo R w (.slice (some ⟨b, o, none⟩) n cap) xs) {k : Nat} (hk : k < xs.length) :
    ∃ u, w.cell? ⟨b, o + k, none⟩ = some u ∧ R w u xs[k] := by
  refine Sl.cases h (fun _ _ hx _ => absurd hk (by simp [hx])) (fun b2 o2 cap2 hv _ _ hc => ?_)
  injection hv with e1 _ _
  injection e1 with e1
  injection e1 with e1 e2
  subst e1 e2
  exact hc k hk

theorem below_alloc1 (w : World) (A : Obj) : Below w.heap.size w (w.alloc A) := (Below.refl _ _).alloc (Nat.le_refl _) _
theorem Cx.zero {lo : Nat} {w : World} {dv mv : Value} {ds : List Int} {ms : List (List (List Int))} (h : Cx lo w dv mv ds ms) : Cx 0 w dv mv ds ms := h.lower (Nat.zero_le _)
theorem Cx.shapes {lo : Nat} {w : World} {dv mv : Value} {ds : List Int} {ms : List (List (List Int))} (h : Cx lo w dv mv ds ms) : (∃ a c, dv = .slice a ds.length c) ∧ ∃ a c, mv = .slice a ms.length c := ⟨Sl.shape h.dims, Sl.shape h.maps⟩
end Go.Proofs.Ytpdkfidmmjlmnab


namespace Go.Proofs.Ytpdkfidmmjlmnab
open Go.RowKit

/-- Blocks from lo up to hi are as they were. -/
def Same (lo hi : Nat) (w w' : World) : Prop := ∀ b, lo ≤ b → b < hi → w'.heap[b]? = w.heap[b]?
theorem Same.of_below {lo hi : Nat} {w w' : World} {B : Nat} (h : Below B w w') (hh : hi ≤ B) : Same lo hi w w' := fun b _ hb => h.block b (Nat.lt_of_lt_of_le hb hh)
theorem Same.trans {lo hi : Nat} {a b c : World} (h : Same lo hi a b) (k : Same lo hi b c) : Same lo hi a c := fun i hl hi => (k i hl hi).trans (h i hl hi)
theorem Same.set {lo hi g o : Nat} {w : World} (u : Value) (h : g < lo ∨ hi ≤ g) : Same lo hi w (w.setCell ⟨g, o, none⟩ u) := fun b hl hb => Below.heap_setCell w ⟨g, o, none⟩ u b (by show b ≠ g; omega)
theorem Same.narrow {lo hi lo' hi' : Nat} {w w' : World} (h : Same lo hi w w') (h1 : lo ≤ lo') (h2 : hi' ≤ hi) : Same lo' hi' w w' := fun b hl hb => h b (by omega) (by omega)

/-- The slice v reads as xs; its cells lie in blocks from lo up to hi, and may be written. -/
def Sw {α : Type} (lo hi : Nat) (R : World → Value → α → Prop) (w : World) (v : Value) (xs : List α) : Prop :=
  (xs = [] ∧ ∃ ad cap, v = .slice ad 0 cap) ∨
  ∃ b o cap, v = .slice (some ⟨b, o, none⟩) xs.length cap ∧ lo ≤ b ∧ b < hi ∧ 0 < xs.length ∧ (∀ k (h : k < xs.length), ∃ u, w.cell? ⟨b, o + k, none⟩ = some u ∧ R w u xs[k]) ∧ ∀ k, k < xs.length → w.frozen? ⟨b, o + k, none⟩ = false
def W1 (lo hi : Nat) := Sw lo hi IsI
def W2 (lo hi : Nat) := Sw lo hi (W1 lo hi)
def W3 (lo hi : Nat) := Sw lo hi (W2 lo hi)

def Steady {α : Type} (lo hi : Nat) (R : World → Value → α → Prop) : Prop := ∀ w w' v x, Same lo hi w w' → R w v x → R w' v x
theorem steadyI (lo hi : Nat) : Steady lo hi IsI := fun _ _ _ _ _ h => h
theorem Steady.sw {α : Type} {lo hi : Nat} {R : World → Value → α → Prop} (hR : Steady lo hi R) : Steady lo hi (Sw lo hi R) := by
  intro w w' v xs hk h
  rcases h with h | ⟨b, o, cap, hv, hlo, hhi, hpos, hc, hf⟩
  · exact Or.inl h
  · refine Or.inr ⟨b, o, cap, hv, hlo, hhi, hpos, fun k hk' => ?_, fun k hk' => ?_⟩
    · obtain ⟨u, hu, hr⟩ := hc k hk'
      exact ⟨u, (World.cell?_of_block (w := w) (a := ⟨b, o + k, none⟩) (hk b hlo hhi)).trans hu, hR _ _ _ _ hk hr⟩
    · exact (World.frozen?_of_block (w := w) (a := ⟨b, o + k, none⟩) (hk b hlo hhi)).trans (hf k hk')
theorem steady1 (lo hi : Nat) : Steady lo hi (W1 lo hi) := (steadyI lo hi).sw
theorem steady2 (lo hi : Nat) : Steady lo hi (W2 lo hi) := (steady1 lo hi).sw
theorem steady3 (lo hi : Nat) : Steady lo hi (W3 lo hi) := (steady2 lo hi).sw

theorem Sw.wider {α : Type} {lo hi lo' hi' : Nat} {R R' : World → Value → α → Prop} (hl : lo' ≤ lo) (hh : hi ≤ hi') (hR : ∀ w v x, R w v x → R' w v x) {w : World} {v : Value} {xs : List α} (h : Sw lo hi R w v xs) : Sw lo' hi' R' w v xs := by
  rcases h with h | ⟨b, o, cap, hv, hlo, hhi, hpos, hc, hf⟩
  · exact Or.inl h
  · refine Or.inr ⟨b, o, cap, hv, by omega, by omega, hpos, fun k hk' => ?_, hf⟩
    obtain ⟨u, hu, hr⟩ := hc k hk'
    exact ⟨u, hu, hR _ _ _ hr⟩
theorem W1.wider {lo hi lo' hi' : Nat} (hl : lo' ≤ lo) (hh : hi ≤ hi') {w : World} {v : Value} {xs : List Int} (h : W1 lo hi w v xs) : W1 lo' hi' w v xs := Sw.wider hl hh (fun _ _ _ h => h) h
theorem W2.wider {lo hi lo' hi' : Nat} (hl : lo' ≤ lo) (hh : hi ≤ hi') {w : World} {v : Value} {xs : List (List Int)} (h : W2 lo hi w v xs) : W2 lo' hi' w v xs := Sw.wider hl hh (fun _ _ _ h => h.wider hl hh) h
theorem W3.wider {lo hi lo' hi' : Nat} (hl : lo' ≤ lo) (hh : hi ≤ hi') {w : World} {v : Value} {xs : List (List (List Int))} (h : W3 lo hi w v xs) : W3 lo' hi' w v xs := Sw.wider hl hh (fun _ _ _ h => h.wider hl hh) h

theorem Sw.sl {α : Type} {lo hi : Nat} {R R' : World → Value → α → Prop} (hR : ∀ w v x, R w v x → R' w v x) {w : World} {v : Value} {xs : List α} (h : Sw lo hi R w v xs) : Sl lo R' w v xs := by
  rcases h with h | ⟨b, o, cap, hv, hlo, _, hpos, hc, _⟩
  · exact Or.inl h
  · refine Or.inr ⟨b, o, cap, hv, hlo, hpos, fun k hk' => ?_⟩
    obtain ⟨u, hu, hr⟩ := hc k hk'
    exact ⟨u, hu, hR _ _ _ hr⟩
theorem W1.l1 {lo hi : Nat} {w : World} {v : Value} {xs : List Int} (h : W1 lo hi w v xs) : L1 lo w v xs := Sw.sl (fun _ _ _ h => h) h
theorem W2.l2 {lo hi : Nat} {w : World} {v : Value} {xs : List (List Int)} (h : W2 lo hi w v xs) : L2 lo w v xs := Sw.sl (fun _ _ _ h => h.l1) h
theorem W3.l3 {lo hi : Nat} {w : World} {v : Value} {xs : List (List (List Int))} (h : W3 lo hi w v xs) : L3 lo w v xs := Sw.sl (fun _ _ _ h => h.l2) h
theorem W1.same {lo hi : Nat} {w w' : World} {v : Value} {xs : List Int} (h : W1 lo hi w v xs) (hs : Same lo hi w w') : W1 lo hi w' v xs := steady1 lo hi _ _ _ _ hs h
theorem W2.same {lo hi : Nat} {w w' : World} {v : Value} {xs : List (List Int)} (h : W2 lo hi w v xs) (hs : Same lo hi w w') : W2 lo hi w' v xs := steady2 lo hi _ _ _ _ hs h
theorem W3.same {lo hi : Nat} {w w' : World} {v : Value} {xs : List (List (List Int))} (h : W3 lo hi w v xs) (hs : Same lo hi w w') : W3 lo hi w' v xs := steady3 lo hi _ _ _ _ hs h
theorem Sw.cases {α : Type} {lo hi : Nat} {R : World → Value → α → Prop} {w : World} {v : Value} {xs : List α} (h : Sw lo hi R w v xs) {P : Prop}
    (h0 : ∀ ad cap, xs = [] → v = .slice ad 0 cap → P)
    (h1 : ∀ b o cap, v = .slice (some ⟨b, o, none⟩) xs.length cap → lo ≤ b → b < hi → 0 < xs.length → (∀ k (h : k < xs.length), ∃ u, w.cell? ⟨b, o + k, none⟩ = some u ∧ R w u xs[k]) → (∀ k, k < xs.length → w.frozen? ⟨b, o + k, none⟩ = false) → P) : P := by
  rcases h with ⟨h, ad, cap, hv⟩ | ⟨b, o, cap, hv, hlo, hhi, hpos, hc, hf⟩
  · exact h0 ad cap h hv
  · exact h1 b o cap hv hlo hhi hpos hc hf
theorem Sw.shape {α : Type} {lo hi : Nat} {R : World → Value → α → Prop} {w : World} {v : Value} {xs : List α} (h : Sw lo hi R w v xs) : ∃ ad cap, v = .slice ad xs.length cap :=
  h.cases (fun ad cap hx hv => ⟨ad, cap, by subst hx; exact hv⟩) (fun b o cap hv _ _ _ _ _ => ⟨some ⟨b, o, none⟩, cap, hv⟩)

/-- The filling of a slice, the elements in a span of blocks of their own. -/
structure FillW {α : Type} (w wr : World) (t : TypeId) (n k : Nat) (z : Value) (R : Nat → Nat → World → Value → α → Prop) (xs : List α) (f : Nat → Value) : Prop where
  below : Below w.heap.size w wr
  row : wr.rowIs w.heap.size t n f
  done : ∀ j (h : j < xs.length), j < k → R (w.heap.size + 1) wr.heap.size wr (f j) (xs[j]'h)

theorem FillW.start {α : Type} (w : World) (t : TypeId) (n : Nat) (z : Value) (R : Nat → Nat → World → Value → α → Prop) (xs : List α) : FillW w (w.alloc (.cells (madeCells #[z] n) t)) t n 0 z R xs (fun _ => z) :=
  ⟨(Below.refl _ _).alloc (Nat.le_refl _) _, World.rowIs_made w z n t, fun _ _ h => absurd h (Nat.not_lt_zero _)⟩
theorem FillW.step {α : Type} {w wr w1 : World} {t : TypeId} {n k : Nat} {z u : Value} {R : Nat → Nat → World → Value → α → Prop} {xs : List α} {f : Nat → Value} (hR : ∀ lo hi, Steady lo hi (R lo hi))
    (hW : ∀ lo hi lo' hi' w v x, lo' ≤ lo → hi ≤ hi' → R lo hi w v x → R lo' hi' w v x) (h : FillW w wr t n k z R xs f)
    (hb : Below wr.heap.size wr w1) (hk : k < xs.length) (hu : R wr.heap.size w1.heap.size w1 u xs[k]) :
    FillW w (w1.setCell ⟨w.heap.size, k, none⟩ u) t n (k + 1) z R xs (fun j => if j = k then u else f j) := by
  have hlt := h.row.lt
  have hrow1 : w1.rowIs w.heap.size t n f := h.row.of_block (hb.block _ hlt)
  have hsz : (w1.setCell ⟨w.heap.size, k, none⟩ u).heap.size = w1.heap.size := by simp [World.setCell]
  refine ⟨(h.below.trans (hb.mono (Nat.le_of_lt hlt))).setCell (Nat.le_refl _) _, hrow1.set k u, fun j hj hjk => ?_⟩
  rw [hsz]
  by_cases e : j = k
  · subst e
    simp only [if_true]
    refine hW _ _ _ _ _ _ _ hlt (Nat.le_refl _) (hR _ _ _ _ _ _ (Same.set u (Or.inl ?_)) hu)
    exact hlt
  · rw [if_neg e]
    have hd := h.done j hj (by omega)
    refine hW _ _ _ _ _ _ _ (Nat.le_refl _) hb.size (hR _ _ _ _ _ _ ((Same.of_below hb (Nat.le_refl _)).trans (Same.set u (Or.inl (Nat.lt_succ_self _)))) hd)
theorem FillW.sw {α : Type} {w wr : World} {t : TypeId} {z : Value} {R : Nat → Nat → World → Value → α → Prop} {xs : List α} {f : Nat → Value}
    (hW : ∀ lo hi lo' hi' w v x, lo' ≤ lo → hi ≤ hi' → R lo hi w v x → R lo' hi' w v x) (h : FillW w wr t xs.length xs.length z R xs f) :
    Sw w.heap.size wr.heap.size (R w.heap.size wr.heap.size) wr (.slice (some ⟨w.heap.size, 0, none⟩) xs.length xs.length) xs := by
  by_cases h0 : xs.length = 0
  · exact Or.inl ⟨List.eq_nil_of_length_eq_zero h0, _, _, by rw [h0]⟩
  · exact Or.inr ⟨w.heap.size, 0, xs.length, rfl, Nat.le_refl _, h.row.lt, by omega, fun k hk => ⟨f k, by rw [Nat.zero_add]; exact h.row.cell hk, hW _ _ _ _ _ _ _ (Nat.le_succ _) (Nat.le_refl _) (h.done k hk hk)⟩, fun k _ => h.row.frozen _⟩

def ToW {α : Type} (R : Nat → Nat → World → Value → α → Prop) (x : α) (w : World) (e : Ending) (w' : World) : Prop := ∃ v, e = .returned v ∧ R w.heap.size w'.heap.size w' v x ∧ Below w.heap.size w w'

set_option maxHeartbeats 400000 in
theorem to1w_any (v : Value) (xs : List Int) (w : World) (h : L1 0 w v xs) (hm : xs.length ≤ 1048576) :
    Calls Try.prog 51 #[v] w (ToW W1 xs w) := by
  have hmk := run_make_row' (P := Try.prog) 22 2 (.int .i64 0) 8 Try.underlying22 Try.infoI rfl .i64 .i64 xs.length (by omega) (by omega)
  refine Sl.cases h (fun ad cap hx hv => ?_) (fun b o cap hv _ hpos hc => ?_)
  · subst hx hv
    have hmk0 : ∀ w, (Instr.makeSlice 22 (.int .i64 0) (.int .i64 0)).run Try.prog w = .ok (.slice (some ⟨w.heap.size, 0, none⟩) 0 0) (w.alloc (.cells #[] 2)) := fun _ => by kernel_rfl
    clear hmk
    go_enter Try.func51, Try.ntmps51
    go_wp2
    refine wp_loop_rounds 1 ?_
    rw [rounds_succ]
    go_wp2
    go_ret
    exact ⟨_, rfl, Or.inl ⟨rfl, _, _, rfl⟩, (Below.refl _ _).alloc (Nat.le_refl _) _⟩
  · subst hv
    clear h
    have HC := Lib.hid hc
    clear hc
    go_enter Try.func51, Try.ntmps51
    go_wp2
    clear hmk
    go_loopw [4] (fun i wr => ∃ (k : Nat) (f : Nat → Value), k ≤ xs.length ∧ i = .int .i64 k ∧ FillW w wr 2 xs.length k (.int .i64 0) (fun _ _ => IsI) xs f) (fun i _ => xs.length - (intOf i).toNat)
    case atStart => exact ⟨0, _, Nat.zero_le _, rfl, FillW.start _ _ _ _ _ _⟩
    case round =>
      obtain ⟨k, f, hk, rfl, HF⟩ := hrel
      by_cases hlt2 : k < xs.length
      · obtain ⟨u, hu, hr⟩ := HC.out k hlt2
        have hu' : wr.cell? ⟨b, o + k, none⟩ = some (.int .i64 xs[k]) := by
          rw [HF.below.cell (p := ⟨b, o + k, none⟩) (cell_lt hu), hu, hr]
        have hc1 := HF.row.cell hlt2
        have hc2 := HF.row.frozen k
        have HS := HF.step (w1 := wr) (u := .int .i64 xs[k]) (fun _ _ => steadyI _ _) (fun _ _ _ _ _ _ _ _ _ h => h) (Below.refl _ _) hlt2 rfl
        have HF' := Lib.hid HF
        have HS' := Lib.hid HS
        clear HF HS hu hr
        go_wp2
        go_roundw
        case rel => exact ⟨k + 1, _, by omega, by go_num, HS'.out⟩
        case measure => simp [intOf]; omega
      · obtain rfl : k = xs.length := by omega
        have HF' := Lib.hid HF
        clear HF
        go_wp2
        go_ret
        exact ⟨_, rfl, HF'.out.sw (fun _ _ _ _ _ _ _ _ _ h => h), HF'.out.below⟩

set_option maxHeartbeats 400000 in
theorem to2w_any (v : Value) (xs : List (List Int)) (w : World) (h : L2 0 w v xs) (hm : Bd2 1048576 xs) :
    Calls Try.prog 88 #[v] w (ToW W2 xs w) := by
  have hml : xs.length ≤ 1048576 := hm.1
  have HM := Lib.hid hm
  clear hm
  have hmk := run_make_row' (P := Try.prog) 26 22 (.slice none 0 0) 24 Try.underlying26 Try.infoS rfl .i64 .i64 xs.length (by omega) (by omega)
  refine Sl.cases h (fun ad cap hx hv => ?_) (fun b o cap hv _ hpos hc => ?_)
  · subst hx hv
    have hmk0 : ∀ w, (Instr.makeSlice 26 (.int .i64 0) (.int .i64 0)).run Try.prog w = .ok (.slice (some ⟨w.heap.size, 0, none⟩) 0 0) (w.alloc (.cells #[] 22)) := fun _ => by kernel_rfl
    clear hmk
    go_enter Try.func88, Try.ntmps88
    go_wp2
    refine wp_loop_rounds 1 ?_
    rw [rounds_succ]
    go_wp2
    go_ret
    exact ⟨_, rfl, Or.inl ⟨rfl, _, _, rfl⟩, (Below.refl _ _).alloc (Nat.le_refl _) _⟩
  · subst hv
    clear h
    have HC := Lib.hid hc
    clear hc
    go_enter Try.func88, Try.ntmps88
    go_wp2
    clear hmk
    go_loopw [4] (fun i wr => ∃ (k : Nat) (f : Nat → Value), k ≤ xs.length ∧ i = .int .i64 k ∧ FillW w wr 22 xs.length k (.slice none 0 0) W1 xs f) (fun i _ => xs.length - (intOf i).toNat)
    case atStart => exact ⟨0, _, Nat.zero_le _, rfl, FillW.start _ _ _ _ _ _⟩
    case round =>
      obtain ⟨k, f, hk, rfl, HF⟩ := hrel
      by_cases hlt2 : k < xs.length
      · obtain ⟨u, hu, hr⟩ := HC.out k hlt2
        have hu' : wr.cell? ⟨b, o + k, none⟩ = some u := by
          rw [HF.below.cell (p := ⟨b, o + k, none⟩) (cell_lt hu), hu]
        have hr' : L1 0 wr u xs[k] := hr.below HF.below
        have hmx : (xs[k]).length ≤ 1048576 := HM.out.2 _ (List.getElem_mem hlt2)
        have HF' := Lib.hid HF
        have HR' := Lib.hid hr'
        clear HF hu hr hr'
        go_wp2_with fail
        refine (to1w_any u xs[k] _ HR'.out hmx).mono ?_
        rintro e w1 ⟨u1, rfl, hr1, hb1⟩
        obtain ⟨ad1, cap1, rfl⟩ := Sw.shape hr1
        have hlr := HF'.out.row.lt
        have hc1 : w1.cell? ⟨w.heap.size, k, none⟩ = some (f k) := (hb1.cell (p := ⟨w.heap.size, k, none⟩) hlr).trans (HF'.out.row.cell hlt2)
        have hc2 : w1.frozen? ⟨w.heap.size, k, none⟩ = false := (hb1.frozen (p := ⟨w.heap.size, k, none⟩) hlr).trans (HF'.out.row.frozen k)
        have HS := Lib.hid (HF'.out.step (w1 := w1) (u := _) steady1 (fun _ _ _ _ _ _ _ h1 h2 h => W1.wider h1 h2 h) hb1 hlt2 hr1)
        clear hr1 hb1 hlr
        go_wp2
        go_roundw
        case rel => exact ⟨k + 1, _, by omega, by go_num, HS.out⟩
        case measure => simp [intOf]; omega
      · obtain rfl : k = xs.length := by omega
        have HF' := Lib.hid HF
        clear HF
        go_wp2
        go_ret
        exact ⟨_, rfl, HF'.out.sw (fun _ _ _ _ _ _ _ h1 h2 h => W1.wider h1 h2 h), HF'.out.below⟩

end Go.Proofs.Ytpdkfidmmjlmnab

namespace Go.Proofs.Ytpdkfidmmjlmnab
open Go.RowKit

structure CxW (lo hi : Nat) (w : World) (dv mv : Value) (ds : List Int) (ms : List (List (List Int))) : Prop where
  dims : W1 lo hi w dv ds
  maps : W3 lo hi w mv ms
theorem CxW.same {lo hi : Nat} {w w' : World} {dv mv : Value} {ds : List Int} {ms : List (List (List Int))} (h : CxW lo hi w dv mv ds ms) (hs : Same lo hi w w') : CxW lo hi w' dv mv ds ms := ⟨h.dims.same hs, h.maps.same hs⟩
theorem CxW.cx {lo hi : Nat} {w : World} {dv mv : Value} {ds : List Int} {ms : List (List (List Int))} (h : CxW lo hi w dv mv ds ms) : Cx lo w dv mv ds ms := ⟨h.dims.l1, h.maps.l3⟩
/-- Only blocks from lo up to hi may have been written. -/
structure Only (lo hi : Nat) (w w' : World) : Prop where
  os : w'.os = w.os
  tape : w'.tape = w.tape
  output : w'.output = w.output
  size : w'.heap.size = w.heap.size
  block : ∀ b, (b < lo ∨ hi ≤ b) → w'.heap[b]? = w.heap[b]?
theorem Only.refl (lo hi : Nat) (w : World) : Only lo hi w w := ⟨rfl, rfl, rfl, rfl, fun _ _ => rfl⟩
theorem Only.trans {lo hi : Nat} {a b c : World} (h : Only lo hi a b) (k : Only lo hi b c) : Only lo hi a c := ⟨k.os.trans h.os, k.tape.trans h.tape, k.output.trans h.output, k.size.trans h.size, fun i hi => (k.block i hi).trans (h.block i hi)⟩
theorem Only.wider {lo hi lo' hi' : Nat} {a b : World} (h : Only lo hi a b) (h1 : lo' ≤ lo) (h2 : hi ≤ hi') : Only lo' hi' a b := ⟨h.os, h.tape, h.output, h.size, fun i hi => h.block i (by omega)⟩
theorem Only.set {lo hi g o : Nat} {w : World} (u : Value) (h1 : lo ≤ g) (h2 : g < hi) : Only lo hi w (w.setCell ⟨g, o, none⟩ u) := ⟨rfl, rfl, rfl, by simp, fun b hb => Below.heap_setCell w ⟨g, o, none⟩ u b (by show b ≠ g; omega)⟩
theorem Only.below {lo hi B : Nat} {w w' : World} (h : Only lo hi w w') (hB : B ≤ lo) : Below B w w' := ⟨h.os, h.tape, h.output, Nat.le_of_eq h.size.symm, fun k hk => h.block k (Or.inl (by omega))⟩
theorem Only.same {lo hi lo' hi' : Nat} {w w' : World} (h : Only lo hi w w') (hd : hi' ≤ lo ∨ hi ≤ lo') : Same lo' hi' w w' := fun b hl hh => h.block b (by omega)
theorem Only.cell {lo hi : Nat} {w w' : World} (h : Only lo hi w w') {b o : Nat} (hb : b < lo ∨ hi ≤ b) : w'.cell? ⟨b, o, none⟩ = w.cell? ⟨b, o, none⟩ := World.cell?_of_block (w := w) (a := ⟨b, o, none⟩) (h.block b hb)
theorem Only.frozen {lo hi : Nat} {w w' : World} (h : Only lo hi w w') {b o : Nat} (hb : b < lo ∨ hi ≤ b) : w'.frozen? ⟨b, o, none⟩ = w.frozen? ⟨b, o, none⟩ := World.frozen?_of_block (w := w) (a := ⟨b, o, none⟩) (h.block b hb)

/-- The numbers from k on, n of them. -/
def upFrom (k : Int) (n : Nat) : List Int := (List.range n).map (fun (i : Nat) => k + (i : Int))
theorem upFrom_length (k : Int) (n : Nat) : (upFrom k n).length = n := by simp [upFrom]

/-- Numbers have been written over numbers, nothing else. -/
structure Tame (w w' : World) : Prop where
  slices : ∀ b o a n c, w.cell? ⟨b, o, none⟩ = some (.slice a n c) → w'.cell? ⟨b, o, none⟩ = some (.slice a n c)
  nums : ∀ b o x, w.cell? ⟨b, o, none⟩ = some (.int .i64 x) → ∃ y, w'.cell? ⟨b, o, none⟩ = some (.int .i64 y)
  frozen : ∀ b o, w'.frozen? ⟨b, o, none⟩ = w.frozen? ⟨b, o, none⟩
theorem Tame.refl (w : World) : Tame w w := ⟨fun _ _ _ _ _ h => h, fun _ _ x h => ⟨x, h⟩, fun _ _ => rfl⟩
theorem Tame.trans {a b c : World} (h : Tame a b) (k : Tame b c) : Tame a c :=
  ⟨fun i o x n m hh => k.slices i o x n m (h.slices i o x n m hh), fun i o x hh => by obtain ⟨y, hy⟩ := h.nums i o x hh; exact k.nums i o y hy, fun i o => (k.frozen i o).trans (h.frozen i o)⟩
theorem Tame.set {w : World} {b o : Nat} {x y : Int} (h : w.cell? ⟨b, o, none⟩ = some (.int .i64 x)) : Tame w (w.setCell ⟨b, o, none⟩ (.int .i64 y)) := by
  refine ⟨fun b2 o2 a n c hh => ?_, fun b2 o2 z hh => ?_, fun _ _ => World.frozen?_setCell _ _ _ _⟩
  · by_cases e : (⟨b, o, none⟩ : Addr) = ⟨b2, o2, none⟩
    · rw [← e, h] at hh
      cases hh
    · rw [World.cell?_setCell_other _ _ _ _ e]
      exact hh
  · by_cases e : (⟨b, o, none⟩ : Addr) = ⟨b2, o2, none⟩
    · rw [← e]
      exact ⟨y, World.cell?_setCell_same _ _ _ h⟩
    · rw [World.cell?_setCell_other _ _ _ _ e]
      exact ⟨z, hh⟩

/-- Some number. -/
def AnyI (_ : World) (v : Value) (_ : Int) : Prop := ∃ x : Int, v = .int .i64 x
def T1 (lo hi : Nat) := Sw lo hi AnyI
def T2 (lo hi : Nat) := Sw lo hi (T1 lo hi)
def T3 (lo hi : Nat) := Sw lo hi (T2 lo hi)
theorem W1.t1 {lo hi : Nat} {w : World} {v : Value} {xs : List Int} (h : W1 lo hi w v xs) : T1 lo hi w v xs := Sw.wider (Nat.le_refl _) (Nat.le_refl _) (fun _ _ x h => ⟨x, h⟩) h
theorem W2.t2 {lo hi : Nat} {w : World} {v : Value} {xs : List (List Int)} (h : W2 lo hi w v xs) : T2 lo hi w v xs := Sw.wider (Nat.le_refl _) (Nat.le_refl _) (fun _ _ _ h => h.t1) h
theorem W3.t3 {lo hi : Nat} {w : World} {v : Value} {xs : List (List (List Int))} (h : W3 lo hi w v xs) : T3 lo hi w v xs := Sw.wider (Nat.le_refl _) (Nat.le_refl _) (fun _ _ _ h => h.t2) h
theorem T1.tame {lo hi : Nat} {w w' : World} {v : Value} {xs : List Int} (h : T1 lo hi w v xs) (ht : Tame w w') : T1 lo hi w' v xs := by
  rcases h with h | ⟨b, o, cap, hv, hlo, hhi, hpos, hc, hf⟩
  · exact Or.inl h
  · refine Or.inr ⟨b, o, cap, hv, hlo, hhi, hpos, fun k hk' => ?_, fun k hk' => (ht.frozen _ _).trans (hf k hk')⟩
    obtain ⟨u, hu, x, rfl⟩ := hc k hk'
    obtain ⟨y, hy⟩ := ht.nums _ _ _ hu
    exact ⟨_, hy, y, rfl⟩
theorem tame_sw {α : Type} {lo hi : Nat} {R : World → Value → List α → Prop} (hs : ∀ w v x, R w v x → ∃ a n c, v = .slice a n c) {w w' : World} (hR : ∀ v x, R w v x → R w' v x) {v : Value} {xs : List (List α)} (h : Sw lo hi R w v xs) (ht : Tame w w') : Sw lo hi R w' v xs := by
  rcases h with h | ⟨b, o, cap, hv, hlo, hhi, hpos, hc, hf⟩
  · exact Or.inl h
  · refine Or.inr ⟨b, o, cap, hv, hlo, hhi, hpos, fun k hk' => ?_, fun k hk' => (ht.frozen _ _).trans (hf k hk')⟩
    obtain ⟨u, hu, hr⟩ := hc k hk'
    obtain ⟨a, n, c, rfl⟩ := hs _ _ _ hr
    exact ⟨_, ht.slices _ _ _ _ _ hu, hR _ _ hr⟩
theorem T2.tame {lo hi : Nat} {w w' : World} {v : Value} {xs : List (List Int)} (h : T2 lo hi w v xs) (ht : Tame w w') : T2 lo hi w' v xs :=
  tame_sw (fun _ _ x h => by obtain ⟨a, c, e⟩ := Sw.shape h; exact ⟨a, _, c, e⟩) (fun _ _ h => T1.tame h ht) h ht
theorem T3.tame {lo hi : Nat} {w w' : World} {v : Value} {xs : List (List (List Int))} (h : T3 lo hi w v xs) (ht : Tame w w') : T3 lo hi w' v xs :=
  tame_sw (fun _ _ x h => by obtain ⟨a, c, e⟩ := Sw.shape h; exact ⟨a, _, c, e⟩) (fun _ _ h => T2.tame h ht) h ht

def MarkR (lo hi : Nat) (v : Value) (k : Int) (n : Nat) (w : World) (e : Ending) (w' : World) : Prop := e = .returned (.int .i64 (k + n)) ∧ Only lo hi w w' ∧ Tame w w' ∧ W1 lo hi w' v (upFrom k n)

set_option maxHeartbeats 800000 in
theorem mark1_any {lo hi : Nat} (v : Value) (xs : List Int) (k : Int) (w : World) (h : T1 lo hi w v xs) (hm : xs.length ≤ 1048576) (hk0 : 0 ≤ k) (hk1 : k ≤ 9223372036852678656) :
    Calls Try.prog 58 #[v, .int .i64 k] w (MarkR lo hi v k xs.length w) := by
  refine Sw.cases h (fun ad cap hx hv => ?_) (fun b o cap hv hlo hhi hpos hc hf => ?_)
  · subst hx hv
    go_enter Try.func58, Try.ntmps58
    go_wp2
    refine wp_loop_rounds 1 ?_
    rw [rounds_succ]
    go_wp2
    go_ret
    exact ⟨ret_int (by simp), Only.refl _ _ _, Tame.refl _, Or.inl ⟨rfl, _, _, rfl⟩⟩
  · subst hv
    clear h
    have HC := Lib.hid hc
    have HF := Lib.hid hf
    clear hc hf
    go_enter Try.func58, Try.ntmps58
    go_wp2
    go_loopw [1, 5] (fun kk i wr => ∃ (j : Nat), j ≤ xs.length ∧ i = .int .i64 j ∧ kk = .int .i64 (k + (j : Int)) ∧ Hid (Only lo hi w wr ∧ Tame w wr) ∧ Hid (∀ q, q < xs.length → ∃ x, wr.cell? ⟨b, o + q, none⟩ = some (.int .i64 x) ∧ (q < j → x = k + (q : Int))) ∧ Hid (∀ q, q < xs.length → wr.frozen? ⟨b, o + q, none⟩ = false)) (fun _ i _ => xs.length - (intOf i).toNat)
    case atStart => exact ⟨0, Nat.zero_le _, rfl, by simp, Lib.hid ⟨Only.refl _ _ _, Tame.refl _⟩, Lib.hid (fun q hq => by
      obtain ⟨u, hu, x, hr⟩ := HC.out q hq
      exact ⟨x, by rw [hu, hr], fun h => absurd h (Nat.not_lt_zero _)⟩), HF⟩
    case round =>
      obtain ⟨j, hj, rfl, rfl, HO, HX, HZ⟩ := hrel
      by_cases hlt : j < xs.length
      · obtain ⟨x, hx, _⟩ := HX.out j hlt
        have hz := HZ.out j hlt
        have HN : Hid (∀ q, q < xs.length → ∃ x, (wr.setCell ⟨b, o + j, none⟩ (.int .i64 (k + (j : Int)))).cell? ⟨b, o + q, none⟩ = some (.int .i64 x) ∧ (q < j + 1 → x = k + (q : Int))) := Lib.hid (fun q hq => by
          obtain ⟨y, hy, hy2⟩ := HX.out q hq
          by_cases e : q = j
          · subst e
            exact ⟨k + (q : Int), World.cell?_setCell_same _ _ _ hy, fun _ => rfl⟩
          · refine ⟨y, ?_, fun h => hy2 (by omega)⟩
            rw [World.cell?_setCell_other _ _ _ _ (fun hh => e (by have h2 := congrArg Addr.off hh; exact (Nat.add_left_cancel h2).symm))]
            exact hy)
        have HZ2 : Hid (∀ q, q < xs.length → (wr.setCell ⟨b, o + j, none⟩ (.int .i64 (k + (j : Int)))).frozen? ⟨b, o + q, none⟩ = false) := Lib.hid (fun q hq => by rw [World.frozen?_setCell]; exact HZ.out q hq)
        have HO2 : Hid (Only lo hi w (wr.setCell ⟨b, o + j, none⟩ (.int .i64 (k + (j : Int)))) ∧ Tame w (wr.setCell ⟨b, o + j, none⟩ (.int .i64 (k + (j : Int))))) := Lib.hid ⟨HO.out.1.trans (Only.set _ hlo hhi), HO.out.2.trans (Tame.set hx)⟩
        go_wp2
        go_roundw
        case rel => exact ⟨j + 1, by omega, by go_num, by go_num, HO2, HN, HZ2⟩
        case measure => simp [intOf]; omega
      · have hjj : Hid (j = xs.length) := Lib.hid (by omega)
        go_wp2
        go_ret
        refine ⟨ret_int (by rw [hjj.out]), HO.out.1, HO.out.2, Or.inr ⟨b, o, cap, by rw [upFrom_length], hlo, hhi, by rw [upFrom_length]; exact hpos, fun q hq => ?_, fun q hq => HZ.out q (by rw [upFrom_length] at hq; exact hq)⟩⟩
        rw [upFrom_length] at hq
        obtain ⟨x, hx, hx2⟩ := HX.out q hq
        refine ⟨_, hx, ?_⟩
        simp only [IsI, upFrom, List.getElem_map, List.getElem_range]
        rw [hx2 (by have := hjj.out; omega)]

set_option maxHeartbeats 800000 in
theorem held1_any {lo : Nat} (v : Value) (n : Nat) (k : Int) (w : World) (h : L1 lo w v (upFrom k n)) (hm : n ≤ 1048576) (hk0 : 0 ≤ k) (hk1 : k ≤ 4611686018427387904) :
    Calls Try.prog 59 #[v, .int .i64 k] w (QW (.int .i64 (k + n)) w) := by
  refine Sl.cases h (fun ad cap hx hv => ?_) (fun b o cap hv _ hpos hc => ?_)
  · have hn : n = 0 := by have := upFrom_length k n; rw [hx] at this; simpa using this.symm
    subst hn hv
    clear hx h
    go_enter Try.func59, Try.ntmps59
    go_wp2
    refine wp_loop_rounds 1 ?_
    rw [rounds_succ]
    go_wp2
    go_ret
    exact ⟨ret_int (by simp), rfl⟩
  · rw [upFrom_length] at hv hpos
    subst hv
    clear h
    have HC := Lib.hid hc
    clear hc
    go_enter Try.func59, Try.ntmps59
    go_wp2
    go_loop [1, 5] (fun kk i => ∃ (j : Nat), j ≤ n ∧ i = .int .i64 j ∧ kk = .int .i64 (k + (j : Int))) (fun _ i => n - (intOf i).toNat)
    case atStart => exact ⟨0, Nat.zero_le _, rfl, by simp⟩
    case round =>
      obtain ⟨j, hj, rfl, rfl⟩ := hrel
      by_cases hlt : j < n
      · obtain ⟨u, hu, hr⟩ := HC.out j (by rw [upFrom_length]; exact hlt)
        have hu2 : w.cell? ⟨b, o + j, none⟩ = some (.int .i64 (k + (j : Int))) := by
          rw [hu, hr]
          simp only [upFrom, List.getElem_map, List.getElem_range]
        clear hu hr
        have hq : ((k + (j : Int)) != (k + (j : Int))) = false := by simp
        go_wp2
        go_round
        case rel => exact ⟨j + 1, by omega, by go_num, by go_num⟩
        case measure => simp [intOf]; omega
      · have hjj : Hid (j = n) := Lib.hid (by omega)
        go_wp2
        go_ret
        exact ⟨ret_int (by rw [hjj.out]), rfl⟩

/-- A mark of something deep: a number not less and not much greater; only numbers in the span were written. -/
def MarkD (lo hi : Nat) (k top : Int) (w : World) (e : Ending) (w' : World) : Prop := ∃ r : Int, e = .returned (.int .i64 r) ∧ k ≤ r ∧ r ≤ top ∧ Only lo hi w w' ∧ Tame w w'

set_option maxHeartbeats 800000 in
theorem mark2_any {lo hi : Nat} (v : Value) (xs : List (List Int)) (k : Int) (w : World) (h : T2 lo hi w v xs) (hm : Bd2 1048576 xs) (hk0 : 0 ≤ k) (hk1 : k ≤ 9223367638808264704) :
    Calls Try.prog 30 #[v, .int .i64 k] w (MarkD lo hi k (k + 1048576 * (xs.length : Int)) w) := by
  have hml : xs.length ≤ 1048576 := hm.1
  have HM := Lib.hid hm
  have H := Lib.hid h
  clear hm
  refine Sw.cases h (fun ad cap hx hv => ?_) (fun b o cap hv hlo hhi hpos hc hf => ?_)
  · subst hx hv
    clear h
    go_enter Try.func30, Try.ntmps30
    go_wp2
    refine wp_loop_rounds 1 ?_
    rw [rounds_succ]
    go_wp2
    go_ret
    exact ⟨k, rfl, Int.le_refl _, by simp, Only.refl _ _ _, Tame.refl _⟩
  · subst hv
    clear h
    have HC := Lib.hid hc
    clear hc hf
    go_enter Try.func30, Try.ntmps30
    go_wp2
    go_loopw [1, 5] (fun kk i wr => ∃ (j : Nat) (r : Int), j ≤ xs.length ∧ i = .int .i64 j ∧ kk = .int .i64 r ∧ k ≤ r ∧ r ≤ k + 1048576 * (j : Int) ∧ Hid (Only lo hi w wr ∧ Tame w wr)) (fun _ i _ => xs.length - (intOf i).toNat)
    case atStart => exact ⟨0, k, Nat.zero_le _, rfl, rfl, Int.le_refl _, by simp, Lib.hid ⟨Only.refl _ _ _, Tame.refl _⟩⟩
    case round =>
      obtain ⟨j, r, hj, rfl, rfl, hr0, hr1, HO⟩ := hrel
      by_cases hlt : j < xs.length
      · obtain ⟨u, hu, hr⟩ := HC.out j hlt
        obtain ⟨a1, c1, hu1⟩ := Sw.shape hr
        rw [hu1] at hu hr
        have hu' := HO.out.2.slices _ _ _ _ _ hu
        have HR := Lib.hid (T1.tame hr HO.out.2)
        have hmx : (xs[j]).length ≤ 1048576 := HM.out.2 _ (List.getElem_mem hlt)
        clear hu hr hu1
        go_wp2_with fail
        refine (mark1_any _ xs[j] r _ HR.out hmx (by omega) (by omega)).mono ?_
        rintro e w2 ⟨rfl, ho, ht, _⟩
        have HO2 := Lib.hid (And.intro (HO.out.1.trans ho) (HO.out.2.trans ht))
        clear ho ht
        go_wp2
        go_roundw
        case rel => exact ⟨j + 1, r + ((xs[j]).length : Int), by omega, by go_num, rfl, by omega, by omega, HO2⟩
        case measure => simp [intOf]; omega
      · have hjj : Hid (j = xs.length) := Lib.hid (by omega)
        go_wp2
        go_ret
        exact ⟨r, rfl, hr0, by have := hjj.out; omega, HO.out.1, HO.out.2⟩

structure CxT (lo hi : Nat) (w : World) (dv mv : Value) (ds : List Int) (ms : List (List (List Int))) : Prop where
  dims : T1 lo hi w dv ds
  maps : T3 lo hi w mv ms
theorem CxW.t {lo hi : Nat} {w : World} {dv mv : Value} {ds : List Int} {ms : List (List (List Int))} (h : CxW lo hi w dv mv ds ms) : CxT lo hi w dv mv ds ms := ⟨h.dims.t1, h.maps.t3⟩

/-- What markComplex leaves: new blocks, and numbers written in the span alone. -/
def MarkC (lo hi : Nat) (k : Int) (w : World) (e : Ending) (w' : World) : Prop :=
  ∃ (r : Int) (w1 : World), e = .returned (.int .i64 r) ∧ k ≤ r ∧ r ≤ k + 1152921504607895552 ∧ Below w.heap.size w w1 ∧ Only lo hi w1 w' ∧ Tame w1 w'

end Go.Proofs.Ytpdkfidmmjlmnab

namespace Go.Proofs.Ytpdkfidmmjlmnab
open Go.RowKit

/-- A table that a call has made: its own row of rows at block g, row j at block g + 1 + j, number i of it Z j i. -/
structure Mat (w w' : World) (r c : Nat) (Z : Nat → Nat → Int) : Prop where
  below : Below w.heap.size w w'
  size : w'.heap.size = w.heap.size + 1 + r
  top : w'.rowIs w.heap.size 22 r (fun j => .slice (some ⟨w.heap.size + 1 + j, 0, none⟩) c c)
  rows : ∀ j, j < r → w'.rowIs (w.heap.size + 1 + j) 2 c (fun i => .int .i64 (Z j i))
def tableOf (r c : Nat) (Z : Nat → Nat → Int) : List (List Int) := (List.range r).map fun j => (List.range c).map fun i => Z j i
theorem Mat.w2 {w w' : World} {r c : Nat} {Z : Nat → Nat → Int} (h : Mat w w' r c Z) : W2 w.heap.size w'.heap.size w' (.slice (some ⟨w.heap.size, 0, none⟩) r r) (tableOf r c Z) := by
  by_cases h0 : r = 0
  · subst h0
    exact Or.inl ⟨rfl, _, _, rfl⟩
  · refine Or.inr ⟨w.heap.size, 0, r, by simp [tableOf], Nat.le_refl _, h.top.lt, by simp [tableOf]; omega, fun k hk => ?_, fun k _ => h.top.frozen _⟩
    have hk' : k < r := by simpa [tableOf] using hk
    refine ⟨_, by rw [Nat.zero_add]; exact h.top.cell hk', ?_⟩
    simp only [tableOf, List.getElem_map, List.getElem_range]
    by_cases hc : c = 0
    · subst hc
      exact Or.inl ⟨rfl, _, _, rfl⟩
    · refine Or.inr ⟨w.heap.size + 1 + k, 0, c, by simp, by omega, (h.rows k hk').lt, by simp; omega, fun i hi => ?_, fun i _ => (h.rows k hk').frozen _⟩
      have hi' : i < c := by simpa using hi
      refine ⟨_, by rw [Nat.zero_add]; exact (h.rows k hk').cell hi', ?_⟩
      simp only [IsI, List.getElem_map, List.getElem_range]
theorem Mat.set {w w' : World} {r c : Nat} {Z : Nat → Nat → Int} (h : Mat w w' r c Z) {j i : Nat} (hj : j < r) (x : Int) :
    Mat w (w'.setCell ⟨w.heap.size + 1 + j, i, none⟩ (.int .i64 x)) r c (fun j2 i2 => if j2 = j ∧ i2 = i then x else Z j2 i2) := by
  refine ⟨h.below.setCell (by show w.heap.size ≤ w.heap.size + 1 + j; omega) _, by simp [h.size], h.top.setOther (by show w.heap.size ≠ w.heap.size + 1 + j; omega) _, fun j2 hj2 => ?_⟩
  by_cases e : j2 = j
  · subst e
    exact ((h.rows j2 hj2).set i _).congr (fun i2 _ => by by_cases e2 : i2 = i <;> simp [e2])
  · exact ((h.rows j2 hj2).setOther (by show w.heap.size + 1 + j2 ≠ w.heap.size + 1 + j; omega) _).congr (fun i2 _ => by simp [e])
theorem Mat.congr {w w' : World} {r c : Nat} {Z Z' : Nat → Nat → Int} (h : Mat w w' r c Z) (e : ∀ j, j < r → ∀ i, i < c → Z j i = Z' j i) : Mat w w' r c Z' :=
  ⟨h.below, h.size, h.top, fun j hj => (h.rows j hj).congr (fun i hi => by rw [e j hj i hi])⟩

/-- While the rows are being made: k of them are there. -/
structure MatTo (w w' : World) (r c k : Nat) : Prop where
  below : Below w.heap.size w w'
  size : w'.heap.size = w.heap.size + 1 + k
  top : w'.rowIs w.heap.size 22 r (fun j => if j < k then .slice (some ⟨w.heap.size + 1 + j, 0, none⟩) c c else .slice none 0 0)
  rows : ∀ j, j < k → w'.rowIs (w.heap.size + 1 + j) 2 c (fun _ => .int .i64 0)
theorem MatTo.start (w : World) (r c : Nat) : MatTo w (w.alloc (.cells (madeCells #[.slice none 0 0] r) 22)) r c 0 :=
  ⟨(Below.refl _ _).alloc (Nat.le_refl _) _, by simp, (World.rowIs_made w _ r _).congr (fun j _ => by simp), fun j hj => absurd hj (Nat.not_lt_zero _)⟩
theorem MatTo.step {w w' : World} {r c k : Nat} (h : MatTo w w' r c k) : MatTo w ((w'.alloc (.cells (madeCells #[.int .i64 0] c) 2)).setCell ⟨w.heap.size, k, none⟩ (.slice (some ⟨w'.heap.size, 0, none⟩) c c)) r c (k + 1) := by
  have hnew := World.rowIs_made w' (.int .i64 0) c 2
  have hs := h.size
  refine ⟨(h.below.alloc (by omega) _).setCell (Nat.le_refl _) _, by simp [h.size]; omega, ((h.top.alloc _).set k _).congr (fun j _ => ?_), fun j hj => ?_⟩
  · by_cases e : j = k
    · subst e
      rw [if_pos rfl, if_pos (Nat.lt_succ_self _), hs]
    · rw [if_neg e]
      by_cases h2 : j < k
      · rw [if_pos h2, if_pos (by omega)]
      · rw [if_neg h2, if_neg (by omega)]
  · by_cases e : j = k
    · subst e
      rw [← hs]
      exact hnew.setOther (by show w'.heap.size ≠ w.heap.size; omega) _
    · exact ((h.rows j (by omega)).alloc _).setOther (by show w.heap.size + 1 + j ≠ w.heap.size; omega) _
theorem MatTo.done {w w' : World} {r c : Nat} (h : MatTo w w' r c r) : Mat w w' r c (fun _ _ => 0) :=
  ⟨h.below, h.size, h.top.congr (fun j hj => by rw [if_pos hj]), h.rows⟩

def MatR (r c : Nat) (Z : Nat → Nat → Int) (w : World) (e : Ending) (w' : World) : Prop := e = .returned (.slice (some ⟨w.heap.size, 0, none⟩) r r) ∧ Mat w w' r c Z

set_option maxHeartbeats 800000 in
theorem zeroTable_any (r c : Nat) (w : World) (hr : r ≤ 1048576) (hc : c ≤ 1048576) : Calls Try.prog 192 #[.int .i64 r, .int .i64 c] w (MatR r c (fun _ _ => 0) w) := by
  have hmk := run_make_row' (P := Try.prog) 26 22 (.slice none 0 0) 24 Try.underlying26 Try.infoS rfl .i64 .i64 r (by omega) (by omega)
  have hmk2 := run_make_row' (P := Try.prog) 22 2 (.int .i64 0) 8 Try.underlying22 Try.infoI rfl .i64 .i64 c (by omega) (by omega)
  go_enter Try.func192, Try.ntmps192
  go_wp2
  clear hmk
  go_loopw [6, 11] (fun _ i wr => ∃ (k : Nat), k ≤ r ∧ i = .int .i64 k ∧ MatTo w wr r c k) (fun _ i _ => r - (intOf i).toNat)
  case atStart => exact ⟨0, Nat.zero_le _, rfl, MatTo.start _ _ _⟩
  case round =>
    obtain ⟨k, hk, rfl, HM⟩ := hrel
    by_cases hlt : k < r
    · have hc1 : ∀ o, (wr.alloc o).cell? ⟨w.heap.size, k, none⟩ = some (if k < k then .slice (some ⟨w.heap.size + 1 + k, 0, none⟩) c c else .slice none 0 0) := fun o => (HM.top.alloc o).cell hlt
      have hc2 : ∀ o, (wr.alloc o).cell? ⟨w.heap.size, k, none⟩ = some (.slice none 0 0) := fun o => by rw [hc1 o, if_neg (Nat.lt_irrefl _)]
      have hf : ∀ o, (wr.alloc o).frozen? ⟨w.heap.size, k, none⟩ = false := fun o => (HM.top.alloc o).frozen k
      have HS := Lib.hid HM.step
      clear hc1 HM
      go_wp2
      go_roundw
      case rel => exact ⟨k + 1, by omega, by go_num, HS.out⟩
      case measure => simp [intOf]; omega
    · have hkk : k = r := by omega
      subst hkk
      have HM' := Lib.hid HM
      clear HM
      go_wp2
      go_ret
      exact ⟨rfl, HM'.out.done⟩
end Go.Proofs.Ytpdkfidmmjlmnab

namespace Go.Proofs.Ytpdkfidmmjlmnab
open Go.RowKit

end Go.Proofs.Ytpdkfidmmjlmnab

namespace Go.Proofs.Ytpdkfidmmjlmnab
open Go.RowKit

/-- A row of numbers, gathered: its cells lie in a block of numbers. -/
def G1 (w : World) (u : Value) (xs : List Int) : Prop := w.ownsRow 0 2 1 u xs.length (xs.map (Value.int .i64))
theorem G1.below {w w' : World} {u : Value} {xs : List Int} (h : G1 w u xs) (hb : Below w.heap.size w w') : G1 w' u xs := owns_below h hb
theorem G1.l1 {w : World} {u : Value} {xs : List Int} (h : G1 w u xs) : L1 0 w u xs := sl_of_owns h (Nat.le_refl _) rfl (fun k h1 h2 => by simp [IsI])
theorem owns_mono {w : World} {base base' : Nat} {e : TypeId} {size n : Nat} {v : Value} {xs : List Value} (h : w.ownsRow base e size v n xs) (hb : base' ≤ base) : w.ownsRow base' e size v n xs := by
  refine ⟨h.1, ?_⟩
  rcases h.2 with h2 | ⟨g, cap, cur, hu, hg, r⟩
  · exact Or.inl h2
  · exact Or.inr ⟨g, cap, cur, hu, Nat.le_trans hb hg, r⟩
/-- A row of another kind may grow beside it. -/
theorem owns_grown {w w' : World} {base base' : Nat} {e e' : TypeId} {size size' n n' : Nat} {u v : Value} {xs vs : List Value} (h : w.ownsRow base e size u n xs) (hv : w.ownsRow base' e' size' v n' vs) (he : e ≠ e') (hg : w.grownBy w' v.ownBlock) : w'.ownsRow base e size u n xs := by
  refine ⟨h.1, ?_⟩
  rcases h.2 with h2 | ⟨g, cap, cur, hu, hb, hh, r⟩
  · exact Or.inl h2
  · refine Or.inr ⟨g, cap, cur, hu, hb, ?_, r⟩
    rw [hg.block g (Array.getElem?_eq_some_iff.1 hh).1]
    · exact hh
    · intro e2
      rcases hv.2 with ⟨rfl, _⟩ | ⟨g2, cap2, cur2, rfl, _, hh2, _⟩
      · simp [Value.ownBlock] at e2
      · simp [Value.ownBlock] at e2
        subst e2
        rw [hh] at hh2
        simp at hh2
        exact he hh2.2
/-- A table gathered row by row. -/
def G2 (w : World) (u : Value) (t : List (List Int)) : Prop := ∃ vs, w.ownsRow 0 22 1 u t.length vs ∧ ∀ k (h1 : k < vs.length) (h2 : k < t.length), G1 w vs[k] t[k]
theorem G2.below {w w' : World} {u : Value} {t : List (List Int)} (h : G2 w u t) (hb : Below w.heap.size w w') : G2 w' u t := by
  obtain ⟨vs, ho, hr⟩ := h
  exact ⟨vs, owns_below ho hb, fun k h1 h2 => (hr k h1 h2).below hb⟩
theorem G2.l2 {w : World} {u : Value} {t : List (List Int)} (h : G2 w u t) : L2 0 w u t := by
  obtain ⟨vs, ho, hr⟩ := h
  exact sl_of_owns ho (Nat.le_refl _) rfl (fun k h1 h2 => (hr k h2 h1).l1)

end Go.Proofs.Ytpdkfidmmjlmnab


namespace Go.Proofs.Ytpdkfidmmjlmnab
open Go.RowKit

/-- The dimension of a degree, 0 beyond the top. -/
def dimZ (ds : List Int) (n : Int) : Int := if 0 ≤ n ∧ n ≤ (ds.length : Int) - 1 then ds.getD n.toNat 0 else 0

/-- The rows of the differential of a degree; for the degree 0, and beyond the top, rows without numbers. -/
def mapZ (ds : List Int) (ms : List (List (List Int))) (n : Int) : List (List Int) := if 1 ≤ n ∧ n ≤ (ds.length : Int) - 1 then ms.getD (n.toNat - 1) [] else List.replicate (dimZ ds n).toNat []
end Go.Proofs.Ytpdkfidmmjlmnab

namespace Go.Proofs.Ytpdkfidmmjlmnab
open Go.RowKit

end Go.Proofs.Ytpdkfidmmjlmnab

namespace Go.Proofs.Ytpdkfidmmjlmnab
open Go.RowKit

end Go.Proofs.Ytpdkfidmmjlmnab


namespace Go.Proofs.Ytpdkfidmmjlmnab
open Go.RowKit

set_option maxHeartbeats 400000 in
theorem sz1_any {lo : Nat} (v : Value) (xs : List Int) (left : Int) (w : World) (h : L1 lo w v xs) (h0 : 0 ≤ left) (h1 : left ≤ 1048576) (hm : xs.length ≤ 9223372036854775807) :
    Calls Try.prog 115 #[v, .int .i64 left] w (SzR left (Bd1 1048576 xs) w) := by
  obtain ⟨ad, cap, rfl⟩ := Sl.shape h
  by_cases hlt : left - xs.length < 0
  · go_enter Try.func115, Try.ntmps115
    go_wp2
    go_ret
    exact ⟨_, rfl, rfl, Or.inl rfl⟩
  · go_enter Try.func115, Try.ntmps115
    go_wp2
    go_ret
    exact ⟨_, rfl, rfl, Or.inr ⟨by omega, by omega, by unfold Bd1; omega⟩⟩

set_option maxHeartbeats 400000 in
theorem sz2_any {lo : Nat} (v : Value) (xs : List (List Int)) (left : Int) (w : World) (h : L2 lo w v xs) (h0 : 0 ≤ left) (h1 : left ≤ 1048576) (hm : Bd2 9223372036854775807 xs) :
    Calls Try.prog 86 #[v, .int .i64 left] w (SzR left (Bd2 1048576 xs) w) := by
  have hm0 : xs.length ≤ 9223372036854775807 := hm.1
  refine Sl.cases h (fun ad cap hx hv => ?_) (fun b o cap hv _ hpos hc => ?_)
  · subst hx hv
    go_enter Try.func86, Try.ntmps86
    go_wp2
    refine wp_loop_rounds 1 ?_
    rw [rounds_succ]
    go_wp2
    go_ret
    exact ⟨_, rfl, rfl, Or.inr ⟨by omega, by omega, by simp [Bd2]⟩⟩
  · subst hv
    clear h
    by_cases hlt : left - xs.length < 0
    · go_enter Try.func86, Try.ntmps86
      go_wp2
      go_ret
      exact ⟨_, rfl, rfl, Or.inl rfl⟩
    · have HM := Lib.hid hm
      have HC := Lib.hid hc
      clear hm hc
      go_enter Try.func86, Try.ntmps86
      go_wp2
      go_loop [1, 5] (fun l i => ∃ (k : Nat) (r : Int), k ≤ xs.length ∧ i = .int .i64 k ∧ l = .int .i64 r ∧ 0 ≤ r ∧ r ≤ left ∧ Hid (∀ j (hj : j < xs.length), j < k → Bd1 1048576 xs[j])) (fun _ i => xs.length - (intOf i).toNat)
      case atStart => exact ⟨0, _, Nat.zero_le _, rfl, rfl, by omega, by omega, Lib.hid (fun _ _ h => absurd h (Nat.not_lt_zero _))⟩
      case round =>
        obtain ⟨k, r, hk, rfl, rfl, hr0, hr1, HD⟩ := hrel
        by_cases hlt2 : k < xs.length
        · obtain ⟨u, hu, hr⟩ := HC.out k hlt2
          have hmu : (xs[k]).length ≤ 9223372036854775807 := HM.out.2 _ (List.getElem_mem hlt2)
          go_wp2_with fail
          refine (sz1_any u xs[k] r _ hr hr0 (by omega) hmu).mono ?_
          rintro e w' ⟨r2, rfl, rfl, hpost⟩
          rcases hpost with rfl | ⟨hp0, hp1, hp2⟩
          · go_wp2
            go_ret
            exact ⟨_, rfl, rfl, Or.inl rfl⟩
          · go_wp2
            go_round
            case rel => exact ⟨k + 1, r2, by omega, by go_num, rfl, hp0, by omega, Lib.hid (fun j hj hjk => by
              by_cases e : j = k
              · subst e; exact hp2
              · exact HD.out j hj (by omega))⟩
            case measure => simp [intOf]; omega
        · go_wp2
          go_ret
          exact ⟨_, rfl, rfl, Or.inr ⟨hr0, hr1, by omega, fun x hx => by
            obtain ⟨j, hj, rfl⟩ := List.getElem_of_mem hx
            exact HD.out j hj (by omega)⟩⟩
end Go.Proofs.Ytpdkfidmmjlmnab

namespace Go.Proofs.Ytpdkfidmmjlmnab
open Go.RowKit

structure Fi (lo : Nat) (w : World) (dv mv lv : Value) (ds : List Int) (ms : List (List (List Int))) (ls : List (List Int)) : Prop where
  cx : Cx lo w dv mv ds ms
  lv : L2 lo w lv ls
theorem Fi.below {lo : Nat} {w w' : World} {dv mv lv : Value} {ds : List Int} {ms : List (List (List Int))} {ls : List (List Int)} (h : Fi lo w dv mv lv ds ms ls) (hb : Below w.heap.size w w') : Fi lo w' dv mv lv ds ms ls := ⟨h.cx.below hb, h.lv.below hb⟩
theorem Fi.zero {lo : Nat} {w : World} {dv mv lv : Value} {ds : List Int} {ms : List (List (List Int))} {ls : List (List Int)} (h : Fi lo w dv mv lv ds ms ls) : Fi 0 w dv mv lv ds ms ls := ⟨h.cx.zero, h.lv.lower (Nat.zero_le _)⟩
theorem Fi.drew {lo : Nat} {w : World} {dv mv lv : Value} {ds : List Int} {ms : List (List (List Int))} {ls : List (List Int)} (h : Fi lo w dv mv lv ds ms ls) : Fi lo w.drew dv mv lv ds ms ls := h.below (Below.refl _ _).drew
theorem Fi.shapes {lo : Nat} {w : World} {dv mv lv : Value} {ds : List Int} {ms : List (List (List Int))} {ls : List (List Int)} (h : Fi lo w dv mv lv ds ms ls) : (∃ a c, dv = .slice a ds.length c) ∧ (∃ a c, mv = .slice a ms.length c) ∧ ∃ a c, lv = .slice a ls.length c := ⟨h.cx.shapes.1, h.cx.shapes.2, Sl.shape h.lv⟩

/-- What stands in the box of a filtered complex, in whatever later world. -/
structure Fx (w wr : World) (b : Nat) (p : Int) (dv mv lv : Value) (ds : List Int) (ms : List (List (List Int))) (ls : List (List Int)) : Prop where
  below : Below w.heap.size w wr
  c0 : wr.cell? ⟨b, 0, none⟩ = some (.int .i64 p)
  c1 : wr.cell? ⟨b, 1, none⟩ = some dv
  c2 : wr.cell? ⟨b, 2, none⟩ = some mv
  c3 : wr.cell? ⟨b, 3, none⟩ = some lv
  lt : b < wr.heap.size
  fi : Fi 0 wr dv mv lv ds ms ls
theorem Fx.next {w wr w' : World} {b : Nat} {p : Int} {dv mv lv : Value} {ds : List Int} {ms : List (List (List Int))} {ls : List (List Int)} (h : Fx w wr b p dv mv lv ds ms ls) (hb : Below wr.heap.size wr w') : Fx w w' b p dv mv lv ds ms ls :=
  ⟨h.below.trans (hb.mono h.below.size), later hb (Nat.le_refl _) h.c0, later hb (Nat.le_refl _) h.c1, later hb (Nat.le_refl _) h.c2, later hb (Nat.le_refl _) h.c3, Nat.lt_of_lt_of_le h.lt hb.size, h.fi.below hb⟩
theorem Fx.start {w : World} {p : Int} {dv mv lv : Value} {ds : List Int} {ms : List (List (List Int))} {ls : List (List Int)} (t : TypeId) (h : Fi 0 w dv mv lv ds ms ls) : Fx w (w.alloc (.cells #[.int .i64 p, dv, mv, lv] t)) w.heap.size p dv mv lv ds ms ls :=
  ⟨(Below.refl _ _).alloc (Nat.le_refl _) _, by simp, by simp, by simp, by simp, by simp, h.below ((Below.refl _ _).alloc (Nat.le_refl _) _)⟩

end Go.Proofs.Ytpdkfidmmjlmnab

namespace Go.Proofs.Ytpdkfidmmjlmnab
open Go.RowKit

end Go.Proofs.Ytpdkfidmmjlmnab

namespace Go.Proofs.Ytpdkfidmmjlmnab
open Go.RowKit

theorem Fx.all {w wr : World} {b : Nat} {p : Int} {dv mv lv : Value} {ds : List Int} {ms : List (List (List Int))} {ls : List (List Int)} (h : Hid (Fx w wr b p dv mv lv ds ms ls)) :
    wr.cell? ⟨b, 0, none⟩ = some (.int .i64 p) ∧ wr.cell? ⟨b, 1, none⟩ = some dv ∧ wr.cell? ⟨b, 2, none⟩ = some mv ∧ wr.cell? ⟨b, 3, none⟩ = some lv ∧ Hid (Fx w wr b p dv mv lv ds ms ls) := ⟨h.out.c0, h.out.c1, h.out.c2, h.out.c3, h⟩

end Go.Proofs.Ytpdkfidmmjlmnab

namespace Go.Proofs.Ytpdkfidmmjlmnab
open Go.RowKit

end Go.Proofs.Ytpdkfidmmjlmnab

namespace Go.Proofs.Ytpdkfidmmjlmnab
open Go.RowKit

theorem CxW.wider {lo hi lo' hi' : Nat} {w : World} {dv mv : Value} {ds : List Int} {ms : List (List (List Int))} (hl : lo' ≤ lo) (hh : hi ≤ hi') (h : CxW lo hi w dv mv ds ms) : CxW lo' hi' w dv mv ds ms := ⟨h.dims.wider hl hh, h.maps.wider hl hh⟩
structure FiW (lo hi : Nat) (w : World) (dv mv lv : Value) (ds : List Int) (ms : List (List (List Int))) (ls : List (List Int)) : Prop where
  cx : CxW lo hi w dv mv ds ms
  lv : W2 lo hi w lv ls
theorem FiW.same {lo hi : Nat} {w w' : World} {dv mv lv : Value} {ds : List Int} {ms : List (List (List Int))} {ls : List (List Int)} (h : FiW lo hi w dv mv lv ds ms ls) (hs : Same lo hi w w') : FiW lo hi w' dv mv lv ds ms ls := ⟨h.cx.same hs, h.lv.same hs⟩
theorem FiW.fi {lo hi : Nat} {w : World} {dv mv lv : Value} {ds : List Int} {ms : List (List (List Int))} {ls : List (List Int)} (h : FiW lo hi w dv mv lv ds ms ls) : Fi lo w dv mv lv ds ms ls := ⟨h.cx.cx, h.lv.l2⟩
theorem CxT.tame {lo hi : Nat} {w w' : World} {dv mv : Value} {ds : List Int} {ms : List (List (List Int))} (h : CxT lo hi w dv mv ds ms) (ht : Tame w w') : CxT lo hi w' dv mv ds ms := ⟨h.dims.tame ht, h.maps.tame ht⟩

end Go.Proofs.Ytpdkfidmmjlmnab


namespace Go.Proofs.Ytpdkfidmmjlmnab
open Go.ChangeShapes Go.WideShapes Go.ChangeAt Go.RowKit Go.Deep

theorem Try.own : ownKnob Try.prog.godebug = none := by kernel_rfl
theorem Try.laidOut : laidOutB Try.prog = true := by kernel_rfl
theorem Try.cellsI : Try.prog.cellsOf 2 = 1 := by kernel_rfl
theorem Try.cellsS : Try.prog.cellsOf 22 = 1 := by kernel_rfl
section
variable {H : Type} {enc : TypeId × Value → H} {P : Program} {w : World} {base : Nat} {held : Bool}

theorem sl_of_trod {α : Type} [Inhabited α] {t e : TypeId} (ht : P.underlying t = some (.slice e)) (hc : P.cellsOf e = 1) {R : World → Value → α → Prop} {B : α → Prop}
    (hR : ∀ fuel v x, DataW.trod enc P w base (fun _ => true) held fuel e [v] = some x → ∃ a, R w v a ∧ B a) {fuel : Nat} {v : Value} {x : DataW H × List MemPlace}
    (h : DataW.trod enc P w base (fun _ => true) held fuel t [v] = some x) : ∃ xs : List α, Sl 0 R w v xs ∧ xs.length ≤ 9223372036854775807 ∧ ∀ a ∈ xs, B a := by
  rcases open_slice1 ht hc h with ⟨hcs, _⟩ | ⟨a, len, cap, m, n, V, D, Pl, hcs, _, hl, hm, hmm, _, hx⟩
  · obtain rfl : v = .slice none 0 0 := by simpa using hcs
    exact ⟨[], Or.inl ⟨rfl, _, _, rfl⟩, by simp, by simp⟩
  · obtain rfl : v = .slice (some a) len cap := by simpa using hcs
    simp only [if_true] at hmm
    have each : ∀ i, i < len → ∃ y : α, R w (V i) y ∧ B y := fun i hi => hR n _ _ (hx i (by omega)).2
    obtain ⟨f, hf⟩ := choose_lt each
    refine ⟨(List.range len).map f, ?_, by simpa [maxLen] using Nat.le_trans hl hm, fun y hy => ?_⟩
    · by_cases h0 : len = 0
      · subst h0
        exact Or.inl ⟨rfl, _, _, rfl⟩
      · obtain ⟨b, off, spot⟩ := a
        have hspot : spot = none := by simpa [Addr.add] using World.cell?_spot (hx 0 (by omega)).1
        subst hspot
        refine Or.inr ⟨b, off, cap, by simp, Nat.zero_le _, by simp; omega, fun k hk => ?_⟩
        have hk' : k < len := by simpa using hk
        refine ⟨V k, by rw [← Go.WideShapes.add_plain]; exact (hx k (by omega)).1, ?_⟩
        simp only [List.getElem_map, List.getElem_range]
        exact (hf k hk').1
    · obtain ⟨i, hi, rfl⟩ := List.mem_map.1 hy
      exact (hf i (by simpa using hi)).2
end

section
variable {H : Type} {enc : TypeId × Value → H} {w : World} {base : Nat} {held : Bool}
theorem l1_of_trod {fuel : Nat} {v : Value} {x : DataW H × List MemPlace} (h : DataW.trod enc Try.prog w base (fun _ => true) held fuel 22 [v] = some x) : ∃ xs, L1 0 w v xs ∧ Bd1 9223372036854775807 xs := by
  obtain ⟨xs, h1, h2, _⟩ := sl_of_trod (R := IsI) (B := fun _ => True) Try.underlying22 Try.cellsI (fun fuel v x hh => by
    obtain ⟨a, e0, _, _⟩ := DataW.trod_int Try.underlying2 hh
    exact ⟨a, by simpa [IsI] using e0, trivial⟩) h
  exact ⟨xs, h1, h2⟩
theorem l2_of_trod {fuel : Nat} {v : Value} {x : DataW H × List MemPlace} (h : DataW.trod enc Try.prog w base (fun _ => true) held fuel 26 [v] = some x) : ∃ xs, L2 0 w v xs ∧ Bd2 9223372036854775807 xs := by
  obtain ⟨xs, h1, h2, h3⟩ := sl_of_trod (R := L1 0) (B := Bd1 9223372036854775807) Try.underlying26 Try.cellsS (fun fuel v x hh => l1_of_trod hh) h
  exact ⟨xs, h1, h2, h3⟩
end
end Go.Proofs.Ytpdkfidmmjlmnab

namespace Go.Proofs.Ytpdkfidmmjlmnab
open Go.ChangeShapes Go.WideShapes Go.ChangeAt Go.RowKit Go.Deep

section
variable {H : Type} {enc : TypeId × Value → H} {w : World} {base : Nat} {held : Bool}
end
end Go.Proofs.Ytpdkfidmmjlmnab

namespace Go.Proofs.Ytpdkfidmmjlmnab

section
variable {P : Program} {rk : Nat → Nat}
theorem closureVia_le {B : Nat} (h : ∀ g, ∀ x ∈ ((P.funcs[g]?).elim [] P.leadsTo), rk x ≤ rk g) : ∀ (fuel : Nat) (todo seen : List FuncId), (∀ x ∈ todo, rk x ≤ B) → (∀ x ∈ seen, rk x ≤ B) → ∀ x ∈ P.closureVia fuel todo seen, rk x ≤ B := by
  intro fuel
  induction fuel with
  | zero => intro todo seen _ h2 x hx; exact h2 x (by simpa [Program.closureVia] using hx)
  | succ n ih =>
    intro todo seen h1 h2 x hx
    cases todo with
    | nil => exact h2 x (by simpa [Program.closureVia] using hx)
    | cons f todo =>
      rw [Program.closureVia] at hx
      have hf := h1 f (List.mem_cons_self ..)
      split at hx
      · exact ih todo seen (fun y hy => h1 y (List.mem_cons_of_mem _ hy)) h2 x hx
      · refine ih _ _ (fun y hy => ?_) (fun y hy => ?_) x hx
        · rcases List.mem_append.1 hy with hy | hy
          · exact Nat.le_trans (h f y hy) hf
          · exact h1 y (List.mem_cons_of_mem _ hy)
        · rcases List.mem_cons.1 hy with rfl | hy
          · exact hf
          · exact h2 y hy
theorem recurses_false {B : Nat} (hle : ∀ g, ∀ x ∈ ((P.funcs[g]?).elim [] P.leadsTo), rk x ≤ rk g) (hlt : ∀ g, rk g < B → ∀ x ∈ ((P.funcs[g]?).elim [] P.leadsTo), rk x < rk g) {f : FuncId} (hf : rk f < B) (hu : P.unfollowed f = false) : P.recurses f = false := by
  unfold Program.recurses
  rw [hu, Bool.false_or, List.any_eq_false]
  intro g hg
  have h0 := closureVia_le (P := P) (rk := rk) (B := rk f) hle _ [f] [] (by simp) (by simp) g hg
  rw [List.any_eq_true]
  rintro ⟨x, hx, hc⟩
  have h1 := closureVia_le (P := P) (rk := rk) (B := rk x) hle _ [x] [] (by simp) (by simp) g (by
    have := List.contains_iff_mem.1 hc
    exact this)
  have h2 := hlt g (by omega) x hx
  omega
/-- The order told by a list. -/
def ranksOk (P : Program) (l : List Nat) : Bool := (List.range P.funcs.size).all fun g => ((P.funcs[g]?).elim [] P.leadsTo).all fun x => decide (l.getD x 0 < l.getD g 0) || (decide (99999 ≤ l.getD g 0) && decide (l.getD x 0 ≤ l.getD g 0))
theorem ranks_le {l : List Nat} (h : ranksOk P l = true) : ∀ g, ∀ x ∈ ((P.funcs[g]?).elim [] P.leadsTo), l.getD x 0 ≤ l.getD g 0 ∧ (l.getD g 0 < 99999 → l.getD x 0 < l.getD g 0) := by
  intro g x hx
  by_cases hg : g < P.funcs.size
  · have h1 := List.all_eq_true.1 h g (List.mem_range.2 hg)
    have h2 := List.all_eq_true.1 h1 x hx
    rcases Bool.or_eq_true_iff.1 h2 with h3 | h3
    · have := of_decide_eq_true h3
      exact ⟨by omega, fun _ => this⟩
    · obtain ⟨h4, h5⟩ := Bool.and_eq_true_iff.1 h3
      have := of_decide_eq_true h4
      exact ⟨of_decide_eq_true h5, fun _ => by omega⟩
  · rw [Array.getElem?_eq_none (by omega)] at hx
    cases hx
end
def Try.ranks : List Nat := [0, 0, 1, 6, 9, 10, 11, 13, 11, 12, 12, 11, 9, 8, 9, 5, 6, 6, 9, 8, 7, 4, 4, 4, 5, 4, 6, 8, 1, 4, 1, 1, 7, 9, 8, 10, 9, 12, 8, 10, 8, 11, 8, 11, 7, 10, 3, 2, 5, 3, 2, 0, 8, 0, 3, 2, 3, 2, 0, 0, 4, 7, 2, 5, 8, 2, 3, 2, 4, 2, 3, 5, 2, 3, 5, 2, 5, 8, 4, 7, 4, 5, 4, 5, 6, 5, 1, 3, 1, 4, 1, 0, 4, 5, 7, 7, 6, 8, 7, 6, 9, 8, 1, 11, 7, 9, 3, 1, 0, 10, 7, 1, 5, 6, 9, 0, 4, 0, 2, 2, 7, 3, 2, 3, 2, 6, 4, 3, 0, 1, 0, 4, 2, 0, 1, 3, 1, 1, 1, 1, 4, 7, 2, 0, 2, 0, 0, 1, 3, 2, 3, 1, 1, 3, 0, 4, 1, 0, 0, 1, 6, 1, 6, 0, 1, 10, 6, 0, 0, 0, 2, 0, 2, 0, 0, 4, 1, 4, 8, 2, 0, 1, 5, 2, 1, 0, 0, 1, 0, 0, 0, 2, 0, 6, 1, 2, 1, 1, 1, 1, 3, 0, 6, 0, 0, 2, 1, 1, 0, 0, 0, 0, 0, 0, 0, 0, 0, 0, 0, 0, 0, 0, 0, 0, 0, 0]
set_option maxRecDepth 100000 in
theorem Try.ranked : ranksOk Try.checked.prog Try.ranks = true := by kernel_rfl
theorem Try.recurses {f : FuncId} (hu : Try.checked.prog.unfollowed f = false) (hf : Try.ranks.getD f 0 < 99999 := by decide) : Try.checked.prog.recurses f = false :=
  recurses_false (fun g x hx => (ranks_le Try.ranked g x hx).1) (fun g hg x hx => (ranks_le Try.ranked g x hx).2 hg) hf hu

/-! The program's head, a line of words: parted once. -/
def sp32 : Char := Char.ofNat 32
theorem ws_sp (r : List Char) : wordsSigns (sp32 :: r) = [] :: wordsSigns r := rfl
theorem ws_cons {c : Char} (h : c ≠ sp32) {r w : List Char} {ws : List (List Char)} (e : wordsSigns r = w :: ws) : wordsSigns (c :: r) = (c :: w) :: ws := by
  rw [wordsSigns.eq_def]
  split
  · rename_i h1; cases h1
  · rename_i h1; injection h1 with h1 _; exact absurd h1 h
  · rename_i h1; injection h1 with h1 h2; subst h1 h2; rw [e]
theorem ws_word (r : List Char) : ∀ w : List Char, (∀ c ∈ w, c ≠ sp32) → wordsSigns (w ++ sp32 :: r) = w :: wordsSigns r := by
  intro w
  induction w with
  | nil => intro _; exact ws_sp r
  | cons c w ih => intro h; exact ws_cons (h c (List.mem_cons_self ..)) (ih fun x hx => h x (List.mem_cons_of_mem _ hx))
theorem ws_last : ∀ w : List Char, (∀ c ∈ w, c ≠ sp32) → wordsSigns w = [w] := by
  intro w
  induction w with
  | nil => intro _; rfl
  | cons c w ih => intro h; exact ws_cons (h c (List.mem_cons_self ..)) (ih fun x hx => h x (List.mem_cons_of_mem _ hx))
def joinWords : List Char → List (List Char) → List Char
  | w, [] => w
  | w, v :: ws => w ++ sp32 :: joinWords v ws
theorem ws_join : ∀ (ws : List (List Char)) (w : List Char), (∀ v ∈ w :: ws, ∀ c ∈ v, c ≠ sp32) → wordsSigns (joinWords w ws) = w :: ws := by
  intro ws
  induction ws with
  | nil => intro w h; exact ws_last w (h w (List.mem_cons_self ..))
  | cons v ws ih => intro w h; rw [joinWords, ws_word _ _ (h w (List.mem_cons_self ..)), ih v (fun x hx => h x (List.mem_cons_of_mem _ hx))]
def Try.doorRows : List (List UInt8) := ([] : List (List Nat)).map fun w => w.map UInt8.ofNat
def Try.headWords : List (List Char) := ([[52, 55, 57, 53, 49, 98, 48, 100, 51, 51, 98, 100, 56, 49, 52, 50, 51, 102, 50, 54, 99, 102, 98, 53, 54, 97, 98, 100, 57, 101, 57, 55, 100, 49, 50, 50, 51, 49, 48, 52, 52, 54, 97, 55, 50, 97, 51, 51, 102, 49, 49, 50, 51, 101, 51, 52, 51, 97, 50, 56, 99, 49, 99, 48], [99, 117, 116], [97, 116], [108, 111, 111, 112, 46, 101, 120, 97, 109, 112, 108, 101, 47, 103, 48, 49, 50, 55, 51, 47, 108, 97, 119, 115, 46, 70, 110, 69, 120, 97, 99, 116, 73, 115, 70, 105, 108, 116, 101, 114, 101, 100], [108, 111, 111, 112, 46, 101, 120, 97, 109, 112, 108, 101, 47, 103, 48, 49, 50, 55, 51, 47, 108, 97, 119, 115, 46, 70, 110, 69, 120, 97, 99, 116, 65, 112, 112, 114, 111, 120, 105, 109, 97, 116, 101, 67, 121, 99, 108, 101, 115], [108, 111, 111, 112, 46, 101, 120, 97, 109, 112, 108, 101, 47, 103, 48, 49, 50, 55, 51, 47, 108, 97, 119, 115, 46, 70, 110, 69, 120, 97, 99, 116, 66, 111, 116, 116, 111, 109, 79, 102], [108, 111, 111, 112, 46, 101, 120, 97, 109, 112, 108, 101, 47, 103, 48, 49, 50, 55, 51, 47, 108, 97, 119, 115, 46, 70, 110, 69, 120, 97, 99, 116, 80, 97, 103, 101, 78, 117, 109, 98, 101, 114], [108, 111, 111, 112, 46, 101, 120, 97, 109, 112, 108, 101, 47, 103, 48, 49, 50, 55, 51, 47, 108, 97, 119, 115, 46, 70, 110, 69, 120, 97, 99, 116, 80, 97, 103, 101, 84, 97, 98, 108, 101], [108, 111, 111, 112, 46, 101, 120, 97, 109, 112, 108, 101, 47, 103, 48, 49, 50, 55, 51, 47, 108, 97, 119, 115, 46, 70, 110, 69, 120, 97, 99, 116, 80, 97, 103, 101, 66, 97, 115, 105, 115], [108, 111, 111, 112, 46, 101, 120, 97, 109, 112, 108, 101, 47, 103, 48, 49, 50, 55, 51, 47, 108, 97, 119, 115, 46, 70, 110, 69, 120, 97, 99, 116, 80, 97, 103, 101, 68, 105, 102, 102, 101, 114, 101, 110, 116, 105, 97, 108], [108, 111, 111, 112, 46, 101, 120, 97, 109, 112, 108, 101, 47, 103, 48, 49, 50, 55, 51, 47, 108, 97, 119, 115, 46, 70, 110, 69, 120, 97, 99, 116, 68, 105, 102, 102, 101, 114, 101, 110, 116, 105, 97, 108, 82, 97, 110, 107], [108, 111, 111, 112, 46, 101, 120, 97, 109, 112, 108, 101, 47, 103, 48, 49, 50, 55, 51, 47, 108, 97, 119, 115, 46, 70, 110, 69, 120, 97, 99, 116, 76, 105, 109, 105, 116, 78, 117, 109, 98, 101, 114], [108, 111, 111, 112, 46, 101, 120, 97, 109, 112, 108, 101, 47, 103, 48, 49, 50, 55, 51, 47, 108, 97, 119, 115, 46, 70, 110, 69, 120, 97, 99, 116, 65, 112, 112, 108, 121, 70, 97, 109, 105, 108, 121], [108, 111, 111, 112, 46, 101, 120, 97, 109, 112, 108, 101, 47, 103, 48, 49, 50, 55, 51, 47, 108, 97, 119, 115, 46, 70, 110, 69, 120, 97, 99, 116, 67, 111, 109, 112, 111, 115, 101, 70, 97, 109, 105, 108, 105, 101, 115], [108, 111, 111, 112, 46, 101, 120, 97, 109, 112, 108, 101, 47, 103, 48, 49, 50, 55, 51, 47, 108, 97, 119, 115, 46, 70, 110, 69, 120, 97, 99, 116, 65, 100, 100, 70, 97, 109, 105, 108, 105, 101, 115], [108, 111, 111, 112, 46, 101, 120, 97, 109, 112, 108, 101, 47, 103, 48, 49, 50, 55, 51, 47, 108, 97, 119, 115, 46, 70, 110, 69, 120, 97, 99, 116, 73, 115, 67, 111, 117, 112, 108, 101], [108, 111, 111, 112, 46, 101, 120, 97, 109, 112, 108, 101, 47, 103, 48, 49, 50, 55, 51, 47, 108, 97, 119, 115, 46, 70, 110, 69, 120, 97, 99, 116, 67, 111, 117, 112, 108, 101, 68, 105, 102, 102, 101, 114, 101, 110, 116, 105, 97, 108], [108, 111, 111, 112, 46, 101, 120, 97, 109, 112, 108, 101, 47, 103, 48, 49, 50, 55, 51, 47, 108, 97, 119, 115, 46, 70, 110, 69, 120, 97, 99, 116, 65, 100, 100, 67, 111, 117, 112, 108, 101, 115], [108, 111, 111, 112, 46, 101, 120, 97, 109, 112, 108, 101, 47, 103, 48, 49, 50, 55, 51, 47, 108, 97, 119, 115, 46, 70, 110, 69, 120, 97, 99, 116, 82, 97, 110, 107, 115, 79, 102], [108, 111, 111, 112, 46, 101, 120, 97, 109, 112, 108, 101, 47, 103, 48, 49, 50, 55, 51, 47, 108, 97, 119, 115, 46, 70, 110, 69, 120, 97, 99, 116, 80, 97, 114, 116, 79, 102], [108, 111, 111, 112, 46, 101, 120, 97, 109, 112, 108, 101, 47, 103, 48, 49, 50, 55, 51, 47, 108, 97, 119, 115, 46, 70, 110, 69, 120, 97, 99, 116, 73, 115, 68, 101, 115, 107]] : List (List Nat)).map fun w => w.map Char.ofNat
def Try.headWord : List Char := ([104, 97, 114, 110, 101, 115, 115] : List Nat).map Char.ofNat
set_option maxRecDepth 100000 in
theorem Try.head_eq : Try.checked.prog.initOrder = String.ofList (joinWords Try.headWord Try.headWords) := by kernel_rfl
set_option maxRecDepth 100000 in
theorem Try.head_ok : ((Try.headWord :: Try.headWords).all fun w => w.all fun c => decide (c ≠ sp32)) = true := by kernel_rfl
theorem Try.head_words : wordsSigns Try.checked.prog.initOrder.toList = Try.headWord :: Try.headWords := by
  rw [Try.head_eq, String.toList_ofList, ws_join]
  intro v hv c hc
  exact of_decide_eq_true (List.all_eq_true.1 (List.all_eq_true.1 Try.head_ok v hv) c hc)
/-! For whatever program with such a head: so the kernel does not run this one's. -/
section
variable {Q : Program} (h : wordsSigns Q.initOrder.toList = Try.headWord :: Try.headWords)
include h
set_option maxRecDepth 100000 in
theorem Try.headLifts_of : Q.headLifts = [] := by
  unfold Program.headLifts
  rw [h]
  kernel_rfl
set_option maxRecDepth 100000 in
theorem Try.liftsFinal_of : Q.liftsFinal = false := by
  unfold Program.liftsFinal
  rw [h, Try.headLifts_of h]
  kernel_rfl
set_option maxRecDepth 100000 in
theorem Try.make_of : Q.make = some .cut := by
  unfold Program.make
  rw [h, Try.headLifts_of h]
  show _ = some Make.cut
  kernel_rfl
set_option maxRecDepth 100000 in
theorem Try.mayEnter_of (h1 : Q.laysLater = false) (h2 : Q.bearsReflect = false) (h3 : Q.doorRows = Try.doorRows) : Q.mayEnter = true := by
  unfold Program.mayEnter
  simp only [h, h1, h2, Program.doorFits, h3]
  show _ = true
  kernel_rfl
end
theorem Try.mayEnter : Try.checked.prog.mayEnter = true := Try.mayEnter_of Try.head_words (by kernel_rfl) (by kernel_rfl) (by kernel_rfl)
theorem Try.liftsFinal : Try.checked.prog.liftsFinal = false := Try.liftsFinal_of Try.head_words
theorem Try.make : Try.checked.prog.make = some .cut := Try.make_of Try.head_words
end Go.Proofs.Ytpdkfidmmjlmnab


namespace Go.Proofs.Ytpdkfidmmjlmnab
open Go.ChangeShapes Go.WideShapes Go.ChangeAt Go.RowKit Go.Deep

structure Cp (lo : Nat) (w : World) (iv jv kv : Value) (il : List (List Int)) (jl : List (List Int)) (kl : List (List Int)) : Prop where
  fi : L2 lo w iv il
  fj : L2 lo w jv jl
  fk : L2 lo w kv kl
theorem Cp.below {lo : Nat} {w w' : World} {iv jv kv : Value} {il : List (List Int)} {jl : List (List Int)} {kl : List (List Int)} (h : Cp lo w iv jv kv il jl kl) (hb : Below w.heap.size w w') : Cp lo w' iv jv kv il jl kl := ⟨h.fi.below hb, h.fj.below hb, h.fk.below hb⟩
theorem Cp.lower {lo lo' : Nat} (hl : lo' ≤ lo) {w : World} {iv jv kv : Value} {il : List (List Int)} {jl : List (List Int)} {kl : List (List Int)} (h : Cp lo w iv jv kv il jl kl) : Cp lo' w iv jv kv il jl kl := ⟨h.fi.lower hl, h.fj.lower hl, h.fk.lower hl⟩
theorem Cp.zero {lo : Nat} {w : World} {iv jv kv : Value} {il : List (List Int)} {jl : List (List Int)} {kl : List (List Int)} (h : Cp lo w iv jv kv il jl kl) : Cp 0 w iv jv kv il jl kl := h.lower (Nat.zero_le _)
theorem Cp.drew {lo : Nat} {w : World} {iv jv kv : Value} {il : List (List Int)} {jl : List (List Int)} {kl : List (List Int)} (h : Cp lo w iv jv kv il jl kl) : Cp lo w.drew iv jv kv il jl kl := h.below (Below.refl _ _).drew
theorem Cp.shapes {lo : Nat} {w : World} {iv jv kv : Value} {il : List (List Int)} {jl : List (List Int)} {kl : List (List Int)} (h : Cp lo w iv jv kv il jl kl) : (∃ a c, iv = .slice a il.length c) ∧ (∃ a c, jv = .slice a jl.length c) ∧ (∃ a c, kv = .slice a kl.length c) := ⟨Sl.shape h.fi, Sl.shape h.fj, Sl.shape h.fk⟩
structure CpB (n : Nat) (il : List (List Int)) (jl : List (List Int)) (kl : List (List Int)) : Prop where
  bi : Bd2 n il
  bj : Bd2 n jl
  bk : Bd2 n kl
structure CpW (lo hi : Nat) (w : World) (iv jv kv : Value) (il : List (List Int)) (jl : List (List Int)) (kl : List (List Int)) : Prop where
  fi : W2 lo hi w iv il
  fj : W2 lo hi w jv jl
  fk : W2 lo hi w kv kl
theorem CpW.same {lo hi : Nat} {w w' : World} {iv jv kv : Value} {il : List (List Int)} {jl : List (List Int)} {kl : List (List Int)} (h : CpW lo hi w iv jv kv il jl kl) (s : Same lo hi w w') : CpW lo hi w' iv jv kv il jl kl := ⟨h.fi.same s, h.fj.same s, h.fk.same s⟩
theorem CpW.cx {lo hi : Nat} {w : World} {iv jv kv : Value} {il : List (List Int)} {jl : List (List Int)} {kl : List (List Int)} (h : CpW lo hi w iv jv kv il jl kl) : Cp lo w iv jv kv il jl kl := ⟨h.fi.l2, h.fj.l2, h.fk.l2⟩
/-- The box of one, in whatever later world. -/
structure BxCp (w wr : World) (b : Nat) (p d e : Int) (iv jv kv : Value) (il : List (List Int)) (jl : List (List Int)) (kl : List (List Int)) : Prop where
  below : Below w.heap.size w wr
  c0 : wr.cell? ⟨b, 0, none⟩ = some (.int .i64 p)
  c1 : wr.cell? ⟨b, 1, none⟩ = some (.int .i64 d)
  c2 : wr.cell? ⟨b, 2, none⟩ = some (.int .i64 e)
  c3 : wr.cell? ⟨b, 3, none⟩ = some (iv)
  c4 : wr.cell? ⟨b, 4, none⟩ = some (jv)
  c5 : wr.cell? ⟨b, 5, none⟩ = some (kv)
  lt : b < wr.heap.size
  cx : Cp 0 wr iv jv kv il jl kl
theorem BxCp.next {w wr w' : World} {b : Nat} {p d e : Int} {iv jv kv : Value} {il : List (List Int)} {jl : List (List Int)} {kl : List (List Int)} (h : BxCp w wr b p d e iv jv kv il jl kl) (hb : Below wr.heap.size wr w') : BxCp w w' b p d e iv jv kv il jl kl :=
  ⟨h.below.trans (hb.mono h.below.size), later hb (Nat.le_refl _) h.c0, later hb (Nat.le_refl _) h.c1, later hb (Nat.le_refl _) h.c2, later hb (Nat.le_refl _) h.c3, later hb (Nat.le_refl _) h.c4, later hb (Nat.le_refl _) h.c5, Nat.lt_of_lt_of_le h.lt hb.size, h.cx.below hb⟩
theorem BxCp.start {w : World} {p d e : Int} {iv jv kv : Value} {il : List (List Int)} {jl : List (List Int)} {kl : List (List Int)} (t : TypeId) (h : Cp 0 w iv jv kv il jl kl) : BxCp w (w.alloc (.cells #[.int .i64 p, .int .i64 d, .int .i64 e, iv, jv, kv] t)) w.heap.size p d e iv jv kv il jl kl :=
  ⟨(Below.refl _ _).alloc (Nat.le_refl _) _, by simp, by simp, by simp, by simp, by simp, by simp, by simp, h.below ((Below.refl _ _).alloc (Nat.le_refl _) _)⟩
structure BqCp (wr : World) (b : Nat) (p d e : Int) (iv jv kv : Value) (il : List (List Int)) (jl : List (List Int)) (kl : List (List Int)) : Prop where
  c0 : wr.cell? ⟨b, 0, none⟩ = some (.int .i64 p)
  c1 : wr.cell? ⟨b, 1, none⟩ = some (.int .i64 d)
  c2 : wr.cell? ⟨b, 2, none⟩ = some (.int .i64 e)
  c3 : wr.cell? ⟨b, 3, none⟩ = some (iv)
  c4 : wr.cell? ⟨b, 4, none⟩ = some (jv)
  c5 : wr.cell? ⟨b, 5, none⟩ = some (kv)
  lt : b < wr.heap.size
  cx : Cp 0 wr iv jv kv il jl kl
theorem BxCp.bq {w wr : World} {b : Nat} {p d e : Int} {iv jv kv : Value} {il : List (List Int)} {jl : List (List Int)} {kl : List (List Int)} (h : BxCp w wr b p d e iv jv kv il jl kl) : BqCp wr b p d e iv jv kv il jl kl := ⟨h.c0, h.c1, h.c2, h.c3, h.c4, h.c5, h.lt, h.cx⟩
theorem BqCp.next {wr w' : World} {b : Nat} {p d e : Int} {iv jv kv : Value} {il : List (List Int)} {jl : List (List Int)} {kl : List (List Int)} (h : BqCp wr b p d e iv jv kv il jl kl) (hb : Below wr.heap.size wr w') : BqCp w' b p d e iv jv kv il jl kl :=
  ⟨later hb (Nat.le_refl _) h.c0, later hb (Nat.le_refl _) h.c1, later hb (Nat.le_refl _) h.c2, later hb (Nat.le_refl _) h.c3, later hb (Nat.le_refl _) h.c4, later hb (Nat.le_refl _) h.c5, Nat.lt_of_lt_of_le h.lt hb.size, h.cx.below hb⟩
theorem BqCp.only {wr w' : World} {b lo hi : Nat} {p d e : Int} {iv jv kv : Value} {il : List (List Int)} {jl : List (List Int)} {kl : List (List Int)} (h : BqCp wr b p d e iv jv kv il jl kl) (ho : Only lo hi wr w') (hc : Cp 0 w' iv jv kv il jl kl) (hb : b < lo ∨ hi ≤ b) : BqCp w' b p d e iv jv kv il jl kl :=
  ⟨(ho.cell hb).trans h.c0, (ho.cell hb).trans h.c1, (ho.cell hb).trans h.c2, (ho.cell hb).trans h.c3, (ho.cell hb).trans h.c4, (ho.cell hb).trans h.c5, by have := ho.size; have := h.lt; omega, hc⟩
theorem bxCp_two {w : World} {p d e : Int} {p2 d2 e2 : Int} {iv jv kv : Value} {iv2 jv2 kv2 : Value} {il : List (List Int)} {jl : List (List Int)} {kl : List (List Int)} {il2 : List (List Int)} {jl2 : List (List Int)} {kl2 : List (List Int)} (t : TypeId) (h : Cp 0 w iv jv kv il jl kl) (h2 : Cp 0 w iv2 jv2 kv2 il2 jl2 kl2) :
    BxCp w ((w.alloc (.cells #[.int .i64 p, .int .i64 d, .int .i64 e, iv, jv, kv] t)).alloc (.cells #[.int .i64 p2, .int .i64 d2, .int .i64 e2, iv2, jv2, kv2] t)) w.heap.size p d e iv jv kv il jl kl ∧ BxCp w ((w.alloc (.cells #[.int .i64 p, .int .i64 d, .int .i64 e, iv, jv, kv] t)).alloc (.cells #[.int .i64 p2, .int .i64 d2, .int .i64 e2, iv2, jv2, kv2] t)) (w.heap.size + 1) p2 d2 e2 iv2 jv2 kv2 il2 jl2 kl2 := by
  have b1 : Below w.heap.size w (w.alloc (.cells #[.int .i64 p, .int .i64 d, .int .i64 e, iv, jv, kv] t)) := below_alloc1 _ _
  refine ⟨(BxCp.start t h).next (below_alloc1 _ _), ?_⟩
  have := BxCp.start (p := p2) (d := d2) (e := e2) t (h2.below b1)
  have hs : (w.alloc (.cells #[.int .i64 p, .int .i64 d, .int .i64 e, iv, jv, kv] t)).heap.size = w.heap.size + 1 := by simp
  rw [hs] at this
  exact ⟨b1.trans (this.below.mono (by omega)), this.c0, this.c1, this.c2, this.c3, this.c4, this.c5, this.lt, this.cx⟩

set_option maxHeartbeats 800000 in
theorem szCouple_any (p d e : Int) (iv jv kv : Value) (il : List (List Int)) (jl : List (List Int)) (kl : List (List Int)) (left : Int) (w : World) (h : Cp 0 w iv jv kv il jl kl) (h0 : 0 ≤ left) (h1 : left ≤ 1048576) (hml : CpB 9223372036854775807 il jl kl) :
    Calls Try.prog 65 #[.agg #[.int .i64 p, .int .i64 d, .int .i64 e, iv, jv, kv], .int .i64 left] w (SzB left (CpB 1048576 il jl kl) w) := by
  have H := Lib.hid h
  have HML := Lib.hid hml
  have HB : Hid (Below w.heap.size w (w.alloc (.cells #[.int .i64 p, .int .i64 d, .int .i64 e, iv, jv, kv] 68))) := Lib.hid ((Below.refl _ _).alloc (Nat.le_refl _) _)
  clear h hml
  go_enter Try.func65, Try.ntmps65
  go_wp2_with fail
  refine (sz2_any (lo := 0) iv il left _ (H.out.fi.below HB.out) h0 (by omega) HML.out.bi).mono ?_
  rintro ee w' ⟨r0, rfl, rfl, hpost⟩
  rcases hpost with rfl | ⟨hp0, hq0, hbb⟩
  · go_wp2
    go_ret
    exact ⟨_, rfl, HB.out, Or.inl rfl⟩
  have HBB0 := Lib.hid hbb
  clear hbb
  go_wp2_with fail
  refine (sz2_any (lo := 0) jv jl r0 _ (H.out.fj.below HB.out) hp0 (by omega) HML.out.bj).mono ?_
  rintro ee w' ⟨r1, rfl, rfl, hpost⟩
  rcases hpost with rfl | ⟨hp1, hq1, hbb⟩
  · go_wp2
    go_ret
    exact ⟨_, rfl, HB.out, Or.inl rfl⟩
  have HBB1 := Lib.hid hbb
  clear hbb
  go_wp2_with fail
  refine (sz2_any (lo := 0) kv kl r1 _ (H.out.fk.below HB.out) hp1 (by omega) HML.out.bk).mono ?_
  rintro ee w' ⟨r2, rfl, rfl, hpost⟩
  rcases hpost with rfl | ⟨hp2, hq2, hbb⟩
  · go_wp2
    go_ret
    exact ⟨_, rfl, HB.out, Or.inl rfl⟩
  have HBB2 := Lib.hid hbb
  clear hbb
  go_wp2
  go_ret
  exact ⟨_, rfl, HB.out, Or.inr ⟨hp2, by omega, ⟨HBB0.out, HBB1.out, HBB2.out⟩⟩⟩
def ToCp (p d e : Int) (il : List (List Int)) (jl : List (List Int)) (kl : List (List Int)) (w : World) (e' : Ending) (w' : World) : Prop := ∃ iv jv kv, e' = .returned (.agg #[.int .i64 p, .int .i64 d, .int .i64 e, iv, jv, kv]) ∧ Cp w.heap.size w' iv jv kv il jl kl ∧ Below w.heap.size w w'

set_option maxHeartbeats 1600000 in
theorem toCouple_any (p d e : Int) (iv jv kv : Value) (il : List (List Int)) (jl : List (List Int)) (kl : List (List Int)) (w : World) (h : Cp 0 w iv jv kv il jl kl) (hm : CpB 1048576 il jl kl) :
    Calls Try.prog 67 #[.agg #[.int .i64 p, .int .i64 d, .int .i64 e, iv, jv, kv]] w (ToCp p d e il jl kl w) := by
  have H := Lib.hid h
  have HM := Lib.hid hm
  clear h hm
  have hres : Try.f67.results = #[.cell 2 71] := by kernel_rfl
  have HRES := Lib.hid hres
  clear hres
  have HB0 : Hid (Below w.heap.size w (((w.alloc (.cells #[.int .i64 p, .int .i64 d, .int .i64 e, iv, jv, kv] 68)).alloc (.cells #[.int .i64 0, .int .i64 0, .int .i64 0, .slice none 0 0, .slice none 0 0, .slice none 0 0] 71)).alloc (.cells #[.int .i64 p, .int .i64 d, .int .i64 e, .slice none 0 0, .slice none 0 0, .slice none 0 0] 71))) := Lib.hid ((((Below.refl _ _).alloc (Nat.le_refl _) _).alloc (by simp) _).alloc (by simp; omega) _)
  have hz0 : w.heap.size + 3 = (((w.alloc (.cells #[.int .i64 p, .int .i64 d, .int .i64 e, iv, jv, kv] 68)).alloc (.cells #[.int .i64 0, .int .i64 0, .int .i64 0, .slice none 0 0, .slice none 0 0, .slice none 0 0] 71)).alloc (.cells #[.int .i64 p, .int .i64 d, .int .i64 e, .slice none 0 0, .slice none 0 0, .slice none 0 0] 71)).heap.size := by simp
  have HZ0 := Lib.hid hz0
  clear hz0
  go_enter Try.func67, Try.ntmps67
  go_wp2_with fail
  refine (to2_any iv il _ (H.out.fi.below HB0.out) HM.out.bi).mono ?_
  rintro ee w1 ⟨u0, rfl, hr, hb⟩
  obtain ⟨ai, ci, rfl⟩ := Sl.shape hr
  have hs0 : w.heap.size + 3 ≤ w1.heap.size := by have := hb.size; simp at this; omega
  obtain ⟨hc0, hf0⟩ := bcell hb
  have HB0b := Lib.hid (HB0.out.trans (hb.mono (by first | omega | (simp; omega) | simp)))
  have HRi : Hid (L2 (w.heap.size + 1 + 1 + 1) w1 (.slice ai il.length ci) il) := Lib.hid (hr.lower (by first | omega | (simp; omega) | simp))
  clear hr hb
  have hzx0 : w.heap.size < w1.heap.size := by omega
  have hzz0 : w.heap.size + 1 < w1.heap.size := by omega
  have hzy0 : w.heap.size + 1 + 1 < w1.heap.size := by omega
  have HB0c : Hid (Below w.heap.size w (w1.setCell ⟨w.heap.size + 1 + 1, 3, none⟩ (.slice ai il.length ci))) := Lib.hid (HB0b.out.setCell (by show w.heap.size ≤ w.heap.size + 1 + 1; omega) _)
  have HRi' : Hid (L2 (w.heap.size + 1 + 1 + 1) (w1.setCell ⟨w.heap.size + 1 + 1, 3, none⟩ (.slice ai il.length ci)) (.slice ai il.length ci) il) := Lib.hid (stable2 _ _ _ _ _ (Keep.set _ (Nat.lt_succ_self _)) HRi.out)
  clear HRi
  have HRi := HRi'
  clear HRi'
  go_wp2_with fail
  refine (to2_any jv jl _ (H.out.fj.below HB0c.out) HM.out.bj).mono ?_
  rintro ee w2 ⟨u1, rfl, hr, hb⟩
  obtain ⟨aj, cj, rfl⟩ := Sl.shape hr
  have hs1 : w1.heap.size ≤ w2.heap.size := by have := hb.size; simpa using this
  obtain ⟨hc1, hf1⟩ := bcell hb
  have HB1b := Lib.hid (HB0c.out.trans (hb.mono (by first | omega | (simp; omega) | simp)))
  have HRi' := Lib.hid (HRi.out.below hb)
  clear HRi
  have HRi := HRi'
  clear HRi'
  have HRj : Hid (L2 (w.heap.size + 1 + 1 + 1) w2 (.slice aj jl.length cj) jl) := Lib.hid (hr.lower (by first | omega | (simp; omega) | simp))
  clear hr hb
  have hzx1 : w.heap.size < w2.heap.size := by omega
  have hzz1 : w.heap.size + 1 < w2.heap.size := by omega
  have hzy1 : w.heap.size + 1 + 1 < w2.heap.size := by omega
  have HB1c : Hid (Below w.heap.size w (w2.setCell ⟨w.heap.size + 1 + 1, 4, none⟩ (.slice aj jl.length cj))) := Lib.hid (HB1b.out.setCell (by show w.heap.size ≤ w.heap.size + 1 + 1; omega) _)
  have HRi' : Hid (L2 (w.heap.size + 1 + 1 + 1) (w2.setCell ⟨w.heap.size + 1 + 1, 4, none⟩ (.slice aj jl.length cj)) (.slice ai il.length ci) il) := Lib.hid (stable2 _ _ _ _ _ (Keep.set _ (Nat.lt_succ_self _)) HRi.out)
  clear HRi
  have HRi := HRi'
  clear HRi'
  have HRj' : Hid (L2 (w.heap.size + 1 + 1 + 1) (w2.setCell ⟨w.heap.size + 1 + 1, 4, none⟩ (.slice aj jl.length cj)) (.slice aj jl.length cj) jl) := Lib.hid (stable2 _ _ _ _ _ (Keep.set _ (Nat.lt_succ_self _)) HRj.out)
  clear HRj
  have HRj := HRj'
  clear HRj'
  go_wp2_with fail
  refine (to2_any kv kl _ (H.out.fk.below HB1c.out) HM.out.bk).mono ?_
  rintro ee w3 ⟨u2, rfl, hr, hb⟩
  obtain ⟨ak, ck, rfl⟩ := Sl.shape hr
  have hs2 : w2.heap.size ≤ w3.heap.size := by have := hb.size; simpa using this
  obtain ⟨hc2, hf2⟩ := bcell hb
  have HB2b := Lib.hid (HB1c.out.trans (hb.mono (by first | omega | (simp; omega) | simp)))
  have HRi' := Lib.hid (HRi.out.below hb)
  have HRj' := Lib.hid (HRj.out.below hb)
  clear HRi
  have HRi := HRi'
  clear HRi'
  clear HRj
  have HRj := HRj'
  clear HRj'
  have HRk : Hid (L2 (w.heap.size + 1 + 1 + 1) w3 (.slice ak kl.length ck) kl) := Lib.hid (hr.lower (by first | omega | (simp; omega) | simp))
  clear hr hb
  have hzx2 : w.heap.size < w3.heap.size := by omega
  have hzz2 : w.heap.size + 1 < w3.heap.size := by omega
  have hzy2 : w.heap.size + 1 + 1 < w3.heap.size := by omega
  go_wp2
  refine bodyPost_ret (v := .agg #[.int .i64 p, .int .i64 d, .int .i64 e, .slice ai il.length ci, .slice aj jl.length cj, .slice ak kl.length ck]) ?_ rfl ?_
  · simp only [results, HRES.out]
    go_simp
  · have hk : Keep (w.heap.size + 1 + 1 + 1) w3 (((((((w3.setCell ⟨w.heap.size + 1 + 1, 5, none⟩ (.slice ak kl.length ck)).setCell ⟨w.heap.size + 1, 0, none⟩ (.int .i64 p)).setCell ⟨w.heap.size + 1, 1, none⟩ (.int .i64 d)).setCell ⟨w.heap.size + 1, 2, none⟩ (.int .i64 e)).setCell ⟨w.heap.size + 1, 3, none⟩ (.slice ai il.length ci)).setCell ⟨w.heap.size + 1, 4, none⟩ (.slice aj jl.length cj)).setCell ⟨w.heap.size + 1, 5, none⟩ (.slice ak kl.length ck)) := (((((((Keep.set _ (by omega)).trans (Keep.set _ (by omega))).trans (Keep.set _ (by omega))).trans (Keep.set _ (by omega))).trans (Keep.set _ (by omega))).trans (Keep.set _ (by omega))).trans (Keep.set _ (by omega)))
    refine ⟨_, _, _, rfl, ⟨?_, ?_, ?_⟩, ?_⟩
    · exact (stable2 _ _ _ _ _ hk HRi.out).lower (by omega)
    · exact (stable2 _ _ _ _ _ hk HRj.out).lower (by omega)
    · exact (stable2 _ _ _ _ _ hk HRk.out).lower (by omega)
    · exact (((((((HB2b.out.setCell (by show w.heap.size ≤ w.heap.size + 1 + 1; omega) _).setCell (by show w.heap.size ≤ w.heap.size + 1; omega) _).setCell (by show w.heap.size ≤ w.heap.size + 1; omega) _).setCell (by show w.heap.size ≤ w.heap.size + 1; omega) _).setCell (by show w.heap.size ≤ w.heap.size + 1; omega) _).setCell (by show w.heap.size ≤ w.heap.size + 1; omega) _).setCell (by show w.heap.size ≤ w.heap.size + 1; omega) _)
def ToCpW (p d e : Int) (il : List (List Int)) (jl : List (List Int)) (kl : List (List Int)) (w : World) (e' : Ending) (w' : World) : Prop := ∃ iv jv kv, e' = .returned (.agg #[.int .i64 p, .int .i64 d, .int .i64 e, iv, jv, kv]) ∧ CpW w.heap.size w'.heap.size w' iv jv kv il jl kl ∧ Below w.heap.size w w'

set_option maxHeartbeats 1600000 in
theorem toCouplew_any (p d e : Int) (iv jv kv : Value) (il : List (List Int)) (jl : List (List Int)) (kl : List (List Int)) (w : World) (h : Cp 0 w iv jv kv il jl kl) (hm : CpB 1048576 il jl kl) :
    Calls Try.prog 67 #[.agg #[.int .i64 p, .int .i64 d, .int .i64 e, iv, jv, kv]] w (ToCpW p d e il jl kl w) := by
  have H := Lib.hid h
  have HM := Lib.hid hm
  clear h hm
  have hres : Try.f67.results = #[.cell 2 71] := by kernel_rfl
  have HRES := Lib.hid hres
  clear hres
  have HB0 : Hid (Below w.heap.size w (((w.alloc (.cells #[.int .i64 p, .int .i64 d, .int .i64 e, iv, jv, kv] 68)).alloc (.cells #[.int .i64 0, .int .i64 0, .int .i64 0, .slice none 0 0, .slice none 0 0, .slice none 0 0] 71)).alloc (.cells #[.int .i64 p, .int .i64 d, .int .i64 e, .slice none 0 0, .slice none 0 0, .slice none 0 0] 71))) := Lib.hid ((((Below.refl _ _).alloc (Nat.le_refl _) _).alloc (by simp) _).alloc (by simp; omega) _)
  have hz0 : w.heap.size + 3 = (((w.alloc (.cells #[.int .i64 p, .int .i64 d, .int .i64 e, iv, jv, kv] 68)).alloc (.cells #[.int .i64 0, .int .i64 0, .int .i64 0, .slice none 0 0, .slice none 0 0, .slice none 0 0] 71)).alloc (.cells #[.int .i64 p, .int .i64 d, .int .i64 e, .slice none 0 0, .slice none 0 0, .slice none 0 0] 71)).heap.size := by simp
  have HZ0 := Lib.hid hz0
  clear hz0
  go_enter Try.func67, Try.ntmps67
  go_wp2_with fail
  refine (to2w_any iv il _ (H.out.fi.below HB0.out) HM.out.bi).mono ?_
  rintro ee w1 ⟨u0, rfl, hr, hb⟩
  obtain ⟨ai, ci, rfl⟩ := Sw.shape hr
  have hs0 : w.heap.size + 3 ≤ w1.heap.size := by have := hb.size; simp at this; omega
  obtain ⟨hc0, hf0⟩ := bcell hb
  have HB0b := Lib.hid (HB0.out.trans (hb.mono (by first | omega | (simp; omega) | simp)))
  have HRi : Hid (W2 (w.heap.size + 1 + 1 + 1) (w1.heap.size) w1 (.slice ai il.length ci) il) := Lib.hid (hr.wider (by first | omega | (simp; omega) | simp) (Nat.le_refl _))
  clear hr hb
  have hzx0 : w.heap.size < w1.heap.size := by omega
  have hzz0 : w.heap.size + 1 < w1.heap.size := by omega
  have hzy0 : w.heap.size + 1 + 1 < w1.heap.size := by omega
  have HB0c : Hid (Below w.heap.size w (w1.setCell ⟨w.heap.size + 1 + 1, 3, none⟩ (.slice ai il.length ci))) := Lib.hid (HB0b.out.setCell (by show w.heap.size ≤ w.heap.size + 1 + 1; omega) _)
  have HRi' : Hid (W2 (w.heap.size + 1 + 1 + 1) (w1.heap.size) (w1.setCell ⟨w.heap.size + 1 + 1, 3, none⟩ (.slice ai il.length ci)) (.slice ai il.length ci) il) := Lib.hid (HRi.out.same (Same.set _ (Or.inl (Nat.lt_succ_self _))))
  clear HRi
  have HRi := HRi'
  clear HRi'
  go_wp2_with fail
  refine (to2w_any jv jl _ (H.out.fj.below HB0c.out) HM.out.bj).mono ?_
  rintro ee w2 ⟨u1, rfl, hr, hb⟩
  obtain ⟨aj, cj, rfl⟩ := Sw.shape hr
  have hs1 : w1.heap.size ≤ w2.heap.size := by have := hb.size; simpa using this
  obtain ⟨hc1, hf1⟩ := bcell hb
  have HB1b := Lib.hid (HB0c.out.trans (hb.mono (by first | omega | (simp; omega) | simp)))
  have HRi' := Lib.hid (HRi.out.same (Same.of_below hb (by simp)))
  clear HRi
  have HRi := HRi'
  clear HRi'
  have HRj : Hid (W2 (w.heap.size + 1 + 1 + 1) (w2.heap.size) w2 (.slice aj jl.length cj) jl) := Lib.hid (hr.wider (by first | omega | (simp; omega) | simp) (Nat.le_refl _))
  clear hr hb
  have hzx1 : w.heap.size < w2.heap.size := by omega
  have hzz1 : w.heap.size + 1 < w2.heap.size := by omega
  have hzy1 : w.heap.size + 1 + 1 < w2.heap.size := by omega
  have HRi' : Hid (W2 (w.heap.size + 1 + 1 + 1) (w2.heap.size) w2 (.slice ai il.length ci) il) := Lib.hid (HRi.out.wider (Nat.le_refl _) (by omega))
  clear HRi
  have HRi := HRi'
  clear HRi'
  have HB1c : Hid (Below w.heap.size w (w2.setCell ⟨w.heap.size + 1 + 1, 4, none⟩ (.slice aj jl.length cj))) := Lib.hid (HB1b.out.setCell (by show w.heap.size ≤ w.heap.size + 1 + 1; omega) _)
  have HRi' : Hid (W2 (w.heap.size + 1 + 1 + 1) (w2.heap.size) (w2.setCell ⟨w.heap.size + 1 + 1, 4, none⟩ (.slice aj jl.length cj)) (.slice ai il.length ci) il) := Lib.hid (HRi.out.same (Same.set _ (Or.inl (Nat.lt_succ_self _))))
  clear HRi
  have HRi := HRi'
  clear HRi'
  have HRj' : Hid (W2 (w.heap.size + 1 + 1 + 1) (w2.heap.size) (w2.setCell ⟨w.heap.size + 1 + 1, 4, none⟩ (.slice aj jl.length cj)) (.slice aj jl.length cj) jl) := Lib.hid (HRj.out.same (Same.set _ (Or.inl (Nat.lt_succ_self _))))
  clear HRj
  have HRj := HRj'
  clear HRj'
  go_wp2_with fail
  refine (to2w_any kv kl _ (H.out.fk.below HB1c.out) HM.out.bk).mono ?_
  rintro ee w3 ⟨u2, rfl, hr, hb⟩
  obtain ⟨ak, ck, rfl⟩ := Sw.shape hr
  have hs2 : w2.heap.size ≤ w3.heap.size := by have := hb.size; simpa using this
  obtain ⟨hc2, hf2⟩ := bcell hb
  have HB2b := Lib.hid (HB1c.out.trans (hb.mono (by first | omega | (simp; omega) | simp)))
  have HRi' := Lib.hid (HRi.out.same (Same.of_below hb (by simp)))
  have HRj' := Lib.hid (HRj.out.same (Same.of_below hb (by simp)))
  clear HRi
  have HRi := HRi'
  clear HRi'
  clear HRj
  have HRj := HRj'
  clear HRj'
  have HRk : Hid (W2 (w.heap.size + 1 + 1 + 1) (w3.heap.size) w3 (.slice ak kl.length ck) kl) := Lib.hid (hr.wider (by first | omega | (simp; omega) | simp) (Nat.le_refl _))
  clear hr hb
  have hzx2 : w.heap.size < w3.heap.size := by omega
  have hzz2 : w.heap.size + 1 < w3.heap.size := by omega
  have hzy2 : w.heap.size + 1 + 1 < w3.heap.size := by omega
  have HRi' : Hid (W2 (w.heap.size + 1 + 1 + 1) (w3.heap.size) w3 (.slice ai il.length ci) il) := Lib.hid (HRi.out.wider (Nat.le_refl _) (by omega))
  clear HRi
  have HRi := HRi'
  clear HRi'
  have HRj' : Hid (W2 (w.heap.size + 1 + 1 + 1) (w3.heap.size) w3 (.slice aj jl.length cj) jl) := Lib.hid (HRj.out.wider (Nat.le_refl _) (by omega))
  clear HRj
  have HRj := HRj'
  clear HRj'
  go_wp2
  refine bodyPost_ret (v := .agg #[.int .i64 p, .int .i64 d, .int .i64 e, .slice ai il.length ci, .slice aj jl.length cj, .slice ak kl.length ck]) ?_ rfl ?_
  · simp only [results, HRES.out]
    go_simp
  · have hk : ∀ hi, Same (w.heap.size + 1 + 1 + 1) hi w3 (((((((w3.setCell ⟨w.heap.size + 1 + 1, 5, none⟩ (.slice ak kl.length ck)).setCell ⟨w.heap.size + 1, 0, none⟩ (.int .i64 p)).setCell ⟨w.heap.size + 1, 1, none⟩ (.int .i64 d)).setCell ⟨w.heap.size + 1, 2, none⟩ (.int .i64 e)).setCell ⟨w.heap.size + 1, 3, none⟩ (.slice ai il.length ci)).setCell ⟨w.heap.size + 1, 4, none⟩ (.slice aj jl.length cj)).setCell ⟨w.heap.size + 1, 5, none⟩ (.slice ak kl.length ck)) := fun hi => (((((((Same.set _ (Or.inl (by omega))).trans (Same.set _ (Or.inl (by omega)))).trans (Same.set _ (Or.inl (by omega)))).trans (Same.set _ (Or.inl (by omega)))).trans (Same.set _ (Or.inl (by omega)))).trans (Same.set _ (Or.inl (by omega)))).trans (Same.set _ (Or.inl (by omega))))
    refine ⟨_, _, _, rfl, ⟨?_, ?_, ?_⟩, ?_⟩
    · exact (HRi.out.same (hk _)).wider (by omega) (by simp)
    · exact (HRj.out.same (hk _)).wider (by omega) (by simp)
    · exact (HRk.out.same (hk _)).wider (by omega) (by simp)
    · exact (((((((HB2b.out.setCell (by show w.heap.size ≤ w.heap.size + 1 + 1; omega) _).setCell (by show w.heap.size ≤ w.heap.size + 1; omega) _).setCell (by show w.heap.size ≤ w.heap.size + 1; omega) _).setCell (by show w.heap.size ≤ w.heap.size + 1; omega) _).setCell (by show w.heap.size ≤ w.heap.size + 1; omega) _).setCell (by show w.heap.size ≤ w.heap.size + 1; omega) _).setCell (by show w.heap.size ≤ w.heap.size + 1; omega) _)

set_option maxHeartbeats 1600000 in
theorem eqCouple_true (p d e : Int) (iv jv kv : Value) (iv2 jv2 kv2 : Value) (il : List (List Int)) (jl : List (List Int)) (kl : List (List Int)) (w : World) (h : Cp 0 w iv jv kv il jl kl) (h2 : Cp 0 w iv2 jv2 kv2 il jl kl) (hm : CpB 1048576 il jl kl) :
    Calls Try.prog 69 #[.agg #[.int .i64 p, .int .i64 d, .int .i64 e, iv, jv, kv], .agg #[.int .i64 p, .int .i64 d, .int .i64 e, iv2, jv2, kv2]] w (BR (.bool true) w) := by
  have HM := Lib.hid hm
  have HB0 : Hid (Below w.heap.size w ((w.alloc (.cells #[.int .i64 p, .int .i64 d, .int .i64 e, iv, jv, kv] 71)).alloc (.cells #[.int .i64 p, .int .i64 d, .int .i64 e, iv2, jv2, kv2] 71))) := Lib.hid (((Below.refl _ _).alloc (Nat.le_refl _) _).alloc (by simp) _)
  have H := Lib.hid (h.below HB0.out)
  have H2 := Lib.hid (h2.below HB0.out)
  clear hm h h2
  go_enter Try.func69, Try.ntmps69
  go_wp2_with fail
  have h1 := eq2_any iv iv2 il il _ H.out.fi H2.out.fi HM.out.bi HM.out.bi
  rw [decide_eq_true rfl] at h1
  refine h1.mono ?_
  clear h1
  rintro ee w' ⟨rfl, m0, rfl⟩
  go_wp2_with fail
  have h1 := eq2_any jv jv2 jl jl _ (H.out.fj.below (drewN_below _ (m0))) (H2.out.fj.below (drewN_below _ (m0))) HM.out.bj HM.out.bj
  rw [decide_eq_true rfl] at h1
  refine h1.mono ?_
  clear h1
  rintro ee w' ⟨rfl, m1, rfl⟩
  go_wp2_with fail
  have h1 := eq2_any kv kv2 kl kl _ (H.out.fk.below (drewN_below _ (m0 + m1))) (H2.out.fk.below (drewN_below _ (m0 + m1))) HM.out.bk HM.out.bk
  rw [decide_eq_true rfl] at h1
  refine h1.mono ?_
  clear h1
  rintro ee w' ⟨rfl, m2, rfl⟩
  go_wp2
  go_ret
  exact ⟨rfl, HB0.out.trans ((drewN_below _ (m0 + m1 + m2)).mono HB0.out.size)⟩
structure CpT (lo hi : Nat) (w : World) (iv jv kv : Value) (il : List (List Int)) (jl : List (List Int)) (kl : List (List Int)) : Prop where
  fi : T2 lo hi w iv il
  fj : T2 lo hi w jv jl
  fk : T2 lo hi w kv kl
theorem CpW.t {lo hi : Nat} {w : World} {iv jv kv : Value} {il : List (List Int)} {jl : List (List Int)} {kl : List (List Int)} (h : CpW lo hi w iv jv kv il jl kl) : CpT lo hi w iv jv kv il jl kl := ⟨h.fi.t2, h.fj.t2, h.fk.t2⟩

set_option maxHeartbeats 1600000 in
theorem markCoupleK_any {lo hi : Nat} (kk : Int) (p d e : Int) (iv jv kv : Value) (il : List (List Int)) (jl : List (List Int)) (kl : List (List Int)) (w : World) (h : CpW lo hi w iv jv kv il jl kl) (hh : hi ≤ w.heap.size) (hm : CpB 1048576 il jl kl) (hk0 : 0 ≤ kk) (hk1 : kk ≤ 4611686018427387904) :
    Calls Try.prog 72 #[.agg #[.int .i64 p, .int .i64 d, .int .i64 e, iv, jv, kv], .int .i64 kk] w (MarkC lo hi kk w) := by
  have HM := Lib.hid hm
  have hb0 : Below w.heap.size w (w.alloc (.cells #[.int .i64 p, .int .i64 d, .int .i64 e, iv, jv, kv] 71)) := (Below.refl _ _).alloc (Nat.le_refl _) _
  have HC := Lib.hid (h.same (Same.of_below hb0 hh)).t
  have HB0 := Lib.hid hb0
  have hmli : il.length ≤ 1048576 := hm.bi.1
  have hmlj : jl.length ≤ 1048576 := hm.bj.1
  have hmlk : kl.length ≤ 1048576 := hm.bk.1
  clear h hm hb0
  go_enter Try.func72, Try.ntmps72
  go_wp2_with fail
  refine (mark2_any iv il kk _ HC.out.fi HM.out.bi (by omega) (by omega)).mono ?_
  rintro ee w1 ⟨r0, rfl, hs00, hs01, ho, ht⟩
  have c04 : w1.cell? ⟨w.heap.size, 4, none⟩ = some jv := (ho.cell (Or.inr hh)).trans (by simp)
  have c05 : w1.cell? ⟨w.heap.size, 5, none⟩ = some kv := (ho.cell (Or.inr hh)).trans (by simp)
  have HO0 := Lib.hid (And.intro ho ht)
  clear ho ht
  go_wp2_with fail
  refine (mark2_any jv jl r0 _ (HC.out.fj.tame HO0.out.2) HM.out.bj (by omega) (by omega)).mono ?_
  rintro ee w2 ⟨r1, rfl, hs10, hs11, ho, ht⟩
  have c15 : w2.cell? ⟨w.heap.size, 5, none⟩ = some kv := (ho.cell (Or.inr hh)).trans c05
  clear c04 c05
  have HO1 := Lib.hid (And.intro (HO0.out.1.trans ho) (HO0.out.2.trans ht))
  clear ho ht
  go_wp2_with fail
  refine (mark2_any kv kl r1 _ (HC.out.fk.tame HO1.out.2) HM.out.bk (by omega) (by omega)).mono ?_
  rintro ee w3 ⟨r2, rfl, hs20, hs21, ho, ht⟩
  clear c15
  have HO2 := Lib.hid (And.intro (HO1.out.1.trans ho) (HO1.out.2.trans ht))
  clear ho ht
  go_wp2
  go_ret
  exact ⟨r2, _, rfl, by omega, by omega, HB0.out, HO2.out.1, HO2.out.2⟩
theorem array6x {α : Type} {cs : Array α} (h : cs.size = 6) : ∃ c0 c1 c2 c3 c4 c5, cs = #[c0, c1, c2, c3, c4, c5] := by
  obtain ⟨l⟩ := cs
  match l, h with
  | [c0, c1, c2, c3, c4, c5], _ => exact ⟨c0, c1, c2, c3, c4, c5, rfl⟩
theorem Try.cellsCp : Try.prog.cellsOf 68 = 6 := by kernel_rfl
section
variable {H : Type} {enc : TypeId × Value → H} {P : Program} {w : World} {base : Nat} {held : Bool} {spare : Nat → Bool}
theorem trod_struct6x {t : TypeId} {f0 f1 f2 f3 f4 f5 : Field} {fuel : Nat} {cs : List Value} {x : DataW H × List MemPlace} (ht : P.underlying t = some (.struct #[f0, f1, f2, f3, f4, f5])) (h : DataW.trod enc P w base (fun _ => true) held fuel t cs = some x) :
    ∃ y0 y1 y2 y3 y4 y5 m, DataW.trod enc P w base (fun _ => true) held m f0.type ((cs.drop f0.offset).take (P.cellsOf f0.type)) = some y0 ∧ DataW.trod enc P w base (fun _ => true) held m f1.type ((cs.drop f1.offset).take (P.cellsOf f1.type)) = some y1 ∧ DataW.trod enc P w base (fun _ => true) held m f2.type ((cs.drop f2.offset).take (P.cellsOf f2.type)) = some y2 ∧ DataW.trod enc P w base (fun _ => true) held m f3.type ((cs.drop f3.offset).take (P.cellsOf f3.type)) = some y3 ∧ DataW.trod enc P w base (fun _ => true) held m f4.type ((cs.drop f4.offset).take (P.cellsOf f4.type)) = some y4 ∧ DataW.trod enc P w base (fun _ => true) held m f5.type ((cs.drop f5.offset).take (P.cellsOf f5.type)) = some y5 := by
  obtain ⟨xs, m, _, rfl, hl, hlen, hf⟩ := DataW.trod_struct ht h
  match xs, hlen with
  | [y0, y1, y2, y3, y4, y5], _ => exact ⟨y0, y1, y2, y3, y4, y5, m, by simpa using hf 0 f0 rfl, by simpa using hf 1 f1 rfl, by simpa using hf 2 f2 rfl, by simpa using hf 3 f3 rfl, by simpa using hf 4 f4 rfl, by simpa using hf 5 f5 rfl⟩
set_option maxRecDepth 100000 in
theorem couple_of_trod {r : Reach} {b0 : Nat} {v : Value} {d' : DataW H} {p' : List MemPlace} (hv : Value.okWide Try.prog w r b0 68 v) (h : DataW.Trod enc Try.prog w base (fun _ => true) held 68 v d' p') :
    ∃ (p d e : Int) (iv jv kv : Value) (il : List (List Int)) (jl : List (List Int)) (kl : List (List Int)), v = .agg #[.int .i64 p, .int .i64 d, .int .i64 e, iv, jv, kv] ∧ Cp 0 w iv jv kv il jl kl ∧ CpB 9223372036854775807 il jl kl := by
  obtain ⟨cs, rfl, hsz⟩ := okWide_struct Try.underlying68 hv
  obtain ⟨c0, c1, c2, c3, c4, c5, rfl⟩ := array6x (hsz.trans Try.cellsCp)
  obtain ⟨fuel, hf⟩ := h
  obtain ⟨y0, y1, y2, y3, y4, y5, m, h0, h1, h2, h3, h4, h5⟩ := trod_struct6x Try.underlying68 hf
  have h0' : DataW.trod enc Try.prog w base (fun _ => true) held m 2 [c0] = some y0 := h0
  have h1' : DataW.trod enc Try.prog w base (fun _ => true) held m 2 [c1] = some y1 := h1
  have h2' : DataW.trod enc Try.prog w base (fun _ => true) held m 2 [c2] = some y2 := h2
  have h3' : DataW.trod enc Try.prog w base (fun _ => true) held m 26 [c3] = some y3 := h3
  have h4' : DataW.trod enc Try.prog w base (fun _ => true) held m 26 [c4] = some y4 := h4
  have h5' : DataW.trod enc Try.prog w base (fun _ => true) held m 26 [c5] = some y5 := h5
  obtain ⟨q0, e0, _, _⟩ := DataW.trod_int Try.underlying2 h0'
  obtain rfl : c0 = .int .i64 q0 := by simpa using e0
  obtain ⟨q1, e1, _, _⟩ := DataW.trod_int Try.underlying2 h1'
  obtain rfl : c1 = .int .i64 q1 := by simpa using e1
  obtain ⟨q2, e2, _, _⟩ := DataW.trod_int Try.underlying2 h2'
  obtain rfl : c2 = .int .i64 q2 := by simpa using e2
  obtain ⟨x3, hx3, hy3⟩ := l2_of_trod h3'
  obtain ⟨x4, hx4, hy4⟩ := l2_of_trod h4'
  obtain ⟨x5, hx5, hy5⟩ := l2_of_trod h5'
  exact ⟨q0, q1, q2, c3, c4, c5, x3, x4, x5, rfl, ⟨hx3, hx4, hx5⟩, ⟨hy3, hy4, hy5⟩⟩
end
end Go.Proofs.Ytpdkfidmmjlmnab


namespace Go.Proofs.Ytpdkfidmmjlmnab
open Go.RowKit
def VrB (P : Bool → Prop) (w : World) (e : Ending) (w' : World) : Prop := ∃ b, e = .returned (.bool b) ∧ Below w.heap.size w w' ∧ P b
end Go.Proofs.Ytpdkfidmmjlmnab


namespace Go.Proofs.Ytpdkfidmmjlmnab
open Go.RowKit

/-- The first n numbers. -/
def toL (n : Nat) (v : Lin.V) : List Int := (List.range n).map v
/-- The cells of a vector. -/
def vl (v : Lin.V) : List Value := (toL 40 v).map (Value.int .i64)
def vv (v : Lin.V) : Value := .agg (vl v).toArray
theorem toL_length (n : Nat) (v : Lin.V) : (toL n v).length = n := by simp [toL]
theorem toL_get {n k : Nat} (v : Lin.V) (h : k < (toL n v).length) : (toL n v)[k] = v k := by simp [toL]
theorem vl_length (v : Lin.V) : (vl v).length = 40 := by simp [vl, toL_length]
theorem vl_get (v : Lin.V) {k : Nat} (h : k < 40) : (vl v)[k]? = some (.int .i64 (v k)) := by
  have : k < (toL 40 v).length := by rw [toL_length]; exact h
  simp [vl, this, toL_get]
theorem vl_congr {v w : Lin.V} (h : ∀ i, i < 40 → v i = w i) : vl v = vl w := by
  unfold vl toL
  rw [List.map_congr_left (fun i hi => h i (List.mem_range.1 hi))]
/-- Where a vector lies. -/
def At (w : World) (b o : Nat) (v : Lin.V) : Prop := w.rangeAt b o (vl v)
theorem At.range {w : World} {b o : Nat} {v : Lin.V} (h : At w b o v) : w.rangeAt b o (vl v) := h
theorem At.cell {w : World} {b o : Nat} {v : Lin.V} (h : At w b o v) {k : Nat} (hk : k < 40) : w.cell? ⟨b, o + k, none⟩ = some (.int .i64 (v k)) := h k _ (vl_get v hk)
theorem At.lt {w : World} {b o : Nat} {v : Lin.V} (h : At w b o v) : b < w.heap.size := cell_lt (h.cell (k := 0) (by omega))
theorem At.below {w w' : World} {b o B : Nat} {v : Lin.V} (h : At w b o v) (hb : Below B w w') (hB : b < B) : At w' b o v := fun j u hu => by
  rw [hb.cell (p := ⟨b, o + j, none⟩) hB]
  exact h j u hu
theorem At.later {w w' : World} {b o : Nat} {v : Lin.V} (h : At w b o v) (hb : Below w.heap.size w w') : At w' b o v := h.below hb h.lt
theorem run_index_vv {P : Program} {t e : TypeId} {n : Nat} (ht : P.underlying t = some (.array 40 e)) (he : P.underlying e = some (.int .i64)) (hz : (P.info? e).map (·.size) = some n) (hn : n = 1) (v : Lin.V) {k : Nat} (hk : k < 40) (w : World) :
    (Instr.index t (.agg (vl v).toArray) (.int .i64 k)).run P w = .ok (.int .i64 (v k)) w := by
  obtain ⟨inf, hi, hs⟩ := Option.map_eq_some_iff.1 hz
  subst hn
  have hsz : (sizeOf e).run P w = .ok 1 w := by simp [sizeOf, typeInfo, hi, hs]
  have hp := run_part_int w he (vl v).toArray k (.int .i64 (v k)) (by simpa using vl_get v hk)
  have h2 : (0 : Int) ≤ (k : Int) ∧ (k : Int) < ((40 : Nat) : Int) := ⟨by omega, by omega⟩
  simp only [Instr.index, asIntOf, Sem.run_bind, Sem.run_pure, Result.andThen_ok, run_underlying ht, if_pos h2, hsz, Int.toNat_natCast, Nat.mul_one, hp]

theorem hidx (v : Lin.V) {k : Nat} (hk : k < 40) : ∀ w, (Instr.index 161 (.agg (vl v).toArray) (.int .i64 k)).run Try.prog w = .ok (.int .i64 (v k)) w :=
  fun w => run_index_vv Try.underlyingV Try.underlying2 Try.infoI1 rfl v hk w

end Go.Proofs.Ytpdkfidmmjlmnab

namespace Go.Proofs.Ytpdkfidmmjlmnab
open Go.RowKit

theorem there_set {w : World} {b o n : Nat} (h : w.there b o n) (a : Addr) (u : Value) : (w.setCell a u).there b o n := fun j hj => by
  obtain ⟨h1, h2⟩ := h j hj
  refine ⟨?_, by rw [World.frozen?_setCell]; exact h2⟩
  obtain ⟨x, hx⟩ := Option.isSome_iff_exists.1 h1
  by_cases e : a = ⟨b, o + j, none⟩
  · rw [e, World.cell?_setCell_same _ _ _ hx]; rfl
  · rw [World.cell?_setCell_other _ _ _ _ e, hx]; rfl
theorem there_below {w w' : World} {b o n B : Nat} (h : w.there b o n) (hb : Below B w w') (hB : b < B) : w'.there b o n := fun j hj => by
  rw [hb.cell (p := ⟨b, o + j, none⟩) hB, hb.frozen (p := ⟨b, o + j, none⟩) hB]
  exact h j hj
theorem below_setCells {B : Nat} {w : World} (b : Nat) (hB : B ≤ b) : ∀ (vs : List Value) (o : Nat) (w' : World), Below B w w' → Below B w (w'.setCells b o vs) := by
  intro vs
  induction vs with
  | nil => intro o w' h; exact h
  | cons v vs ih => intro o w' h; exact ih (o + 1) _ (h.setCell hB v)
theorem addr_ne {b o o' : Nat} (h : o ≠ o') : (⟨b, o, none⟩ : Addr) ≠ ⟨b, o', none⟩ := fun e => h (by injection e)
theorem At.set {w : World} {b o : Nat} {v : Lin.V} (h : At w b o v) {k : Nat} (hk : k < 40) (x : Int) : At (w.setCell ⟨b, o + k, none⟩ (.int .i64 x)) b o (fun i => if i = k then x else v i) := fun j u hu => by
  have hj : j < 40 := by have := (List.getElem?_eq_some_iff.1 hu).1; rwa [vl_length] at this
  rw [vl_get _ hj] at hu
  by_cases e : j = k
  · subst e
    rw [World.cell?_setCell_same _ _ _ (h.cell hj)]
    simpa using hu
  · rw [World.cell?_setCell_other _ _ _ _ (addr_ne (by omega)), h.cell hj]
    simpa [e] using hu
theorem At.setOther {w : World} {b o : Nat} {v : Lin.V} (h : At w b o v) {a : Addr} (ha : a.block ≠ b) (u : Value) : At (w.setCell a u) b o v := fun j x hx => by
  rw [World.cell?_setCell_other _ _ _ _ (by intro e; exact ha (by rw [e]))]
  exact h j x hx
theorem At.congr {w : World} {b o : Nat} {v v' : Lin.V} (h : At w b o v) (e : ∀ i, i < 40 → v i = v' i) : At w b o v' := by
  unfold At
  rw [← vl_congr e]
  exact h
theorem at_setCells (w : World) (b o : Nat) (v : Lin.V) (ht : w.there b o 40) : At (w.setCells b o (vl v)) b o v := World.rangeAt_setCells_same w b o (vl v) (by rw [vl_length]; exact ht)
theorem At.apart {w : World} {b o b' o' : Nat} {v : Lin.V} (h : At w b o v) (v' : Lin.V) (ha : b ≠ b' ∨ o + 40 ≤ o' ∨ o' + 40 ≤ o) : At (w.setCells b' o' (vl v')) b o v := World.rangeAt_setCells_apart h b' o' (vl v') (by rw [vl_length, vl_length]; exact ha)
/-- A vector in a box, and a place for a vector. -/
structure Boxed (w W : World) (b g : Nat) (v : Lin.V) : Prop where
  below : Below w.heap.size w W
  lo : w.heap.size ≤ b ∧ w.heap.size ≤ g
  ne : b ≠ g
  at' : At W b 0 v
  there : W.there b 0 40
  res : W.there g 0 40
theorem Boxed.next {w W W' : World} {b g : Nat} {v : Lin.V} (h : Boxed w W b g v) (hb : Below W.heap.size W W') : Boxed w W' b g v := by
  have hg : g < W.heap.size := by
    obtain ⟨x, hx⟩ := Option.isSome_iff_exists.1 (h.res 0 (by omega)).1
    exact cell_lt hx
  exact ⟨h.below.trans (hb.mono h.below.size), h.lo, h.ne, h.at'.later hb, there_below h.there hb h.at'.lt, there_below h.res hb hg⟩
theorem Boxed.set {w W : World} {b g : Nat} {v : Lin.V} (h : Boxed w W b g v) {k : Nat} (hk : k < 40) (x : Int) : Boxed w (W.setCell ⟨b, k, none⟩ (.int .i64 x)) b g (fun i => if i = k then x else v i) := by
  have := h.at'.set hk x
  rw [Nat.zero_add] at this
  exact ⟨h.below.setCell h.lo.1 _, h.lo, h.ne, this, there_set h.there _ _, there_set h.res _ _⟩
theorem Boxed.congr {w W : World} {b g : Nat} {v v' : Lin.V} (h : Boxed w W b g v) (e : ∀ i, i < 40 → v i = v' i) : Boxed w W b g v' := ⟨h.below, h.lo, h.ne, h.at'.congr e, h.there, h.res⟩
end Go.Proofs.Ytpdkfidmmjlmnab

namespace Go.Proofs.Ytpdkfidmmjlmnab
open Go.RowKit

/-- The slice s reads as the vectors L, its cells in blocks from lo on. -/
def Vs (lo : Nat) (w : World) (s : Value) (L : List Lin.V) : Prop :=
  (L = [] ∧ ∃ ad cap, s = .slice ad 0 cap) ∨
  ∃ b o cap, s = .slice (some ⟨b, o, none⟩) L.length cap ∧ lo ≤ b ∧ 0 < L.length ∧ ∀ k (h : k < L.length), At w b (o + k * 40) L[k]
theorem Vs.keep {lo : Nat} {w w' : World} {s : Value} {L : List Lin.V} (h : Vs lo w s L) (hk : Keep lo w w') : Vs lo w' s L := by
  rcases h with h | ⟨b, o, cap, hs, hlo, hpos, hc⟩
  · exact Or.inl h
  · refine Or.inr ⟨b, o, cap, hs, hlo, hpos, fun k h j u hu => ?_⟩
    have h1 := hc k h j u hu
    rw [hk.2 b _ hlo (cell_lt h1)]
    exact h1
theorem Vs.below {lo : Nat} {w w' : World} {s : Value} {L : List Lin.V} (h : Vs lo w s L) (hb : Below w.heap.size w w') : Vs lo w' s L := h.keep (Keep.of_below hb)
theorem Vs.lower {lo lo' : Nat} (hl : lo' ≤ lo) {w : World} {s : Value} {L : List Lin.V} (h : Vs lo w s L) : Vs lo' w s L := by
  rcases h with h | ⟨b, o, cap, hs, hlo, hpos, hc⟩
  · exact Or.inl h
  · exact Or.inr ⟨b, o, cap, hs, by omega, hpos, hc⟩
theorem Vs.shape {lo : Nat} {w : World} {s : Value} {L : List Lin.V} (h : Vs lo w s L) : ∃ ad cap, s = .slice ad L.length cap := by
  rcases h with ⟨h, ad, cap, hs⟩ | ⟨b, o, cap, hs, _⟩
  · exact ⟨ad, cap, by rw [hs, h]; rfl⟩
  · exact ⟨_, cap, hs⟩
theorem Vs.cases {lo : Nat} {w : World} {s : Value} {L : List Lin.V} (h : Vs lo w s L) {C : Prop} (h0 : ∀ ad cap, L = [] → s = .slice ad 0 cap → C)
    (h1 : ∀ b o cap, s = .slice (some ⟨b, o, none⟩) L.length cap → lo ≤ b → 0 < L.length → (∀ k (h : k < L.length), At w b (o + k * 40) L[k]) → C) : C := by
  rcases h with ⟨h, ad, cap, hs⟩ | ⟨b, o, cap, hs, hlo, hpos, hc⟩
  · exact h0 ad cap h hs
  · exact h1 b o cap hs hlo hpos hc

/-- The making of a vector's box. -/
structure NewV (w W : World) : Prop where
  below : Below w.heap.size w W
  size : W.heap.size = w.heap.size + 1
  there : W.there w.heap.size 0 40
theorem Boxed.put {w W : World} {b g : Nat} {v : Lin.V} (h : Boxed w W b g v) (u : Lin.V) : Boxed w (W.setCells b 0 (vl u)) b g u :=
  ⟨below_setCells _ h.lo.1 _ _ _ h.below, h.lo, h.ne, at_setCells _ _ _ _ h.there, World.there_setCells h.there _ _ _, World.there_setCells h.res _ _ _⟩
theorem hload (w : World) {b o : Nat} {x : Int} (h : w.cell? ⟨b, o, none⟩ = some (.int .i64 x)) : (Instr.loadAt 2 (.pointer (some ⟨b, o, none⟩))).run Try.prog w = .ok (.int .i64 x) w := by go_simp
end Go.Proofs.Ytpdkfidmmjlmnab

namespace Go.Proofs.Ytpdkfidmmjlmnab
open Go.RowKit

/-- The key's datum. -/
def keyLit (v : Lin.V) : Lit := .string (keyBytes ((List.range 40).map fun i => .int .i64 (v i)))
/-- The map in block b bears true at vectors of M alone. -/
def Seen (w : World) (b n : Nat) (M : List Lin.V) : Prop := ∃ D : DataW Unit, w.ownsMap Try.prog 161 (plainElem Try.prog 4) b n D ∧ Maps.IsMap D ∧
  ∀ v : Lin.V, (∀ i, 0 ≤ v i ∧ v i ≤ 7) → D.atKey (keyLit v) (.lit (.bool false)) = .lit (.bool true) → ∃ u ∈ M, vv u = vv v
theorem Seen.made (w : World) : Seen (w.alloc (.map #[] 0)) w.heap.size 0 [] := ⟨.map [], World.ownsMap_made _ _ _ _, ⟨[], rfl⟩, fun v _ h => by
  have : (DataW.map [] : DataW Unit).atKey (keyLit v) (.lit (.bool false)) = .lit (.bool false) := rfl
  rw [this] at h
  cases h⟩
theorem Seen.lt {w : World} {b n : Nat} {M : List Lin.V} (h : Seen w b n M) : b < w.heap.size := by obtain ⟨D, hd, _⟩ := h; exact hd.lt
theorem Seen.block {w w' : World} {b n : Nat} {M : List Lin.V} (h : Seen w b n M) (hb : w'.heap[b]? = w.heap[b]?) : Seen w' b n M := by
  obtain ⟨D, ⟨es, clock, h1, F, h2, h3⟩, r⟩ := h
  exact ⟨D, ⟨es, clock, hb.trans h1, F, h2, h3⟩, r⟩
theorem Seen.below {w w' : World} {b n : Nat} {M : List Lin.V} (h : Seen w b n M) (hb : Below w.heap.size w w') : Seen w' b n M := h.block (hb.block b h.lt)
theorem Seen.more {w : World} {b n n' : Nat} {M M' : List Lin.V} (h : Seen w b n M) (hn : n ≤ n') (hM : ∀ u ∈ M, u ∈ M') : Seen w b n' M' := by
  obtain ⟨D, h1, h2, h3⟩ := h
  exact ⟨D, h1.mono hn, h2, fun v hv h => by obtain ⟨u, hu, e⟩ := h3 v hv h; exact ⟨u, hM u hu, e⟩⟩

section
variable {ops : Array Oper} {rest : List Oper} {o : Oper} {a : Act} {w : World} {Q : Exit → Act → World → Prop}
end
end Go.Proofs.Ytpdkfidmmjlmnab

namespace Go.Proofs.Ytpdkfidmmjlmnab
open Go.RowKit

/-- The cells of a list of vectors, one behind the other. -/
def cellsOf (L : List Lin.V) : List Value := L.flatMap vl
theorem cellsOf_length (L : List Lin.V) : (cellsOf L).length = L.length * 40 := by
  induction L with
  | nil => rfl
  | cons v L ih => rw [cellsOf, List.flatMap_cons, List.length_append, vl_length]; unfold cellsOf at ih; rw [ih, List.length_cons]; omega
theorem cellsOf_at {L : List Lin.V} : ∀ {k : Nat} (h : k < L.length) {j : Nat}, j < 40 → (cellsOf L)[k * 40 + j]? = some (.int .i64 (L[k] j)) := by
  induction L with
  | nil => intro k h; simp at h
  | cons v L ih =>
    intro k h j hj
    rw [cellsOf, List.flatMap_cons]
    cases k with
    | zero =>
      rw [List.getElem?_append_left (by rw [vl_length]; omega)]
      simp only [Nat.zero_mul, Nat.zero_add, List.getElem_cons_zero]
      exact vl_get v hj
    | succ k =>
      rw [List.getElem?_append_right (by rw [vl_length]; omega), vl_length, show (k + 1) * 40 + j - 40 = k * 40 + j by omega]
      simp only [List.getElem_cons_succ]
      exact ih (by simpa using h) hj
theorem cellsOf_append (L M : List Lin.V) : cellsOf (L ++ M) = cellsOf L ++ cellsOf M := by simp [cellsOf]
/-- A slice of vectors that the call has made, in blocks from base on. -/
def Ow (base : Nat) (w : World) (s : Value) (L : List Lin.V) : Prop := w.ownsRow base 161 40 s L.length (cellsOf L)
theorem Ow.nil (base : Nat) (w : World) : Ow base w (.slice none 0 0) [] := ⟨rfl, Or.inl ⟨rfl, rfl⟩⟩
theorem Ow.below {base : Nat} {w w' : World} {s : Value} {L : List Lin.V} (h : Ow base w s L) (hb : Below w.heap.size w w') : Ow base w' s L := owns_below h hb
theorem Ow.vs {base : Nat} {w : World} {s : Value} {L : List Lin.V} (h : Ow base w s L) : Vs base w s L := by
  obtain ⟨_, h2⟩ := h
  rcases h2 with ⟨hs, h0⟩ | ⟨g, cap, cur, hs, hg, hb, hn, _, hcur, ht⟩
  · exact Or.inl ⟨List.eq_nil_of_length_eq_zero h0, none, 0, by rw [hs]⟩
  · by_cases h0 : L.length = 0
    · exact Or.inl ⟨List.eq_nil_of_length_eq_zero h0, _, cap, by rw [hs, h0]⟩
    · refine Or.inr ⟨g, 0, cap, hs, hg, by omega, fun k hk j u hu => ?_⟩
      have hj : j < 40 := by have := (List.getElem?_eq_some_iff.1 hu).1; rwa [vl_length] at this
      rw [vl_get _ hj] at hu
      rw [cell_of_row _ _ _ _ _ _ hb, Nat.zero_add]
      have h1 := cellsOf_at hk hj
      rw [← ht, List.getElem?_take] at h1
      have h2 : k * 40 + j < L.length * 40 := by
        have : (k + 1) * 40 ≤ L.length * 40 := Nat.mul_le_mul_right 40 hk
        omega
      rw [if_pos h2] at h1
      rw [← hu, ← h1]
      simp
theorem Ow.shape {base : Nat} {w : World} {s : Value} {L : List Lin.V} (h : Ow base w s L) : ∃ ad cap, s = .slice ad L.length cap := h.vs.shape

section
variable {ops : Array Oper} {rest : List Oper} {o : Oper} {a : Act} {w : World} {Q : Exit → Act → World → Prop}
end
end Go.Proofs.Ytpdkfidmmjlmnab

namespace Go.Proofs.Ytpdkfidmmjlmnab
open Go.RowKit

theorem NewV.put {w W : World} (h : NewV w W) (v : Lin.V) : Below w.heap.size w (W.setCells w.heap.size 0 (vl v)) ∧ At (W.setCells w.heap.size 0 (vl v)) w.heap.size 0 v ∧ (W.setCells w.heap.size 0 (vl v)).heap.size = w.heap.size + 1 := by
  refine ⟨below_setCells _ (Nat.le_refl _) _ _ _ h.below, at_setCells _ _ _ _ h.there, ?_⟩
  have key : ∀ (vs : List Value) (o : Nat) (W : World), (W.setCells w.heap.size o vs).heap.size = W.heap.size := by
    intro vs
    induction vs with
    | nil => intro o W; rfl
    | cons x vs ih => intro o W; rw [World.setCells, ih]; simp
  rw [key, h.size]
theorem At.grown {w w' : World} {b o : Nat} {v : Lin.V} {row : Option Nat} (h : At w b o v) (hg : w.grownBy w' row) (hne : some b ≠ row) : At w' b o v := fun j u hu => by
  rw [World.cell?_of_block (w := w) (a := ⟨b, o + j, none⟩) (hg.block b h.lt hne)]
  exact h j u hu
theorem Ow.grown {base : Nat} {w w' : World} {s : Value} {L : List Lin.V} {row : Option Nat} (h : Ow base w s L) (hg : w.grownBy w' row) (hne : s.ownBlock = none ∨ s.ownBlock ≠ row) : Ow base w' s L := by
  refine ⟨h.1, ?_⟩
  rcases h.2 with h2 | ⟨g, cap, cur, hv, hgb, hh, r⟩
  · exact Or.inl h2
  · refine Or.inr ⟨g, cap, cur, hv, hgb, ?_, r⟩
    rw [hg.block g (Array.getElem?_eq_some_iff.1 hh).1 (by
      rw [hv] at hne
      simpa [Value.ownBlock] using hne)]
    exact hh
end Go.Proofs.Ytpdkfidmmjlmnab

namespace Go.Proofs.Ytpdkfidmmjlmnab
open Go.RowKit

theorem cellsOf_cons (v : Lin.V) (L : List Lin.V) : cellsOf (v :: L) = vl v ++ cellsOf L := by simp [cellsOf]
theorem cellsOf_take (L : List Lin.V) : ∀ i, cellsOf (L.take i) = (cellsOf L).take (i * 40) := by
  induction L with
  | nil => intro i; simp [cellsOf]
  | cons v L ih =>
    intro i
    cases i with
    | zero => simp [cellsOf]
    | succ i =>
      rw [List.take_succ_cons, cellsOf_cons, cellsOf_cons, ih, List.take_append, vl_length, List.take_of_length_le (l := vl v) (by rw [vl_length]; omega), show (i + 1) * 40 - 40 = i * 40 by omega]
theorem cellsOf_drop (L : List Lin.V) : ∀ i, cellsOf (L.drop i) = (cellsOf L).drop (i * 40) := by
  induction L with
  | nil => intro i; simp [cellsOf]
  | cons v L ih =>
    intro i
    cases i with
    | zero => simp
    | succ i =>
      rw [List.drop_succ_cons, cellsOf_cons, ih, List.drop_append, vl_length, List.drop_of_length_le (l := vl v) (by rw [vl_length]; omega), show (i + 1) * 40 - 40 = i * 40 by omega, List.nil_append]
end Go.Proofs.Ytpdkfidmmjlmnab

namespace Go.Proofs.Ytpdkfidmmjlmnab
open Go.RowKit

theorem block_setCell' {w : World} {g i : Nat} {cs : Array Value} {t : TypeId} {fr : Nat × Nat} (h : w.heap[g]? = some (.cells cs t fr)) (v : Value) : (w.setCell ⟨g, i, none⟩ v).heap[g]? = some (.cells (cs.setIfInBounds i v) t fr) := by
  rw [setCell_eq_setRow w g i cs t fr v h]
  exact setRow_heap w g _ _ t _ h
theorem setCells_row (g : Nat) (t : TypeId) (fr : Nat × Nat) : ∀ (vs : List Value) (o : Nat) (cur : Array Value) (w : World), w.heap[g]? = some (.cells cur t fr) → o + vs.length ≤ cur.size →
    (w.setCells g o vs).heap[g]? = some (.cells (cur.toList.take o ++ vs ++ cur.toList.drop (o + vs.length)).toArray t fr)
  | [], o, cur, w, h, _ => by simpa [World.setCells] using h
  | v :: rest, o, cur, w, h, hl => by
    have ih := setCells_row g t fr rest (o + 1) (cur.setIfInBounds o v) (w.setCell ⟨g, o, none⟩ v) (block_setCell' h v) (by simp at hl ⊢; omega)
    rw [World.setCells, ih]
    congr 3
    have e := list_seg_step cur.toList o v rest (by simp at hl ⊢; omega)
    simpa [Array.toList_setIfInBounds] using e
theorem setCells_other (g k : Nat) (h : k ≠ g) : ∀ (vs : List Value) (o : Nat) (w : World), (w.setCells g o vs).heap[k]? = w.heap[k]?
  | [], _, _ => rfl
  | v :: rest, o, w => by
    rw [World.setCells, setCells_other g k h rest (o + 1)]
    exact Below.heap_setCell w ⟨g, o, none⟩ v k h
theorem setCells_rest (g : Nat) : ∀ (vs : List Value) (o : Nat) (w : World), (w.setCells g o vs).os = w.os ∧ (w.setCells g o vs).tape = w.tape ∧ (w.setCells g o vs).output = w.output ∧ (w.setCells g o vs).heap.size = w.heap.size
  | [], _, _ => ⟨rfl, rfl, rfl, rfl⟩
  | v :: rest, o, w => by
    rw [World.setCells]
    obtain ⟨h1, h2, h3, h4⟩ := setCells_rest g rest (o + 1) (w.setCell ⟨g, o, none⟩ v)
    exact ⟨h1, h2, h3, h4.trans (by simp [World.setCell])⟩
theorem grown_setCells (w : World) (g o : Nat) (vs : List Value) : w.grownBy (w.setCells g o vs) (some g) := by
  obtain ⟨h1, h2, h3, h4⟩ := setCells_rest g vs o w
  exact ⟨h1, h2, h3, by omega, fun k _ hne => setCells_other g k (fun e => hne (by rw [e])) vs o w⟩
/-- An owned slice of vectors that is not empty. -/
structure Ox (base : Nat) (w : World) (g cap : Nat) (L : List Lin.V) : Prop where
  lo : base ≤ g
  own : Ow base w (.slice (some ⟨g, 0, none⟩) L.length cap) L
theorem Ox.lt {base : Nat} {w : World} {g cap : Nat} {L : List Lin.V} (h : Ox base w g cap L) : g < w.heap.size := by
  rcases h.own.2 with ⟨h0, _⟩ | ⟨g', c', cur, hv, _, hh, _⟩
  · cases h0
  · injection hv with e1 _ _
    injection e1 with e1
    injection e1 with e1
    subst e1
    exact (Array.getElem?_eq_some_iff.1 hh).1
theorem Ox.at' {base : Nat} {w : World} {g cap : Nat} {L : List Lin.V} (h : Ox base w g cap L) {k : Nat} (hk : k < L.length) : At w g (k * 40) L[k] := by
  rcases h.own.vs with ⟨h0, _⟩ | ⟨b, o, c, hv, _, _, hc⟩
  · rw [h0] at hk; exact absurd hk (Nat.not_lt_zero _)
  · injection hv with e1 _ _
    injection e1 with e1
    injection e1 with e1 e2
    subst e1 e2
    have := hc k hk
    rwa [Nat.zero_add] at this
theorem Ox.below {base : Nat} {w w' : World} {g cap : Nat} {L : List Lin.V} (h : Ox base w g cap L) (hb : Below w.heap.size w w') : Ox base w' g cap L := ⟨h.lo, h.own.below hb⟩
theorem cellsOf_set {L : List Lin.V} {k : Nat} (hk : k < L.length) (x : Lin.V) : cellsOf (L.set k x) = (cellsOf L).take (k * 40) ++ vl x ++ (cellsOf L).drop (k * 40 + 40) := by
  rw [List.set_eq_take_append_cons_drop, if_pos hk, cellsOf_append, cellsOf_cons, cellsOf_take, cellsOf_drop, show (k + 1) * 40 = k * 40 + 40 by omega, List.append_assoc]
theorem Ox.put {base : Nat} {w : World} {g cap : Nat} {L : List Lin.V} (h : Ox base w g cap L) {k : Nat} (hk : k < L.length) (x : Lin.V) : Ox base (w.setCells g (k * 40) (vl x)) g cap (L.set k x) ∧ w.there g (k * 40) 40 := by
  rcases h.own.2 with ⟨h0, _⟩ | ⟨g', c', cur, hv, hlo, hh, hnc, hcm, hcs, htk⟩
  · cases h0
  · injection hv with e1 _ e3
    injection e1 with e1
    injection e1 with e1
    subst e1 e3
    have hkc : k * 40 + 40 ≤ cap * 40 := by
      have : (k + 1) * 40 ≤ cap * 40 := Nat.mul_le_mul_right 40 (by omega)
      omega
    have hb := setCells_row g 161 (0, 0) (vl x) (k * 40) cur w hh (by rw [vl_length, hcs]; exact hkc)
    refine ⟨⟨h.lo, ⟨cellsOf_length _, Or.inr ⟨g, cap, _, rfl, hlo, hb, by simpa using hnc, hcm, ?_, ?_⟩⟩⟩, fun j hj => ⟨?_, by simp [World.frozen?, hh]⟩⟩
    · have hsz : cur.toList.length = cap * 40 := by simpa using hcs
      simp only [List.size_toArray, List.length_append, List.length_take, List.length_drop, vl_length, hsz]
      omega
    · rw [cellsOf_set hk, ← htk]
      have hkn : k * 40 + 40 ≤ L.length * 40 := by
        have : (k + 1) * 40 ≤ L.length * 40 := Nat.mul_le_mul_right 40 hk
        omega
      have hnc' : L.length * 40 ≤ cap * 40 := Nat.mul_le_mul_right 40 hnc
      have hsz : cur.toList.length = cap * 40 := by simpa using hcs
      rw [List.length_set, vl_length, List.take_take, Nat.min_eq_left (by omega), List.drop_take]
      simp only [List.append_assoc]
      rw [List.take_append, List.take_append, List.length_take, vl_length, hsz, Nat.min_eq_left (by omega), List.take_of_length_le (l := cur.toList.take (k * 40)) (by rw [List.length_take]; omega), List.take_of_length_le (l := vl x) (by rw [vl_length]; omega),
        show L.length * 40 - k * 40 - 40 = L.length * 40 - (k * 40 + 40) by omega]
    · rw [cell_of_row _ _ _ _ _ _ hh, Array.getElem?_eq_getElem (by rw [hcs]; omega)]
      rfl
theorem Ow.cases {base : Nat} {w : World} {s : Value} {L : List Lin.V} (h : Ow base w s L) {C : Prop} (h0 : s = .slice none 0 0 → L = [] → C) (h1 : ∀ g cap, s = .slice (some ⟨g, 0, none⟩) L.length cap → Ox base w g cap L → C) : C := by
  rcases h.2 with ⟨hs, hl⟩ | ⟨g, cap, cur, hs, hlo, r⟩
  · exact h0 hs (List.eq_nil_of_length_eq_zero hl)
  · exact h1 g cap hs ⟨hlo, by rw [← hs]; exact h⟩
/-- The rows, the first k of them cleared at the new row's lead. -/
noncomputable def clr (p : Int) (u : Lin.V) (x : Lin.V) : Lin.V := Lin.add p x (-(x (Lin.ld u))) u
noncomputable def part (p : Int) (u : Lin.V) (L : List Lin.V) (k : Nat) : List Lin.V := (L.take k).map (clr p u) ++ L.drop k
end Go.Proofs.Ytpdkfidmmjlmnab

namespace Go.Proofs.Ytpdkfidmmjlmnab
open Go.RowKit

/-- A reduced list that a call is gathering, a vector in a box of its own. -/
structure Inn (w1 W : World) (sv : Value) (R : List Lin.V) (vb : Nat) (r : Lin.V) : Prop where
  below : Below w1.heap.size w1 W
  own : Ow w1.heap.size W sv R
  lo : w1.heap.size ≤ vb
  at' : At W vb 0 r
  there : W.there vb 0 40
  ne : some vb ≠ sv.ownBlock
theorem Inn.next {w1 W W' : World} {sv : Value} {R : List Lin.V} {vb : Nat} {r : Lin.V} (h : Inn w1 W sv R vb r) (hb : Below W.heap.size W W') : Inn w1 W' sv R vb r :=
  ⟨h.below.trans (hb.mono h.below.size), h.own.below hb, h.lo, h.at'.later hb, there_below h.there hb h.at'.lt, h.ne⟩
theorem Inn.put {w1 W : World} {sv : Value} {R : List Lin.V} {vb : Nat} {r : Lin.V} (h : Inn w1 W sv R vb r) (x : Lin.V) : Inn w1 (W.setCells vb 0 (vl x)) sv R vb x :=
  ⟨below_setCells _ h.lo _ _ _ h.below, h.own.grown (grown_setCells W vb 0 (vl x)) (Or.inr h.ne.symm), h.lo, at_setCells _ _ _ _ h.there, World.there_setCells h.there _ _ _, h.ne⟩
theorem Ow.apart {base : Nat} {w : World} {s : Value} {L : List Lin.V} (h : Ow base w s L) {b : Nat} (hb : w.heap.size ≤ b) : some b ≠ s.ownBlock := fun e => by
  have := ((World.ownsRow.lt h) b e.symm).1
  have := ((World.ownsRow.lt h) b e.symm).2
  omega

/-- What a reduced list has to do with a list. -/
structure RedOf (p : Int) (R T : List Lin.V) : Prop where
  red : Lin.Red p R
  wd : ∀ u ∈ R, Lin.Wd 40 u
  eqv : Lin.Eqv p R T
theorem RedOf.nil (p : Int) : RedOf p [] [] := ⟨Lin.Red.nil p, by simp, Lin.Eqv.refl _ _⟩
theorem RedOf.skip {p : Int} (hp : 0 < p) {R T : List Lin.V} (h : RedOf p R T) {v : Lin.V} (hT : ∀ w ∈ T, Lin.Md p w) (hv : Lin.Md p v) (hr : Lin.Rest p R v R.length Lin.zv) : RedOf p R (T ++ [v]) :=
  ⟨h.red, h.wd, Lin.skip_eqv hp h.red hT hv h.eqv hr⟩
theorem RedOf.put {p : Int} (hp : 1 < p) {R T : List Lin.V} (h : RedOf p R T) {v r u : Lin.V} {k : Nat} (hT : ∀ w ∈ T, Lin.Md p w) (hv : Lin.Md p v) (hr : Lin.Rest p R v R.length r) (hne : r ≠ Lin.zv) (hu : Lin.Unit p r u) (huw : Lin.Wd 40 u) (hk : k ≤ R.length)
    (hlo : ∀ w ∈ R.take k, Lin.ld w < Lin.ld u) (hhi : ∀ w ∈ R.drop k, ¬ Lin.ld w < Lin.ld u) : RedOf p (Lin.put p R k u) (T ++ [v]) := by
  have hf := Lin.fits_of hr hne hu hk hlo hhi
  refine ⟨hf.red hp h.red, fun x hx => ?_, Lin.put_eqv hp h.red hT hv h.eqv hr hu hf⟩
  rcases Lin.put_mem.1 hx with rfl | ⟨y, hy, rfl⟩
  · exact huw
  · exact Lin.add_wd _ (h.wd y hy) huw
theorem put_length (p : Int) (R : List Lin.V) (k : Nat) (u : Lin.V) (hk : k ≤ R.length) : (Lin.put p R k u).length = R.length + 1 := by simp [Lin.put]; omega

end Go.Proofs.Ytpdkfidmmjlmnab


namespace Go.Proofs.Ytpdkfidmmjlmnab
open Go.RowKit

/-- A row as a vector. -/
def ofL (xs : List Int) : Lin.V := fun i => xs.getD i 0
theorem ofL_at {xs : List Int} {i : Nat} (h : i < xs.length) : ofL xs i = xs[i] := getD_of_lt _ h
theorem ofL_wd {xs : List Int} {n : Nat} (h : xs.length ≤ n) : Lin.Wd n (ofL xs) := fun i hi => by simp [ofL, List.getD, show xs.length ≤ i by omega]
theorem ofL_md {p n : Int} {xs : List Int} (hp : 0 < p) (h : RowOk p n xs) : Lin.Md p (ofL xs) := fun i => by
  by_cases hi : i < xs.length
  · rw [ofL_at hi]
    have := h.2 _ (List.getElem_mem hi)
    omega
  · have : ofL xs i = 0 := by simp [ofL, List.getD, show xs.length ≤ i by omega]
    omega
/-- The vectors, the first k of them filled. -/
def filled (L : List Lin.V) (k : Nat) : List Lin.V := L.take k ++ List.replicate (L.length - k) Lin.zv
end Go.Proofs.Ytpdkfidmmjlmnab

namespace Go.Proofs.Ytpdkfidmmjlmnab
open Go.RowKit

def rowZ (c : Nat) (Z : Nat → Nat → Int) (j : Nat) : List Int := (List.range c).map fun i => Z j i
/-- A table at block g, its rows behind it, each in a block of its own. -/
structure TabW (W : World) (g r c : Nat) (Z : Nat → Nat → Int) : Prop where
  top : ∀ j, j < r → W.cell? ⟨g, j, none⟩ = some (.slice (some ⟨g + 1 + j, 0, none⟩) c c)
  rows : ∀ j, j < r → W1 (g + 1 + j) (g + 1 + j + 1) W (.slice (some ⟨g + 1 + j, 0, none⟩) c c) (rowZ c Z j)
theorem TabW.same {W W' : World} {g r c : Nat} {Z : Nat → Nat → Int} (h : TabW W g r c Z) (hs : Same g (g + 1 + r) W W') : TabW W' g r c Z :=
  ⟨fun j hj => (World.cell?_of_block (w := W) (w' := W') (a := ⟨g, j, none⟩) (hs g (Nat.le_refl _) (by omega))).trans (h.top j hj), fun j hj => (h.rows j hj).same (hs.narrow (by omega) (by omega))⟩
theorem TabW.congr {W : World} {g r c : Nat} {Z Z' : Nat → Nat → Int} (h : TabW W g r c Z) (e : ∀ j, j < r → rowZ c Z j = rowZ c Z' j) : TabW W g r c Z' :=
  ⟨h.top, fun j hj => by rw [← e j hj]; exact h.rows j hj⟩
theorem TabW.l2 {W : World} {g r c : Nat} {Z : Nat → Nat → Int} (h : TabW W g r c Z) : L2 g W (.slice (some ⟨g, 0, none⟩) r r) (tableOf r c Z) := by
  by_cases h0 : r = 0
  · subst h0
    exact Or.inl ⟨rfl, _, _, rfl⟩
  · refine Or.inr ⟨g, 0, r, by simp [tableOf], Nat.le_refl _, by simp [tableOf]; omega, fun k hk => ?_⟩
    have hk' : k < r := by simpa [tableOf] using hk
    refine ⟨_, by rw [Nat.zero_add]; exact h.top k hk', ?_⟩
    have := (h.rows k hk').l1.lower (lo' := g) (by omega)
    simpa [tableOf, rowZ] using this

/-- A table of a result: none, or one in blocks of its own. -/
def TW (lo hi : Nat) (W : World) (u : Value) (R : List (List Int)) : Prop :=
  (u = .slice none 0 0 ∧ R = []) ∨ ∃ (g r c : Nat) (Z : Nat → Nat → Int), lo ≤ g ∧ g + 1 + r ≤ hi ∧ r ≤ 1048576 ∧ c ≤ 1048576 ∧ u = .slice (some ⟨g, 0, none⟩) r r ∧ R = tableOf r c Z ∧ TabW W g r c Z
/-- The same with the marks from k to m in it. -/
def HW (lo hi : Nat) (W : World) (u : Value) (k m : Int) : Prop :=
  (u = .slice none 0 0 ∧ m = k) ∨ ∃ (g r c : Nat), lo ≤ g ∧ g + 1 + r ≤ hi ∧ r ≤ 1048576 ∧ c ≤ 1048576 ∧ u = .slice (some ⟨g, 0, none⟩) r r ∧ m = k + ((r * c : Nat) : Int) ∧ TabW W g r c (fun j i => k + ((j * c : Nat) : Int) + (i : Int))
theorem TW.nil (lo hi : Nat) (W : World) : TW lo hi W (.slice none 0 0) [] := Or.inl ⟨rfl, rfl⟩
theorem TW.same {lo hi : Nat} {W W' : World} {u : Value} {R : List (List Int)} (h : TW lo hi W u R) (hs : Same lo hi W W') : TW lo hi W' u R := by
  rcases h with h | ⟨g, r, c, Z, h1, h2, h3, h4, h5, h6, h7⟩
  · exact Or.inl h
  · exact Or.inr ⟨g, r, c, Z, h1, h2, h3, h4, h5, h6, h7.same (hs.narrow h1 h2)⟩
theorem TW.l2 {lo hi : Nat} {W : World} {u : Value} {R : List (List Int)} (h : TW lo hi W u R) : L2 0 W u R := by
  rcases h with ⟨rfl, rfl⟩ | ⟨g, r, c, Z, h1, h2, h3, h4, rfl, rfl, h7⟩
  · exact Or.inl ⟨rfl, _, _, rfl⟩
  · exact h7.l2.lower (Nat.zero_le _)
theorem HW.same {lo hi : Nat} {W W' : World} {u : Value} {k m : Int} (h : HW lo hi W u k m) (hs : Same lo hi W W') : HW lo hi W' u k m := by
  rcases h with h | ⟨g, r, c, h1, h2, h3, h4, h5, h6, h7⟩
  · exact Or.inl h
  · exact Or.inr ⟨g, r, c, h1, h2, h3, h4, h5, h6, h7.same (hs.narrow h1 h2)⟩

end Go.Proofs.Ytpdkfidmmjlmnab

namespace Go.Proofs.Ytpdkfidmmjlmnab
open Go.RowKit

/-- A table in blocks of its own, block for block. -/
structure TabI (W : World) (g r c : Nat) (Z : Nat → Nat → Int) : Prop where
  top : W.rowIs g 22 r (fun j => .slice (some ⟨g + 1 + j, 0, none⟩) c c)
  rows : ∀ j, j < r → W.rowIs (g + 1 + j) 2 c (fun i => .int .i64 (Z j i))
theorem rowIs_below {W W' : World} {b : Nat} {t : TypeId} {n : Nat} {f : Nat → Value} (h : W.rowIs b t n f) (hb : Below W.heap.size W W') : W'.rowIs b t n f := h.of_block (hb.block b h.lt)
theorem TabI.below {W W' : World} {g r c : Nat} {Z : Nat → Nat → Int} (h : TabI W g r c Z) (hb : Below W.heap.size W W') : TabI W' g r c Z :=
  ⟨rowIs_below h.top hb, fun j hj => rowIs_below (h.rows j hj) hb⟩
end Go.Proofs.Ytpdkfidmmjlmnab


namespace Go.Proofs.Ytpdkfidmmjlmnab
open Go.RowKit

section
variable {P : Program} {md : Region.Mode} {ops : Array Oper} {Q : Exit → Act → World → Prop} {S : World → Prop}
theorem yieldsIf_bin {o : Oper} {a : Act} {x y : Operand} {v u i : Value} {b : BinOp} {t t' : TypeId} (hg : o.guard = none) (ho : o.op = .binOp b t x y t') (hx : a.eval x = u) (hy : a.eval y = i) (hge : ∀ w, (eqGuard b t x y u i).run P w = .ok () w) (hrun : ∀ w, (binOp b t u i).run P w = .ok v w) : YieldsIf P ops S o v a :=
  Or.inl ⟨by unfold Region.wanted; rw [hg], fun w _ => by
    unfold execOp
    simp only [ho, hx, hy, Sem.run_bind, hge w, hrun w, Result.andThen_ok]
    rfl⟩
theorem yieldsIf_run {o : Oper} {a : Act} {v : Value} (hg : o.guard = none) (hrun : ∀ w, S w → (execOp a.eval o).run P w = .ok (.value v) w) : YieldsIf P ops S o v a :=
  Or.inl ⟨by unfold Region.wanted; rw [hg], hrun⟩
theorem yieldsIf_assign {o : Oper} {a : Act} {x : Operand} {v : Value} (hg : o.guard = none) (ho : o.op = .assign x) (hx : a.eval x = v) : YieldsIf P ops S o v a :=
  Or.inl ⟨by unfold Region.wanted; rw [hg], fun w _ => by
    unfold execOp
    simp only [ho, hx]
    rfl⟩
end
section
variable {md : Region.Mode} {ops : Array Oper} {Q : Exit → Act → World → Prop} {S : World → Prop}
/-- A slice of one new row. -/
theorem held_buildS {i : Nat} {oi : Oper} {fuel : Nat} {listed : Array Bool} {a : Act} {w : World} (d : Option Tmp) (hr : Region.ready md ops listed = [i]) (hi : ops[i]? = some oi) (hg : oi.guard = none) (hd : oi.dst = d)
    (x : Operand) (ad : Option Addr) (n c : Nat) (ho : oi.op = .buildSlice 26 1 #[(0, x)]) (hx : a.eval x = .slice ad n c)
    (h : S (w.alloc (.cells #[.slice ad n c] 22)) ∧ wpAnyH Try.prog md ops Q S fuel (listed.setIfInBounds i true) (a.put d (.slice (some ⟨w.heap.size, 0, none⟩) 1 1)) (w.alloc (.cells #[.slice ad n c] 22))) : wpAnyH Try.prog md ops Q S (fuel + 1) listed a w := by
  obtain ⟨ie, hie, hz, h1, _⟩ := info_parts Try.infoS
  subst hd
  refine held_call hr hi hg (wp_buildSlice 26 22 1 #[(0, x)] ho #[.slice ad n c] ie _ Try.underlying26 hie hz (by rw [h1]; decide) (by rw [h1]; decide) ?_ h)
  simp only [h1, List.map_toArray, List.map_cons, List.map_nil, hx]
  first | kernel_rfl | simp [Instr.fill]
/-- append of one row. -/
theorem held_appendS {i : Nat} {oi : Oper} {fuel : Nat} {listed : Array Bool} {a : Act} {w : World} (d : Option Tmp) (hr : Region.ready md ops listed = [i]) (hi : ops[i]? = some oi) (hg : oi.guard = none) (hd : oi.dst = d)
    (s x : Operand) (ho : oi.op = .call { callee := .builtin .append, args := #[s, x], argTypes := #[26, 26] }) (base : Nat) (v : Value) (n : Nat) (xs : List Value) (hs : a.eval s = v) (hown : w.ownsRow base 22 1 v n xs)
    (b : Nat) (ad : Option Addr) (m c : Nat) (hx : a.eval x = .slice (some ⟨b, 0, none⟩) 1 1) (hc : w.cell? ⟨b, 0, none⟩ = some (.slice ad m c)) (hn : n ≤ 2097152) (hb : base ≤ w.heap.size)
    (h : ∀ v' w', w'.ownsRow base 22 1 v' (n + 1) (xs ++ [.slice ad m c]) → w.grownBy w' v.ownBlock → S w' ∧ wpAnyH Try.prog md ops Q S fuel (listed.setIfInBounds i true) (a.put d v') w') : wpAnyH Try.prog md ops Q S (fuel + 1) listed a w := by
  obtain ⟨ie, hie, hz, h1, h2⟩ := info_parts Try.infoS
  subst hd
  refine held_call hr hi hg (wp_append_own w s x 26 ho base 22 ie _ 1 24 Try.underlying26 hie hz h1 h2 rfl (by decide) v n xs hs hown ⟨b, 0, none⟩ 1 1 [.slice ad m c] hx rfl ?_ ?_ (by unfold maxLen; omega) (by omega) hb (fun v' w' h2 h3 _ => h v' w' h2 h3))
  · intro j u hj
    match j, hj with
    | 0, hj =>
      simp at hj
      subst hj
      exact hc
  · intro u hu
    simp at hu
    subst hu
    rfl
end
theorem cell_alloc1 (w : World) (v : Value) (t : TypeId) : (w.alloc (.cells #[v] t)).cell? ⟨w.heap.size, 0, none⟩ = some v := by
  unfold World.cell?
  rw [heap_alloc_new w (.cells #[v] t)]
  rfl
theorem hidxS (b o : Nat) {k n : Nat} (cap : Nat) (hk : k < n) (w : World) : (Instr.indexAt 26 (.slice (some ⟨b, o, none⟩) n cap) (.int .i64 k)).run Try.prog w = .ok (.pointer (some ⟨b, o + k, none⟩)) w := by
  have h2 : (0 : Int) ≤ (k : Int) := by omega
  have h3 : (k : Int) < (n : Int) := by omega
  go_simp
theorem hloadS (w : World) {b o : Nat} {x : Value} (h : w.cell? ⟨b, o, none⟩ = some x) : (Instr.loadAt 22 (.pointer (some ⟨b, o, none⟩))).run Try.prog w = .ok x w := by go_simp
end Go.Proofs.Ytpdkfidmmjlmnab

namespace Go.Proofs.Ytpdkfidmmjlmnab
open Go.RowKit

theorem ld_ltn {n : Nat} {v : Lin.V} (hw : Lin.Wd n v) (hne : v ≠ Lin.zv) : Lin.ld v < n ∧ v (Lin.ld v) ≠ 0 ∧ ∀ j, j < Lin.ld v → v j = 0 := by
  obtain ⟨i, hi⟩ := Lin.ne_zv hne
  obtain ⟨h1, h2⟩ := Lin.ld_spec hi
  refine ⟨Classical.byContradiction fun hn => h1 (hw _ (by omega)), h1, h2⟩
/-- What a reduced list of rows of n numbers has to do with a list. -/
structure RedN (p : Int) (n : Nat) (R T : List Lin.V) : Prop where
  red : Lin.Red p R
  wd : ∀ u ∈ R, Lin.Wd n u
  eqv : Lin.Eqv p R T
theorem RedN.nil (p : Int) (n : Nat) : RedN p n [] [] := ⟨Lin.Red.nil p, by simp, Lin.Eqv.refl _ _⟩
theorem RedN.skip {p : Int} (hp : 0 < p) {n : Nat} {R T : List Lin.V} (h : RedN p n R T) {v : Lin.V} (hT : ∀ w ∈ T, Lin.Md p w) (hv : Lin.Md p v) (hr : Lin.Rest p R v R.length Lin.zv) : RedN p n R (T ++ [v]) :=
  ⟨h.red, h.wd, Lin.skip_eqv hp h.red hT hv h.eqv hr⟩
theorem RedN.put {p : Int} (hp : 1 < p) {n : Nat} {R T : List Lin.V} (h : RedN p n R T) {v r u : Lin.V} {k : Nat} (hT : ∀ w ∈ T, Lin.Md p w) (hv : Lin.Md p v) (hr : Lin.Rest p R v R.length r) (hne : r ≠ Lin.zv) (hu : Lin.Unit p r u) (huw : Lin.Wd n u) (hk : k ≤ R.length)
    (hlo : ∀ w ∈ R.take k, Lin.ld w < Lin.ld u) (hhi : ∀ w ∈ R.drop k, ¬ Lin.ld w < Lin.ld u) : RedN p n (Lin.put p R k u) (T ++ [v]) := by
  have hf := Lin.fits_of hr hne hu hk hlo hhi
  refine ⟨hf.red hp h.red, fun x hx => ?_, Lin.put_eqv hp h.red hT hv h.eqv hr hu hf⟩
  rcases Lin.put_mem.1 hx with rfl | ⟨y, hy, rfl⟩
  · exact huw
  · exact Lin.add_wd _ (h.wd y hy) huw
theorem RedN.same {p : Int} (hp : 1 < p) {n : Nat} {R R' T : List Lin.V} (h : RedN p n R T) (k : RedOf p R' T) : R' = R :=
  Lin.Red.unique hp k.red h.red (fun v => (k.eqv v).trans (h.eqv v).symm)
theorem RedN.unique {p : Int} (hp : 1 < p) {n n' : Nat} {R R' T T' : List Lin.V} (h : RedN p n R T) (k : RedN p n' R' T') (e : Lin.Eqv p T T') : R' = R :=
  Lin.Red.unique hp k.red h.red (fun v => ((k.eqv v).trans (e v).symm).trans (h.eqv v).symm)

/-- A row less its multiple of u. -/
noncomputable def less1 (p : Int) (u w : Lin.V) : Lin.V := Lin.add p w (-(w (Lin.ld u))) u
/-- The next list while it is gathered: j rows have been seen; pt: the new row is in. -/
def Nx (p : Int) (R : List Lin.V) (u : Lin.V) (j : Nat) (pt : Bool) (N : List Lin.V) : Prop :=
  if pt then ∃ K, K ≤ j ∧ (∃ h : K < R.length, Lin.ld u < Lin.ld R[K]) ∧ (∀ w ∈ R.take K, Lin.ld w < Lin.ld u) ∧ N = Lin.put p (R.take j) K u
  else (∀ w ∈ R.take j, Lin.ld w < Lin.ld u) ∧ N = (R.take j).map (less1 p u)
theorem Nx.start (p : Int) (R : List Lin.V) (u : Lin.V) : Nx p R u 0 false [] := ⟨by simp, by simp⟩
theorem put_more {p : Int} {R : List Lin.V} {u : Lin.V} {j K : Nat} (hK : K ≤ j) (hj : j < R.length) : Lin.put p (R.take j) K u ++ [less1 p u R[j]] = Lin.put p (R.take (j + 1)) K u := by
  have hl : (R.take j).length = j := by simp; omega
  rw [List.take_succ_eq_append_getElem hj]
  unfold Lin.put
  rw [List.take_append_of_le_length (by omega), List.drop_append_of_le_length (by omega), List.map_append, List.append_assoc]
  rfl
theorem put_last {p : Int} {R : List Lin.V} {u : Lin.V} : (R.map (less1 p u)) ++ [u] = Lin.put p R R.length u := by
  unfold Lin.put
  rw [List.take_of_length_le (Nat.le_refl _), List.drop_of_length_le (Nat.le_refl _)]
  rfl
theorem Nx.keep {p : Int} {R : List Lin.V} {u : Lin.V} {j : Nat} {N : List Lin.V} (h : Nx p R u j true N) (hj : j < R.length) : Nx p R u (j + 1) true (N ++ [less1 p u R[j]]) := by
  obtain ⟨K, hK, hx, hlo, rfl⟩ := h
  exact ⟨K, by omega, hx, hlo, put_more hK hj⟩
theorem Nx.done {p : Int} {R : List Lin.V} {u : Lin.V} {N : List Lin.V} (hR : Lin.Red p R) (h : Nx p R u R.length true N) : ∃ K, K ≤ R.length ∧ N = Lin.put p R K u ∧ (∀ w ∈ R.take K, Lin.ld w < Lin.ld u) ∧ ∀ w ∈ R.drop K, ¬ Lin.ld w < Lin.ld u := by
  obtain ⟨K, hK, ⟨hk, hx⟩, hlo, rfl⟩ := h
  refine ⟨K, hK, by rw [List.take_of_length_le (Nat.le_refl _)], hlo, fun w hw => ?_⟩
  rw [List.drop_eq_getElem_cons hk] at hw
  have hp := hR.inc
  rw [← List.take_append_drop K R, List.drop_eq_getElem_cons hk] at hp
  have h2 := (List.pairwise_append.1 hp).2.1
  rcases List.mem_cons.1 hw with rfl | hw
  · omega
  · have := (List.pairwise_cons.1 h2).1 w hw
    omega
theorem Nx.end {p : Int} {R : List Lin.V} {u : Lin.V} {N : List Lin.V} (h : Nx p R u R.length false N) : ∃ K, K ≤ R.length ∧ N ++ [u] = Lin.put p R K u ∧ (∀ w ∈ R.take K, Lin.ld w < Lin.ld u) ∧ ∀ w ∈ R.drop K, ¬ Lin.ld w < Lin.ld u := by
  obtain ⟨hlo, rfl⟩ := h
  refine ⟨R.length, Nat.le_refl _, ?_, hlo, ?_⟩
  · rw [List.take_of_length_le (Nat.le_refl _)]
    exact put_last
  · rw [List.drop_of_length_le (Nat.le_refl _)]
    simp
theorem Nx.length {p : Int} {R : List Lin.V} {u : Lin.V} {j : Nat} {pt : Bool} {N : List Lin.V} (h : Nx p R u j pt N) (hj : j ≤ R.length) : N.length ≤ j + 1 := by
  have hl : (R.take j).length = j := by simp; omega
  cases pt with
  | true =>
    obtain ⟨K, hK, _, _, rfl⟩ := h
    rw [put_length p _ K u (by omega)]
    omega
  | false =>
    obtain ⟨_, rfl⟩ := h
    rw [List.length_map]
    omega
end Go.Proofs.Ytpdkfidmmjlmnab

namespace Go.Proofs.Ytpdkfidmmjlmnab
open Go.RowKit

/-- A row of numbers that a call has gathered above a base. -/
def Gb (base : Nat) (w : World) (u : Value) (xs : List Int) : Prop := w.ownsRow base 2 1 u xs.length (xs.map (Value.int .i64))
theorem Gb.g1 {base : Nat} {w : World} {u : Value} {xs : List Int} (h : Gb base w u xs) : G1 w u xs := owns_mono h (Nat.zero_le _)
theorem Gb.l1 {base : Nat} {w : World} {u : Value} {xs : List Int} (h : Gb base w u xs) : L1 0 w u xs := h.g1.l1
theorem Gb.below {base : Nat} {w w' : World} {u : Value} {xs : List Int} (h : Gb base w u xs) (hb : Below w.heap.size w w') : Gb base w' u xs := owns_below h hb
theorem Gb.mono {base base' : Nat} {w : World} {u : Value} {xs : List Int} (h : Gb base w u xs) (hb : base' ≤ base) : Gb base' w u xs := owns_mono h hb

def GbR (xs : List Int) (w : World) (e : Ending) (w' : World) : Prop := ∃ u, e = .returned u ∧ Gb w.heap.size w' u xs ∧ Below w.heap.size w w'

theorem run_append_zero (w : World) (ty : TypeId) (g : Nat) (ad : Option Addr) (cap : Nat) :
    (Builtin.append_ #[22, 22] ty #[.slice (some ⟨g, 0, none⟩) 0 0, .slice ad 0 cap]).run Try.prog w = .ok (.slice (some ⟨g, 0, none⟩) 0 0) w := by
  obtain ⟨i, hi, _, _, _⟩ := info_parts Try.infoI
  cases ad with
  | none => simp [Builtin.append_, run_underlying Try.underlying22, sizeOf, typeInfo, hi, Builtin.lenOf, Builtin.firstCells, storeCells]
  | some a =>
    have hl := run_loadCells_list (P := Try.prog) w a [] (by simp)
    simp at hl
    simp [Builtin.append_, run_underlying Try.underlying22, sizeOf, typeInfo, hi, Builtin.lenOf, Builtin.firstCells, storeCells, hl]
theorem wpList_append_run {ops : Array Oper} {rest : List Oper} {o : Oper} {a : Act} {w : World} {Q : Exit → Act → World → Prop} {P : Program} (hgd : o.guard = none) (d s : Operand) (t t' : TypeId)
    (ho : o.op = .call { callee := .builtin .append, args := #[d, s], argTypes := #[t, t'] }) (v u : Value) (hd : a.eval d = v) (hs : a.eval s = u) {v' : Value} {w' : World}
    (hr : (Builtin.append_ #[t, t'] o.type #[v, u]).run P w = .ok v' w') (h : wpList P ops Q rest (a.put o.dst v') w') : wpList P ops Q (o :: rest) a w :=
  wpList_plain hgd fun K hK => by
    unfold Oper.wp execOp
    simp only [ho, resolve, invoke, builtin, Sem.run_bind, Sem.run_pure, Result.andThen_ok, List.map_toArray, List.map_cons, List.map_nil, hd, hs, hr]
    exact hK _ _ h

set_option maxHeartbeats 800000 in
theorem l01Own_any (v : Value) (xs : List Int) (w : World) (h : L1 0 w v xs) (hm : xs.length ≤ 1048576) :
    Calls Try.prog 168 #[v] w (GbR xs w) := by
  have HOWN := Lib.hid (World.ownsRow_made (base := w.heap.size) (e := 2) (size := 1) w #[] 0 (Nat.le_refl _) (by unfold maxLen; omega) (by simp))
  obtain ⟨i1, hj, hy0, hy1, hy2⟩ := info_parts Try.infoI
  refine Sl.cases h (fun ad cap hx hv => ?_) (fun b o cap hv _ hpos hc => ?_)
  · subst hx hv
    clear h
    have hrun := fun W ty => run_append_zero W ty w.heap.size ad cap
    go_enter Try.func168, Try.ntmps168
    go_wp2_with (at_builtin; refine wpList_append_run rfl (.tmp 3) (.tmp 4) 22 22 rfl _ _ rfl rfl (hrun _ _) ?_)
    go_wp2
    go_ret
    exact ⟨_, rfl, by simpa [Gb] using HOWN.out, (Below.refl _ _).alloc (Nat.le_refl _) _⟩
  · subst hv
    clear h
    have HC := Lib.hid hc
    clear hc
    go_enter Try.func168, Try.ntmps168
    go_wp2_with (at_builtin; refine wpList_append_own _ rfl (.tmp 3) (.tmp 4) 22 rfl w.heap.size 2 i1 (.int .i64 0) 1 8 Try.underlying22 hj hy0 hy1 hy2 rfl (by decide) _ _ _ rfl HOWN.out ⟨b, o, none⟩ xs.length cap (xs.map (Value.int .i64)) rfl ?c0 ?c1 ?c2 ?c3 ?c4 ?c5 ?_)
    case c0 => simp
    case c1 =>
      intro j u hju
      have hj' : j < xs.length := by
        have := (List.getElem?_eq_some_iff.1 hju).1
        simpa using this
      obtain ⟨u2, h2, h3⟩ := HC.out j hj'
      rw [Addr.add_lit]
      have h4 := cell_lt h2
      rw [((Below.refl w.heap.size w).alloc (Nat.le_refl _) _).cell (p := ⟨b, o + j, none⟩) h4, h2, h3]
      simp [hj'] at hju
      rw [hju]
    case c2 => intro u hu; obtain ⟨x, _, rfl⟩ := List.mem_map.1 hu; rfl
    case c3 => unfold maxLen; omega
    case c4 => omega
    case c5 => simp
    intro v' w3 hown' hgrow _
    have HB3 : Hid (Below w.heap.size w w3) := Lib.hid (((Below.refl _ _).alloc (Nat.le_refl _) _).grown hgrow (by simp) (fun g hg => ((HOWN.out.lt) g hg).1))
    have HO3 := Lib.hid hown'
    clear hown' hgrow
    go_wp2
    go_ret
    exact ⟨_, rfl, by simpa [Gb] using HO3.out, HB3.out⟩

end Go.Proofs.Ytpdkfidmmjlmnab

namespace Go.Proofs.Ytpdkfidmmjlmnab
open Go.RowKit

end Go.Proofs.Ytpdkfidmmjlmnab

namespace Go.Proofs.Ytpdkfidmmjlmnab
open Go.RowKit

/-- A table gathered row by row, above a base. -/
def Gs (base : Nat) (w : World) (u : Value) (t : List (List Int)) : Prop := ∃ vs, w.ownsRow base 22 1 u t.length vs ∧ ∀ k (h1 : k < vs.length) (h2 : k < t.length), G1 w vs[k] t[k]
theorem Gs.below {base : Nat} {w w' : World} {u : Value} {t : List (List Int)} (h : Gs base w u t) (hb : Below w.heap.size w w') : Gs base w' u t := by
  obtain ⟨vs, ho, hr⟩ := h
  exact ⟨vs, owns_below ho hb, fun k h1 h2 => (hr k h1 h2).below hb⟩
theorem Gs.mono {base base' : Nat} {w : World} {u : Value} {t : List (List Int)} (h : Gs base w u t) (hb : base' ≤ base) : Gs base' w u t := by
  obtain ⟨vs, ho, hr⟩ := h
  exact ⟨vs, owns_mono ho hb, hr⟩
theorem Gs.l2 {base : Nat} {w : World} {u : Value} {t : List (List Int)} (h : Gs base w u t) : L2 0 w u t := by
  obtain ⟨vs, ho, hr⟩ := h
  exact sl_of_owns ho (Nat.zero_le _) rfl (fun k h1 h2 => (hr k h2 h1).l1)
theorem Gs.push {base : Nat} {w w3 : World} {v v' row : Value} {t : List (List Int)} {vs : List Value} {x : List Int} (ho : w.ownsRow base 22 1 v t.length vs) (hr : ∀ k (h1 : k < vs.length) (h2 : k < t.length), G1 w vs[k] t[k]) (hx : G1 w row x)
    (ho3 : w3.ownsRow base 22 1 v' (t.length + 1) (vs ++ [row])) (hg : w.grownBy w3 v.ownBlock) : Gs base w3 v' (t ++ [x]) := by
  have hvl : vs.length = t.length := by have := ho.1; omega
  have keep : ∀ u xs, G1 w u xs → G1 w3 u xs := fun u xs h => owns_grown h ho (by decide) hg
  refine ⟨vs ++ [row], by simpa using ho3, fun k h1 h2 => ?_⟩
  by_cases e : k < vs.length
  · rw [List.getElem_append_left e, List.getElem_append_left (by omega)]
    exact keep _ _ (hr k e (by omega))
  · have e2 : k = vs.length := by simp at h1; omega
    subst e2
    rw [List.getElem_append_right (by omega), List.getElem_append_right (by omega)]
    simp only [hvl, Nat.sub_self, List.getElem_cons_zero]
    exact keep _ _ hx

end Go.Proofs.Ytpdkfidmmjlmnab


namespace Go.Proofs.Ytpdkfidmmjlmnab
open Go.RowKit

/-- What the functions on spaces take. -/
def SpOk (p n : Int) (rows : List (List Int)) : Prop := IsP p ∧ (0 ≤ n ∧ n ≤ 40) ∧ rows.length ≤ 40 ∧ TabOk p (rows.length : Int) n rows
theorem SpOk.row {p n : Int} {rows : List (List Int)} (h : SpOk p n rows) {r : List Int} (hr : r ∈ rows) : RowOk p n r := h.2.2.2.2 r hr
theorem SpOk.md {p n : Int} {rows : List (List Int)} (h : SpOk p n rows) : ∀ u ∈ rows.map ofL, Lin.Md p u := fun u hu => by
  obtain ⟨r, hr, rfl⟩ := List.mem_map.1 hu
  exact ofL_md (by have := h.1.lo; omega) (h.row hr)
theorem SpOk.wd {p n : Int} {rows : List (List Int)} (h : SpOk p n rows) : ∀ u ∈ rows.map ofL, Lin.Wd n.toNat u := fun u hu => by
  obtain ⟨r, hr, rfl⟩ := List.mem_map.1 hu
  exact ofL_wd (by have := (h.row hr).1; omega)
theorem SpOk.short {p n : Int} {rows : List (List Int)} (h : SpOk p n rows) : ∀ r ∈ rows, r.length ≤ 40 := fun r hr => by
  have := (h.row hr).1
  have := h.2.1
  omega
theorem led_length {n : Nat} : ∀ (L : List Lin.V) (k : Nat), L.Pairwise (fun v w => Lin.ld v < Lin.ld w) → (∀ u ∈ L, k ≤ Lin.ld u ∧ Lin.ld u < n) → L.length ≤ n - k
  | [], _, _, _ => by simp
  | v :: L, k, hp, h => by
    have h1 := List.pairwise_cons.1 hp
    have h0 := h v (by simp)
    have := led_length L (Lin.ld v + 1) h1.2 (fun u hu => ⟨h1.1 u hu, (h u (by simp [hu])).2⟩)
    simp only [List.length_cons]
    omega
theorem red_length {p : Int} {n : Nat} {R : List Lin.V} (h : Lin.Red p R) (hw : ∀ u ∈ R, Lin.Wd n u) : R.length ≤ n := by
  have := led_length (n := n) R 0 h.inc (fun u hu => ⟨Nat.zero_le _, (ld_ltn (hw u hu) (h.ne hu)).1⟩)
  omega

/-- What such a function answers: the reduced list of a space, or a code. -/
structure SpOut (p : Int) (n : Nat) (S : Lin.V → Prop) (c0 : Int) (out : List (List Int)) (c : Int) : Prop where
  good : c0 = 0 → ∃ R, Lin.Red p R ∧ (∀ u ∈ R, Lin.Wd n u) ∧ (∀ v, Lin.Sp p R v ↔ S v) ∧ out = R.map (toL n)
  bad : c0 ≠ 0 → out = []
  code : c = c0
theorem SpOut.unique {p : Int} {n : Nat} {S : Lin.V → Prop} {c0 : Int} {o1 o2 : List (List Int)} {c1 c2 : Int} (hp : c0 = 0 → 1 < p) (h1 : SpOut p n S c0 o1 c1) (h2 : SpOut p n S c0 o2 c2) : o1 = o2 ∧ c1 = c2 := by
  refine ⟨?_, h1.code.trans h2.code.symm⟩
  by_cases h0 : c0 = 0
  · obtain ⟨R1, a1, _, b1, rfl⟩ := h1.good h0
    obtain ⟨R2, a2, _, b2, rfl⟩ := h2.good h0
    rw [Lin.Red.unique (hp h0) a1 a2 (fun v => (b1 v).trans (b2 v).symm)]
  · rw [h1.bad h0, h2.bad h0]
theorem SpOut.bd {p : Int} {n : Nat} {S : Lin.V → Prop} {c0 : Int} {o : List (List Int)} {c : Int} (h : SpOut p n S c0 o c) (hn : c0 = 0 → n ≤ 1048576) : Bd2 1048576 o := by
  by_cases h0 : c0 = 0
  · obtain ⟨R, a, b, _, rfl⟩ := h.good h0
    have := red_length a b
    have hn := hn h0
    refine ⟨by rw [List.length_map]; omega, fun r hr => ?_⟩
    obtain ⟨u, _, rfl⟩ := List.mem_map.1 hr
    unfold Bd1
    rw [toL_length]
    exact hn
  · rw [h.bad h0]
    exact ⟨by simp, by simp⟩
theorem SpOut.of_no {p : Int} {n : Nat} {S : Lin.V → Prop} {c0 : Int} (h : c0 ≠ 0) : SpOut p n S c0 [] c0 := ⟨fun h0 => absurd h0 h, fun _ => rfl, rfl⟩
theorem TW.wider {lo lo' hi : Nat} {W : World} {u : Value} {R : List (List Int)} (h : TW lo hi W u R) (hl : lo' ≤ lo) : TW lo' hi W u R := by
  rcases h with h | ⟨g, r, c, Z, h1, h2, h3, h4, h5, h6, h7⟩
  · exact Or.inl h
  · exact Or.inr ⟨g, r, c, Z, by omega, h2, h3, h4, h5, h6, h7⟩
end Go.Proofs.Ytpdkfidmmjlmnab

namespace Go.Proofs.Ytpdkfidmmjlmnab
open Go.RowKit

end Go.Proofs.Ytpdkfidmmjlmnab

namespace Go.Proofs.Ytpdkfidmmjlmnab
open Go.RowKit

/-- append of no elements. -/
theorem run_append_none' {P : Program} (w : World) (t ty e : TypeId) (i : TypeInfo) (ht : P.underlying t = some (.slice e)) (hi : P.info? e = some i) {base size n : Nat} {v : Value} {xs : List Value} (hown : w.ownsRow base e size v n xs) (ad : Option Addr) (cap : Nat) :
    (Builtin.append_ #[t, t] ty #[v, .slice ad 0 cap]).run P w = .ok v w := by
  cases ad with
  | none =>
    rcases hown.2 with ⟨rfl, rfl⟩ | ⟨g, cap, cur, rfl, _, _, hnc, _⟩
    · simp [Builtin.append_, run_underlying ht, sizeOf, typeInfo, hi, Builtin.lenOf, Builtin.firstCells]
    · simp [Builtin.append_, run_underlying ht, sizeOf, typeInfo, hi, Builtin.lenOf, Builtin.firstCells, hnc, storeCells]
  | some a =>
    have hl := run_loadCells_list (P := P) w a [] (by simp)
    simp at hl
    rcases hown.2 with ⟨rfl, rfl⟩ | ⟨g, cap, cur, rfl, _, _, hnc, _⟩
    · simp [Builtin.append_, run_underlying ht, sizeOf, typeInfo, hi, Builtin.lenOf, Builtin.firstCells, hl]
    · simp [Builtin.append_, run_underlying ht, sizeOf, typeInfo, hi, Builtin.lenOf, Builtin.firstCells, hnc, storeCells, hl]

end Go.Proofs.Ytpdkfidmmjlmnab

namespace Go.Proofs.Ytpdkfidmmjlmnab
open Go.RowKit

/-- The rows' values of a table. -/
structure RowsAt (w : World) (v : Value) (tb : List (List Int)) (vs : List Value) : Prop where
  len : vs.length = tb.length
  row : ∀ k (h1 : k < vs.length) (h2 : k < tb.length), L1 0 w vs[k] tb[k]
  one : ∀ u ∈ vs, u.oneCell' = true
  at' : ∃ ad cap, v = .slice ad tb.length cap ∧ (0 < tb.length → ∃ a, ad = some a ∧ ∀ j u, vs[j]? = some u → w.cell? (a.add j) = some u)
theorem RowsAt.below {w w' : World} {v : Value} {tb : List (List Int)} {vs : List Value} (h : RowsAt w v tb vs) (hb : Below w.heap.size w w') : RowsAt w' v tb vs := by
  obtain ⟨ad, cap, hv, hc⟩ := h.at'
  refine ⟨h.len, fun k h1 h2 => (h.row k h1 h2).below hb, h.one, ad, cap, hv, fun h0 => ?_⟩
  obtain ⟨a, ha, hc⟩ := hc h0
  exact ⟨a, ha, fun j u hj => by rw [hb.cell (World.block_lt_of_cell? _ _ (hc j u hj)), hc j u hj]⟩
end Go.Proofs.Ytpdkfidmmjlmnab


namespace Go.Proofs.Ytpdkfidmmjlmnab
open Go.RowKit

open Classical in
/-- The code of two complexes. -/
noncomputable def endCode (p p2 : Int) (ds : List Int) (ms : List (List (List Int))) (ds2 : List Int) (ms2 : List (List (List Int))) : Int :=
  if ¬ (IsCx p ds ms ∧ IsCx p2 ds2 ms2) then 1 else if p = p2 ∧ ds.length = ds2.length then 0 else 2
structure EndOk (p p2 : Int) (ds : List Int) (ms : List (List (List Int))) (ds2 : List Int) (ms2 : List (List (List Int))) : Prop where
  x : IsCx p ds ms
  y : IsCx p2 ds2 ms2
  prime : p = p2
  len : ds.length = ds2.length
theorem EndOk.code {p p2 : Int} {ds : List Int} {ms : List (List (List Int))} {ds2 : List Int} {ms2 : List (List (List Int))} (h : EndOk p p2 ds ms ds2 ms2) : endCode p p2 ds ms ds2 ms2 = 0 := by
  unfold endCode
  rw [if_neg (fun k => k ⟨h.x, h.y⟩), if_pos ⟨h.prime, h.len⟩]
theorem bb_no {P : Prop} {b : Bool} (h : b = true ↔ P) (hp : ¬ P) : b = false := by
  cases b with
  | false => rfl
  | true => exact absurd (h.1 rfl) hp

/-- The cells of two complexes in a row. -/
structure Row2 (w : World) (b : Nat) (p p2 : Int) (dv mv dv2 mv2 : Value) : Prop where
  c0 : w.cell? ⟨b, 0, none⟩ = some (.int .i64 p)
  c1 : w.cell? ⟨b, 1, none⟩ = some dv
  c2 : w.cell? ⟨b, 2, none⟩ = some mv
  d0 : w.cell? ⟨b, 3, none⟩ = some (.int .i64 p2)
  d1 : w.cell? ⟨b, 4, none⟩ = some dv2
  d2 : w.cell? ⟨b, 5, none⟩ = some mv2
theorem Row2.next {w w' : World} {b : Nat} {p p2 : Int} {dv mv dv2 mv2 : Value} (h : Row2 w b p p2 dv mv dv2 mv2) (hb : Below w.heap.size w w') : Row2 w' b p p2 dv mv dv2 mv2 :=
  ⟨later hb (Nat.le_refl _) h.c0, later hb (Nat.le_refl _) h.c1, later hb (Nat.le_refl _) h.c2, later hb (Nat.le_refl _) h.d0, later hb (Nat.le_refl _) h.d1, later hb (Nat.le_refl _) h.d2⟩

open Classical in
/-- The code of two complexes with the same prime. -/
noncomputable def prCode (p p2 : Int) (ds : List Int) (ms : List (List (List Int))) (ds2 : List Int) (ms2 : List (List (List Int))) : Int :=
  if ¬ (IsCx p ds ms ∧ IsCx p2 ds2 ms2) then 1 else if p = p2 then 0 else 2
structure PrOk (p p2 : Int) (ds : List Int) (ms : List (List (List Int))) (ds2 : List Int) (ms2 : List (List (List Int))) : Prop where
  x : IsCx p ds ms
  y : IsCx p2 ds2 ms2
  prime : p = p2
theorem PrOk.code {p p2 : Int} {ds : List Int} {ms : List (List (List Int))} {ds2 : List Int} {ms2 : List (List (List Int))} (h : PrOk p p2 ds ms ds2 ms2) : prCode p p2 ds ms ds2 ms2 = 0 := by
  unfold prCode
  rw [if_neg (fun k => k ⟨h.x, h.y⟩), if_pos h.prime]
/-- The cells of a box of a complex, whatever stood there when it was made. -/
structure Bq (wr : World) (b : Nat) (p : Int) (dv mv : Value) (ds : List Int) (ms : List (List (List Int))) : Prop where
  c0 : wr.cell? ⟨b, 0, none⟩ = some (.int .i64 p)
  c1 : wr.cell? ⟨b, 1, none⟩ = some dv
  c2 : wr.cell? ⟨b, 2, none⟩ = some mv
  lt : b < wr.heap.size
  cx : Cx 0 wr dv mv ds ms
theorem Bx.bq {w wr : World} {b : Nat} {p : Int} {dv mv : Value} {ds : List Int} {ms : List (List (List Int))} (h : Bx w wr b p dv mv ds ms) : Bq wr b p dv mv ds ms := ⟨h.c0, h.c1, h.c2, h.lt, h.cx⟩
theorem Bq.next {wr w' : World} {b : Nat} {p : Int} {dv mv : Value} {ds : List Int} {ms : List (List (List Int))} (h : Bq wr b p dv mv ds ms) (hb : Below wr.heap.size wr w') : Bq w' b p dv mv ds ms :=
  ⟨later hb (Nat.le_refl _) h.c0, later hb (Nat.le_refl _) h.c1, later hb (Nat.le_refl _) h.c2, Nat.lt_of_lt_of_le h.lt hb.size, h.cx.below hb⟩
theorem Bq.only {wr w' : World} {b lo hi : Nat} {p : Int} {dv mv : Value} {ds : List Int} {ms : List (List (List Int))} (h : Bq wr b p dv mv ds ms) (ho : Only lo hi wr w') (hc : Cx 0 w' dv mv ds ms) (hb : b < lo ∨ hi ≤ b) : Bq w' b p dv mv ds ms :=
  ⟨(ho.cell hb).trans h.c0, (ho.cell hb).trans h.c1, (ho.cell hb).trans h.c2, by have := ho.size; have := h.lt; omega, hc⟩
end Go.Proofs.Ytpdkfidmmjlmnab


namespace Go.Proofs.Ytpdkfidmmjlmnab
open Go.RowKit

/-- The dimension of a degree. -/
def dimN (ds : List Int) (n : Int) : Nat := (ds.getD n.toNat 0).toNat

/-- What a function on a complex and a degree answers as a list of vectors. -/
def SpF (p : Int) (n : Nat) (S : Lin.V → Prop) (R : List Lin.V) : Prop := Lin.Red p R ∧ (∀ u ∈ R, Lin.Wd n u) ∧ (∀ v, Lin.Sp p R v ↔ S v)
theorem SpF.short {p : Int} {n : Nat} {S : Lin.V → Prop} {R : List Lin.V} (h : SpF p n S R) : R.length ≤ n := red_length h.1 h.2.1

end Go.Proofs.Ytpdkfidmmjlmnab

namespace Go.Proofs.Ytpdkfidmmjlmnab
open Go.RowKit

/-- The table from the degree k + 1 to k, none beyond the degrees. -/
def tabN (ms : List (List (List Int))) (k : Nat) : List (List Int) := ms.getD k []
end Go.Proofs.Ytpdkfidmmjlmnab

namespace Go.Proofs.Ytpdkfidmmjlmnab
open Go.RowKit

theorem Gs.lt {base : Nat} {w : World} {v : Value} {tb : List (List Int)} (h : Gs base w v tb) : ∀ k, v.ownBlock = some k → base ≤ k ∧ k < w.heap.size := by
  obtain ⟨vs, ho, _⟩ := h
  exact World.ownsRow.lt ho
theorem Gs.row {base : Nat} {w : World} {u : Value} {tb : List (List Int)} (h : Gs base w u tb) {k : Nat} (hk : k < tb.length) (hpos : 0 < (tb[k]).length) :
    ∃ b c, u = .slice (some ⟨b, 0, none⟩) tb.length c ∧ ∃ g cap, w.cell? ⟨b, k, none⟩ = some (.slice (some ⟨g, 0, none⟩) (tb[k]).length cap) ∧ (tb[k]).length ≤ cap ∧ G1 w (.slice (some ⟨g, 0, none⟩) (tb[k]).length cap) tb[k] := by
  obtain ⟨vs, ho, hr⟩ := h
  obtain ⟨b, c, rfl, _, _⟩ := World.ownsRow.form ho (by omega)
  have hvl : vs.length = tb.length := by have := ho.1; omega
  have hg := hr k (by omega) hk
  obtain ⟨g, cap, hv, _, _⟩ := World.ownsRow.form hg hpos
  refine ⟨b, c, rfl, g, cap, ?_, ?_, by rw [← hv]; exact hg⟩
  · rw [World.ownsRow.cellAt ho k (by omega), List.getElem?_eq_getElem (by omega), hv]
  · rw [hv] at hg
    rcases hg.2 with ⟨h0, _⟩ | ⟨g', cap', cur, h0, _, _, hnc, _⟩
    · cases h0
    · injection h0 with _ _ e3
      omega
/-- append of one row to a table that the call gathers. -/
theorem wpList_appendG {ops : Array Oper} {rest : List Oper} {o : Oper} {a : Act} {w : World} {Q : Exit → Act → World → Prop} (hgd : o.guard = none) (dst : Option Tmp) (hdst : o.dst = dst) (s x : Operand)
    (ho : o.op = .call { callee := .builtin .append, args := #[s, x], argTypes := #[26, 26] }) (base : Nat) (v : Value) (tb : List (List Int)) (hs : a.eval s = v) (hown : Gs base w v tb)
    (b : Nat) (hx : a.eval x = .slice (some ⟨b, 0, none⟩) 1 1) (ar : Option Addr) (nr cr : Nat) (hc : w.cell? ⟨b, 0, none⟩ = some (.slice ar nr cr)) (y : List Int) (hy : G1 w (.slice ar nr cr) y) (hl : tb.length ≤ 2097151) (hb : base ≤ w.heap.size)
    (h : ∀ v' w', Gs base w' v' (tb ++ [y]) → w.grownBy w' v.ownBlock → wpList Try.prog ops Q rest (a.put dst v') w') : wpList Try.prog ops Q (o :: rest) a w := by
  obtain ⟨i, hi, hz, hs1, hb1⟩ := info_parts Try.infoS
  obtain ⟨vs, hvo, hvr⟩ := hown
  subst hdst
  refine wpList_append_own w hgd s x 26 ho base 22 i _ 1 24 Try.underlying26 hi hz hs1 hb1 rfl (by decide) v tb.length vs hs hvo ⟨b, 0, none⟩ 1 1 [.slice ar nr cr] hx rfl ?_ ?_ (by unfold maxLen; omega) (by omega) hb (fun v' w' h1 h2 _ => h v' w' (Gs.push hvo hvr hy h1 h2) h2)
  · intro j u hj
    match j, hj with
    | 0, hj =>
      simp at hj
      subst hj
      exact hc
  · intro u hu
    simp at hu
    subst hu
    rfl

end Go.Proofs.Ytpdkfidmmjlmnab

namespace Go.Proofs.Ytpdkfidmmjlmnab
open Go.RowKit

section
variable {md : Region.Mode} {ops : Array Oper} {Q : Exit → Act → World → Prop} {S : World → Prop}
end

/-- The solutions gathered from the places before f. -/
structure Sols (p : Int) (R : List Lin.V) (f : Nat) (L : List Lin.V) : Prop where
  all : ∀ g, g < f → Lin.Free R g → ∃ s ∈ L, Lin.Sol p R g s
  only : ∀ s ∈ L, ∃ g, g < f ∧ Lin.Free R g ∧ Lin.Sol p R g s
  len : L.length ≤ f
theorem Sols.nil (p : Int) (R : List Lin.V) : Sols p R 0 [] := ⟨fun g h => absurd h (Nat.not_lt_zero _), by simp, by simp⟩
theorem Sols.skip {p : Int} {R : List Lin.V} {f : Nat} {L : List Lin.V} (h : Sols p R f L) (hf : ¬ Lin.Free R f) : Sols p R (f + 1) L :=
  ⟨fun g hg hfr => by
    by_cases e : g = f
    · subst e; exact absurd hfr hf
    · exact h.all g (by omega) hfr, fun s hs => by obtain ⟨g, h1, h2⟩ := h.only s hs; exact ⟨g, by omega, h2⟩, by have := h.len; omega⟩
theorem Sols.add {p : Int} {R : List Lin.V} {f : Nat} {L : List Lin.V} (h : Sols p R f L) (hf : Lin.Free R f) {s : Lin.V} (hs : Lin.Sol p R f s) : Sols p R (f + 1) (L ++ [s]) :=
  ⟨fun g hg hfr => by
    by_cases e : g = f
    · subst e; exact ⟨s, by simp, hs⟩
    · obtain ⟨t, ht, h2⟩ := h.all g (by omega) hfr
      exact ⟨t, by simp [ht], h2⟩, fun t ht => by
    rcases List.mem_append.1 ht with h1 | h1
    · obtain ⟨g, h2, h3⟩ := h.only t h1; exact ⟨g, by omega, h3⟩
    · rw [List.mem_singleton.1 h1]; exact ⟨f, by omega, hf, hs⟩, by have := h.len; simp; omega⟩
/-- A solution while it is made: k rows have been seen. -/
structure SolTo (p : Int) (R : List Lin.V) (f k : Nat) (s : Lin.V) : Prop where
  at1 : s f = 1
  lead : ∀ w ∈ R.take k, s (Lin.ld w) = (p - w f) % p
  rest : ∀ i, i ≠ f → (∀ w ∈ R.take k, Lin.ld w ≠ i) → s i = 0
theorem SolTo.start (p : Int) (R : List Lin.V) (f : Nat) : SolTo p R f 0 (fun i => if i = f then 1 else Lin.zv i) := ⟨by simp, by simp, fun i h _ => by simp [h, Lin.zv]⟩
theorem SolTo.step {p : Int} {R : List Lin.V} {f k : Nat} {s : Lin.V} (hR : Lin.Red p R) (hf : Lin.Free R f) (h : SolTo p R f k s) (hk : k < R.length) : SolTo p R f (k + 1) (fun i => if i = Lin.ld R[k] then (p - R[k] f) % p else s i) := by
  have hne : ∀ w ∈ R.take k, Lin.ld w ≠ Lin.ld R[k] := fun w hw e => by
    obtain ⟨j, hj, rfl⟩ := List.getElem_of_mem hw
    have hjk : j < k := by simp at hj; omega
    have := List.pairwise_iff_getElem.1 hR.inc j k (by omega) hk hjk
    rw [List.getElem_take] at e
    omega
  refine ⟨?_, fun w hw => ?_, fun i hi hn => ?_⟩
  · rw [if_neg (fun e => hf _ (List.getElem_mem hk) e.symm)]
    exact h.at1
  · rw [List.take_succ_eq_append_getElem hk] at hw
    rcases List.mem_append.1 hw with h1 | h1
    · rw [if_neg (hne w h1)]
      exact h.lead w h1
    · rw [List.mem_singleton.1 h1, if_pos rfl]
  · have hn2 := hn R[k] (by rw [List.take_succ_eq_append_getElem hk]; exact List.mem_append_right _ (List.mem_singleton.2 rfl))
    rw [if_neg (fun e => hn2 e.symm)]
    exact h.rest i hi (fun w hw => hn w (by rw [List.take_succ_eq_append_getElem hk]; exact List.mem_append_left _ hw))
theorem SolTo.done {p : Int} {R : List Lin.V} {f : Nat} {s : Lin.V} (h : SolTo p R f R.length s) : Lin.Sol p R f s := by
  have e : R.take R.length = R := List.take_of_length_le (Nat.le_refl _)
  exact ⟨h.at1, fun w hw => h.lead w (by rw [e]; exact hw), fun i hi hn => h.rest i hi (fun w hw => hn w (by rw [e] at hw; exact hw))⟩

end Go.Proofs.Ytpdkfidmmjlmnab

namespace Go.Proofs.Ytpdkfidmmjlmnab
open Go.RowKit

/-- The table whose columns the cycles of a degree annihilate, and its width. -/
def cycT (ds : List Int) (ms : List (List (List Int))) (q : Nat) : List (List Int) := mapZ ds ms (q : Int)
def cycM (ds : List Int) (q : Nat) : Nat := if q = 0 then 0 else dimN ds ((q - 1 : Nat) : Int)
theorem dimN_le8 {p : Int} {ds : List Int} {ms : List (List (List Int))} (h : IsCx p ds ms) (q : Nat) : dimN ds (q : Int) ≤ 8 ∧ ds.getD q 0 = (dimN ds (q : Int) : Int) := by
  have := h.1.dim q
  unfold dimN
  rw [Int.toNat_natCast]
  omega
theorem SpF.congr {p : Int} {n : Nat} {S S' : Lin.V → Prop} {R : List Lin.V} (h : SpF p n S R) (e : ∀ v, S v ↔ S' v) : SpF p n S' R := ⟨h.1, h.2.1, fun v => (h.2.2 v).trans (e v)⟩
end Go.Proofs.Ytpdkfidmmjlmnab


namespace Go.Proofs.Ytpdkfidmmjlmnab
open Go.RowKit

/-- Approximate cycles: no numbers at levels above q, and a differential without numbers at levels above q0. -/
structure ZcS (p : Int) (d m : Nat) (t : List (List Int)) (l l0 : List Int) (q q0 : Int) (v : Lin.V) : Prop where
  md : Lin.Md p v
  wd : Lin.Wd d v
  up : ∀ i, i < d → q < l.getD i 0 → v i = 0
  dn : ∀ j, j < m → q0 < l0.getD j 0 → Lin.dot d (Lin.col (fun i => ofL (t.getD i [])) j) v % p = 0

theorem ZcS.zv {p : Int} (hp : 0 < p) (d m : Nat) (t : List (List Int)) (l l0 : List Int) (q q0 : Int) : ZcS p d m t l l0 q q0 Lin.zv :=
  ⟨Lin.zv_md hp, Lin.zv_wd d, fun _ _ _ => rfl, fun j _ _ => by rw [Lin.dot_nil (fun i _ => by simp [Lin.zv])]; rfl⟩
theorem ZcS.add {p : Int} (hp : 0 < p) {d m : Nat} {t : List (List Int)} {l l0 : List Int} {q q0 : Int} {v w : Lin.V} (hv : ZcS p d m t l l0 q q0 v) (c : Int) (hw : ZcS p d m t l l0 q q0 w) : ZcS p d m t l l0 q q0 (Lin.add p v c w) := by
  refine ⟨Lin.add_md hp _ _ _, Lin.add_wd c hv.wd hw.wd, fun i hi h => ?_, fun j hj h => ?_⟩
  · simp [Lin.add, hv.up i hi h, hw.up i hi h]
  · rw [Lin.dot_add]
    have h1 := hv.dn j hj h
    have h2 := hw.dn j hj h
    generalize Lin.dot d (Lin.col (fun i => ofL (t.getD i [])) j) v = a at *
    generalize Lin.dot d (Lin.col (fun i => ofL (t.getD i [])) j) w = b at *
    obtain ⟨x, hx⟩ : ∃ x, a = p * x := Int.dvd_of_emod_eq_zero h1
    obtain ⟨y, hy⟩ : ∃ y, b = p * y := Int.dvd_of_emod_eq_zero h2
    rw [hx, hy, Lin.cg (b := 0) (x + c * y) (by grind)]
    rfl
theorem ZcS.sp {p : Int} (hp : 0 < p) {d m : Nat} {t : List (List Int)} {l l0 : List Int} {q q0 : Int} {O : List Lin.V} (h : ∀ u ∈ O, ZcS p d m t l l0 q q0 u) {v : Lin.V} (hv : Lin.Sp p O v) : ZcS p d m t l l0 q q0 v := by
  induction hv with
  | zero => exact ZcS.zv hp _ _ _ _ _ _ _
  | step c _ hw ih => exact ih.add hp c (h _ hw)

/-! ### The conditions of the program. -/
/-! ### What a test keeps of the places. -/
/-- Approximate cycles of a degree, by the levels. -/
def ZcD (p : Int) (ds : List Int) (ms : List (List (List Int))) (ls : List (List Int)) (n : Nat) (q q0 : Int) : Lin.V → Prop := ZcS p (dimN ds (n : Int)) (cycM ds n) (cycT ds ms n) (ls.getD n []) (ls.getD (n - 1) []) q q0
end Go.Proofs.Ytpdkfidmmjlmnab

namespace Go.Proofs.Ytpdkfidmmjlmnab
open Go.RowKit

end Go.Proofs.Ytpdkfidmmjlmnab

namespace Go.Proofs.Ytpdkfidmmjlmnab
open Go.RowKit

end Go.Proofs.Ytpdkfidmmjlmnab

namespace Go.Proofs.Ytpdkfidmmjlmnab
open Go.RowKit

end Go.Proofs.Ytpdkfidmmjlmnab

namespace Go.Proofs.Ytpdkfidmmjlmnab
open Go.RowKit

end Go.Proofs.Ytpdkfidmmjlmnab

namespace Go.Proofs.Ytpdkfidmmjlmnab
open Go.RowKit

def GsR (t : List (List Int)) (w : World) (e : Ending) (w' : World) : Prop := ∃ u, e = .returned u ∧ Gs w.heap.size w' u t ∧ Below w.heap.size w w'
end Go.Proofs.Ytpdkfidmmjlmnab

namespace Go.Proofs.Ytpdkfidmmjlmnab
open Go.RowKit

end Go.Proofs.Ytpdkfidmmjlmnab

namespace Go.Proofs.Ytpdkfidmmjlmnab
open Go.RowKit

end Go.Proofs.Ytpdkfidmmjlmnab


namespace Go.Proofs.Ytpdkfidmmjlmnab
open Go.RowKit

section
variable {md : Region.Mode} {ops : Array Oper} {Q : Exit → Act → World → Prop} {S : World → Prop}
end
/-- Cycles of levels of at most q together with all boundaries. -/
def LimD (p : Int) (ds : List Int) (ms : List (List (List Int))) (ls : List (List Int)) (k : Nat) (q : Int) (v : Lin.V) : Prop :=
  ∃ Z B, SpF p (dimN ds (k : Int)) (ZcD p ds ms ls k q (-1)) Z ∧ SpF p (dimN ds (k : Int)) (Lin.Sp p ((tabN ms k).map ofL)) B ∧ Lin.Sp p (Z ++ B) v
def LDim (p : Int) (ds : List Int) (ms : List (List (List Int))) (ls : List (List Int)) (k : Nat) (q x : Int) : Prop := ∃ E, SpF p (dimN ds (k : Int)) (LimD p ds ms ls k q) E ∧ x = (E.length : Int)
theorem SpF.unique' {p : Int} {n : Nat} {S : Lin.V → Prop} {R R' : List Lin.V} (hp : 1 < p) (h : SpF p n S R) (k : SpF p n S R') : R = R' := Lin.Red.unique hp h.1 k.1 (fun v => (h.2.2 v).trans (k.2.2 v).symm)
theorem LDim.unique {p : Int} {ds : List Int} {ms : List (List (List Int))} {ls : List (List Int)} {k : Nat} {q x y : Int} (hp : 1 < p) (h : LDim p ds ms ls k q x) (h' : LDim p ds ms ls k q y) : x = y := by
  obtain ⟨A, a, rfl⟩ := h
  obtain ⟨B, b, rfl⟩ := h'
  rw [a.unique' hp b]
theorem LDim.bd {p : Int} {ds : List Int} {ms : List (List (List Int))} {ls : List (List Int)} {k : Nat} {q x : Int} (hcx : IsCx p ds ms) (h : LDim p ds ms ls k q x) : 0 ≤ x ∧ x ≤ 8 := by
  obtain ⟨A, a, rfl⟩ := h
  have := a.short
  have := (dimN_le8 hcx k).1
  omega
/-- The limit number. -/
def LimNum (p : Int) (ds : List Int) (ms : List (List (List Int))) (ls : List (List Int)) (k : Nat) (q x : Int) : Prop := ∃ a b, LDim p ds ms ls k q a ∧ LDim p ds ms ls k (q - 1) b ∧ x = a - b
theorem LimNum.unique {p : Int} {ds : List Int} {ms : List (List (List Int))} {ls : List (List Int)} {k : Nat} {q x y : Int} (hp : 1 < p) (h : LimNum p ds ms ls k q x) (h' : LimNum p ds ms ls k q y) : x = y := by
  obtain ⟨a, b, ha, hb, rfl⟩ := h
  obtain ⟨c, d, hc, hd, rfl⟩ := h'
  rw [ha.unique hp hc, hb.unique hp hd]
/-- A number and a code. -/
structure NOut (P : Int → Prop) (c0 x c : Int) : Prop where
  code : c = c0
  bad : c0 ≠ 0 → x = 0
  good : c0 = 0 → P x
theorem NOut.unique {P : Int → Prop} {c0 x c y d : Int} (hu : c0 = 0 → ∀ a b, P a → P b → a = b) (h : NOut P c0 x c) (k : NOut P c0 y d) : x = y ∧ c = d := by
  refine ⟨?_, h.code.trans k.code.symm⟩
  by_cases h0 : c0 = 0
  · exact hu h0 _ _ (h.good h0) (k.good h0)
  · rw [h.bad h0, k.bad h0]
theorem NOut.of_no {P : Int → Prop} {c : Int} (h : c ≠ 0) : NOut P c 0 c := ⟨rfl, fun _ => rfl, fun h0 => absurd h0 h⟩
end Go.Proofs.Ytpdkfidmmjlmnab


namespace Go.Proofs.Ytpdkfidmmjlmnab
open Go.RowKit

/-- Approximate cycles of the degree above, none beyond the degrees. -/
def UpP (p : Int) (ds : List Int) (ms : List (List (List Int))) (ls : List (List Int)) (k : Nat) (q q0 : Int) (R : List Lin.V) : Prop := (k < ds.length → SpF p (dimN ds (k : Int)) (ZcD p ds ms ls k q q0) R) ∧ (¬ k < ds.length → R = [])
theorem UpP.unique {p : Int} {ds : List Int} {ms : List (List (List Int))} {ls : List (List Int)} {k : Nat} {q q0 : Int} {R R' : List Lin.V} (hp : 1 < p) (h : UpP p ds ms ls k q q0 R) (h' : UpP p ds ms ls k q q0 R') : R = R' := by
  by_cases hk : k < ds.length
  · exact (h.1 hk).unique' hp (h'.1 hk)
  · rw [h.2 hk, h'.2 hk]
theorem UpP.short {p : Int} {ds : List Int} {ms : List (List (List Int))} {ls : List (List Int)} (hcx : IsCx p ds ms) {k : Nat} {q q0 : Int} {R : List Lin.V} (h : UpP p ds ms ls k q q0 R) : R.length ≤ 8 := by
  by_cases hk : k < ds.length
  · have := (h.1 hk).short
    have := (dimN_le8 hcx k).1
    omega
  · rw [h.2 hk]; simp
end Go.Proofs.Ytpdkfidmmjlmnab


namespace Go.Proofs.Ytpdkfidmmjlmnab
open Go.RowKit

section
variable {md : Region.Mode} {ops : Array Oper} {Q : Exit → Act → World → Prop} {S : World → Prop}
/-- append of one row to a table that the call gathers, in a drawn region. -/
theorem held_appendG {i : Nat} {oi : Oper} {fuel : Nat} {listed : Array Bool} {a : Act} {w : World} (d : Option Tmp) (hr : Region.ready md ops listed = [i]) (hi : ops[i]? = some oi) (hg : oi.guard = none) (hd : oi.dst = d)
    (s x : Operand) (ho : oi.op = .call { callee := .builtin .append, args := #[s, x], argTypes := #[26, 26] }) (base : Nat) (v : Value) (tb : List (List Int)) (hs : a.eval s = v) (hst : Gs base w v tb)
    (b : Nat) (ad : Option Addr) (m c : Nat) (hx : a.eval x = .slice (some ⟨b, 0, none⟩) 1 1) (hc : w.cell? ⟨b, 0, none⟩ = some (.slice ad m c)) (y : List Int) (hy : G1 w (.slice ad m c) y) (hn : tb.length ≤ 1048576) (hb : base ≤ w.heap.size)
    (h : ∀ v' w', Gs base w' v' (tb ++ [y]) → Below base w w' → S w' ∧ wpAnyH Try.prog md ops Q S fuel (listed.setIfInBounds i true) (a.put d v') w') : wpAnyH Try.prog md ops Q S (fuel + 1) listed a w := by
  obtain ⟨vs, hvo, hvr⟩ := hst
  exact held_appendS d hr hi hg hd s x ho base v tb.length vs hs hvo b ad m c hx hc (by omega) hb (fun v' w' hown hgrow => h v' w' (Gs.push hvo hvr hy hown hgrow) ((Below.refl _ _).grown hgrow hb (fun g hg => (World.ownsRow.lt hvo g hg).1)))
end

/-- Gathered rows of a table behind one another. -/
structure CatA (base : Nat) (w : World) (v : Value) (tb : List (List Int)) (xs : List Value) : Prop where
  own : w.ownsRow base 22 1 v tb.length xs
  len : xs.length = tb.length
  rows : ∀ k (h1 : k < xs.length) (h2 : k < tb.length), G1 w xs[k] tb[k]
theorem CatA.below {base : Nat} {w w' : World} {v : Value} {tb : List (List Int)} {xs : List Value} (h : CatA base w v tb xs) (hb : Below w.heap.size w w') : CatA base w' v tb xs := ⟨owns_below h.own hb, h.len, fun k h1 h2 => (h.rows k h1 h2).below hb⟩
theorem CatA.gs {base : Nat} {w : World} {v : Value} {tb : List (List Int)} {xs : List Value} (h : CatA base w v tb xs) : Gs base w v tb := ⟨xs, h.own, h.rows⟩
theorem CatA.start (w : World) (base : Nat) (hb : base ≤ w.heap.size) : CatA base (w.alloc (.cells #[] 22)) (.slice (some ⟨w.heap.size, 0, none⟩) 0 0) [] [] :=
  ⟨by simpa using World.ownsRow_made (base := base) (e := 22) (size := 1) w #[] 0 hb (by unfold maxLen; omega) (by simp), rfl, fun k h1 _ => absurd h1 (Nat.not_lt_zero _)⟩
/-- behind the append of a gathered table. -/
theorem CatA.add {base : Nat} {w w' : World} {v v' : Value} {ta tb : List (List Int)} {xs ys : List Value} (h : CatA base w v ta xs) (hb : ∀ k (h1 : k < ys.length) (h2 : k < tb.length), G1 w ys[k] tb[k]) (hl : ys.length = tb.length)
    (ho : w'.ownsRow base 22 1 v' (ta.length + tb.length) (xs ++ ys)) (hg : w.grownBy w' v.ownBlock) : CatA base w' v' (ta ++ tb) (xs ++ ys) := by
  have h1 := h.len
  refine ⟨by rw [List.length_append]; exact ho, by simp; omega, fun k hk hk2 => ?_⟩
  by_cases e : k < xs.length
  · rw [List.getElem_append_left e, List.getElem_append_left (by omega)]
    exact owns_grown (h.rows k e (by omega)) h.own (by decide) hg
  · rw [List.getElem_append_right (by omega), List.getElem_append_right (by omega)]
    have h3 : k - xs.length < ys.length := by rw [List.length_append] at hk; omega
    have : G1 w' ys[k - xs.length] (tb[k - xs.length]'(by omega)) := owns_grown (hb (k - xs.length) h3 (by omega)) h.own (by decide) hg
    simpa [h1] using this
end Go.Proofs.Ytpdkfidmmjlmnab

