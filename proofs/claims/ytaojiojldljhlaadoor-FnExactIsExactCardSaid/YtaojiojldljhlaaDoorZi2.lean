/-
  Texts that ProofIxl needs, part 2.
-/
import Derived.Test.YtaojiojldljhlaaDoorZi1
import Derived.WalkKit
import Derived.Lib.Hide
import Derived.Deep.OwnRows
import Derived.Deep.Draws
import Derived.Test.YtaojiojldljhlaaDoorChecked
import Derived.Outline
import Derived.Deep.QuietTactic
import Derived.BigQuiet
import Derived.BigRegion
import Derived.WalkLawsBesides
import Derived.Laws.CopyOwn
import Derived.OrdersHeld
import Derived.Deep.MidRow
import Derived.Deep.RegionHeld3
import Derived.StillTailTactics
import Derived.Deep.Cut
import Derived.Deep.CutRange
import Derived.Great.Walk
import Derived.WideKeyArr
import Derived.Maps.OwnOps
import Derived.Maps.OwnSet
import Derived.Carry
import Derived.Great.BuildSlice
import Derived.Laws.CopyRow
import Derived.Lib.Overlaps
import Derived.Lib.AppendZerosOnto
import Derived.Lib.JoinLaws
import Derived.Deep.RegionLaw
import Derived.Deep.LoopGhost
import Derived.WalkMore
namespace Go.Proofs.YtaojiojldljhlaaDoor
open Go.RowKit

theorem cell_lt {w : World} {b o : Nat} {u : Value} (h : w.cell? ⟨b, o, none⟩ = some u) : b < w.heap.size := World.block_lt_of_cell? _ _ h

/-- Cells of blocks from lo on (that were there) read as they did. -/
def Keep (lo : Nat) (w w' : World) : Prop := w.heap.size ≤ w'.heap.size ∧ ∀ b o, lo ≤ b → b < w.heap.size → w'.cell? ⟨b, o, none⟩ = w.cell? ⟨b, o, none⟩

theorem Keep.of_below {lo : Nat} {w w' : World} (h : Below w.heap.size w w') : Keep lo w w' := ⟨h.size, fun _ _ _ hb => h.cell (p := ⟨_, _, none⟩) hb⟩
theorem Keep.trans {lo : Nat} {a b c : World} (h : Keep lo a b) (k : Keep lo b c) : Keep lo a c :=
  ⟨Nat.le_trans h.1 k.1, fun i o hl hi => (k.2 i o hl (Nat.lt_of_lt_of_le hi h.1)).trans (h.2 i o hl hi)⟩
theorem Keep.set {lo g o : Nat} {w : World} (u : Value) (h : g < lo) : Keep lo w (w.setCell ⟨g, o, none⟩ u) :=
  ⟨by simp [World.setCell], fun b i hl _ => World.cell?_of_block (w := w) (a := ⟨b, i, none⟩) (Below.heap_setCell w ⟨g, o, none⟩ u b (by show b ≠ g; omega))⟩
theorem Keep.drewN {lo : Nat} (w : World) (n : Nat) : Keep lo w (w.drewN n) := ⟨Nat.le_refl _, fun _ _ _ _ => rfl⟩

/-- The slice value v reads, cell by cell, as the list xs (R: how one cell reads); its cells lie in blocks from lo on. -/
def Sl {α : Type} (lo : Nat) (R : World → Value → α → Prop) (w : World) (v : Value) (xs : List α) : Prop :=
  (xs = [] ∧ ∃ ad cap, v = .slice ad 0 cap) ∨
  ∃ b o cap, v = .slice (some ⟨b, o, none⟩) xs.length cap ∧ lo ≤ b ∧ 0 < xs.length ∧ ∀ k (h : k < xs.length), ∃ u, w.cell? ⟨b, o + k, none⟩ = some u ∧ R w u xs[k]

def IsI (_ : World) (v : Value) (x : Int) : Prop := v = .int .i64 x
def L1 (lo : Nat) := Sl lo IsI
def L2 (lo : Nat) := Sl lo (L1 lo)
def L3 (lo : Nat) := Sl lo (L2 lo)

def Stable {α : Type} (lo : Nat) (R : World → Value → α → Prop) : Prop := ∀ w w' v x, Keep lo w w' → R w v x → R w' v x
theorem stableI (lo : Nat) : Stable lo IsI := fun _ _ _ _ _ h => h
theorem Stable.sl {α : Type} {lo : Nat} {R : World → Value → α → Prop} (hR : Stable lo R) : Stable lo (Sl lo R) := by
  intro w w' v xs hk h
  rcases h with h | ⟨b, o, cap, hv, hlo, hpos, hc⟩
  · exact Or.inl h
  · refine Or.inr ⟨b, o, cap, hv, hlo, hpos, fun k hk' => ?_⟩
    obtain ⟨u, hu, hr⟩ := hc k hk'
    exact ⟨u, (hk.2 b (o + k) hlo (cell_lt hu)).trans hu, hR _ _ _ _ hk hr⟩
theorem stable1 (lo : Nat) : Stable lo (L1 lo) := (stableI lo).sl
theorem stable2 (lo : Nat) : Stable lo (L2 lo) := (stable1 lo).sl
theorem stable3 (lo : Nat) : Stable lo (L3 lo) := (stable2 lo).sl

theorem Sl.lower {α : Type} {lo lo' : Nat} {R R' : World → Value → α → Prop} (hl : lo' ≤ lo) (hR : ∀ w v x, R w v x → R' w v x) {w : World} {v : Value} {xs : List α} (h : Sl lo R w v xs) : Sl lo' R' w v xs := by
  rcases h with h | ⟨b, o, cap, hv, hlo, hpos, hc⟩
  · exact Or.inl h
  · refine Or.inr ⟨b, o, cap, hv, Nat.le_trans hl hlo, hpos, fun k hk' => ?_⟩
    obtain ⟨u, hu, hr⟩ := hc k hk'
    exact ⟨u, hu, hR _ _ _ hr⟩
theorem L1.lower {lo lo' : Nat} (hl : lo' ≤ lo) {w : World} {v : Value} {xs : List Int} (h : L1 lo w v xs) : L1 lo' w v xs := Sl.lower hl (fun _ _ _ h => h) h
theorem L2.lower {lo lo' : Nat} (hl : lo' ≤ lo) {w : World} {v : Value} {xs : List (List Int)} (h : L2 lo w v xs) : L2 lo' w v xs := Sl.lower hl (fun _ _ _ h => L1.lower hl h) h
theorem L3.lower {lo lo' : Nat} (hl : lo' ≤ lo) {w : World} {v : Value} {xs : List (List (List Int))} (h : L3 lo w v xs) : L3 lo' w v xs := Sl.lower hl (fun _ _ _ h => L2.lower hl h) h

theorem L1.below {lo : Nat} {w w' : World} {v : Value} {xs : List Int} (h : L1 lo w v xs) (hb : Below w.heap.size w w') : L1 lo w' v xs := stable1 lo _ _ _ _ (Keep.of_below hb) h
theorem L2.below {lo : Nat} {w w' : World} {v : Value} {xs : List (List Int)} (h : L2 lo w v xs) (hb : Below w.heap.size w w') : L2 lo w' v xs := stable2 lo _ _ _ _ (Keep.of_below hb) h
theorem L3.below {lo : Nat} {w w' : World} {v : Value} {xs : List (List (List Int))} (h : L3 lo w v xs) (hb : Below w.heap.size w w') : L3 lo w' v xs := stable3 lo _ _ _ _ (Keep.of_below hb) h

/-- The two shapes of a slice value. -/
theorem Sl.cases {α : Type} {lo : Nat} {R : World → Value → α → Prop} {w : World} {v : Value} {xs : List α} (h : Sl lo R w v xs) {P : Prop}
    (h0 : ∀ ad cap, xs = [] → v = .slice ad 0 cap → P)
    (h1 : ∀ b o cap, v = .slice (some ⟨b, o, none⟩) xs.length cap → lo ≤ b → 0 < xs.length → (∀ k (h : k < xs.length), ∃ u, w.cell? ⟨b, o + k, none⟩ = some u ∧ R w u xs[k]) → P) : P := by
  rcases h with ⟨h, ad, cap, hv⟩ | ⟨b, o, cap, hv, hlo, hpos, hc⟩
  · exact h0 ad cap h hv
  · exact h1 b o cap hv hlo hpos hc

/-- A slice that a call is filling: its own block g (the first that it made), n cells, the first k filled. -/
structure Fill {α : Type} (w wr : World) (t : TypeId) (n k : Nat) (z : Value) (R : World → Value → α → Prop) (xs : List α) (f : Nat → Value) : Prop where
  below : Below w.heap.size w wr
  row : wr.rowIs w.heap.size t n f
  done : ∀ j (h : j < xs.length), j < k → R wr (f j) (xs[j]'h)
  rest : ∀ j, k ≤ j → j < n → f j = z

theorem Fill.start {α : Type} (w : World) (t : TypeId) (n : Nat) (z : Value) (R : World → Value → α → Prop) (xs : List α) : Fill w (w.alloc (.cells (madeCells #[z] n) t)) t n 0 z R xs (fun _ => z) :=
  ⟨(Below.refl _ _).alloc (Nat.le_refl _) _, World.rowIs_made w z n t, fun _ _ h => absurd h (Nat.not_lt_zero _), fun _ _ _ => rfl⟩

/-- One cell more: behind a call that left w1 (all that was there is as it was), the store of u. -/
theorem Fill.step {α : Type} {w wr w1 : World} {t : TypeId} {n k : Nat} {z u : Value} {R : World → Value → α → Prop} {xs : List α} {f : Nat → Value} (hR : Stable (w.heap.size + 1) R) (h : Fill w wr t n k z R xs f)
    (hb : Below wr.heap.size wr w1) (hk : k < xs.length) (hu : R w1 u xs[k]) :
    Fill w (w1.setCell ⟨w.heap.size, k, none⟩ u) t n (k + 1) z R xs (fun j => if j = k then u else f j) := by
  have hlt := h.row.lt
  have hrow1 : w1.rowIs w.heap.size t n f := h.row.of_block (hb.block _ hlt)
  refine ⟨(h.below.trans (hb.mono (Nat.le_of_lt (by exact Nat.lt_of_le_of_lt (Nat.le_refl _) hlt)))).setCell (Nat.le_refl _) _, hrow1.set k u, fun j hj hjk => ?_, fun j h1 h2 => ?_⟩
  · by_cases e : j = k
    · subst e
      simp only [if_true]
      exact hR _ _ _ _ (Keep.set u (Nat.lt_succ_self _)) hu
    · rw [if_neg e]
      exact hR _ _ _ _ ((Keep.of_below hb).trans (Keep.set u (Nat.lt_succ_self _))) (h.done j hj (by omega))
  · rw [if_neg (by omega)]
    exact h.rest j (by omega) h2

/-- The filled slice reads as the list. -/
theorem Fill.sl {α : Type} {lo : Nat} {w wr : World} {t : TypeId} {z : Value} {R : World → Value → α → Prop} {xs : List α} {f : Nat → Value} (hlo : lo ≤ w.heap.size) (h : Fill w wr t xs.length xs.length z R xs f) :
    Sl lo R wr (.slice (some ⟨w.heap.size, 0, none⟩) xs.length xs.length) xs := by
  by_cases h0 : xs.length = 0
  · exact Or.inl ⟨List.eq_nil_of_length_eq_zero h0, _, _, by rw [h0]⟩
  · exact Or.inr ⟨w.heap.size, 0, xs.length, rfl, hlo, by omega, fun k hk => ⟨f k, by rw [Nat.zero_add]; exact h.row.cell hk, h.done k hk hk⟩⟩

/-- What is below B, said cell by cell, in the walk's own words. -/
theorem bcell {W w1 : World} (hb : Below W.heap.size W w1) : (∀ b o, b < W.heap.size → w1.cell? ⟨b, o, none⟩ = W.cell? ⟨b, o, none⟩) ∧ (∀ b o, b < W.heap.size → w1.frozen? ⟨b, o, none⟩ = W.frozen? ⟨b, o, none⟩) :=
  ⟨fun b o h => hb.cell (p := ⟨b, o, none⟩) h, fun b o h => hb.frozen (p := ⟨b, o, none⟩) h⟩

theorem drewN_below (w : World) (n : Nat) : Below w.heap.size w (w.drewN n) := ⟨rfl, rfl, rfl, Nat.le_refl _, fun _ _ => rfl⟩
theorem ret_int {k : IntKind} {a b : Int} (h : a = b) : Ending.returned (.int k a) = .returned (.int k b) := by rw [h]
theorem ret_bool {a b : Bool} (h : a = b) : Ending.returned (.bool a) = .returned (.bool b) := by rw [h]

/-- Every number of the list is at most n long, at every depth. -/
def Bd1 (n : Nat) (xs : List Int) : Prop := xs.length ≤ n
def Bd2 (n : Nat) (xs : List (List Int)) : Prop := xs.length ≤ n ∧ ∀ x ∈ xs, Bd1 n x
/-- How one of the bounds answers: -1, or a number from 0 on, and then the list is short. -/
def SzR (left : Int) (ok : Prop) (w : World) (e : Ending) (w' : World) : Prop := ∃ r : Int, e = .returned (.int .i64 r) ∧ w = w' ∧ (r = -1 ∨ 0 ≤ r ∧ r ≤ left ∧ ok)
def SzB (left : Int) (ok : Prop) (w : World) (e : Ending) (w' : World) : Prop := ∃ r : Int, e = .returned (.int .i64 r) ∧ Below w.heap.size w w' ∧ (r = -1 ∨ 0 ≤ r ∧ r ≤ left ∧ ok)

theorem Sl.shape {α : Type} {lo : Nat} {R : World → Value → α → Prop} {w : World} {v : Value} {xs : List α} (h : Sl lo R w v xs) : ∃ ad cap, v = .slice ad xs.length cap :=
  h.cases (fun ad cap hx hv => ⟨ad, cap, by subst hx; exact hv⟩) (fun b o cap hv _ _ _ => ⟨some ⟨b, o, none⟩, cap, hv⟩)
theorem owns_below {w w' : World} {base : Nat} {e : TypeId} {size n : Nat} {v : Value} {xs : List Value} (h : w.ownsRow base e size v n xs) (hb : Below w.heap.size w w') : w'.ownsRow base e size v n xs := by
  refine ⟨h.1, ?_⟩
  rcases h.2 with h2 | ⟨g, cap, cur, hv, hg, hh, r⟩
  · exact Or.inl h2
  · exact Or.inr ⟨g, cap, cur, hv, hg, by rw [hb.block g (Array.getElem?_eq_some_iff.1 hh).1]; exact hh, r⟩
/-- An owned slice of values reads as the list that its values read as. -/
theorem sl_of_owns {α : Type} {w : World} {base lo : Nat} {e : TypeId} {n : Nat} {v : Value} {vs : List Value} {R : World → Value → α → Prop} {xs : List α} (h : w.ownsRow base e 1 v n vs) (hlo : lo ≤ base) (hl : xs.length = n)
    (hR : ∀ k (h1 : k < xs.length) (h2 : k < vs.length), R w vs[k] xs[k]) : Sl lo R w v xs := by
  have hvl : vs.length = n := by have := h.1; omega
  rcases h.2 with ⟨rfl, h0⟩ | ⟨g, cap, cur, rfl, hg, hh, hnc, _, hcs, htk⟩
  · exact Or.inl ⟨List.eq_nil_of_length_eq_zero (by omega), _, _, rfl⟩
  · by_cases h0 : n = 0
    · subst h0
      exact Or.inl ⟨List.eq_nil_of_length_eq_zero hl, _, _, rfl⟩
    · refine Or.inr ⟨g, 0, cap, by rw [hl], by omega, by omega, fun k hk => ⟨vs[k]'(by omega), ?_, hR k hk (by omega)⟩⟩
      rw [Nat.zero_add, h.cellAt k (by omega)]
      simp
end Go.Proofs.YtaojiojldljhlaaDoor

namespace Go.Proofs.YtaojiojldljhlaaDoor
open Go.RowKit

theorem Tryd.infoI : (Tryd.prog.info? 2).map (fun i => (i.zero, i.size, i.bytes)) = some (some (.int .i64 0), 1, 8) := by kernel_rfl
theorem Tryd.infoS : (Tryd.prog.info? 35).map (fun i => (i.zero, i.size, i.bytes)) = some (some (.slice none 0 0), 1, 24) := by kernel_rfl
/-- A copy: a new slice in memory of its own that reads as the list. -/
def ToR {α : Type} (R : Nat → World → Value → α → Prop) (x : α) (w : World) (e : Ending) (w' : World) : Prop := ∃ v, e = .returned v ∧ R w.heap.size w' v x ∧ Below w.heap.size w w'

set_option maxHeartbeats 400000 in
theorem to1_any (v : Value) (xs : List Int) (w : World) (h : L1 0 w v xs) (hm : xs.length ≤ 1048576) :
    Calls Tryd.prog 47 #[v] w (ToR L1 xs w) := by
  have hmk := run_make_row' (P := Tryd.prog) 35 2 (.int .i64 0) 8 Tryd.underlying35 Tryd.infoI rfl .i64 .i64 xs.length (by omega) (by omega)
  refine Sl.cases h (fun ad cap hx hv => ?_) (fun b o cap hv _ hpos hc => ?_)
  · subst hx hv
    have hmk0 : ∀ w, (Instr.makeSlice 35 (.int .i64 0) (.int .i64 0)).run Tryd.prog w = .ok (.slice (some ⟨w.heap.size, 0, none⟩) 0 0) (w.alloc (.cells #[] 2)) := fun _ => by kernel_rfl
    clear hmk
    go_enter Tryd.func47, Tryd.ntmps47
    go_wp2
    refine wp_loop_rounds 1 ?_
    rw [rounds_succ]
    go_wp2
    go_ret
    exact ⟨_, rfl, Or.inl ⟨rfl, _, _, rfl⟩, (Below.refl _ _).alloc (Nat.le_refl _) _⟩
  · subst hv
    clear h
    have HC := Lib.hid hc
    clear hc
    go_enter Tryd.func47, Tryd.ntmps47
    go_wp2
    clear hmk
    go_loopw [4] (fun i wr => ∃ (k : Nat) (f : Nat → Value), k ≤ xs.length ∧ i = .int .i64 k ∧ Fill w wr 2 xs.length k (.int .i64 0) IsI xs f) (fun i _ => xs.length - (intOf i).toNat)
    case atStart => exact ⟨0, _, Nat.zero_le _, rfl, Fill.start _ _ _ _ _ _⟩
    case round =>
      obtain ⟨k, f, hk, rfl, HF⟩ := hrel
      by_cases hlt2 : k < xs.length
      · obtain ⟨u, hu, hr⟩ := HC.out k hlt2
        have hu' : wr.cell? ⟨b, o + k, none⟩ = some (.int .i64 xs[k]) := by
          rw [HF.below.cell (p := ⟨b, o + k, none⟩) (cell_lt hu), hu, hr]
        have hc1 := HF.row.cell hlt2
        have hc2 := HF.row.frozen k
        have HS := HF.step (w1 := wr) (u := .int .i64 xs[k]) (stableI _) (Below.refl _ _) hlt2 rfl
        have HF' := Lib.hid HF
        have HS' := Lib.hid HS
        clear HF HS hu hr
        go_wp2
        go_roundw
        case rel => exact ⟨k + 1, _, by omega, by go_num, HS'.out⟩
        case measure => simp [intOf]; omega
      · obtain rfl : k = xs.length := by omega
        have HF' := Lib.hid HF
        clear HF
        go_wp2
        go_ret
        exact ⟨_, rfl, HF'.out.sl (Nat.le_refl _), HF'.out.below⟩

set_option maxHeartbeats 400000 in
theorem to2_any (v : Value) (xs : List (List Int)) (w : World) (h : L2 0 w v xs) (hm : Bd2 1048576 xs) :
    Calls Tryd.prog 26 #[v] w (ToR L2 xs w) := by
  have hml : xs.length ≤ 1048576 := hm.1
  have HM := Lib.hid hm
  clear hm
  have hmk := run_make_row' (P := Tryd.prog) 22 35 (.slice none 0 0) 24 Tryd.underlying22 Tryd.infoS rfl .i64 .i64 xs.length (by omega) (by omega)
  refine Sl.cases h (fun ad cap hx hv => ?_) (fun b o cap hv _ hpos hc => ?_)
  · subst hx hv
    have hmk0 : ∀ w, (Instr.makeSlice 22 (.int .i64 0) (.int .i64 0)).run Tryd.prog w = .ok (.slice (some ⟨w.heap.size, 0, none⟩) 0 0) (w.alloc (.cells #[] 35)) := fun _ => by kernel_rfl
    clear hmk
    go_enter Tryd.func26, Tryd.ntmps26
    go_wp2
    refine wp_loop_rounds 1 ?_
    rw [rounds_succ]
    go_wp2
    go_ret
    exact ⟨_, rfl, Or.inl ⟨rfl, _, _, rfl⟩, (Below.refl _ _).alloc (Nat.le_refl _) _⟩
  · subst hv
    clear h
    have HC := Lib.hid hc
    clear hc
    go_enter Tryd.func26, Tryd.ntmps26
    go_wp2
    clear hmk
    go_loopw [4] (fun i wr => ∃ (k : Nat) (f : Nat → Value), k ≤ xs.length ∧ i = .int .i64 k ∧ Fill w wr 35 xs.length k (.slice none 0 0) (L1 (w.heap.size + 1)) xs f) (fun i _ => xs.length - (intOf i).toNat)
    case atStart => exact ⟨0, _, Nat.zero_le _, rfl, Fill.start _ _ _ _ _ _⟩
    case round =>
      obtain ⟨k, f, hk, rfl, HF⟩ := hrel
      by_cases hlt2 : k < xs.length
      · obtain ⟨u, hu, hr⟩ := HC.out k hlt2
        have hu' : wr.cell? ⟨b, o + k, none⟩ = some u := by
          rw [HF.below.cell (p := ⟨b, o + k, none⟩) (cell_lt hu), hu]
        have hr' : L1 0 wr u xs[k] := hr.below HF.below
        have hmx : (xs[k]).length ≤ 1048576 := HM.out.2 _ (List.getElem_mem hlt2)
        have HF' := Lib.hid HF
        have HR' := Lib.hid hr'
        clear HF hu hr hr'
        go_wp2_with fail
        refine (to1_any u xs[k] _ HR'.out hmx).mono ?_
        rintro e w1 ⟨u1, rfl, hr1, hb1⟩
        obtain ⟨ad1, cap1, rfl⟩ := Sl.shape hr1
        have hlr := HF'.out.row.lt
        have hc1 : w1.cell? ⟨w.heap.size, k, none⟩ = some (f k) := (hb1.cell (p := ⟨w.heap.size, k, none⟩) hlr).trans (HF'.out.row.cell hlt2)
        have hc2 : w1.frozen? ⟨w.heap.size, k, none⟩ = false := (hb1.frozen (p := ⟨w.heap.size, k, none⟩) hlr).trans (HF'.out.row.frozen k)
        have HS := Lib.hid (HF'.out.step (w1 := w1) (u := _) (stable1 _) hb1 hlt2 (hr1.lower hlr))
        clear hr1 hb1 hlr
        go_wp2
        go_roundw
        case rel => exact ⟨k + 1, _, by omega, by go_num, HS.out⟩
        case measure => simp [intOf]; omega
      · obtain rfl : k = xs.length := by omega
        have HF' := Lib.hid HF
        clear HF
        go_wp2
        go_ret
        exact ⟨_, rfl, Sl.lower (Nat.le_refl _) (fun _ _ _ h => h.lower (Nat.le_succ _)) (HF'.out.sl (Nat.le_refl _)), HF'.out.below⟩

/-- A whole complex in three values. -/
structure Cx (lo : Nat) (w : World) (dv mv : Value) (ds : List Int) (ms : List (List (List Int))) : Prop where
  dims : L1 lo w dv ds
  maps : L3 lo w mv ms
theorem Cx.below {lo : Nat} {w w' : World} {dv mv : Value} {ds : List Int} {ms : List (List (List Int))} (h : Cx lo w dv mv ds ms) (hb : Below w.heap.size w w') : Cx lo w' dv mv ds ms := ⟨h.dims.below hb, h.maps.below hb⟩
theorem Cx.lower {lo lo' : Nat} (hl : lo' ≤ lo) {w : World} {dv mv : Value} {ds : List Int} {ms : List (List (List Int))} (h : Cx lo w dv mv ds ms) : Cx lo' w dv mv ds ms := ⟨h.dims.lower hl, h.maps.lower hl⟩

end Go.Proofs.YtaojiojldljhlaaDoor

namespace Go.Proofs.YtaojiojldljhlaaDoor
open Go.RowKit

/-- A call that only reads: its value, and a world that parts from the first in draws alone. -/
def QR (v : Value) (w : World) (e : Ending) (w' : World) : Prop := e = .returned v ∧ ∃ m, w' = w.drewN m

theorem list_eq_take {α : Type} {xs ys : List α} {k : Nat} (hl : ys.length = xs.length) (hk : k = xs.length) (h : ∀ j (h1 : j < xs.length) (h2 : j < ys.length), j < k → xs[j] = ys[j]) : xs = ys :=
  List.ext_getElem hl.symm fun j h1 h2 => h j h1 h2 (by omega)

set_option maxHeartbeats 800000 in
theorem eq1_any (va vb : Value) (xs ys : List Int) (w : World) (ha : L1 0 w va xs) (hb : L1 0 w vb ys) (hm : xs.length ≤ 1048576) (hn : ys.length ≤ 1048576) :
    Calls Tryd.prog 18 #[va, vb] w (QR (.bool (decide (xs = ys))) w) := by
  by_cases hl : ys.length = xs.length
  · refine Sl.cases ha (fun ad cap hx hv => ?_) (fun b o cap hv _ hpos hc => ?_)
    · subst hx hv
      obtain ⟨ad2, cap2, hv2⟩ := Sl.shape hb
      rw [hl] at hv2
      obtain rfl : ys = [] := List.eq_nil_of_length_eq_zero hl
      subst hv2
      clear ha hb hl
      go_enter Tryd.func18, Tryd.ntmps18
      go_wp2
      refine wp_loop_rounds 1 ?_
      rw [rounds_succ]
      go_wp2
      go_ret
      exact ⟨rfl, 0, rfl⟩
    · refine Sl.cases hb (fun ad cap hx hv => absurd hl (by subst hx; simp; omega)) (fun b2 o2 cap2 hv2 _ hpos2 hc2 => ?_)
      rw [hl] at hv2
      subst hv hv2
      clear ha hb
      have HL := Lib.hid hl
      have HC := Lib.hid hc
      have HC2 := Lib.hid hc2
      clear hl hc hc2
      go_enter Tryd.func18, Tryd.ntmps18
      go_wp2
      go_loopw [5] (fun i wr => ∃ (k m : Nat), k ≤ xs.length ∧ i = .int .i64 k ∧ wr = w.drewN m ∧ Hid (∀ j (h1 : j < xs.length) (h2 : j < ys.length), j < k → xs[j] = ys[j])) (fun i _ => xs.length - (intOf i).toNat)
      case atStart => exact ⟨0, 0, Nat.zero_le _, rfl, rfl, Lib.hid (fun _ _ _ h => absurd h (Nat.not_lt_zero _))⟩
      case round =>
        obtain ⟨k, m, hk, rfl, rfl, HD⟩ := hrel
        by_cases hlt2 : k < xs.length
        · have hlt3 : k < ys.length := by have := HL.out; omega
          obtain ⟨u, hu, hr⟩ := HC.out k hlt2
          obtain ⟨u2, hu2, hr2⟩ := HC2.out k hlt3
          obtain ⟨x, hx⟩ : ∃ x, x = xs[k] := ⟨_, rfl⟩
          obtain ⟨y, hy⟩ : ∃ y, y = ys[k] := ⟨_, rfl⟩
          rw [hr, ← hx] at hu
          rw [hr2, ← hy] at hu2
          have HX := Lib.hid hx
          have HY := Lib.hid hy
          clear hx hy hr hr2
          by_cases hxy : x = y
          · have HXY := Lib.hid hxy
            have hq : (x != y) = false := by simp [hxy]
            have hq2 : (x == y) = true := by simp [hxy]
            clear hxy
            go_wp2
            go_quiet (fail)
            go_wp2
            go_roundw
            case rel => exact ⟨k + 1, _, by omega, by go_num, rfl, Lib.hid (fun j h1 h2 hjk => by
              by_cases e : j = k
              · subst e; rw [← HX.out, ← HY.out, HXY.out]
              · exact HD.out j h1 h2 (by omega))⟩
            case measure => simp [intOf]; omega
          · have HXY := Lib.hid hxy
            have hq : (x != y) = true := by simp [hxy]
            have hq2 : (x == y) = false := by simp [hxy]
            clear hxy
            go_wp2
            go_quiet (fail)
            go_wp2
            go_ret
            refine ⟨ret_bool ?_, m + nq, by rw [World.drewN_drewN]⟩
            have hne : ¬ xs = ys := fun e => HXY.out (by rw [HX.out, HY.out]; subst e; rfl)
            simp [hne]
        · go_wp2
          go_ret
          refine ⟨ret_bool ?_, m, rfl⟩
          have := list_eq_take HL.out (by omega) HD.out
          simp [this]
  · obtain ⟨ad, cap, rfl⟩ := Sl.shape ha
    obtain ⟨ad2, cap2, rfl⟩ := Sl.shape hb
    clear ha hb
    have hq : ((xs.length : Int) != (ys.length : Int)) = true := by simp; omega
    have hq2 : ((xs.length : Int) == (ys.length : Int)) = false := by simp; omega
    have HL := Lib.hid hl
    clear hl
    go_enter Tryd.func18, Tryd.ntmps18
    go_wp2
    go_ret
    refine ⟨ret_bool ?_, 0, rfl⟩
    have hne : ¬ xs = ys := fun e => HL.out (by rw [e])
    simp [hne]

set_option maxHeartbeats 800000 in
theorem eq2_any (va vb : Value) (xs ys : List (List Int)) (w : World) (ha : L2 0 w va xs) (hb : L2 0 w vb ys) (hm : Bd2 1048576 xs) (hn : Bd2 1048576 ys) :
    Calls Tryd.prog 29 #[va, vb] w (QR (.bool (decide (xs = ys))) w) := by
  have hm0 : xs.length ≤ 1048576 := hm.1
  have hn0 : ys.length ≤ 1048576 := hn.1
  have HM := Lib.hid hm
  have HN := Lib.hid hn
  clear hm hn
  by_cases hl : ys.length = xs.length
  · refine Sl.cases ha (fun ad cap hx hv => ?_) (fun b o cap hv _ hpos hc => ?_)
    · subst hx hv
      obtain ⟨ad2, cap2, hv2⟩ := Sl.shape hb
      rw [hl] at hv2
      obtain rfl : ys = [] := List.eq_nil_of_length_eq_zero hl
      subst hv2
      clear ha hb hl
      go_enter Tryd.func29, Tryd.ntmps29
      go_wp2
      refine wp_loop_rounds 1 ?_
      rw [rounds_succ]
      go_wp2
      go_ret
      exact ⟨rfl, 0, rfl⟩
    · refine Sl.cases hb (fun ad cap hx hv => absurd hl (by subst hx; simp; omega)) (fun b2 o2 cap2 hv2 _ hpos2 hc2 => ?_)
      rw [hl] at hv2
      subst hv hv2
      clear ha hb
      have HL := Lib.hid hl
      have HC := Lib.hid hc
      have HC2 := Lib.hid hc2
      clear hl hc hc2
      go_enter Tryd.func29, Tryd.ntmps29
      go_wp2
      go_loopw [5] (fun i wr => ∃ (k m : Nat), k ≤ xs.length ∧ i = .int .i64 k ∧ wr = w.drewN m ∧ Hid (∀ j (h1 : j < xs.length) (h2 : j < ys.length), j < k → xs[j] = ys[j])) (fun i _ => xs.length - (intOf i).toNat)
      case atStart => exact ⟨0, 0, Nat.zero_le _, rfl, rfl, Lib.hid (fun _ _ _ h => absurd h (Nat.not_lt_zero _))⟩
      case round =>
        obtain ⟨k, m, hk, rfl, hw, HD⟩ := hrel
        have HW := Lib.hid hw
        clear hw
        by_cases hlt2 : k < xs.length
        · have hlt3 : k < ys.length := by have := HL.out; omega
          obtain ⟨u, hu, hr⟩ := HC.out k hlt2
          obtain ⟨u2, hu2, hr2⟩ := HC2.out k hlt3
          have hu' : wr.cell? ⟨b, o + k, none⟩ = some u := by rw [HW.out]; exact hu
          have hu2' : wr.cell? ⟨b2, o2 + k, none⟩ = some u2 := by rw [HW.out]; exact hu2
          have HE := Lib.hid (fun (m2 : Nat) => eq1_any u u2 xs[k] ys[k] (wr.drewN m2) (by rw [HW.out]; exact (hr.below (drewN_below w m)).below (drewN_below _ m2)) (by rw [HW.out]; exact (hr2.below (drewN_below w m)).below (drewN_below _ m2)) (HM.out.2 _ (List.getElem_mem hlt2)) (HN.out.2 _ (List.getElem_mem hlt3)))
          clear hr hr2 hu hu2
          by_cases hxy : xs[k] = ys[k]
          · have HXY := Lib.hid hxy
            have HE' : Hid (∀ m2 : Nat, Calls Tryd.prog 18 #[u, u2] (wr.drewN m2) (QR (.bool true) (wr.drewN m2))) := Lib.hid (fun m2 => by have := HE.out m2; rwa [decide_eq_true hxy] at this)
            clear hxy HE
            go_wp2
            go_quiet ((go_at_call 18; exact Calls.quiet_of (HE'.out _)))
            go_wp2
            go_roundw
            case rel => exact ⟨k + 1, m + nq, by omega, by go_num, by rw [HW.out, World.drewN_drewN], Lib.hid (fun j h1 h2 hjk => by
              by_cases e : j = k
              · subst e; exact HXY.out
              · exact HD.out j h1 h2 (by omega))⟩
            case measure => simp [intOf]; omega
          · have HXY := Lib.hid hxy
            have HE' : Hid (∀ m2 : Nat, Calls Tryd.prog 18 #[u, u2] (wr.drewN m2) (QR (.bool false) (wr.drewN m2))) := Lib.hid (fun m2 => by have := HE.out m2; rwa [decide_eq_false hxy] at this)
            clear hxy HE
            go_wp2
            go_quiet ((go_at_call 18; exact Calls.quiet_of (HE'.out _)))
            go_wp2
            go_ret
            refine ⟨ret_bool ?_, m + nq, by rw [HW.out, World.drewN_drewN]⟩
            have hne : ¬ xs = ys := fun e => HXY.out (by subst e; rfl)
            simp [hne]
        · go_wp2
          go_ret
          refine ⟨ret_bool ?_, m, HW.out⟩
          have := list_eq_take HL.out (by omega) HD.out
          simp [this]
  · obtain ⟨ad, cap, rfl⟩ := Sl.shape ha
    obtain ⟨ad2, cap2, rfl⟩ := Sl.shape hb
    clear ha hb
    have hq : ((xs.length : Int) != (ys.length : Int)) = true := by simp; omega
    have hq2 : ((xs.length : Int) == (ys.length : Int)) = false := by simp; omega
    have HL := Lib.hid hl
    clear hl
    go_enter Tryd.func29, Tryd.ntmps29
    go_wp2
    go_ret
    refine ⟨ret_bool ?_, 0, rfl⟩
    have hne : ¬ xs = ys := fun e => HL.out (by rw [e])
    simp [hne]

/-- A call that answers a value and leaves what was there. -/
def BR (v : Value) (w : World) (e : Ending) (w' : World) : Prop := e = .returned v ∧ Below w.heap.size w w'

end Go.Proofs.YtaojiojldljhlaaDoor

namespace Go.Proofs.YtaojiojldljhlaaDoor
open Go.RowKit

def IsP (p : Int) : Prop := p = 2 ∨ p = 3 ∨ p = 5 ∨ p = 7
theorem IsP.lo {p : Int} (h : IsP p) : 2 ≤ p := by unfold IsP at h; omega
theorem IsP.hi {p : Int} (h : IsP p) : p ≤ 7 := by unfold IsP at h; omega
def RowOk (p n : Int) (xs : List Int) : Prop := (xs.length : Int) = n ∧ ∀ x ∈ xs, 0 ≤ x ∧ x ≤ p - 1
def TabOk (p r c : Int) (t : List (List Int)) : Prop := (t.length : Int) = r ∧ ∀ x ∈ t, RowOk p c x

/-- A call that answers a value and turns nothing. -/
def QW (v : Value) (w : World) (e : Ending) (w' : World) : Prop := e = .returned v ∧ w = w'
/-- .. a truth value that says whether P. -/
def BW (P : Prop) (w : World) (e : Ending) (w' : World) : Prop := ∃ b : Bool, e = .returned (.bool b) ∧ w = w' ∧ (b = true ↔ P)
theorem bw_true {P : Prop} {w : World} (h : P) : BW P w (.returned (.bool true)) w := ⟨true, rfl, rfl, by simp [h]⟩
theorem bw_false {P : Prop} {w : World} (h : ¬ P) : BW P w (.returned (.bool false)) w := ⟨false, rfl, rfl, by simp [h]⟩

theorem all_of_lt {α : Type} {xs : List α} {P : α → Prop} (h : ∀ j (hj : j < xs.length), P xs[j]) : ∀ x ∈ xs, P x := fun x hx => by
  obtain ⟨j, hj, rfl⟩ := List.getElem_of_mem hx
  exact h j hj

theorem in_any (n lo hi : Int) (w : World) : Calls Tryd.prog 37 #[.int .i64 n, .int .i64 lo, .int .i64 hi] w (QW (.bool (decide (lo ≤ n ∧ n ≤ hi))) w) := by
  by_cases h1 : lo ≤ n
  · by_cases h2 : n ≤ hi
    · rw [decide_eq_true ⟨h1, h2⟩]
      go_enter Tryd.func37, Tryd.ntmps37
      go_wp2
      go_ret
      exact ⟨rfl, rfl⟩
    · rw [decide_eq_false (fun h => h2 h.2)]
      go_enter Tryd.func37, Tryd.ntmps37
      go_wp2
      go_ret
      exact ⟨rfl, rfl⟩
  · rw [decide_eq_false (fun h => h1 h.1)]
    go_enter Tryd.func37, Tryd.ntmps37
    go_wp2
    go_ret
    exact ⟨rfl, rfl⟩

theorem spin_any (n lo hi : Int) (w : World) : Calls Tryd.prog 36 #[.int .i64 n, .int .i64 lo, .int .i64 hi] w (QW (.bool (decide (lo ≤ n ∧ n ≤ hi))) w) := by
  by_cases h1 : lo ≤ n
  · by_cases h2 : n ≤ hi
    · rw [decide_eq_true ⟨h1, h2⟩]
      go_enter Tryd.func36, Tryd.ntmps36
      go_wp2
      go_ret
      exact ⟨rfl, rfl⟩
    · rw [decide_eq_false (fun h => h2 h.2)]
      go_enter Tryd.func36, Tryd.ntmps36
      go_wp2
      go_ret
      exact ⟨rfl, rfl⟩
  · rw [decide_eq_false (fun h => h1 h.1)]
    go_enter Tryd.func36, Tryd.ntmps36
    go_wp2
    go_ret
    exact ⟨rfl, rfl⟩

theorem in_yes {n lo hi : Int} (h : lo ≤ n ∧ n ≤ hi) (w : World) : Calls Tryd.prog 37 #[.int .i64 n, .int .i64 lo, .int .i64 hi] w (QW (.bool true) w) := by
  have := in_any n lo hi w
  rwa [decide_eq_true h] at this
theorem in_no {n lo hi : Int} (h : ¬ (lo ≤ n ∧ n ≤ hi)) (w : World) : Calls Tryd.prog 37 #[.int .i64 n, .int .i64 lo, .int .i64 hi] w (QW (.bool false) w) := by
  have := in_any n lo hi w
  rwa [decide_eq_false h] at this
theorem spin_yes {n lo hi : Int} (h : lo ≤ n ∧ n ≤ hi) (w : World) : Calls Tryd.prog 36 #[.int .i64 n, .int .i64 lo, .int .i64 hi] w (QW (.bool true) w) := by
  have := spin_any n lo hi w
  rwa [decide_eq_true h] at this
theorem spin_no {n lo hi : Int} (h : ¬ (lo ≤ n ∧ n ≤ hi)) (w : World) : Calls Tryd.prog 36 #[.int .i64 n, .int .i64 lo, .int .i64 hi] w (QW (.bool false) w) := by
  have := spin_any n lo hi w
  rwa [decide_eq_false h] at this

theorem prime_yes {p : Int} (h : IsP p) (w : World) : Calls Tryd.prog 48 #[.int .i64 p] w (QW (.bool true) w) := by
  rcases h with rfl | rfl | rfl | rfl
  all_goals
    go_enter Tryd.func48, Tryd.ntmps48
    go_wp2
    go_ret
    exact ⟨rfl, rfl⟩
theorem prime_no {p : Int} (h : ¬ IsP p) (w : World) : Calls Tryd.prog 48 #[.int .i64 p] w (QW (.bool false) w) := by
  have h2 : (p == 2) = false := by simp; intro e; exact h (by simp [IsP, e])
  have h3 : (p == 3) = false := by simp; intro e; exact h (by simp [IsP, e])
  have h5 : (p == 5) = false := by simp; intro e; exact h (by simp [IsP, e])
  have h7 : (p == 7) = false := by simp; intro e; exact h (by simp [IsP, e])
  clear h
  go_enter Tryd.func48, Tryd.ntmps48
  go_wp2
  go_ret
  exact ⟨rfl, rfl⟩
theorem spprime_yes {p : Int} (h : IsP p) (w : World) : Calls Tryd.prog 44 #[.int .i64 p] w (QW (.bool true) w) := by
  rcases h with rfl | rfl | rfl | rfl
  all_goals
    go_enter Tryd.func44, Tryd.ntmps44
    go_wp2
    go_ret
    exact ⟨rfl, rfl⟩
theorem spprime_no {p : Int} (h : ¬ IsP p) (w : World) : Calls Tryd.prog 44 #[.int .i64 p] w (QW (.bool false) w) := by
  have h2 : (p == 2) = false := by simp; intro e; exact h (by simp [IsP, e])
  have h3 : (p == 3) = false := by simp; intro e; exact h (by simp [IsP, e])
  have h5 : (p == 5) = false := by simp; intro e; exact h (by simp [IsP, e])
  have h7 : (p == 7) = false := by simp; intro e; exact h (by simp [IsP, e])
  clear h
  go_enter Tryd.func44, Tryd.ntmps44
  go_wp2
  go_ret
  exact ⟨rfl, rfl⟩

/-- All numbers of a row are in lo..hi. -/
def AllIn (lo hi : Int) (xs : List Int) : Prop := ∀ x ∈ xs, lo ≤ x ∧ x ≤ hi
/-- A table of r rows of c numbers in lo..hi. -/
def TabIn (lo hi r c : Int) (t : List (List Int)) : Prop := (t.length : Int) = r ∧ ∀ x ∈ t, (x.length : Int) = c ∧ AllIn lo hi x

set_option maxHeartbeats 800000 in
theorem areWithin_any (lo hi : Int) (v : Value) (xs : List Int) (w : World) (h : L1 0 w v xs) (hm : xs.length ≤ 1048576) :
    Calls Tryd.prog 80 #[v, .int .i64 lo, .int .i64 hi] w (BW (AllIn lo hi xs) w) := by
  refine Sl.cases h (fun ad cap hx hv => ?_) (fun b o cap hv _ hpos hc => ?_)
  · subst hx hv
    go_enter Tryd.func80, Tryd.ntmps80
    go_wp2
    refine wp_loop_rounds 1 ?_
    rw [rounds_succ]
    go_wp2
    go_ret
    exact bw_true (by simp [AllIn])
  · subst hv
    clear h
    have HC := Lib.hid hc
    clear hc
    go_enter Tryd.func80, Tryd.ntmps80
    go_wp2
    go_loop [11] (fun i => ∃ (k : Nat), k ≤ xs.length ∧ i = .int .i64 k ∧ Hid (∀ j (h1 : j < xs.length), j < k → lo ≤ xs[j] ∧ xs[j] ≤ hi)) (fun i => xs.length - (intOf i).toNat)
    case atStart => exact ⟨0, Nat.zero_le _, rfl, Lib.hid (fun _ _ h => absurd h (Nat.not_lt_zero _))⟩
    case round =>
      obtain ⟨k, hk, rfl, HD⟩ := hrel
      by_cases hlt2 : k < xs.length
      · obtain ⟨u, hu, hr⟩ := HC.out k hlt2
        obtain ⟨x, hx⟩ : ∃ x, x = xs[k] := ⟨_, rfl⟩
        rw [hr, ← hx] at hu
        have HX := Lib.hid hx
        clear hx hr
        by_cases hxy : lo ≤ x ∧ x ≤ hi
        · have HXY := Lib.hid hxy
          clear hxy
          go_wp2_with fail
          refine (in_yes HXY.out _).mono ?_
          rintro e w' ⟨rfl, rfl⟩
          go_wp2
          go_round
          case rel => exact ⟨k + 1, by omega, by go_num, Lib.hid (fun j h1 hjk => by
            by_cases e : j = k
            · subst e; rw [← HX.out]; exact HXY.out
            · exact HD.out j h1 (by omega))⟩
          case measure => simp [intOf]; omega
        · have HXY := Lib.hid hxy
          clear hxy
          go_wp2_with fail
          refine (in_no HXY.out _).mono ?_
          rintro e w' ⟨rfl, rfl⟩
          go_wp2
          go_ret
          exact bw_false (fun h => HXY.out (by rw [HX.out]; exact h _ (List.getElem_mem hlt2)))
      · go_wp2
        go_ret
        exact bw_true (all_of_lt (fun j hj => HD.out j hj (by omega)))

set_option maxHeartbeats 800000 in
theorem isTableWithin_any (lo hi r c : Int) (v : Value) (xs : List (List Int)) (w : World) (h : L2 0 w v xs) (hm : Bd2 1048576 xs) :
    Calls Tryd.prog 65 #[v, .int .i64 r, .int .i64 c, .int .i64 lo, .int .i64 hi] w (BW (TabIn lo hi r c xs) w) := by
  have hm0 : xs.length ≤ 1048576 := hm.1
  have HM := Lib.hid hm
  clear hm
  by_cases hl : (xs.length : Int) = r
  · refine Sl.cases h (fun ad cap hx hv => ?_) (fun b o cap hv _ hpos hc => ?_)
    · subst hx hv
      subst hl
      go_enter Tryd.func65, Tryd.ntmps65
      go_wp2
      refine wp_loop_rounds 1 ?_
      rw [rounds_succ]
      go_wp2
      go_ret
      exact bw_true ⟨rfl, by simp⟩
    · subst hv
      subst hl
      clear h
      have HC := Lib.hid hc
      clear hc
      go_enter Tryd.func65, Tryd.ntmps65
      go_wp2
      go_loop [19] (fun i => ∃ (k : Nat), k ≤ xs.length ∧ i = .int .i64 k ∧ Hid (∀ j (h1 : j < xs.length), j < k → ((xs[j]).length : Int) = c ∧ AllIn lo hi xs[j])) (fun i => xs.length - (intOf i).toNat)
      case atStart => exact ⟨0, Nat.zero_le _, rfl, Lib.hid (fun _ _ h => absurd h (Nat.not_lt_zero _))⟩
      case round =>
        obtain ⟨k, hk, rfl, HD⟩ := hrel
        by_cases hlt2 : k < xs.length
        · obtain ⟨u, hu, hr⟩ := HC.out k hlt2
          have hml : (xs[k]).length ≤ 1048576 := HM.out.2 _ (List.getElem_mem hlt2)
          have HR := Lib.hid (fun W => areWithin_any lo hi u xs[k] W)
          obtain ⟨ys, hy⟩ : ∃ ys, ys = xs[k] := ⟨_, rfl⟩
          rw [← hy] at hr hml HR
          have HY := Lib.hid hy
          clear hy
          have HA := Lib.hid (HR.out _ hr hml)
          clear HR
          obtain ⟨ad, cap, rfl⟩ := Sl.shape hr
          clear hr
          by_cases hlc : (ys.length : Int) = c
          · have hq : ((ys.length : Int) != c) = false := by simp [hlc]
            have hq2 : ((ys.length : Int) == c) = true := by simp [hlc]
            have HLC := Lib.hid hlc
            clear hlc
            go_wp2_with fail
            refine HA.out.mono ?_
            rintro e w' ⟨bb, rfl, rfl, hbb⟩
            have HBB := Lib.hid hbb
            clear hbb
            cases bb with
            | true =>
              go_wp2
              go_round
              case rel => exact ⟨k + 1, by omega, by go_num, Lib.hid (fun j h1 hjk => by
                by_cases e : j = k
                · subst e; rw [← HY.out]; exact ⟨HLC.out, HBB.out.1 (by simp)⟩
                · exact HD.out j h1 (by omega))⟩
              case measure => simp [intOf]; omega
            | false =>
              go_wp2
              go_ret
              exact bw_false (fun h => absurd (HBB.out.2 (by rw [HY.out]; exact (h.2 _ (List.getElem_mem hlt2)).2)) (by simp))
          · have hq : ((ys.length : Int) != c) = true := by simp [hlc]
            have hq2 : ((ys.length : Int) == c) = false := by simp [hlc]
            have HLC := Lib.hid hlc
            clear hlc
            go_wp2
            go_ret
            exact bw_false (fun h => HLC.out (by rw [HY.out]; exact (h.2 _ (List.getElem_mem hlt2)).1))
        · go_wp2
          go_ret
          exact bw_true ⟨rfl, all_of_lt (fun j hj => HD.out j hj (by omega))⟩
  · obtain ⟨ad, cap, rfl⟩ := Sl.shape h
    clear h
    have hq : ((xs.length : Int) != r) = true := by simp [hl]
    have hq2 : ((xs.length : Int) == r) = false := by simp [hl]
    have HL := Lib.hid hl
    clear hl
    go_enter Tryd.func65, Tryd.ntmps65
    go_wp2
    go_ret
    exact bw_false (fun h => HL.out h.1)

theorem isTable_any (p r c : Int) (v : Value) (xs : List (List Int)) (w : World) (hp : IsP p) (h : L2 0 w v xs) (hm : Bd2 1048576 xs) :
    Calls Tryd.prog 50 #[.int .i64 p, v, .int .i64 r, .int .i64 c] w (BW (TabOk p r c xs) w) := by
  have hp0 := hp.lo
  have hp1 := hp.hi
  have HA := Lib.hid (isTableWithin_any 0 (p - 1) r c v xs w h hm)
  obtain ⟨ad, cap, rfl⟩ := Sl.shape h
  clear h hm
  go_enter Tryd.func50, Tryd.ntmps50
  go_wp2_with fail
  refine HA.out.mono ?_
  rintro e w' ⟨bb, rfl, rfl, hbb⟩
  have HBB := Lib.hid hbb
  clear hbb
  go_wp2
  go_ret
  exact ⟨bb, rfl, rfl, HBB.out⟩
end Go.Proofs.YtaojiojldljhlaaDoor

namespace Go.Proofs.YtaojiojldljhlaaDoor
open Go.RowKit

set_option maxHeartbeats 1600000 in
theorem l01Table_any (p r c : Int) (v : Value) (xs : List (List Int)) (w : World) (hp : IsP p) (h : L2 0 w v xs) (hm : Bd2 1048576 xs) :
    Calls Tryd.prog 45 #[.int .i64 p, v, .int .i64 r, .int .i64 c] w (BW (TabOk p r c xs) w) := by
  have hm0 : xs.length ≤ 1048576 := hm.1
  have HM := Lib.hid hm
  have hp0 := hp.lo
  have hp1 := hp.hi
  clear hm hp
  by_cases hl : (xs.length : Int) = r
  · refine Sl.cases h (fun ad cap hx hv => ?_) (fun b o cap hv _ hpos hc => ?_)
    · subst hx hv
      subst hl
      go_enter Tryd.func45, Tryd.ntmps45
      go_wp2
      refine wp_loop_rounds 1 ?_
      rw [rounds_succ]
      go_wp2
      go_ret
      exact bw_true ⟨rfl, by simp⟩
    · subst hv
      subst hl
      clear h
      have HC := Lib.hid hc
      clear hc
      go_enter Tryd.func45, Tryd.ntmps45
      go_wp2
      go_loop [9, 10] (fun i _ => ∃ (k : Nat), k ≤ xs.length ∧ i = .int .i64 k ∧ Hid (∀ j (h1 : j < xs.length), j < k → RowOk p c xs[j])) (fun i _ => xs.length - (intOf i).toNat)
      case atStart => exact ⟨0, Nat.zero_le _, rfl, Lib.hid (fun _ _ h => absurd h (Nat.not_lt_zero _))⟩
      case round =>
        obtain ⟨k, hk, rfl, HD⟩ := hrel
        by_cases hlt2 : k < xs.length
        · obtain ⟨u, hu, hr⟩ := HC.out k hlt2
          have hml : (xs[k]).length ≤ 1048576 := HM.out.2 _ (List.getElem_mem hlt2)
          obtain ⟨ys, hy⟩ : ∃ ys, ys = xs[k] := ⟨_, rfl⟩
          rw [← hy] at hr hml
          have HY := Lib.hid hy
          clear hy
          by_cases hlc : (ys.length : Int) = c
          · refine Sl.cases hr (fun ad2 cap2 hx hv => ?_) (fun b2 o2 cap2 hv _ hpos2 hc2 => ?_)
            · subst hv
              have hc0 : ((0 : Int) != c) = false := by rw [← hlc, hx]; rfl
              have hc1 : ((0 : Int) == c) = true := by rw [← hlc, hx]; rfl
              have HX := Lib.hid hx
              have HLC := Lib.hid hlc
              clear hx hlc hr
              go_wp2
              refine wp_loop_rounds 1 ?_
              rw [rounds_succ]
              go_wp2
              go_round
              case rel => exact ⟨k + 1, by omega, by go_num, Lib.hid (fun j h1 hjk => by
                by_cases e : j = k
                · subst e; rw [← HY.out]; exact ⟨HLC.out, by simp [HX.out]⟩
                · exact HD.out j h1 (by omega))⟩
              case measure => simp [intOf]; omega
            · subst hv
              have hc0 : ((ys.length : Int) != c) = false := by rw [hlc]; simp
              have hc1 : ((ys.length : Int) == c) = true := by rw [hlc]; simp
              have HLC := Lib.hid hlc
              have HC2 := Lib.hid hc2
              clear hlc hr hc2
              go_wp2
              go_loop [10] (fun i => ∃ (q : Nat), q ≤ ys.length ∧ i = .int .i64 q ∧ Hid (∀ j (h1 : j < ys.length), j < q → 0 ≤ ys[j] ∧ ys[j] ≤ p - 1)) (fun i => ys.length - (intOf i).toNat)
              case atStart => exact ⟨0, Nat.zero_le _, rfl, Lib.hid (fun _ _ h => absurd h (Nat.not_lt_zero _))⟩
              case round =>
                obtain ⟨q, hq, rfl, HD2⟩ := hrel
                by_cases hlt3 : q < ys.length
                · obtain ⟨u2, hu2, hr2⟩ := HC2.out q hlt3
                  obtain ⟨x, hx⟩ : ∃ x, x = ys[q] := ⟨_, rfl⟩
                  rw [hr2, ← hx] at hu2
                  have HX := Lib.hid hx
                  clear hx hr2
                  by_cases hxy : 0 ≤ x ∧ x ≤ p - 1
                  · have HXY := Lib.hid hxy
                    clear hxy
                    go_wp2_with fail
                    refine (spin_yes HXY.out _).mono ?_
                    rintro e w' ⟨rfl, rfl⟩
                    go_wp2
                    go_round
                    case rel => exact ⟨q + 1, by omega, by go_num, Lib.hid (fun j h1 hjk => by
                      by_cases e : j = q
                      · subst e; rw [← HX.out]; exact HXY.out
                      · exact HD2.out j h1 (by omega))⟩
                    case measure => simp [intOf]; omega
                  · have HXY := Lib.hid hxy
                    clear hxy
                    go_wp2_with fail
                    refine (spin_no HXY.out _).mono ?_
                    rintro e w' ⟨rfl, rfl⟩
                    go_wp2
                    go_ret
                    exact bw_false (fun h => HXY.out (by
                      rw [HX.out]
                      exact (h.2 ys (by rw [HY.out]; exact List.getElem_mem hlt2)).2 _ (List.getElem_mem hlt3)))
                · go_wp2
                  go_round
                  case rel => exact ⟨k + 1, by omega, by go_num, Lib.hid (fun j h1 hjk => by
                    by_cases e : j = k
                    · subst e; rw [← HY.out]; exact ⟨HLC.out, all_of_lt (fun j2 hj2 => HD2.out j2 hj2 (by omega))⟩
                    · exact HD.out j h1 (by omega))⟩
                  case measure => simp [intOf]; omega
          · obtain ⟨ad2, cap2, rfl⟩ := Sl.shape hr
            have hc0 : ((ys.length : Int) != c) = true := by simp [hlc]
            have hc1 : ((ys.length : Int) == c) = false := by simp [hlc]
            have HLC := Lib.hid hlc
            clear hlc hr
            go_wp2
            go_ret
            exact bw_false (fun h => HLC.out (h.2 ys (by rw [HY.out]; exact List.getElem_mem hlt2)).1)
        · go_wp2
          go_ret
          exact bw_true ⟨rfl, all_of_lt (fun j hj => HD.out j hj (by omega))⟩
  · obtain ⟨ad, cap, rfl⟩ := Sl.shape h
    clear h
    have hq : ((xs.length : Int) != r) = true := by simp [hl]
    have hq2 : ((xs.length : Int) == r) = false := by simp [hl]
    have HL := Lib.hid hl
    clear hl
    go_enter Tryd.func45, Tryd.ntmps45
    go_wp2
    go_ret
    exact bw_false (fun h => HL.out h.1)

/-- Where the first number other than 0 stands, or -1. -/
def leadOf : List Int → Int
  | [] => -1
  | x :: xs => if x = 0 then (let r := leadOf xs; if r < 0 then -1 else r + 1) else 0

theorem leadOf_zero {xs : List Int} (h : ∀ j (hj : j < xs.length), xs[j] = 0) : leadOf xs = -1 := by
  induction xs with
  | nil => rfl
  | cons x xs ih =>
    have h0 : x = 0 := h 0 (by simp)
    have ih' := ih (fun j hj => h (j + 1) (by simpa using hj))
    simp [leadOf, h0, ih']
theorem leadOf_at {xs : List Int} : ∀ {k : Nat} (hk : k < xs.length), (∀ j (hj : j < xs.length), j < k → xs[j] = 0) → xs[k] ≠ 0 → leadOf xs = k := by
  induction xs with
  | nil => intro k hk; simp at hk
  | cons x xs ih =>
    intro k hk h hne
    cases k with
    | zero => simp at hne; simp [leadOf, hne]
    | succ k =>
      have h0 : x = 0 := h 0 (by simp) (by omega)
      have := ih (k := k) (by simpa using hk) (fun j hj hjk => h (j + 1) (by simpa using hj) (by omega)) (by simpa using hne)
      simp only [leadOf, h0, if_true, this]
      rw [if_neg (by omega)]
      omega

set_option maxHeartbeats 800000 in
theorem l01Lead_any (v : Value) (xs : List Int) (w : World) (h : L1 0 w v xs) (hm : xs.length ≤ 1048576) :
    Calls Tryd.prog 68 #[v] w (QW (.int .i64 (leadOf xs)) w) := by
  refine Sl.cases h (fun ad cap hx hv => ?_) (fun b o cap hv _ hpos hc => ?_)
  · subst hx hv
    go_enter Tryd.func68, Tryd.ntmps68
    go_wp2
    refine wp_loop_rounds 1 ?_
    rw [rounds_succ]
    go_wp2
    go_ret
    exact ⟨rfl, rfl⟩
  · subst hv
    clear h
    have HC := Lib.hid hc
    clear hc
    go_enter Tryd.func68, Tryd.ntmps68
    go_wp2
    go_loop [3] (fun i => ∃ (k : Nat), k ≤ xs.length ∧ i = .int .i64 k ∧ Hid (∀ j (h1 : j < xs.length), j < k → xs[j] = 0)) (fun i => xs.length - (intOf i).toNat)
    case atStart => exact ⟨0, Nat.zero_le _, rfl, Lib.hid (fun _ _ h => absurd h (Nat.not_lt_zero _))⟩
    case round =>
      obtain ⟨k, hk, rfl, HD⟩ := hrel
      by_cases hlt2 : k < xs.length
      · obtain ⟨u, hu, hr⟩ := HC.out k hlt2
        obtain ⟨x, hx⟩ : ∃ x, x = xs[k] := ⟨_, rfl⟩
        rw [hr, ← hx] at hu
        have HX := Lib.hid hx
        clear hx hr
        by_cases hxy : x = 0
        · subst hxy
          go_wp2
          go_round
          case rel => exact ⟨k + 1, by omega, by go_num, Lib.hid (fun j h1 hjk => by
            by_cases e : j = k
            · subst e; exact HX.out.symm
            · exact HD.out j h1 (by omega))⟩
          case measure => simp [intOf]; omega
        · have hq : (x != 0) = true := by simp [hxy]
          have hq2 : (x == 0) = false := by simp [hxy]
          have HXY := Lib.hid hxy
          clear hxy
          go_wp2
          go_ret
          exact ⟨ret_int (leadOf_at hlt2 HD.out (by rw [← HX.out]; exact HXY.out)).symm, rfl⟩
      · go_wp2
        go_ret
        exact ⟨ret_int (leadOf_zero (fun j hj => HD.out j hj (by omega))).symm, rfl⟩
end Go.Proofs.YtaojiojldljhlaaDoor

namespace Go.Proofs.YtaojiojldljhlaaDoor
open Go.RowKit

def apRow (p f : Int) (acc row : List Int) : List Int := List.zipWith (fun a x => (a + f * x) % p) acc row
/-- The sum of the first k numbers of v times the first k rows of t, modulo p. -/
def apTo (p : Int) (c : Nat) (v : List Int) (t : List (List Int)) : Nat → List Int
  | 0 => List.replicate c 0
  | k + 1 => apRow p (v.getD k 0) (apTo p c v t k) (t.getD k [])
def apT (p : Int) (c : Nat) (v : List Int) (t : List (List Int)) : List Int := apTo p c v t v.length

/-- What a table has to be for a vector of numbers modulo p. -/
structure ApOk (p : Int) (c : Nat) (v : List Int) (t : List (List Int)) : Prop where
  prime : IsP p
  len : v.length ≤ t.length
  nums : ∀ x ∈ v, 0 ≤ x ∧ x ≤ p - 1
  rows : ∀ r ∈ t, RowOk p c r

theorem getD_of_lt {α : Type} {xs : List α} {k : Nat} (d : α) (h : k < xs.length) : xs.getD k d = xs[k] := by simp [List.getD, h]

theorem ApOk.row {p : Int} {c : Nat} {v : List Int} {t : List (List Int)} (h : ApOk p c v t) {k : Nat} (hk : k < v.length) : RowOk p c (t.getD k []) := by
  have hl := h.len
  rw [getD_of_lt _ (by omega)]
  exact h.rows _ (List.getElem_mem _)
theorem apTo_length {p : Int} {c : Nat} {v : List Int} {t : List (List Int)} (h : ApOk p c v t) : ∀ {k : Nat}, k ≤ v.length → (apTo p c v t k).length = c := by
  intro k
  induction k with
  | zero => intro _; simp [apTo]
  | succ k ih =>
    intro hk
    have hr := (h.row (k := k) (by omega)).1
    simp only [apTo, apRow, List.length_zipWith, ih (by omega)]
    omega
theorem apTo_at {p : Int} {c : Nat} {v : List Int} {t : List (List Int)} (h : ApOk p c v t) {k q : Nat} (hk : k < v.length) (hq : q < c) :
    (apTo p c v t (k + 1)).getD q 0 = ((apTo p c v t k).getD q 0 + v.getD k 0 * (t.getD k []).getD q 0) % p := by
  have hr := (h.row hk).1
  have hl := apTo_length h (Nat.le_of_lt hk)
  have hl2 := apTo_length h (k := k + 1) hk
  have q2 : q < (t.getD k []).length := by omega
  have q1 : q < (apTo p c v t (k + 1)).length := by omega
  have q3 : q < (apTo p c v t k).length := by omega
  rw [getD_of_lt _ q1, getD_of_lt _ q2, getD_of_lt _ q3]
  simp only [apTo, apRow, List.getElem_zipWith]
/-- The row of sums while it is being made: k numbers of v are done, and of the next one the first q places. -/
def apCell (p : Int) (c : Nat) (v : List Int) (t : List (List Int)) (k q : Nat) : Nat → Value := fun j => .int .i64 (if j < q then (apTo p c v t (k + 1)).getD j 0 else (apTo p c v t k).getD j 0)
structure Ap (w wr : World) (ty : TypeId) (p : Int) (c : Nat) (v : List Int) (t : List (List Int)) (k q : Nat) : Prop where
  below : Below w.heap.size w wr
  row : wr.rowIs w.heap.size ty c (apCell p c v t k q)

theorem Ap.start (w : World) (ty : TypeId) (p : Int) (c : Nat) (v : List Int) (t : List (List Int)) : Ap w (w.alloc (.cells (madeCells #[.int .i64 0] c) ty)) ty p c v t 0 0 :=
  ⟨(Below.refl _ _).alloc (Nat.le_refl _) _, (World.rowIs_made w (.int .i64 0) c ty).congr (fun j hj => by simp [apCell, apTo, List.getD, hj])⟩
theorem Ap.drew {w wr : World} {ty : TypeId} {p : Int} {c : Nat} {v : List Int} {t : List (List Int)} {k q : Nat} (h : Ap w wr ty p c v t k q) : Ap w wr.drew ty p c v t k q := ⟨h.below.drew, h.row.drew⟩
theorem Ap.step {w wr : World} {ty : TypeId} {p : Int} {c : Nat} {v : List Int} {t : List (List Int)} {k q : Nat} (ok : ApOk p c v t) (h : Ap w wr ty p c v t k q) (hk : k < v.length) (hq : q < c) {x : Int}
    (hx : x = ((apTo p c v t k).getD q 0 + v.getD k 0 * (t.getD k []).getD q 0) % p) : Ap w (wr.setCell ⟨w.heap.size, q, none⟩ (.int .i64 x)) ty p c v t k (q + 1) := by
  refine ⟨h.below.setCell (Nat.le_refl _) _, (h.row.set q _).congr (fun j hj => ?_)⟩
  by_cases e : j = q
  · subst e
    simp only [apCell, if_true]
    rw [if_pos (Nat.lt_succ_self _), apTo_at ok hk hq, hx]
  · rw [if_neg e]
    simp only [apCell]
    by_cases h2 : j < q
    · rw [if_pos h2, if_pos (by omega)]
    · rw [if_neg h2, if_neg (by omega)]
theorem Ap.next {w wr : World} {ty : TypeId} {p : Int} {c : Nat} {v : List Int} {t : List (List Int)} {k : Nat} (h : Ap w wr ty p c v t k c) : Ap w wr ty p c v t (k + 1) 0 :=
  ⟨h.below, h.row.congr (fun j hj => by simp [apCell, hj])⟩
theorem Ap.cell {w wr : World} {ty : TypeId} {p : Int} {c : Nat} {v : List Int} {t : List (List Int)} {k q : Nat} (h : Ap w wr ty p c v t k q) (hq : q < c) :
    wr.cell? ⟨w.heap.size, q, none⟩ = some (.int .i64 ((apTo p c v t k).getD q 0)) := by
  have := h.row.cell hq
  simpa [apCell] using this
theorem Ap.done {w wr : World} {ty : TypeId} {p : Int} {c : Nat} {v : List Int} {t : List (List Int)} (ok : ApOk p c v t) (h : Ap w wr ty p c v t v.length 0) : L1 w.heap.size wr (.slice (some ⟨w.heap.size, 0, none⟩) c c) (apT p c v t) := by
  have hl := apTo_length ok (Nat.le_refl _)
  by_cases h0 : c = 0
  · subst h0
    exact Or.inl ⟨List.eq_nil_of_length_eq_zero hl, _, _, rfl⟩
  · refine Or.inr ⟨w.heap.size, 0, c, by rw [apT, hl], Nat.le_refl _, by rw [apT, hl]; omega, fun j hj => ⟨_, h.row.cell (by rw [apT, hl] at hj; omega), ?_⟩⟩
    have hj' : j < (apTo p c v t v.length).length := hj
    simp only [apCell, IsI, Nat.not_lt_zero, if_false, apT, Nat.zero_add]
    rw [getD_of_lt _ hj']

end Go.Proofs.YtaojiojldljhlaaDoor

namespace Go.Proofs.YtaojiojldljhlaaDoor
open Go.RowKit

end Go.Proofs.YtaojiojldljhlaaDoor

namespace Go.Proofs.YtaojiojldljhlaaDoor
open Go.RowKit

def ints (zs : List Int) : Array Value := (zs.map (Value.int .i64)).toArray
theorem ints_size (zs : List Int) : (ints zs).size = zs.length := by simp [ints]
theorem ints_at {zs : List Int} {i : Nat} (h : i < zs.length) : (ints zs)[i]? = some (.int .i64 zs[i]) := by simp [ints, h]

section
variable {P : Program}
theorem run_part_int (w : World) {e : TypeId} (he : P.underlying e = some (.int .i64)) (cs : Array Value) (i : Nat) (v : Value) (h : cs[i]? = some v) : (part e cs i).run P w = .ok v w := by
  simp [part, isAgg, run_underlying he, h]

/-- Equality place by place is equality of lists. -/
theorem ints_agree {zs ys : List Int} (h : zs.length = ys.length) : (∀ i ∈ List.range' 0 zs.length 1, zs.getD i 0 = ys.getD i 0) ↔ zs = ys := by
  constructor
  · intro hall
    refine List.ext_getElem h fun i h1 h2 => ?_
    have := hall i (by simpa using h1)
    simpa [List.getD, h1, h2] using this
  · intro e i _
    rw [e]

theorem run_equalIn_ints (w : World) (d : Nat) {t e : TypeId} {n : Nat} (zs ys : List Int) (ht : P.underlying t = some (.array n e)) (he : P.underlying e = some (.int .i64)) (hz : (P.info? e).map (·.size) = some 1)
    (h1 : zs.length = n) (h2 : ys.length = n) : (Op.equalIn (d + 2) t (.agg (ints zs)) (.agg (ints ys))).run P w = .ok (decide (zs = ys)) w := by
  obtain ⟨inf, hi, hs⟩ := Option.map_eq_some_iff.1 hz
  have hsz : (sizeOf e).run P w = .ok 1 w := by simp [sizeOf, typeInfo, hi, hs]
  have key := ints_agree (h1.trans h2.symm)
  rw [h1] at key
  have hd : decide (zs = ys) = decide (∀ i ∈ List.range' 0 n 1, zs.getD i 0 = ys.getD i 0) := by
    by_cases hq : zs = ys
    · rw [decide_eq_true hq, decide_eq_true (key.2 hq)]
    · rw [decide_eq_false hq, decide_eq_false (fun hh => hq (key.1 hh))]
  have hr : ∀ i ∈ List.range' 0 n 1, i < zs.length ∧ i < ys.length := fun i hm => by
    have := (List.mem_range'_1.1 hm).2
    omega
  rw [hd, Op.equalIn]
  simp only [Sem.run_bind, run_underlying ht, Result.andThen_ok, hsz, Std.Legacy.Range.forIn_eq_forIn_range', Std.Legacy.Range.size, Nat.sub_zero, Nat.add_sub_cancel, Nat.div_one, Nat.mul_one]
  clear hd key
  generalize List.range' 0 n 1 = l at hr ⊢
  induction l with
  | nil => simp
  | cons i l ih =>
    obtain ⟨hi1, hi2⟩ := hr i (List.mem_cons_self ..)
    have hh : (Op.equalIn (d + 1) e (.int .i64 (zs.getD i 0)) (.int .i64 (ys.getD i 0))).run P w = .ok (zs.getD i 0 == ys.getD i 0) w := run_equalIn_int w d e .i64 .i64 _ _ he
    have ha := run_part_int w he (ints zs) i (.int .i64 (zs.getD i 0)) (by rw [ints_at hi1]; simp [List.getD, hi1])
    have hb := run_part_int w he (ints ys) i (.int .i64 (ys.getD i 0)) (by rw [ints_at hi2]; simp [List.getD, hi2])
    have hnext := ih (fun j hj => hr j (List.mem_cons_of_mem _ hj))
    simp only [List.forIn_cons, Sem.run_bind, ha, hb, hh, Result.andThen_ok]
    by_cases hq : zs.getD i 0 = ys.getD i 0
    · rw [beq_iff_eq.2 hq]
      simp only [Bool.not_true, Bool.false_eq_true, if_false, Sem.run_pure, Result.andThen_ok]
      rw [hnext]
      simp only [List.forall_mem_cons, hq, true_and]
    · rw [beq_eq_false_iff_ne.2 hq]
      simp only [Bool.not_false, if_true, Sem.run_pure, Result.andThen_ok, List.forall_mem_cons, hq, false_and, decide_false]

theorem run_neq_ints (w : World) {t e : TypeId} {n : Nat} (zs ys : List Int) (ht : P.underlying t = some (.array n e)) (he : P.underlying e = some (.int .i64)) (hz : (P.info? e).map (·.size) = some 1)
    (h1 : zs.length = n) (h2 : ys.length = n) : (binOp .neq t (.agg (ints zs)) (.agg (ints ys))).run P w = .ok (.bool (!decide (zs = ys))) w := by
  rw [run_neq_struct, run_equalIn_ints w 9998 zs ys ht he hz h1 h2]
  rfl
theorem run_eql_ints (w : World) {t e : TypeId} {n : Nat} (zs ys : List Int) (ht : P.underlying t = some (.array n e)) (he : P.underlying e = some (.int .i64)) (hz : (P.info? e).map (·.size) = some 1)
    (h1 : zs.length = n) (h2 : ys.length = n) : (binOp .eql t (.agg (ints zs)) (.agg (ints ys))).run P w = .ok (.bool (decide (zs = ys))) w := by
  rw [run_eql_struct, run_equalIn_ints w 9998 zs ys ht he hz h1 h2]
  rfl
end
end Go.Proofs.YtaojiojldljhlaaDoor

namespace Go.Proofs.YtaojiojldljhlaaDoor
open Go.RowKit

def zl : List Value := List.replicate 40 (.int .i64 0)
theorem zl_length : zl.length = 40 := by simp [zl]
/-- A row with zeros behind it, MaxRows numbers in all. -/
def pad (v : List Int) : List Int := v ++ List.replicate (40 - v.length) 0
theorem pad_length {v : List Int} (h : v.length ≤ 40) : (pad v).length = 40 := by simp [pad]; omega
theorem pad_splice (v : List Int) : (splice zl 0 (v.map (Value.int .i64))).toArray = ints (pad v) := by
  have e : zl = (List.replicate 40 (0 : Int)).map (Value.int .i64) := by simp [zl]
  have h2 : List.drop v.length (List.replicate 40 (0 : Int)) = List.replicate (40 - v.length) 0 := List.drop_replicate ..
  rw [e]
  simp only [splice, ints, pad, List.take_zero, List.nil_append, Nat.zero_add, List.length_map, ← List.map_drop, h2, List.map_append]
theorem Tryd.underlyingV : Tryd.prog.underlying 82 = some (.array 40 2) := by kernel_rfl
theorem Tryd.infoV : (Tryd.prog.info? 82).map (·.size) = some 40 := by kernel_rfl
theorem Tryd.infoI1 : (Tryd.prog.info? 2).map (·.size) = some 1 := by kernel_rfl

set_option maxRecDepth 100000 in
theorem hmk40 : ∀ w, (Instr.makeSlice 35 (.int .i64 40) (.int .i64 40)).run Tryd.prog w = .ok (.slice (some ⟨w.heap.size, 0, none⟩) 40 40) (w.alloc (.cells zl.toArray 2)) := fun w => by
  have h := run_make_row' (P := Tryd.prog) 35 2 (.int .i64 0) 8 Tryd.underlying35 Tryd.infoI rfl .i64 .i64 40 (by omega) (by omega) w
  have e : madeCells #[.int .i64 0] 40 = zl.toArray := by kernel_rfl
  rw [e] at h
  exact h

theorem below_two (w : World) (A B : Obj) : Below w.heap.size w ((w.alloc A).alloc B) := ((Below.refl _ _).alloc (Nat.le_refl _) _).alloc (by simp) _
theorem below_second (w : World) (A B : Obj) : Below (w.heap.size + 1) (w.alloc A) ((w.alloc A).alloc B) := (Below.refl _ _).alloc (by simp) _
def AR (a : Array Value) (w : World) (e : Ending) (w' : World) : Prop := e = .returned (.agg a) ∧ Below w.heap.size w w'

set_option maxHeartbeats 3200000 in
set_option maxRecDepth 100000 in
theorem vectorOf_any (va : Value) (v : List Int) (w : World) (ha : L1 0 w va v) (hv : v.length ≤ 40) :
    Calls Tryd.prog 85 #[va] w (AR (ints (pad v)) w) := by
  have hmk := hmk40
  have hat : ∀ (g : Nat) w, (Instr.arrayAt 82 (.slice (some ⟨g, 0, none⟩) 40 40)).run Tryd.prog w = .ok (.pointer (some ⟨g, 0, none⟩)) w := fun g w => run_arrayAt w _ _ 40 _ 40 40 Tryd.underlyingV (Nat.le_refl _)
  have hres : Tryd.f85.results = #[.cell 2 82] := by kernel_rfl
  have HRES := Lib.hid hres
  clear hres
  obtain ⟨cs, hcs⟩ : ∃ cs, cs = v.map (Value.int .i64) := ⟨_, rfl⟩
  have hcl : cs.length = v.length := by rw [hcs]; simp
  have hsp : (splice zl 0 cs).toArray = ints (pad v) := by rw [hcs]; exact pad_splice v
  have hone : ∀ u ∈ cs, u.oneCell' = true := by rw [hcs]; exact ints_oneCell _ _
  have hsrc : ∃ ad cap, va = .slice ad v.length cap ∧ (0 < cs.length → ∃ a, ad = some a ∧ ∀ j u, cs[j]? = some u → w.cell? (a.add j) = some u) := by
    refine Sl.cases ha (fun ad cap hx hv' => ⟨ad, cap, by subst hx; exact hv', fun h0 => by rw [hcl, hx] at h0; simp at h0⟩) (fun b o cap hv' _ hpos hc => ⟨_, cap, hv', fun _ => ⟨_, rfl, fun j u hu => ?_⟩⟩)
    have hj : j < v.length := by rw [← hcl]; exact (List.getElem?_eq_some_iff.1 hu).1
    obtain ⟨u2, h2, h3⟩ := hc j hj
    rw [Addr.add_lit, h2, h3]
    rw [hcs] at hu
    simp [hj] at hu
    rw [hu]
  obtain ⟨ad, cap, rfl, hpos⟩ := hsrc
  have HN : Hid (cs.length = Nat.min v.length 40) := Lib.hid (by rw [hcl]; exact (Nat.min_eq_left hv).symm)
  have HFIT : Hid (0 + cs.length ≤ zl.length) := Lib.hid (by rw [zl_length]; omega)
  have HPOS : Hid (∀ W, Below w.heap.size w W → 0 < cs.length → some (⟨w.heap.size + 1, 0, none⟩ : Addr) = some ⟨w.heap.size + 1, 0, none⟩ ∧ ∃ a, ad = some a ∧ ∀ j u, cs[j]? = some u → W.cell? (a.add j) = some u) := Lib.hid (fun W hb h0 => by
    obtain ⟨a, h1, h2⟩ := hpos h0
    refine ⟨rfl, a, h1, fun j u hu => ?_⟩
    have h3 := h2 j u hu
    rw [hb.cell (World.block_lt_of_cell? _ _ h3), h3])
  have HSP := Lib.hid hsp
  have HONE := Lib.hid hone
  have HPAD : Hid ((Tryd.prog.info? 82).map (·.size) = some (ints (pad v)).size) := Lib.hid (by rw [ints_size, pad_length hv]; exact Tryd.infoV)
  have HALL : Hid ((ints (pad v)).all (·.oneCell') = true) := Lib.hid (by simp [ints, Value.oneCell'])
  clear hcl hsp hone hpos hcs ha
  go_enter Tryd.func85, Tryd.ntmps85
  go_wp2_with (with_reducible refine wpList_copy_splice rfl (.tmp 5) (.tmp 6) 35 35 rfl 2 Tryd.underlying35 Tryd.infoI1 (some ⟨w.heap.size + 1, 0, none⟩) ad 40 40 v.length cap rfl rfl (w.heap.size + 1) 0 zl 2 (heap_alloc2_new _ _ _) cs HN.out (HPOS.out _ (below_two _ _ _)) HFIT.out HONE.out (w.heap.size + 1) _ (below_second _ _ _) (Nat.le_refl _) ?_)
  intro w2 HG2 hB2
  have hzz : ∃ old : Array Value, old.size = 40 ∧ w2.heap[w.heap.size]? = some (.cells old 82 (0, 0)) := by
    refine ⟨_, ?_, (hB2.block _ (Nat.lt_succ_self _)).trans (heap_alloc_new _ _)⟩
    rfl
  obtain ⟨old, hold, hz⟩ := hzz
  have hbel : Below w.heap.size w w2 := ((Below.refl _ _).alloc (Nat.le_refl _) _).trans (hB2.mono (Nat.le_succ _))
  have hg2 : w2.heap[w.heap.size + 1]? = some (.cells (ints (pad v)) 2 (0, 0)) := by rw [← HSP.out]; exact HG2.out
  have HZ := Lib.hid hz
  have HB := Lib.hid hbel
  have HOLD := Lib.hid hold
  have HG := Lib.hid hg2
  have HOS : Hid (old.size = (ints (pad v)).size) := Lib.hid (by rw [hold, ints_size, pad_length hv])
  clear hz hbel hold hg2 HG2 hB2
  go_wp2_with (first | (with_reducible refine wpList_load_row rfl 82 (.tmp 9) rfl (w.heap.size + 1) rfl 2 (ints (pad v)) (0, 0) _ HG.out Tryd.underlyingV rfl HPAD.out ?_) | (with_reducible refine wpList_store_row rfl 82 (.tmp 2) (.tmp 10) rfl w.heap.size (ints (pad v)) rfl rfl 82 old HZ.out HPAD.out HOS.out HALL.out ?_))
  exact bodyPost_ret (v := .agg (ints (pad v))) (results_cell_row HRES.out _ _ w.heap.size 82 (ints (pad v)) (0, 0) _ rfl (setRow_heap _ _ _ _ _ _ HZ.out) Tryd.underlyingV rfl HPAD.out) rfl ⟨rfl, below_setRow HB.out (Nat.le_refl _) _⟩
end Go.Proofs.YtaojiojldljhlaaDoor

namespace Go.Proofs.YtaojiojldljhlaaDoor
open Go.RowKit

section
variable {P : Program} {ops : Array Oper} {Q : Exit → Act → World → Prop} {md : Region.Mode} {S : World → Prop} {n : Nat}

/-- The last operation, taken out: it waits as it did and does nothing. -/
def calmOp (o : Oper) : Oper := { o with op := .move (.const (.bool false)), dst := none }
/-- What is owed where all others have come up: the last one. -/
def lastQ (P : Program) (ops : Array Oper) (n : Nat) (Q : Exit → Act → World → Prop) : Exit → Act → World → Prop
  | .normal, a, w => wpOp P ops Q n (fun a' w' => Q .normal a' w') a w
  | e, a, w => Q e a w
structure LastOk (md : Region.Mode) (ops : Array Oper) (n : Nat) (on : Oper) : Prop where
  at' : ops[n]? = some on
  size : n + 1 = ops.size
  guard : ∀ (j : Nat) (oj : Oper), ops[j]? = some oj → oj.guard = none
  ord : ∀ (j : Nat) (oj : Oper), ops[j]? = some oj → ∀ e : Edge, e ∈ oj.after → e.on < j
  last : ∀ j, j < n → ∃ e : Edge, e ∈ on.after ∧ Region.binds md e = true ∧ e.on = j

theorem calm_get {on : Oper} (h : LastOk md ops n on) (i : Nat) : (ops.setIfInBounds n (calmOp on))[i]? = if i = n then some (calmOp on) else ops[i]? := by
  have := h.size
  by_cases e : i = n
  · subst e
    rw [if_pos rfl, Array.getElem?_setIfInBounds_self_of_lt (by omega)]
  · rw [if_neg e, Array.getElem?_setIfInBounds_ne (fun h => e h.symm)]
theorem calm_ready {on : Oper} (h : LastOk md ops n on) (listed : Array Bool) : Region.ready md (ops.setIfInBounds n (calmOp on)) listed = Region.ready md ops listed := by
  unfold Region.ready
  rw [Array.size_setIfInBounds]
  refine List.filter_congr fun i _ => ?_
  rw [calm_get h]
  by_cases e : i = n
  · subst e
    rw [if_pos rfl, h.at']
    rfl
  · rw [if_neg e]
theorem getD_same {listed : Array Bool} {i : Nat} (h : i < listed.size) (x y : Bool) : listed.getD i x = listed.getD i y := by simp [h]
theorem least_unlisted {listed : Array Bool} : ∀ k, listed.getD k true = false → ∃ m, m ≤ k ∧ listed.getD m true = false ∧ ∀ j, j < m → listed.getD j true = true := by
  intro k
  induction k using Nat.strongRecOn with
  | ind k ih =>
    intro hk
    by_cases hx : ∃ j, j < k ∧ listed.getD j true = false
    · obtain ⟨j, hj, h0⟩ := hx
      obtain ⟨m, h1, h2⟩ := ih j hj h0
      exact ⟨m, by omega, h2⟩
    · exact ⟨k, Nat.le_refl _, hk, fun j hj => by
        cases hb : listed.getD j true with
        | true => rfl
        | false => exact absurd ⟨j, hj, hb⟩ hx⟩
theorem ready_some {on : Oper} (h : LastOk md ops n on) {listed : Array Bool} (hs : listed.size = ops.size) (hn : listed.getD n true = false) : Region.ready md ops listed ≠ [] := by
  obtain ⟨m, hm, h0, h1⟩ := least_unlisted n hn
  have hlt : m < ops.size := by have := h.size; omega
  intro e
  have : m ∈ Region.ready md ops listed := mem_ready.2 ⟨h0, ops[m], Array.getElem?_eq_getElem hlt, fun x hx _ => by
    have hx2 := h.ord m ops[m] (Array.getElem?_eq_getElem hlt) x hx
    rw [getD_same (by omega) false true]
    exact h1 _ hx2⟩
  rw [e] at this
  cases this
theorem last_ready {on : Oper} (h : LastOk md ops n on) {listed : Array Bool} (hs : listed.size = ops.size) (hr : n ∈ Region.ready md ops listed) : ∀ j, j < ops.size → (listed.setIfInBounds n true).getD j true = true := by
  intro j hj
  by_cases e : j = n
  · subst e
    simp [hs, hj]
  · obtain ⟨x, hx, hb, he⟩ := h.last j (by have := h.size; omega)
    obtain ⟨_, oj, hoj, hall⟩ := mem_ready.1 hr
    rw [h.at'] at hoj
    injection hoj with hoj
    subst hoj
    have h2 := hall x hx hb
    rw [he] at h2
    rw [getD_set_ne true (fun h => e h.symm), getD_same (by omega) true false]
    exact h2
theorem ready_none {listed : Array Bool} (hall : ∀ j, j < ops.size → listed.getD j true = true) : Region.ready md ops listed = [] := by
  refine List.eq_nil_iff_forall_not_mem.2 fun i hi => ?_
  obtain ⟨h0, oj, hoj, _⟩ := mem_ready.1 hi
  have := hall i (Array.getElem?_eq_some_iff.1 hoj).1
  rw [this] at h0
  cases h0
theorem wp_of_last {o : Oper} {a : Act} {w : World} {K K' : Act → World → Prop} (h : ∀ a w, K a w → K' a w) (hh : o.wp P a w K (lastQ P ops n Q)) : o.wp P a w K' Q := by
  unfold Oper.wp at *
  generalize (execOp a.eval o).run P w = r at *
  cases r with
  | ok x w' =>
    cases x <;> simp only [Oper.upon] at hh ⊢ <;>
      first
        | exact h _ _ hh
        | exact Calls.mono hh (fun e w'' he => by cases e <;> first | exact h _ _ he | exact he)
        | exact Rows.mono hh (fun _ _ he => h _ _ he)
  | halt x w' => cases x <;> simp only [Oper.upon] at hh ⊢ <;> exact hh
theorem held_normal {Q' : Exit → Act → World → Prop} {ops' : Array Oper} {listed : Array Bool} {a : Act} {w : World} (hr : Region.ready md ops' listed = []) : ∀ fuel, wpAnyH P md ops' Q' S fuel listed a w → Q' .normal a w
  | 0, h => h.2
  | _ + 1, h => h.1 hr

theorem any_of_calm {on : Oper} (h : LastOk md ops n on) : ∀ (fuel : Nat) (listed : Array Bool) (a : Act) (w : World), listed.size = ops.size → listed.getD n true = false →
    wpAnyH P md (ops.setIfInBounds n (calmOp on)) (lastQ P ops n Q) S fuel listed a w → wpAny P md ops Q fuel listed a w := by
  intro fuel
  induction fuel with
  | zero =>
    intro listed a w hs hn hh
    have h0 := hh.1
    rw [calm_ready h] at h0
    exact absurd h0 (ready_some h hs hn)
  | succ fuel ih =>
    intro listed a w hs hn hh
    have hne := ready_some h hs hn
    refine ⟨fun e => absurd e hne, fun i hi => ?_⟩
    have h1 := hh.2 i (by rw [calm_ready h]; exact hi)
    obtain ⟨hi0, oi, hoi, _⟩ := mem_ready.1 hi
    have hw : ∀ (o : Oper) (f : Nat → Option Bool), o.guard = none → Region.wanted o f = true := fun o f hg => by unfold Region.wanted; rw [hg]
    by_cases e : i = n
    · subst e
      have hall := last_ready h hs hi
      unfold wpOp at h1
      rw [calm_get h, if_pos rfl] at h1
      have hg : (calmOp on).guard = none := h.guard i on h.at'
      simp only [hw _ _ hg, if_true] at h1
      have h2 : S w ∧ wpAnyH P md (ops.setIfInBounds i (calmOp on)) (lastQ P ops i Q) S fuel (listed.setIfInBounds i true) a w := by
        rcases h1 with h1 | h1
        · exact h1
        · exact absurd h1.1.1 (by
            have : (execOp a.eval (calmOp on)).runT P w #[] = (.ok (.value (.bool false)) w, #[]) := rfl
            rw [this]
            exact Array.not_mem_empty _)
      have h3 := held_normal (by rw [calm_ready h]; exact ready_none hall) _ h2.2
      exact wpOp_mono (fun a' w' hq => wpAny_done (ready_none hall) hq _) h3
    · unfold wpOp at h1 ⊢
      rw [calm_get h, if_neg e, hoi] at h1
      rw [hoi]
      have hg := h.guard _ _ hoi
      simp only [hw _ _ hg, if_true] at h1 ⊢
      refine h1.imp (wp_of_last fun a' w' hk => ih _ _ _ (by simpa using hs) ?_ hk.2) (fun hx => ⟨hx.1, hx.2⟩)
      rw [getD_set_ne true e]
      exact hn

/-- The conditions as one Bool. -/
def lastB (md : Region.Mode) (ops : Array Oper) (n : Nat) : Bool :=
  decide (n + 1 = ops.size) && (List.range ops.size).all (fun j => match ops[j]? with | some o => o.guard.isNone && o.after.all (fun e => decide (e.on < j)) | none => true) &&
  (match ops[n]? with | some o => (List.range n).all (fun j => o.after.any fun e => Region.binds md e && decide (e.on = j)) | none => false)
theorem lastB_ok {on : Oper} (hn : ops[n]? = some on) (h : lastB md ops n = true) : LastOk md ops n on := by
  unfold lastB at h
  rw [hn] at h
  simp only [Bool.and_eq_true, decide_eq_true_eq, List.all_eq_true, List.mem_range] at h
  obtain ⟨⟨h1, h2⟩, h3⟩ := h
  have key : ∀ (j : Nat) (oj : Oper), ops[j]? = some oj → oj.guard = none ∧ ∀ e : Edge, e ∈ oj.after → e.on < j := fun j oj hj => by
    have := h2 j (Array.getElem?_eq_some_iff.1 hj).1
    rw [hj] at this
    simp only [Bool.and_eq_true] at this
    refine ⟨Option.isNone_iff_eq_none.1 this.1, fun e he => ?_⟩
    have h5 := Array.all_eq_true_iff_forall_mem.1 this.2 e he
    exact of_decide_eq_true h5
  refine ⟨hn, h1, fun j oj hj => (key j oj hj).1, fun j oj hj => (key j oj hj).2, fun j hj => ?_⟩
  obtain ⟨i, hi, h6⟩ := Array.any_eq_true.1 (h3 j hj)
  obtain ⟨e, he⟩ : ∃ e, e = on.after[i] := ⟨_, rfl⟩
  rw [← he] at h6
  have he : e ∈ on.after := he ▸ Array.getElem_mem hi
  rw [Bool.and_eq_true] at h6
  exact ⟨e, he, h6.1, of_decide_eq_true h6.2⟩
/-- The region: all but the last in whatever order under S, then the last. -/
theorem wp_region_last {id : Nat} {a : Act} {w : World} {on : Oper} (S : World → Prop) (n : Nat) (hm : P.follows .mixedOrders = true) (hn : ops[n]? = some on) (hB : lastB .any ops n = true)
    (h : wpAnyH P .any (ops.setIfInBounds n (calmOp on)) (lastQ P ops n Q) S ops.size (Array.replicate ops.size false) a w.drew) : (Code.region id ops true).wp P Q a w := by
  have hl := lastB_ok hn hB
  refine wp_region_any hm (any_of_calm (S := S) hl _ _ _ _ (by simp) ?_ h)
  have := hl.size
  have hlt : n < ops.size := by omega
  simp [hlt]

/-- One call alone may come up. -/
theorem held_call {i : Nat} {oi : Oper} {fuel : Nat} {listed : Array Bool} {a : Act} {w : World} (hr : Region.ready md ops listed = [i]) (hi : ops[i]? = some oi) (hg : oi.guard = none)
    (h : oi.wp P a w (fun a' w' => S w' ∧ wpAnyH P md ops Q S fuel (listed.setIfInBounds i true) a' w') Q) : wpAnyH P md ops Q S (fuel + 1) listed a w :=
  wpAnyH_all hr (by simp) (fun j hj => by
    obtain rfl := List.mem_singleton.1 hj
    unfold wpOp
    rw [hi]
    have hw : Region.wanted oi (yielded ops a.tmps) = true := by unfold Region.wanted; rw [hg]
    simp only [hw, if_true]
    exact Or.inl h)
theorem wp_enter {o : Oper} {a : Act} {w : World} {K : Act → World → Prop} {f : FuncId} {args : Array Value} (h : (execOp a.eval o).run P w = .ok (.enter f args) w) {R : Ending → World → Prop} (hc : Calls P f args w R) (hR : ∀ v w', R (.returned v) w' → K (a.put o.dst v) w') (h2 : ∀ c w', ¬ R (.panicked c) w') (h3 : ∀ w', ¬ R .outgrown w') : o.wp P a w K Q := by
  unfold Oper.wp
  rw [h]
  refine hc.mono fun e w' he => ?_
  cases e with
  | returned v => exact hR v w' he
  | panicked c => exact absurd he (h2 c w')
  | outgrown => exact absurd he (h3 w')
theorem held_take {i : Nat} {oi : Oper} {v : Value} {fuel : Nat} {listed : Array Bool} {a : Act} {w : World} (d : Option Tmp) (hi : ops[i]? = some oi) (hd : oi.dst = d)
    (hs : Region.noSelect ops = true) (hf : Region.free md ops listed i = true) (hr : (Region.ready md ops listed).contains i = true)
    (hQ : ∀ c a w, Q (.panic c) (a.put oi.dst v) w → Q (.panic c) a w) (hy : YieldsIf P ops S oi v a) (hS : S w)
    (h : wpAnyH P md ops Q S fuel (listed.setIfInBounds i true) (a.put d v) w) : wpAnyH P md ops Q S (fuel + 1) listed a w :=
  wpAnyH_take hi hs hf hr hQ hy hS (by rw [hd]; exact h)
theorem held_enter {i : Nat} {oi : Oper} {fuel : Nat} {listed : Array Bool} {a : Act} {w : World} (d : Option Tmp) {f : FuncId} {args : Array Value} (hr : Region.ready md ops listed = [i]) (hi : ops[i]? = some oi) (hg : oi.guard = none) (hd : oi.dst = d)
    (h : (execOp a.eval oi).run P w = .ok (.enter f args) w) {R : Ending → World → Prop} (hc : Calls P f args w R) (hR : ∀ v w', R (.returned v) w' → S w' ∧ wpAnyH P md ops Q S fuel (listed.setIfInBounds i true) (a.put d v) w') (h2 : ∀ c w', ¬ R (.panicked c) w') (h3 : ∀ w', ¬ R .outgrown w') : wpAnyH P md ops Q S (fuel + 1) listed a w :=
  held_call hr hi hg (wp_enter h hc (fun v w' hv => by rw [hd]; exact hR v w' hv) h2 h3)
/-- The end: the last operation itself. -/
theorem lastQ_of {on : Oper} {a : Act} {w : World} (hn : ops[n]? = some on) (hg : on.guard = none) (h : on.wp P a w (fun a' w' => Q .normal a' w') Q) : lastQ P ops n Q .normal a w := by
  show wpOp P ops Q n _ a w
  unfold wpOp
  rw [hn]
  have hw : Region.wanted on (yielded ops a.tmps) = true := by unfold Region.wanted; rw [hg]
  simp only [hw, if_true]
  exact Or.inl h
theorem lastQ_store {on : Oper} {a : Act} {w : World} (hn : ops[n]? = some on) (hg : on.guard = none) (hd : on.dst = none) (ty : TypeId) (x y : Operand) (ho : on.op = .store ty x y)
    (b o : Nat) (cells : Array Value) (hx : a.eval x = .pointer (some ⟨b, o, none⟩)) (hy : a.eval y = .agg cells)
    (ht : w.there b o cells.size) (hi : (P.info? ty).map (·.size) = some cells.size) (h1 : cells.all (·.oneCell') = true)
    (h : Q .normal a (w.setCells b o cells.toList)) : lastQ P ops n Q .normal a w :=
  lastQ_of hn hg (wp_store_mid ty x y ho b o cells hx hy ht hi h1 (by rw [hd]; exact h))
theorem held_none {i : Nat} {oi : Oper} {fuel : Nat} {listed : Array Bool} {a : Act} {w : World} {v : Value} (hi : ops[i]? = some oi) (hd : oi.dst = none)
    (hs : Region.noSelect ops = true) (hf : Region.free md ops listed i = true) (hr : (Region.ready md ops listed).contains i = true)
    (hQ : ∀ c a w, Q (.panic c) (a.put oi.dst v) w → Q (.panic c) a w) (hy : YieldsIf P ops S oi v a) (hS : S w)
    (h : wpAnyH P md ops Q S fuel (listed.setIfInBounds i true) a w) : wpAnyH P md ops Q S (fuel + 1) listed a w :=
  held_take none hi hd hs hf hr hQ hy hS h
theorem yieldsIf_move {o : Oper} {a : Act} {x : Operand} {v : Value} (hg : o.guard = none) (ho : o.op = .move x) (hx : a.eval x = v) : YieldsIf P ops S o v a :=
  Or.inl ⟨by unfold Region.wanted; rw [hg], fun w _ => by
    unfold execOp
    simp only [ho, hx]
    rfl⟩
theorem yieldsIf_cell {o : Oper} {a : Act} {x : Operand} {v : Value} {t : TypeId} {b off : Nat} (hg : o.guard = none) (ho : o.op = .load t x) (hx : a.eval x = .pointer (some ⟨b, off, none⟩)) (hrun : ∀ w, S w → (Instr.loadAt t (.pointer (some ⟨b, off, none⟩))).run P w = .ok v w) : YieldsIf P ops S o v a :=
  Or.inl ⟨by unfold Region.wanted; rw [hg], fun w hw => by
    unfold execOp
    simp only [ho, hx, Sem.run_bind, hrun w hw, Result.andThen_ok]
    rfl⟩
theorem yieldsIf_index {o : Oper} {a : Act} {x y : Operand} {v u i : Value} {t : TypeId} (hg : o.guard = none) (ho : o.op = .indexAddr t x y) (hx : a.eval x = u) (hy : a.eval y = i) (hrun : ∀ w, (Instr.indexAt t u i).run P w = .ok v w) : YieldsIf P ops S o v a :=
  Or.inl ⟨by unfold Region.wanted; rw [hg], fun w _ => by
    unfold execOp
    simp only [ho, hx, hy, Sem.run_bind, hrun w, Result.andThen_ok]
    rfl⟩
end
end Go.Proofs.YtaojiojldljhlaaDoor


namespace Go.Proofs.YtaojiojldljhlaaDoor
open Go.RowKit

/-- Differentials of differentials are 0. -/
def SqOk (p : Int) (ds : List Int) (ms : List (List (List Int))) : Prop :=
  ∀ q, q + 1 < ms.length → ∀ r ∈ ms.getD (q + 1) [], ∀ x ∈ apT p (ds.getD q 0).toNat r (ms.getD q []), x = 0
/-- All that a complex is asked besides. -/
structure PreOk (p : Int) (ds : List Int) (ms : List (List (List Int))) : Prop where
  prime : IsP p
  len0 : 1 ≤ ds.length
  len1 : ds.length ≤ 6
  mlen : ms.length + 1 = ds.length
  dims : ∀ d ∈ ds, 0 ≤ d ∧ d ≤ 8
  tabs : ∀ k, k < ms.length → TabOk p (ds.getD (k + 1) 0) (ds.getD k 0) (ms.getD k [])

theorem PreOk.dim {p : Int} {ds : List Int} {ms : List (List (List Int))} (h : PreOk p ds ms) (k : Nat) : 0 ≤ ds.getD k 0 ∧ ds.getD k 0 ≤ 8 := by
  by_cases hk : k < ds.length
  · rw [getD_of_lt _ hk]; exact h.dims _ (List.getElem_mem _)
  · simp [List.getD, show ds.length ≤ k by omega]
theorem PreOk.ap {p : Int} {ds : List Int} {ms : List (List (List Int))} (h : PreOk p ds ms) {q : Nat} (hq : q + 1 < ms.length) {r : List Int} (hr : r ∈ ms.getD (q + 1) []) : ApOk p (ds.getD q 0).toNat r (ms.getD q []) := by
  have h1 := h.tabs (q + 1) hq
  have h0 := h.tabs q (by omega)
  have hd := h.dim q
  refine ⟨h.prime, ?_, (h1.2 r hr).2, fun r2 hr2 => ⟨?_, (h0.2 r2 hr2).2⟩⟩
  · have e1 := (h1.2 r hr).1
    have e2 := h0.1
    omega
  · have e1 := (h0.2 r2 hr2).1
    omega
/-- A call that says whether P, and leaves what was there. -/
def BB (P : Prop) (w : World) (e : Ending) (w' : World) : Prop := ∃ b : Bool, e = .returned (.bool b) ∧ Below w.heap.size w w' ∧ (b = true ↔ P)
theorem bb_false {P : Prop} {w w' : World} (hb : Below w.heap.size w w') (h : ¬ P) : BB P w (.returned (.bool false)) w' := ⟨false, rfl, hb, by simp [h]⟩

/-- A cell of what was there, read in a later world. -/
theorem later {w w' : World} {b o : Nat} {u : Value} {B : Nat} (hb : Below B w w') (hB : w.heap.size ≤ B) (h : w.cell? ⟨b, o, none⟩ = some u) : w'.cell? ⟨b, o, none⟩ = some u := by
  rw [hb.cell (p := ⟨b, o, none⟩) (Nat.lt_of_lt_of_le (cell_lt h) hB), h]

end Go.Proofs.YtaojiojldljhlaaDoor

namespace Go.Proofs.YtaojiojldljhlaaDoor
open Go.RowKit

def IsCx (p : Int) (ds : List Int) (ms : List (List (List Int))) : Prop := PreOk p ds ms ∧ SqOk p ds ms

/-- What stands in the boxes of a call over a complex, in whatever later world. -/
structure Bx (w wr : World) (b : Nat) (p : Int) (dv mv : Value) (ds : List Int) (ms : List (List (List Int))) : Prop where
  below : Below w.heap.size w wr
  c0 : wr.cell? ⟨b, 0, none⟩ = some (.int .i64 p)
  c1 : wr.cell? ⟨b, 1, none⟩ = some dv
  c2 : wr.cell? ⟨b, 2, none⟩ = some mv
  lt : b < wr.heap.size
  cx : Cx 0 wr dv mv ds ms
theorem Bx.next {w wr w' : World} {b : Nat} {p : Int} {dv mv : Value} {ds : List Int} {ms : List (List (List Int))} (h : Bx w wr b p dv mv ds ms) (hb : Below wr.heap.size wr w') : Bx w w' b p dv mv ds ms :=
  ⟨h.below.trans (hb.mono h.below.size), later hb (Nat.le_refl _) h.c0, later hb (Nat.le_refl _) h.c1, later hb (Nat.le_refl _) h.c2, Nat.lt_of_lt_of_le h.lt hb.size, h.cx.below hb⟩
theorem Bx.start {w : World} {p : Int} {dv mv : Value} {ds : List Int} {ms : List (List (List Int))} (t : TypeId) (h : Cx 0 w dv mv ds ms) : Bx w (w.alloc (.cells #[.int .i64 p, dv, mv] t)) w.heap.size p dv mv ds ms :=
  ⟨(Below.refl _ _).alloc (Nat.le_refl _) _, by simp, by simp, by simp, by simp, h.below ((Below.refl _ _).alloc (Nat.le_refl _) _)⟩

section
variable {P : Program} {md : Region.Mode} {ops : Array Oper} {Q : Exit → Act → World → Prop} {S : World → Prop}
end

end Go.Proofs.YtaojiojldljhlaaDoor

namespace Go.Proofs.YtaojiojldljhlaaDoor
open Go.RowKit

theorem Sl.at {α : Type} {lo : Nat} {R : World → Value → α → Prop} {w : World} {b o n cap : Nat} {xs : List α} (h : Sl lo R w (.slice (some ⟨b, o, none⟩) n cap) xs) {k : Nat} (hk : k < xs.length) :
    ∃ u, w.cell? ⟨b, o + k, none⟩ = some u ∧ R w u xs[k] := by
  refine Sl.cases h (fun _ _ hx _ => absurd hk (by simp [hx])) (fun b2 o2 cap2 hv _ _ hc => ?_)
  injection hv with e1 _ _
  injection e1 with e1
  injection e1 with e1 e2
  subst e1 e2
  exact hc k hk

theorem below_alloc1 (w : World) (A : Obj) : Below w.heap.size w (w.alloc A) := (Below.refl _ _).alloc (Nat.le_refl _) _
theorem Cx.zero {lo : Nat} {w : World} {dv mv : Value} {ds : List Int} {ms : List (List (List Int))} (h : Cx lo w dv mv ds ms) : Cx 0 w dv mv ds ms := h.lower (Nat.zero_le _)
theorem Cx.shapes {lo : Nat} {w : World} {dv mv : Value} {ds : List Int} {ms : List (List (List Int))} (h : Cx lo w dv mv ds ms) : (∃ a c, dv = .slice a ds.length c) ∧ ∃ a c, mv = .slice a ms.length c := ⟨Sl.shape h.dims, Sl.shape h.maps⟩
end Go.Proofs.YtaojiojldljhlaaDoor


namespace Go.Proofs.YtaojiojldljhlaaDoor
open Go.RowKit

/-- The first n numbers. -/
def toL (n : Nat) (v : Lin.V) : List Int := (List.range n).map v
/-- The cells of a vector. -/
def vl (v : Lin.V) : List Value := (toL 40 v).map (Value.int .i64)
def vv (v : Lin.V) : Value := .agg (vl v).toArray
theorem toL_length (n : Nat) (v : Lin.V) : (toL n v).length = n := by simp [toL]
theorem toL_get {n k : Nat} (v : Lin.V) (h : k < (toL n v).length) : (toL n v)[k] = v k := by simp [toL]
theorem vl_length (v : Lin.V) : (vl v).length = 40 := by simp [vl, toL_length]
theorem vl_get (v : Lin.V) {k : Nat} (h : k < 40) : (vl v)[k]? = some (.int .i64 (v k)) := by
  have : k < (toL 40 v).length := by rw [toL_length]; exact h
  simp [vl, this, toL_get]
theorem vl_congr {v w : Lin.V} (h : ∀ i, i < 40 → v i = w i) : vl v = vl w := by
  unfold vl toL
  rw [List.map_congr_left (fun i hi => h i (List.mem_range.1 hi))]
theorem vl_one (v : Lin.V) : ∀ u ∈ vl v, u.oneCell' = true := fun u hu => by
  obtain ⟨x, _, rfl⟩ := List.mem_map.1 hu
  rfl
theorem vl_all (v : Lin.V) : (vl v).toArray.all (·.oneCell') = true := all_oneCell_toArray (vl_one v)
theorem toL_inj {v w : Lin.V} (hv : Lin.Wd 40 v) (hw : Lin.Wd 40 w) (h : toL 40 v = toL 40 w) : v = w := by
  funext i
  by_cases hi : i < 40
  · have h1 : (toL 40 v)[i]? = (toL 40 w)[i]? := by rw [h]
    simpa [toL, hi] using h1
  · rw [hv i (by omega), hw i (by omega)]
/-- Where a vector lies. -/
def At (w : World) (b o : Nat) (v : Lin.V) : Prop := w.rangeAt b o (vl v)
theorem At.range {w : World} {b o : Nat} {v : Lin.V} (h : At w b o v) : w.rangeAt b o (vl v) := h
theorem At.cell {w : World} {b o : Nat} {v : Lin.V} (h : At w b o v) {k : Nat} (hk : k < 40) : w.cell? ⟨b, o + k, none⟩ = some (.int .i64 (v k)) := h k _ (vl_get v hk)
theorem At.lt {w : World} {b o : Nat} {v : Lin.V} (h : At w b o v) : b < w.heap.size := cell_lt (h.cell (k := 0) (by omega))
theorem At.below {w w' : World} {b o B : Nat} {v : Lin.V} (h : At w b o v) (hb : Below B w w') (hB : b < B) : At w' b o v := fun j u hu => by
  rw [hb.cell (p := ⟨b, o + j, none⟩) hB]
  exact h j u hu
theorem At.later {w w' : World} {b o : Nat} {v : Lin.V} (h : At w b o v) (hb : Below w.heap.size w w') : At w' b o v := h.below hb h.lt
theorem at_of_block {w : World} {b : Nat} {v : Lin.V} {t : TypeId} {fr : Nat × Nat} (h : w.heap[b]? = some (.cells (vl v).toArray t fr)) : At w b 0 v := fun j u hu => by
  rw [cell_of_row w b (0 + j) _ t fr h]
  simpa using hu
theorem at_alloc (w : World) (v : Lin.V) (t : TypeId) : At (w.alloc (.cells (vl v).toArray t)) w.heap.size 0 v := at_of_block (heap_alloc_new w _)

theorem run_index_vv {P : Program} {t e : TypeId} {n : Nat} (ht : P.underlying t = some (.array 40 e)) (he : P.underlying e = some (.int .i64)) (hz : (P.info? e).map (·.size) = some n) (hn : n = 1) (v : Lin.V) {k : Nat} (hk : k < 40) (w : World) :
    (Instr.index t (.agg (vl v).toArray) (.int .i64 k)).run P w = .ok (.int .i64 (v k)) w := by
  obtain ⟨inf, hi, hs⟩ := Option.map_eq_some_iff.1 hz
  subst hn
  have hsz : (sizeOf e).run P w = .ok 1 w := by simp [sizeOf, typeInfo, hi, hs]
  have hp := run_part_int w he (vl v).toArray k (.int .i64 (v k)) (by simpa using vl_get v hk)
  have h2 : (0 : Int) ≤ (k : Int) ∧ (k : Int) < ((40 : Nat) : Int) := ⟨by omega, by omega⟩
  simp only [Instr.index, asIntOf, Sem.run_bind, Sem.run_pure, Result.andThen_ok, run_underlying ht, if_pos h2, hsz, Int.toNat_natCast, Nat.mul_one, hp]

theorem hidx (v : Lin.V) {k : Nat} (hk : k < 40) : ∀ w, (Instr.index 82 (.agg (vl v).toArray) (.int .i64 k)).run Tryd.prog w = .ok (.int .i64 (v k)) w :=
  fun w => run_index_vv Tryd.underlyingV Tryd.underlying2 Tryd.infoI1 rfl v hk w

theorem ld_lt {v : Lin.V} (hw : Lin.Wd 40 v) (hne : v ≠ Lin.zv) : Lin.ld v < 40 ∧ v (Lin.ld v) ≠ 0 ∧ ∀ j, j < Lin.ld v → v j = 0 := by
  obtain ⟨i, hi⟩ := Lin.ne_zv hne
  obtain ⟨h1, h2⟩ := Lin.ld_spec hi
  exact ⟨Classical.byContradiction fun hn => h1 (hw _ (by omega)), h1, h2⟩

theorem Tryd.infoVl (v : Lin.V) : (Tryd.prog.info? 82).map (·.size) = some (vl v).length := by rw [vl_length]; exact Tryd.infoV

set_option maxHeartbeats 800000 in
set_option maxRecDepth 100000 in
theorem leadOf_any (v : Lin.V) (w : World) (hw : Lin.Wd 40 v) (hne : v ≠ Lin.zv) : Calls Tryd.prog 84 #[vv v] w (BR (.int .i64 (Lin.ld v)) w) := by
  obtain ⟨h1, h2, h3⟩ := ld_lt hw hne
  have H3 := Lib.hid h3
  obtain ⟨d, hd⟩ : ∃ d, d = Lin.ld v := ⟨_, rfl⟩
  rw [← hd] at h1 h2 H3 ⊢
  have HD := Lib.hid hd
  have HAT := Lib.hid (at_alloc w v 82)
  have HB := Lib.hid (below_alloc1 w (.cells (vl v).toArray 82))
  have HI := Lib.hid (Tryd.infoVl v)
  clear h3 hd hw hne
  unfold vv
  go_enter Tryd.func84, Tryd.ntmps84
  go_wp2_with (with_reducible refine wpList_load_mid rfl 82 (.tmp 1) rfl w.heap.size 0 rfl (vl v) _ HAT.out.range Tryd.underlyingV rfl HI.out ?_)
  go_loop [6] (fun i => ∃ k : Nat, k ≤ d ∧ i = .int .i64 k) (fun i => d + 1 - (intOf i).toNat)
  case atStart => exact ⟨0, Nat.zero_le _, rfl⟩
  case round =>
    obtain ⟨k, hk, rfl⟩ := hrel
    have hk40 : k < 40 := by omega
    have hix := hidx v hk40
    obtain ⟨x, hx⟩ : ∃ x, x = v k := ⟨_, rfl⟩
    rw [← hx] at hix
    by_cases hlt : k < d
    · have hx0 : (x != 0) = false := by rw [hx, H3.out k hlt]; rfl
      have HX := Lib.hid hx
      clear hx
      go_wp2
      go_round
      case rel => exact ⟨k + 1, by omega, by go_num⟩
      case measure => simp [intOf]; omega
    · have hkd : k = d := by omega
      have hx0 : (x != 0) = true := by rw [hx, hkd]; simp [h2]
      have HX := Lib.hid hx
      have HKD := Lib.hid hkd
      clear hx hkd
      go_wp2
      go_ret
      exact ⟨ret_int (by rw [HKD.out]), HB.out⟩
end Go.Proofs.YtaojiojldljhlaaDoor

namespace Go.Proofs.YtaojiojldljhlaaDoor
open Go.RowKit

theorem inv_ex {p a : Int} (hp : IsP p) (h0 : 0 < a) (h1 : a < p) : ∃ k : Nat, 1 ≤ k ∧ (k : Int) < p ∧ (k : Int) * a % p = 1 := by
  rcases hp with rfl | rfl | rfl | rfl
  · obtain rfl : a = 1 := by omega
    exact ⟨1, by decide⟩
  · have : a = 1 ∨ a = 2 := by omega
    rcases this with rfl | rfl
    · exact ⟨1, by decide⟩
    · exact ⟨2, by decide⟩
  · have : a = 1 ∨ a = 2 ∨ a = 3 ∨ a = 4 := by omega
    rcases this with rfl | rfl | rfl | rfl
    · exact ⟨1, by decide⟩
    · exact ⟨3, by decide⟩
    · exact ⟨2, by decide⟩
    · exact ⟨4, by decide⟩
  · have : a = 1 ∨ a = 2 ∨ a = 3 ∨ a = 4 ∨ a = 5 ∨ a = 6 := by omega
    rcases this with rfl | rfl | rfl | rfl | rfl | rfl
    · exact ⟨1, by decide⟩
    · exact ⟨4, by decide⟩
    · exact ⟨5, by decide⟩
    · exact ⟨2, by decide⟩
    · exact ⟨3, by decide⟩
    · exact ⟨6, by decide⟩
theorem mul_bd {p a b : Int} (hp : IsP p) (ha0 : 0 ≤ a) (ha : a < p) (hb0 : 0 ≤ b) (hb : b ≤ p) : 0 ≤ a * b ∧ a * b ≤ 42 := by
  have hp7 : p ≤ 7 := by rcases hp with rfl | rfl | rfl | rfl <;> decide
  refine ⟨Int.mul_nonneg ha0 hb0, ?_⟩
  have h1 : a * b ≤ 6 * b := Int.mul_le_mul_of_nonneg_right (by omega) hb0
  omega
theorem IsP.lo1 {p : Int} (hp : IsP p) : 1 < p := by rcases hp with rfl | rfl | rfl | rfl <;> decide
theorem IsP.hi7 {p : Int} (hp : IsP p) : p ≤ 7 := by rcases hp with rfl | rfl | rfl | rfl <;> decide

def InvR (p a : Int) (w : World) (e : Ending) (w' : World) : Prop := ∃ k : Nat, e = .returned (.int .i64 (k : Int)) ∧ w = w' ∧ 1 ≤ k ∧ (k : Int) < p ∧ (k : Int) * a % p = 1

set_option maxHeartbeats 400000 in
theorem inverseOf_any (p a : Int) (w : World) (hp : IsP p) (h0 : 0 < a) (h1 : a < p) : Calls Tryd.prog 95 #[.int .i64 p, .int .i64 a] w (InvR p a w) := by
  obtain ⟨d, hd1, hdp, hd⟩ := inv_ex hp h0 h1
  have hp7 := hp.hi7
  have hp1 := hp.lo1
  have HD := Lib.hid hd
  have HP := Lib.hid hp
  clear hd hp
  go_enter Tryd.func95, Tryd.ntmps95
  go_wp2
  go_loop [5] (fun i => ∃ k : Nat, 1 ≤ k ∧ k ≤ d ∧ i = .int .i64 k) (fun i => d + 1 - (intOf i).toNat)
  case atStart => exact ⟨1, Nat.le_refl _, hd1, rfl⟩
  case round =>
    obtain ⟨k, hk1, hk, rfl⟩ := hrel
    obtain ⟨hm0, hm1⟩ := mul_bd HP.out (a := (k : Int)) (b := a) (by omega) (by omega) (by omega) (by omega)
    by_cases hq : (k : Int) * a % p = 1
    · have hx : ((k : Int) * a % p != 1) = false := by rw [hq]; rfl
      have HQ := Lib.hid hq
      clear hq
      go_wp2
      go_ret
      exact ⟨k, rfl, rfl, hk1, by omega, HQ.out⟩
    · have hx : ((k : Int) * a % p != 1) = true := by simp [hq]
      have hkd : k < d := by
        rcases Nat.lt_or_ge k d with h | h
        · exact h
        · have : k = d := by omega
          subst this
          exact absurd HD.out hq
      clear hq
      go_wp2
      go_round
      case rel => exact ⟨k + 1, by omega, by omega, by go_num⟩
      case measure => simp [intOf]; omega

theorem there_new (w : World) (C : Array Value) (t : TypeId) {n : Nat} (h : n ≤ C.size) : (w.alloc (.cells C t)).there w.heap.size 0 n := fun j hj => by
  have hb := heap_alloc_new w (.cells C t)
  constructor
  · rw [cell_of_row _ _ _ _ _ _ hb, Nat.zero_add, Array.getElem?_eq_getElem (by omega)]
    rfl
  · simp
theorem there_set {w : World} {b o n : Nat} (h : w.there b o n) (a : Addr) (u : Value) : (w.setCell a u).there b o n := fun j hj => by
  obtain ⟨h1, h2⟩ := h j hj
  refine ⟨?_, by rw [World.frozen?_setCell]; exact h2⟩
  obtain ⟨x, hx⟩ := Option.isSome_iff_exists.1 h1
  by_cases e : a = ⟨b, o + j, none⟩
  · rw [e, World.cell?_setCell_same _ _ _ hx]; rfl
  · rw [World.cell?_setCell_other _ _ _ _ e, hx]; rfl
theorem there_below {w w' : World} {b o n B : Nat} (h : w.there b o n) (hb : Below B w w') (hB : b < B) : w'.there b o n := fun j hj => by
  rw [hb.cell (p := ⟨b, o + j, none⟩) hB, hb.frozen (p := ⟨b, o + j, none⟩) hB]
  exact h j hj
theorem below_setCells {B : Nat} {w : World} (b : Nat) (hB : B ≤ b) : ∀ (vs : List Value) (o : Nat) (w' : World), Below B w w' → Below B w (w'.setCells b o vs) := by
  intro vs
  induction vs with
  | nil => intro o w' h; exact h
  | cons v vs ih => intro o w' h; exact ih (o + 1) _ (h.setCell hB v)
theorem addr_ne {b o o' : Nat} (h : o ≠ o') : (⟨b, o, none⟩ : Addr) ≠ ⟨b, o', none⟩ := fun e => h (by injection e)
theorem At.set {w : World} {b o : Nat} {v : Lin.V} (h : At w b o v) {k : Nat} (hk : k < 40) (x : Int) : At (w.setCell ⟨b, o + k, none⟩ (.int .i64 x)) b o (fun i => if i = k then x else v i) := fun j u hu => by
  have hj : j < 40 := by have := (List.getElem?_eq_some_iff.1 hu).1; rwa [vl_length] at this
  rw [vl_get _ hj] at hu
  by_cases e : j = k
  · subst e
    rw [World.cell?_setCell_same _ _ _ (h.cell hj)]
    simpa using hu
  · rw [World.cell?_setCell_other _ _ _ _ (addr_ne (by omega)), h.cell hj]
    simpa [e] using hu
theorem At.setOther {w : World} {b o : Nat} {v : Lin.V} (h : At w b o v) {a : Addr} (ha : a.block ≠ b) (u : Value) : At (w.setCell a u) b o v := fun j x hx => by
  rw [World.cell?_setCell_other _ _ _ _ (by intro e; exact ha (by rw [e]))]
  exact h j x hx
theorem At.congr {w : World} {b o : Nat} {v v' : Lin.V} (h : At w b o v) (e : ∀ i, i < 40 → v i = v' i) : At w b o v' := by
  unfold At
  rw [← vl_congr e]
  exact h
theorem at_setCells (w : World) (b o : Nat) (v : Lin.V) (ht : w.there b o 40) : At (w.setCells b o (vl v)) b o v := World.rangeAt_setCells_same w b o (vl v) (by rw [vl_length]; exact ht)
theorem At.apart {w : World} {b o b' o' : Nat} {v : Lin.V} (h : At w b o v) (v' : Lin.V) (ha : b ≠ b' ∨ o + 40 ≤ o' ∨ o' + 40 ≤ o) : At (w.setCells b' o' (vl v')) b o v := World.rangeAt_setCells_apart h b' o' (vl v') (by rw [vl_length, vl_length]; exact ha)
theorem results_cell_at {P : Program} {fn : Func} {p : Tmp} {ty : TypeId} (h : fn.results = #[.cell p ty]) (tmps : Array Value) (w : World) (g : Nat) (v : Lin.V) (d : TypeDesc)
    (hp : tmps.getD p undef = .pointer (some ⟨g, 0, none⟩)) (hg : At w g 0 v) (hu : P.underlying ty = some d) (hd : d.isRow = true) (hi : (P.info? ty).map (·.size) = some (vl v).length) :
    (results fn tmps).run P w = .ok (vv v) w := by
  have hp' : tmps[p]?.getD undef = .pointer (some ⟨g, 0, none⟩) := by simpa using hp
  simp [results, h, hp', asAddr, run_loadVar_mid w g 0 ty (vl v) d hg hu hd hi, vv]

/-- What stands before a piece of code: the world by what is known of it. -/
theorem forget_wp {P : Program} {c : Code} {Q : Exit → Act → World → Prop} {a : Act} {w : World} (S : World → Prop) (h : S w) (k : ∀ W, S W → Code.wp P c Q a W) : Code.wp P c Q a w := k w h
/-- A vector in a box, and a place for a vector. -/
structure Boxed (w W : World) (b g : Nat) (v : Lin.V) : Prop where
  below : Below w.heap.size w W
  lo : w.heap.size ≤ b ∧ w.heap.size ≤ g
  ne : b ≠ g
  at' : At W b 0 v
  there : W.there b 0 40
  res : W.there g 0 40
theorem Boxed.next {w W W' : World} {b g : Nat} {v : Lin.V} (h : Boxed w W b g v) (hb : Below W.heap.size W W') : Boxed w W' b g v := by
  have hg : g < W.heap.size := by
    obtain ⟨x, hx⟩ := Option.isSome_iff_exists.1 (h.res 0 (by omega)).1
    exact cell_lt hx
  exact ⟨h.below.trans (hb.mono h.below.size), h.lo, h.ne, h.at'.later hb, there_below h.there hb h.at'.lt, there_below h.res hb hg⟩
theorem Boxed.set {w W : World} {b g : Nat} {v : Lin.V} (h : Boxed w W b g v) {k : Nat} (hk : k < 40) (x : Int) : Boxed w (W.setCell ⟨b, k, none⟩ (.int .i64 x)) b g (fun i => if i = k then x else v i) := by
  have := h.at'.set hk x
  rw [Nat.zero_add] at this
  exact ⟨h.below.setCell h.lo.1 _, h.lo, h.ne, this, there_set h.there _ _, there_set h.res _ _⟩
theorem Boxed.congr {w W : World} {b g : Nat} {v v' : Lin.V} (h : Boxed w W b g v) (e : ∀ i, i < 40 → v i = v' i) : Boxed w W b g v' := ⟨h.below, h.lo, h.ne, h.at'.congr e, h.there, h.res⟩
theorem boxed_new (w : World) (v : Lin.V) (C : Array Value) (hC : 40 ≤ C.size) (t t' : TypeId) : Boxed w ((w.alloc (.cells (vl v).toArray t)).alloc (.cells C t')) w.heap.size (w.heap.size + 1) v := by
  have h1 := there_new w (vl v).toArray t (n := 40) (by simp [vl_length])
  have h2 := there_new (w.alloc (.cells (vl v).toArray t)) C t' hC
  exact ⟨below_two _ _ _, ⟨Nat.le_refl _, by omega⟩, by omega, (at_alloc w v t).later (below_alloc1 _ _), World.there_alloc h1 _, by simpa using h2⟩

def VR (P : Lin.V → Prop) (w : World) (e : Ending) (w' : World) : Prop := ∃ v, e = .returned (vv v) ∧ Below w.heap.size w w' ∧ P v

set_option maxHeartbeats 1600000 in
set_option maxRecDepth 100000 in
theorem unitLead_any (p : Int) (v : Lin.V) (w : World) (hp : IsP p) (hm : Lin.Md p v) (hw : Lin.Wd 40 v) (hne : v ≠ Lin.zv) : Calls Tryd.prog 90 #[.int .i64 p, vv v] w (VR (fun u => Lin.Unit p v u ∧ Lin.Wd 40 u) w) := by
  obtain ⟨h1, h2, h3⟩ := ld_lt hw hne
  have hres : Tryd.f90.results = #[.cell 4 82] := by kernel_rfl
  have HRES := Lib.hid hres
  have HI := Lib.hid (Tryd.infoVl v)
  have HP := Lib.hid hp
  have HM := Lib.hid hm
  have HW := Lib.hid hw
  have HNE := Lib.hid hne
  have hp7 := hp.hi7
  have hp1 := hp.lo1
  obtain ⟨d, hd⟩ : ∃ d, d = Lin.ld v := ⟨_, rfl⟩
  have HD := Lib.hid hd
  have hld := leadOf_any v
  have hd40 : d < 40 := by rw [hd]; exact h1
  have hx0 : v d ≠ 0 := by rw [hd]; exact h2
  obtain ⟨x, hx⟩ : ∃ x, x = v d := ⟨_, rfl⟩
  have hx1 : 0 < x ∧ x < p := by
    have := hm d
    rw [← hx] at this hx0
    omega
  have HX := Lib.hid hx
  clear hres h1 h2 h3 hp hm hw hne hd hx0 hx
  unfold vv at hld ⊢
  have HLD := Lib.hid hld
  clear hld
  go_enter Tryd.func90, Tryd.ntmps90
  go_upto_region 1 with fail
  refine forget_wp (fun W => Boxed w W w.heap.size (w.heap.size + 1) v) (boxed_new w v _ (by exact Nat.le_refl 40) _ _) ?_
  intro W HB0
  have HB := Lib.hid HB0
  clear HB0
  go_wp2_with (with_reducible refine wpList_load_mid rfl 82 (.tmp 3) rfl w.heap.size 0 rfl (vl v) _ HB.out.at'.range Tryd.underlyingV rfl HI.out ?_)
  refine (HLD.out _ HW.out HNE.out).mono ?_
  rw [← HD.out]
  rintro e w2 ⟨rfl, hb2⟩
  have HB2 := Lib.hid (HB.out.next hb2)
  have hc2 : w2.cell? ⟨w.heap.size, d, none⟩ = some (.int .i64 x) := by rw [HX.out]; have := HB2.out.at'.cell hd40; rwa [Nat.zero_add] at this
  clear hb2 HB
  go_wp2_with fail
  refine (inverseOf_any p x _ HP.out hx1.1 hx1.2).mono ?_
  rintro e w3 ⟨c, rfl, rfl, hc0, hcp, hcx⟩
  have HC := Lib.hid hcx
  clear hcx hc2
  go_wp2_with (with_reducible refine wpList_load_mid rfl 82 (.tmp 3) rfl w.heap.size 0 rfl (vl v) _ HB2.out.at'.range Tryd.underlyingV rfl HI.out ?_)
  go_loopw [15] (fun i wr => ∃ k : Nat, k ≤ 40 ∧ i = .int .i64 k ∧ Hid (Boxed w wr w.heap.size (w.heap.size + 1) (fun i => if i < k then (c : Int) * v i % p else v i))) (fun i _ => 40 - (intOf i).toNat)
  case atStart => exact ⟨0, Nat.zero_le _, rfl, Lib.hid (HB2.out.congr (fun i _ => by simp))⟩
  case round =>
    obtain ⟨k, hk, rfl, HR⟩ := hrel
    by_cases hlt : k < 40
    · have hix := hidx v hlt
      obtain ⟨y, hy⟩ : ∃ y, y = v k := ⟨_, rfl⟩
      have hyb := HM.out k
      rw [← hy] at hix hyb
      obtain ⟨hm0, hm1⟩ := mul_bd HP.out (a := (c : Int)) (b := y) (by omega) (by omega) (by omega) (by omega)
      have hcel := HR.out.at'.cell hlt
      have hfz := (HR.out.there k hlt).2
      rw [Nat.zero_add] at hcel hfz
      have HS := Lib.hid ((HR.out.set hlt ((c : Int) * y % p)).congr (v' := fun i => if i < k + 1 then (c : Int) * v i % p else v i) (fun i _ => by
        by_cases e : i = k
        · rw [if_pos e, if_pos (by omega), e, hy]
        · rw [if_neg e]
          by_cases e2 : i < k
          · rw [if_pos e2, if_pos (by omega)]
          · rw [if_neg e2, if_neg (by omega)]))
      clear hy HR
      go_wp2
      go_roundw
      case rel => exact ⟨k + 1, by omega, by go_num, HS⟩
      case measure => simp [intOf]; omega
    · have HF : Hid (Boxed w wr w.heap.size (w.heap.size + 1) (fun i => (c : Int) * v i % p)) := Lib.hid (HR.out.congr (fun i hi => by rw [if_pos (by omega)]))
      have HI2 := Lib.hid (Tryd.infoVl (fun i => (c : Int) * v i % p))
      have HU : Hid (Lin.Unit p v (fun i => (c : Int) * v i % p)) := Lib.hid (Lin.Unit.mk' hp1 HM.out HNE.out (by rw [← HD.out, ← HX.out]; exact HC.out))
      have HUW : Hid (Lin.Wd 40 (fun i => (c : Int) * v i % p)) := Lib.hid (fun i hi => by show (c : Int) * v i % p = 0; rw [HW.out i hi]; simp)
      obtain ⟨u, hu⟩ : ∃ u : Lin.V, u = fun i => (c : Int) * v i % p := ⟨_, rfl⟩
      rw [← hu] at HF HI2 HU HUW
      clear HR hu
      have HS : Hid (At (wr.setCells (w.heap.size + 1) 0 (vl u)) (w.heap.size + 1) 0 u) := Lib.hid (at_setCells _ _ _ _ HF.out.res)
      have HSB : Hid (Below w.heap.size w (wr.setCells (w.heap.size + 1) 0 (vl u))) := Lib.hid (below_setCells _ (by omega) _ _ _ HF.out.below)
      have HT : Hid (wr.there (w.heap.size + 1) 0 (vl u).toArray.size) := Lib.hid (by have := HF.out.res; simpa [vl_length] using this)
      have HI3 : Hid ((Tryd.prog.info? 82).map (·.size) = some (vl u).toArray.size) := Lib.hid (by have := HI2.out; simpa using this)
      go_wp2_with (first | (with_reducible refine wpList_load_mid rfl 82 (.tmp 3) rfl w.heap.size 0 rfl (vl u) _ HF.out.at'.range Tryd.underlyingV rfl HI2.out ?_) | (with_reducible refine wpList_store_mid rfl 82 (.tmp 4) (.tmp 27) rfl (w.heap.size + 1) 0 (vl u).toArray rfl rfl HT.out HI3.out (vl_all u) ?_))
      exact bodyPost_ret (v := vv u) (results_cell_at HRES.out _ _ (w.heap.size + 1) u _ rfl HS.out Tryd.underlyingV rfl HI2.out) rfl ⟨u, rfl, HSB.out, HU.out, HUW.out⟩

theorem boxed_new3 (w : World) (v u : Lin.V) (C : Array Value) (hC : 40 ≤ C.size) (t t' t2 : TypeId) : Boxed w (((w.alloc (.cells (vl v).toArray t)).alloc (.cells (vl u).toArray t')).alloc (.cells C t2)) w.heap.size (w.heap.size + 2) v ∧ At (((w.alloc (.cells (vl v).toArray t)).alloc (.cells (vl u).toArray t')).alloc (.cells C t2)) (w.heap.size + 1) 0 u := by
  have h1 := there_new w (vl v).toArray t (n := 40) (by simp [vl_length])
  have h2 := there_new ((w.alloc (.cells (vl v).toArray t)).alloc (.cells (vl u).toArray t')) C t2 hC
  have h3 := at_alloc (w.alloc (.cells (vl v).toArray t)) u t'
  refine ⟨⟨(below_two _ _ _).trans ((below_alloc1 _ _).mono (by simp; omega)), ⟨Nat.le_refl _, by omega⟩, by omega, ((at_alloc w v t).later (below_alloc1 _ _)).later (below_alloc1 _ _), World.there_alloc (World.there_alloc h1 _) _, by simpa using h2⟩, ?_⟩
  have := h3.later (below_alloc1 _ (.cells C t2))
  simpa using this

set_option maxHeartbeats 1600000 in
set_option maxRecDepth 100000 in
theorem minusMultiple_any (p f : Int) (v u : Lin.V) (w : World) (hp : IsP p) (hf0 : 0 ≤ f) (hf1 : f < p) (hm : Lin.Md p v) (hw : Lin.Wd 40 v) (hmu : Lin.Md p u) (hwu : Lin.Wd 40 u) : Calls Tryd.prog 87 #[.int .i64 p, vv v, .int .i64 f, vv u] w (BR (vv (Lin.add p v (-f) u)) w) := by
  have hres : Tryd.f87.results = #[.cell 8 82] := by kernel_rfl
  have HRES := Lib.hid hres
  have HI := Lib.hid (Tryd.infoVl u)
  have HP := Lib.hid hp
  have HM := Lib.hid hm
  have HW := Lib.hid hw
  have HMU := Lib.hid hmu
  have HWU := Lib.hid hwu
  have hp7 := hp.hi7
  have hp1 := hp.lo1
  clear hres hp hm hw hmu hwu
  unfold vv
  go_enter Tryd.func87, Tryd.ntmps87
  go_upto_region 1 with fail
  refine forget_wp (fun W => Boxed w W w.heap.size (w.heap.size + 2) v ∧ At W (w.heap.size + 1) 0 u) (boxed_new3 w v u _ (by exact Nat.le_refl 40) _ _ _) ?_
  rintro W ⟨HB0, HU0⟩
  have HB := Lib.hid HB0
  have HU := Lib.hid HU0
  clear HB0 HU0
  go_wp2_with (with_reducible refine wpList_load_mid rfl 82 (.tmp 7) rfl (w.heap.size + 1) 0 rfl (vl u) _ HU.out.range Tryd.underlyingV rfl HI.out ?_)
  go_loopw [12] (fun i wr => ∃ k : Nat, k ≤ 40 ∧ i = .int .i64 k ∧ Hid (Boxed w wr w.heap.size (w.heap.size + 2) (fun i => if i < k then Lin.add p v (-f) u i else v i))) (fun i _ => 40 - (intOf i).toNat)
  case atStart => exact ⟨0, Nat.zero_le _, rfl, Lib.hid (HB.out.congr (fun i _ => by simp))⟩
  case round =>
    obtain ⟨k, hk, rfl, HR⟩ := hrel
    by_cases hlt : k < 40
    · have hix := hidx u hlt
      obtain ⟨y, hy⟩ : ∃ y, y = u k := ⟨_, rfl⟩
      have hyb := HMU.out k
      rw [← hy] at hix hyb
      obtain ⟨x, hx⟩ : ∃ x, x = v k := ⟨_, rfl⟩
      have hxb := HM.out k
      rw [← hx] at hxb
      obtain ⟨hm0, hm1⟩ := mul_bd HP.out (a := y) (b := p - f) (by omega) (by omega) (by omega) (by omega)
      rw [Int.mul_comm] at hm0 hm1
      have hcel := HR.out.at'.cell hlt
      have hfz := (HR.out.there k hlt).2
      rw [Nat.zero_add] at hcel hfz
      rw [if_neg (by omega), ← hx] at hcel
      have hval : Hid ((x + (p - f) * y) % p = Lin.add p v (-f) u k) := Lib.hid (by
        rw [Lin.add, ← hx, ← hy]
        exact Lin.cg y (by grind))
      have HS := Lib.hid ((HR.out.set hlt ((x + (p - f) * y) % p)).congr (v' := fun i => if i < k + 1 then Lin.add p v (-f) u i else v i) (fun i _ => by
        by_cases e : i = k
        · rw [if_pos e, if_pos (by omega), e, hval.out]
        · rw [if_neg e]
          by_cases e2 : i < k
          · rw [if_pos e2, if_pos (by omega)]
          · rw [if_neg e2, if_neg (by omega)]))
      clear hy hx HR
      go_wp2
      go_roundw
      case rel => exact ⟨k + 1, by omega, by go_num, HS⟩
      case measure => simp [intOf]; omega
    · have HF : Hid (Boxed w wr w.heap.size (w.heap.size + 2) (Lin.add p v (-f) u)) := Lib.hid (HR.out.congr (fun i hi => by rw [if_pos (by omega)]))
      have HI2 := Lib.hid (Tryd.infoVl (Lin.add p v (-f) u))
      obtain ⟨r, hr⟩ : ∃ r : Lin.V, r = Lin.add p v (-f) u := ⟨_, rfl⟩
      rw [← hr] at HF HI2
      have HRE := Lib.hid hr
      clear HR hr
      have HS : Hid (At (wr.setCells (w.heap.size + 2) 0 (vl r)) (w.heap.size + 2) 0 r) := Lib.hid (at_setCells _ _ _ _ HF.out.res)
      have HSB : Hid (Below w.heap.size w (wr.setCells (w.heap.size + 2) 0 (vl r))) := Lib.hid (below_setCells _ (by omega) _ _ _ HF.out.below)
      have HT : Hid (wr.there (w.heap.size + 2) 0 (vl r).toArray.size) := Lib.hid (by have := HF.out.res; simpa [vl_length] using this)
      have HI3 : Hid ((Tryd.prog.info? 82).map (·.size) = some (vl r).toArray.size) := Lib.hid (by have := HI2.out; simpa using this)
      go_wp2_with (first | (with_reducible refine wpList_load_mid rfl 82 (.tmp 5) rfl w.heap.size 0 rfl (vl r) _ HF.out.at'.range Tryd.underlyingV rfl HI2.out ?_) | (with_reducible refine wpList_store_mid rfl 82 (.tmp 8) (.tmp 30) rfl (w.heap.size + 2) 0 (vl r).toArray rfl rfl HT.out HI3.out (vl_all r) ?_))
      exact bodyPost_ret (v := vv r) (results_cell_at HRES.out _ _ (w.heap.size + 2) r _ rfl HS.out Tryd.underlyingV rfl HI2.out) rfl ⟨by rw [HRE.out]; rfl, HSB.out⟩
end Go.Proofs.YtaojiojldljhlaaDoor

namespace Go.Proofs.YtaojiojldljhlaaDoor
open Go.RowKit

/-- The slice s reads as the vectors L, its cells in blocks from lo on. -/
def Vs (lo : Nat) (w : World) (s : Value) (L : List Lin.V) : Prop :=
  (L = [] ∧ ∃ ad cap, s = .slice ad 0 cap) ∨
  ∃ b o cap, s = .slice (some ⟨b, o, none⟩) L.length cap ∧ lo ≤ b ∧ 0 < L.length ∧ ∀ k (h : k < L.length), At w b (o + k * 40) L[k]
theorem Vs.keep {lo : Nat} {w w' : World} {s : Value} {L : List Lin.V} (h : Vs lo w s L) (hk : Keep lo w w') : Vs lo w' s L := by
  rcases h with h | ⟨b, o, cap, hs, hlo, hpos, hc⟩
  · exact Or.inl h
  · refine Or.inr ⟨b, o, cap, hs, hlo, hpos, fun k h j u hu => ?_⟩
    have h1 := hc k h j u hu
    rw [hk.2 b _ hlo (cell_lt h1)]
    exact h1
theorem Vs.below {lo : Nat} {w w' : World} {s : Value} {L : List Lin.V} (h : Vs lo w s L) (hb : Below w.heap.size w w') : Vs lo w' s L := h.keep (Keep.of_below hb)
theorem Vs.lower {lo lo' : Nat} (hl : lo' ≤ lo) {w : World} {s : Value} {L : List Lin.V} (h : Vs lo w s L) : Vs lo' w s L := by
  rcases h with h | ⟨b, o, cap, hs, hlo, hpos, hc⟩
  · exact Or.inl h
  · exact Or.inr ⟨b, o, cap, hs, by omega, hpos, hc⟩
theorem Vs.shape {lo : Nat} {w : World} {s : Value} {L : List Lin.V} (h : Vs lo w s L) : ∃ ad cap, s = .slice ad L.length cap := by
  rcases h with ⟨h, ad, cap, hs⟩ | ⟨b, o, cap, hs, _⟩
  · exact ⟨ad, cap, by rw [hs, h]; rfl⟩
  · exact ⟨_, cap, hs⟩
theorem Vs.cases {lo : Nat} {w : World} {s : Value} {L : List Lin.V} (h : Vs lo w s L) {C : Prop} (h0 : ∀ ad cap, L = [] → s = .slice ad 0 cap → C)
    (h1 : ∀ b o cap, s = .slice (some ⟨b, o, none⟩) L.length cap → lo ≤ b → 0 < L.length → (∀ k (h : k < L.length), At w b (o + k * 40) L[k]) → C) : C := by
  rcases h with ⟨h, ad, cap, hs⟩ | ⟨b, o, cap, hs, hlo, hpos, hc⟩
  · exact h0 ad cap h hs
  · exact h1 b o cap hs hlo hpos hc

/-- The making of a vector's box. -/
structure NewV (w W : World) : Prop where
  below : Below w.heap.size w W
  size : W.heap.size = w.heap.size + 1
  there : W.there w.heap.size 0 40
set_option maxRecDepth 100000 in
theorem alloc_run (ρ : Operand → Value) (o : Oper) (w : World) : (execOp ρ { o with op := .alloc 82 }).run Tryd.prog w = .ok (.value (.pointer (some ⟨w.heap.size, 0, none⟩))) (w.alloc (.cells zl.toArray 82)) := by kernel_rfl
theorem wpList_allocV {ops : Array Oper} {rest : List Oper} {o : Oper} {a : Act} {w : World} {Q : Exit → Act → World → Prop} (hg : o.guard = none) (dst : Option Tmp) (hdst : o.dst = dst) (ho : o.op = .alloc 82)
    (h : ∀ W, NewV w W → wpList Tryd.prog ops Q rest (a.put dst (.pointer (some ⟨w.heap.size, 0, none⟩))) W) : wpList Tryd.prog ops Q (o :: rest) a w := by
  refine Great.wpList_runTo hg dst hdst (.pointer (some ⟨w.heap.size, 0, none⟩)) (w.alloc (.cells zl.toArray 82)) ?_ (h _ ⟨below_alloc1 _ _, by simp, there_new w zl.toArray _ (by simp [zl_length])⟩)
  have := alloc_run a.eval o w
  rw [← ho] at this
  exact this

theorem Boxed.put {w W : World} {b g : Nat} {v : Lin.V} (h : Boxed w W b g v) (u : Lin.V) : Boxed w (W.setCells b 0 (vl u)) b g u :=
  ⟨below_setCells _ h.lo.1 _ _ _ h.below, h.lo, h.ne, at_setCells _ _ _ _ h.there, World.there_setCells h.there _ _ _, World.there_setCells h.res _ _ _⟩
theorem hload (w : World) {b o : Nat} {x : Int} (h : w.cell? ⟨b, o, none⟩ = some (.int .i64 x)) : (Instr.loadAt 2 (.pointer (some ⟨b, o, none⟩))).run Tryd.prog w = .ok (.int .i64 x) w := by go_simp
theorem hindexV (b : Nat) {k : Nat} (hk : k < 40) (w : World) : (Instr.indexAt 82 (.pointer (some ⟨b, 0, none⟩)) (.int .i64 k)).run Tryd.prog w = .ok (.pointer (some ⟨b, k, none⟩)) w := by
  have h2 : (0 : Int) ≤ (k : Int) := by omega
  have h3 : (k : Int) < 40 := by omega
  have h4 : ¬ (40 : Int) ≤ (k : Int) := by omega
  go_simp

end Go.Proofs.YtaojiojldljhlaaDoor

namespace Go.Proofs.YtaojiojldljhlaaDoor
open Go.RowKit

theorem mapM_some {α β : Type} {f : α → Option β} {g : α → β} : ∀ l : List α, (∀ x ∈ l, f x = some (g x)) → l.mapM f = some (l.map g) := by
  intro l
  induction l with
  | nil => intro _; rfl
  | cons x l ih => intro h; rw [List.mapM_cons, h x (List.mem_cons_self ..), ih (fun y hy => h y (List.mem_cons_of_mem _ hy))]; rfl
theorem arrKey_of (P : Program) {k e : TypeId} (hu : P.underlying k = some (.array 40 e)) (he : P.underlying e = some (.int .i64)) (h1 : P.cellsOf e = 1) (h40 : P.cellsOf k = 40) : WideMaps.ArrKey P k e 40 :=
  ⟨hu, by unfold Program.plainKey; rw [he], h1, h40⟩
theorem Tryd.cellsV : Tryd.prog.cellsOf 82 = 40 := by kernel_rfl
theorem Tryd.cellsI' : Tryd.prog.cellsOf 2 = 1 := by kernel_rfl
theorem Tryd.arrKey : WideMaps.ArrKey Tryd.prog 82 2 40 := arrKey_of _ Tryd.underlyingV Tryd.underlying2 Tryd.cellsI' Tryd.cellsV
theorem Tryd.keyed : Maps.Keyed Tryd.prog 82 := Maps.Keyed.of_law Tryd.arrKey.law
/-- The key's datum. -/
def keyLit (v : Lin.V) : Lit := .string (keyBytes ((List.range 40).map fun i => .int .i64 (v i)))
theorem small_wf {x : Int} (h0 : 0 ≤ x) (h1 : x ≤ 7) : (Lit.int .i64 x).wf = true := WalkArith.wf_i64 (by omega)
theorem flatten_single {α : Type} (l : List α) : (l.map fun x => [x]).flatten = l := by
  induction l with
  | nil => rfl
  | cons x l ih => simp [ih]
theorem Tryd.typesSize : ∃ m, Tryd.prog.types.size = m + 1 := ⟨Tryd.prog.types.size - 1, by
  have : 0 < Tryd.prog.types.size := of_decide_eq_true (by kernel_rfl)
  omega⟩
theorem keyOf_vv (v : Lin.V) (h : ∀ i, 0 ≤ v i ∧ v i ≤ 7) : keyOf Tryd.prog 82 (vv v) = some (keyLit v) := by
  have hkt := Tryd.arrKey.keyType Tryd.typesSize
  obtain ⟨m, hm⟩ := Tryd.typesSize
  have hu := Tryd.underlyingV
  have he := Tryd.underlying2
  unfold keyOf vv
  simp only [hu]
  rw [if_pos (by simp [hkt, Value.formed, hu, Tryd.cellsV, vl_length]), hm]
  unfold Program.keyLits
  simp only [hu, Value.cells, List.toList_toArray]
  rw [if_pos (by rw [Tryd.cellsV, vl_length])]
  have hmm : (List.range 40).mapM (fun i => Tryd.prog.keyLits (m + 1) 2 (((vl v).drop (i * Tryd.prog.cellsOf 2)).take (Tryd.prog.cellsOf 2))) = some ((List.range 40).map fun i => [Lit.int .i64 (v i)]) := by
    refine mapM_some _ (fun i hi => ?_)
    have hi40 := List.mem_range.1 hi
    have hd : ((vl v).drop (i * 1)).take 1 = [.int .i64 (v i)] := by
      have h1 := vl_get v hi40
      obtain ⟨hlt, hge⟩ := List.getElem?_eq_some_iff.1 h1
      rw [Nat.mul_one, List.drop_eq_getElem_cons hlt, hge]
      rfl
    unfold Program.keyLits
    simp only [he, Tryd.cellsI', hd]
    rw [if_pos ⟨trivial, small_wf (h i).1 (h i).2⟩]
  rw [hmm]
  simp only [Option.map_some]
  rw [show ((List.range 40).map fun i => [Lit.int .i64 (v i)]) = ((List.range 40).map fun i => Lit.int .i64 (v i)).map (fun x => [x]) by rw [List.map_map]; rfl, flatten_single]
  rfl
theorem keyLit_inj {u v : Lin.V} (hu : ∀ i, 0 ≤ u i ∧ u i ≤ 7) (hv : ∀ i, 0 ≤ v i ∧ v i ≤ 7) (h : keyLit u = keyLit v) : vv u = vv v := by
  have h1 := keyOf_vv u hu
  have h2 := keyOf_vv v hv
  rw [← h] at h2
  exact Tryd.keyed.inj h1 h2
theorem vv_inj {u v : Lin.V} (hu : Lin.Wd 40 u) (hv : Lin.Wd 40 v) (h : vv u = vv v) : u = v := by
  unfold vv at h
  injection h with h
  have h2 : vl u = vl v := by have := congrArg Array.toList h; simpa using this
  refine toL_inj hu hv ?_
  unfold vl at h2
  exact (List.map_inj_right (fun a b e => by injection e)).1 h2

/-- The map in block b bears true at vectors of M alone. -/
def Seen (w : World) (b n : Nat) (M : List Lin.V) : Prop := ∃ D : DataW Unit, w.ownsMap Tryd.prog 82 (plainElem Tryd.prog 4) b n D ∧ Maps.IsMap D ∧
  ∀ v : Lin.V, (∀ i, 0 ≤ v i ∧ v i ≤ 7) → D.atKey (keyLit v) (.lit (.bool false)) = .lit (.bool true) → ∃ u ∈ M, vv u = vv v
theorem Seen.made (w : World) : Seen (w.alloc (.map #[] 0)) w.heap.size 0 [] := ⟨.map [], World.ownsMap_made _ _ _ _, ⟨[], rfl⟩, fun v _ h => by
  have : (DataW.map [] : DataW Unit).atKey (keyLit v) (.lit (.bool false)) = .lit (.bool false) := rfl
  rw [this] at h
  cases h⟩
theorem Seen.lt {w : World} {b n : Nat} {M : List Lin.V} (h : Seen w b n M) : b < w.heap.size := by obtain ⟨D, hd, _⟩ := h; exact hd.lt
theorem Seen.block {w w' : World} {b n : Nat} {M : List Lin.V} (h : Seen w b n M) (hb : w'.heap[b]? = w.heap[b]?) : Seen w' b n M := by
  obtain ⟨D, ⟨es, clock, h1, F, h2, h3⟩, r⟩ := h
  exact ⟨D, ⟨es, clock, hb.trans h1, F, h2, h3⟩, r⟩
theorem Seen.below {w w' : World} {b n : Nat} {M : List Lin.V} (h : Seen w b n M) (hb : Below w.heap.size w w') : Seen w' b n M := h.block (hb.block b h.lt)
theorem Seen.more {w : World} {b n n' : Nat} {M M' : List Lin.V} (h : Seen w b n M) (hn : n ≤ n') (hM : ∀ u ∈ M, u ∈ M') : Seen w b n' M' := by
  obtain ⟨D, h1, h2, h3⟩ := h
  exact ⟨D, h1.mono hn, h2, fun v hv h => by obtain ⟨u, hu, e⟩ := h3 v hv h; exact ⟨u, hM u hu, e⟩⟩

section
variable {ops : Array Oper} {rest : List Oper} {o : Oper} {a : Act} {w : World} {Q : Exit → Act → World → Prop}
theorem zeroB (w : World) : (zeroValue 4).run Tryd.prog w = .ok (.bool false) w := by kernel_rfl
theorem plainBool_inv {P : Program} {e : TypeId} (he : P.underlying e = some .bool) {v : Value} {z : DataW Unit × List MemPlace} (h : plainElem P e v = some z) : ∃ x, v = .bool x ∧ z.1 = .lit (.bool x) := by
  unfold plainElem at h
  rw [he] at h
  cases v <;> simp at h
  exact ⟨_, rfl, by rw [← h]⟩
theorem wpList_lookup_seen (hg : o.guard = none) (m x : Operand) (hop : o.op = .lookup 105 m x false) (b n : Nat) (M : List Lin.V) (hm : a.eval m = .map (some b)) (hs : Seen w b n M) (v : Lin.V) (hx : a.eval x = .agg (vl v).toArray) (hv : ∀ i, 0 ≤ v i ∧ v i ≤ 7)
    (h : ∀ r : Bool, (r = true → ∃ u ∈ M, vv u = vv v) → wpList Tryd.prog ops Q rest (a.put o.dst (.bool r)) w) : wpList Tryd.prog ops Q (o :: rest) a w := by
  obtain ⟨D, h1, _, h3⟩ := hs
  obtain ⟨u, ps, hrun, hu⟩ := h1.lookup Tryd.keyed Tryd.underlying105 (zeroB w) (plainElem_bool Tryd.underlying4 false) (keyOf_vv v hv)
  obtain ⟨r, rfl, hr⟩ := plainBool_inv Tryd.underlying4 hu
  refine wpList_plain hg fun K hK => ?_
  unfold Oper.wp
  have hx' : a.eval x = vv v := hx
  simp only [execOp, hop, hm, hx', Sem.run_bind, hrun, Result.andThen_ok]
  exact hK _ _ (h r (fun e => h3 v hv (by rw [← e]; exact hr)))
theorem wpList_update_seen (hg : o.guard = none) (hdst : o.dst = none) (m x : Operand) (hop : o.op = .mapUpdate 105 m x (.const (.bool true))) (b n : Nat) (M : List Lin.V) (hm : a.eval m = .map (some b)) (hs : Seen w b n M) (hn : n < maxLen) (v : Lin.V) (hx : a.eval x = .agg (vl v).toArray) (hv : ∀ i, 0 ≤ v i ∧ v i ≤ 7)
    (h : ∀ w', Seen w' b (n + 1) (M ++ [v]) → w.grownBy w' (some b) → wpList Tryd.prog ops Q rest a w') : wpList Tryd.prog ops Q (o :: rest) a w := by
  obtain ⟨D, h1, hD, h3⟩ := hs
  obtain ⟨w', hrun, h4, h5⟩ := h1.update Tryd.keyed Tryd.underlying105 hn (keyOf_vv v hv) (plainElem_bool Tryd.underlying4 true)
  refine wpList_plain hg fun K hK => ?_
  unfold Oper.wp
  have hx' : a.eval x = vv v := hx
  have hc : a.eval (.const (.bool true)) = .bool true := rfl
  simp only [execOp, hop, hm, hx', hc, Sem.run_bind, hrun, Result.andThen_ok]
  refine hK _ _ ?_
  rw [hdst]
  refine h w' ⟨_, h4, hD.put _ _, fun u hu hat => ?_⟩ h5
  by_cases e : keyLit u = keyLit v
  · exact ⟨v, by simp, (keyLit_inj hu hv e).symm⟩
  · rw [Maps.atKey_put_other e] at hat
    obtain ⟨x, hx, e2⟩ := h3 u hu hat
    exact ⟨x, by simp [hx], e2⟩
end
end Go.Proofs.YtaojiojldljhlaaDoor

namespace Go.Proofs.YtaojiojldljhlaaDoor
open Go.RowKit

/-- The cells of a list of vectors, one behind the other. -/
def cellsOf (L : List Lin.V) : List Value := L.flatMap vl
theorem cellsOf_length (L : List Lin.V) : (cellsOf L).length = L.length * 40 := by
  induction L with
  | nil => rfl
  | cons v L ih => rw [cellsOf, List.flatMap_cons, List.length_append, vl_length]; unfold cellsOf at ih; rw [ih, List.length_cons]; omega
theorem cellsOf_at {L : List Lin.V} : ∀ {k : Nat} (h : k < L.length) {j : Nat}, j < 40 → (cellsOf L)[k * 40 + j]? = some (.int .i64 (L[k] j)) := by
  induction L with
  | nil => intro k h; simp at h
  | cons v L ih =>
    intro k h j hj
    rw [cellsOf, List.flatMap_cons]
    cases k with
    | zero =>
      rw [List.getElem?_append_left (by rw [vl_length]; omega)]
      simp only [Nat.zero_mul, Nat.zero_add, List.getElem_cons_zero]
      exact vl_get v hj
    | succ k =>
      rw [List.getElem?_append_right (by rw [vl_length]; omega), vl_length, show (k + 1) * 40 + j - 40 = k * 40 + j by omega]
      simp only [List.getElem_cons_succ]
      exact ih (by simpa using h) hj
theorem cellsOf_append (L M : List Lin.V) : cellsOf (L ++ M) = cellsOf L ++ cellsOf M := by simp [cellsOf]
theorem cellsOf_one (v : Lin.V) : cellsOf [v] = vl v := by simp [cellsOf]
/-- A slice of vectors that the call has made, in blocks from base on. -/
def Ow (base : Nat) (w : World) (s : Value) (L : List Lin.V) : Prop := w.ownsRow base 82 40 s L.length (cellsOf L)
theorem Ow.nil (base : Nat) (w : World) : Ow base w (.slice none 0 0) [] := ⟨rfl, Or.inl ⟨rfl, rfl⟩⟩
theorem Ow.below {base : Nat} {w w' : World} {s : Value} {L : List Lin.V} (h : Ow base w s L) (hb : Below w.heap.size w w') : Ow base w' s L := owns_below h hb
theorem Ow.vs {base : Nat} {w : World} {s : Value} {L : List Lin.V} (h : Ow base w s L) : Vs base w s L := by
  obtain ⟨_, h2⟩ := h
  rcases h2 with ⟨hs, h0⟩ | ⟨g, cap, cur, hs, hg, hb, hn, _, hcur, ht⟩
  · exact Or.inl ⟨List.eq_nil_of_length_eq_zero h0, none, 0, by rw [hs]⟩
  · by_cases h0 : L.length = 0
    · exact Or.inl ⟨List.eq_nil_of_length_eq_zero h0, _, cap, by rw [hs, h0]⟩
    · refine Or.inr ⟨g, 0, cap, hs, hg, by omega, fun k hk j u hu => ?_⟩
      have hj : j < 40 := by have := (List.getElem?_eq_some_iff.1 hu).1; rwa [vl_length] at this
      rw [vl_get _ hj] at hu
      rw [cell_of_row _ _ _ _ _ _ hb, Nat.zero_add]
      have h1 := cellsOf_at hk hj
      rw [← ht, List.getElem?_take] at h1
      have h2 : k * 40 + j < L.length * 40 := by
        have : (k + 1) * 40 ≤ L.length * 40 := Nat.mul_le_mul_right 40 hk
        omega
      rw [if_pos h2] at h1
      rw [← hu, ← h1]
      simp
theorem Ow.shape {base : Nat} {w : World} {s : Value} {L : List Lin.V} (h : Ow base w s L) : ∃ ad cap, s = .slice ad L.length cap := h.vs.shape

theorem Tryd.infoVz : (Tryd.prog.info? 82).map (fun i => (i.zero, i.size, i.bytes)) = some (some (.agg zl.toArray), 40, 320) := by kernel_rfl
theorem Tryd.underlyingSV : Tryd.prog.underlying 76 = some (.slice 82) := by kernel_rfl

section
variable {ops : Array Oper} {rest : List Oper} {o : Oper} {a : Act} {w : World} {Q : Exit → Act → World → Prop}
/-- A slice of one vector, as append is handed it. -/
structure OneV (w W : World) (v : Lin.V) : Prop where
  below : Below w.heap.size w W
  size : W.heap.size = w.heap.size + 1
  at' : At W w.heap.size 0 v
  block : W.heap[w.heap.size]? = some (.cells (vl v).toArray 82)
set_option maxRecDepth 100000 in
theorem builtOne (v : Lin.V) : Tryd.prog.builtSlice 82 1 [(0, .agg (vl v).toArray)] = some (vl v).toArray := by kernel_rfl
theorem wpList_oneV (hg : o.guard = none) (dst : Option Tmp) (hdst : o.dst = dst) (x : Operand) (ho : o.op = .buildSlice 76 1 #[(0, x)]) (v : Lin.V) (hx : a.eval x = .agg (vl v).toArray)
    (h : ∀ W, OneV w W v → wpList Tryd.prog ops Q rest (a.put dst (.slice (some ⟨w.heap.size, 0, none⟩) 1 1)) W) : wpList Tryd.prog ops Q (o :: rest) a w :=
  Great.wpList_buildSliceTo hg 76 82 1 #[(0, x)] ho w.heap.size rfl dst hdst Tryd.underlyingSV (vl v).toArray (by
    have : (#[(0, x)].map fun (i, x) => (i, a.eval x)).toList = [(0, Value.agg (vl v).toArray)] := by simp [hx]
    rw [this]
    exact builtOne v) (h _ ⟨below_alloc1 _ _, by simp, at_alloc _ _ _, heap_alloc_new _ _⟩)
theorem wpList_appendV (hg : o.guard = none) (dst : Option Tmp) (hdst : o.dst = dst) (s x : Operand) (ho : o.op = .call { callee := .builtin .append, args := #[s, x], argTypes := #[76, 76] })
    (base : Nat) (sv : Value) (L : List Lin.V) (hs : a.eval s = sv) (hown : Ow base w sv L) (b : Nat) (c : Nat) (v : Lin.V) (hx : a.eval x = .slice (some ⟨b, 0, none⟩) 1 c) (hv : At w b 0 v) (hl : L.length ≤ 1048576) (hbase : base ≤ w.heap.size)
    (h : ∀ s' w', Ow base w' s' (L ++ [v]) → w.grownBy w' sv.ownBlock → wpList Tryd.prog ops Q rest (a.put dst s') w') : wpList Tryd.prog ops Q (o :: rest) a w := by
  obtain ⟨i0, hi, hz0, hz1, hz2⟩ := info_parts Tryd.infoVz
  subst hdst
  refine wpList_append_own w hg s x 76 ho base 82 i0 (.agg zl.toArray) 40 320 Tryd.underlyingSV hi hz0 hz1 hz2 (by simp [Value.cells, zl_length]) (by omega) sv L.length (cellsOf L) hs hown ⟨b, 0, none⟩ 1 c (vl v) hx (by rw [vl_length])
    (fun j u hu => by rw [Addr.add_mid]; exact hv j u hu) (vl_one v) (by unfold maxLen; omega) (by omega) hbase (fun s' w' h1 h2 _ => h s' w' ?_ h2)
  unfold Ow
  rw [cellsOf_append, cellsOf_one, List.length_append]
  exact h1
set_option maxRecDepth 100000 in
theorem buildZ_run (ρ : Operand → Value) (o : Oper) (w : World) : (execOp ρ { o with op := .build 82 #[] }).run Tryd.prog w = .ok (.value (.agg (vl Lin.zv).toArray)) w := by kernel_rfl
theorem wpList_buildZ (hg : o.guard = none) (dst : Option Tmp) (hdst : o.dst = dst) (ho : o.op = .build 82 #[]) (h : wpList Tryd.prog ops Q rest (a.put dst (.agg (vl Lin.zv).toArray)) w) : wpList Tryd.prog ops Q (o :: rest) a w := by
  refine Great.wpList_runTo hg dst hdst _ _ ?_ h
  have := buildZ_run a.eval o w
  rw [← ho] at this
  exact this
end
theorem heq_run (v : Lin.V) (w : World) : (binOp .eql 82 (.agg (vl v).toArray) (.agg (vl Lin.zv).toArray)).run Tryd.prog w = .ok (.bool (decide (toL 40 v = toL 40 Lin.zv))) w :=
  run_eql_ints w (toL 40 v) (toL 40 Lin.zv) Tryd.underlyingV Tryd.underlying2 Tryd.infoI1 (toL_length _ _) (toL_length _ _)
theorem heq_yes (w : World) : (binOp .eql 82 (.agg (vl Lin.zv).toArray) (.agg (vl Lin.zv).toArray)).run Tryd.prog w = .ok (.bool true) w := by rw [heq_run, decide_eq_true rfl]
theorem heq_no {v : Lin.V} (hw : Lin.Wd 40 v) (hne : v ≠ Lin.zv) (w : World) : (binOp .eql 82 (.agg (vl v).toArray) (.agg (vl Lin.zv).toArray)).run Tryd.prog w = .ok (.bool false) w := by
  rw [heq_run, decide_eq_false (fun e => hne (toL_inj hw (Lin.zv_wd 40) e))]
end Go.Proofs.YtaojiojldljhlaaDoor

namespace Go.Proofs.YtaojiojldljhlaaDoor
open Go.RowKit

def VsR (P : List Lin.V → Prop) (w : World) (e : Ending) (w' : World) : Prop := ∃ s L, e = .returned s ∧ Below w.heap.size w w' ∧ Ow w.heap.size w' s L ∧ P L

theorem NewV.put {w W : World} (h : NewV w W) (v : Lin.V) : Below w.heap.size w (W.setCells w.heap.size 0 (vl v)) ∧ At (W.setCells w.heap.size 0 (vl v)) w.heap.size 0 v ∧ (W.setCells w.heap.size 0 (vl v)).heap.size = w.heap.size + 1 := by
  refine ⟨below_setCells _ (Nat.le_refl _) _ _ _ h.below, at_setCells _ _ _ _ h.there, ?_⟩
  have key : ∀ (vs : List Value) (o : Nat) (W : World), (W.setCells w.heap.size o vs).heap.size = W.heap.size := by
    intro vs
    induction vs with
    | nil => intro o W; rfl
    | cons x vs ih => intro o W; rw [World.setCells, ih]; simp
  rw [key, h.size]
theorem At.grown {w w' : World} {b o : Nat} {v : Lin.V} {row : Option Nat} (h : At w b o v) (hg : w.grownBy w' row) (hne : some b ≠ row) : At w' b o v := fun j u hu => by
  rw [World.cell?_of_block (w := w) (a := ⟨b, o + j, none⟩) (hg.block b h.lt hne)]
  exact h j u hu
theorem Ow.grown {base : Nat} {w w' : World} {s : Value} {L : List Lin.V} {row : Option Nat} (h : Ow base w s L) (hg : w.grownBy w' row) (hne : s.ownBlock = none ∨ s.ownBlock ≠ row) : Ow base w' s L := by
  refine ⟨h.1, ?_⟩
  rcases h.2 with h2 | ⟨g, cap, cur, hv, hgb, hh, r⟩
  · exact Or.inl h2
  · refine Or.inr ⟨g, cap, cur, hv, hgb, ?_, r⟩
    rw [hg.block g (Array.getElem?_eq_some_iff.1 hh).1 (by
      rw [hv] at hne
      simpa [Value.ownBlock] using hne)]
    exact hh
/-- The map's block is no row of vectors. -/
theorem seen_apart {w : World} {b n base : Nat} {M L : List Lin.V} {s : Value} (h : Seen w b n M) (ho : Ow base w s L) : some b ≠ s.ownBlock := by
  obtain ⟨D, ⟨es, clock, h1, _⟩, _⟩ := h
  rcases ho.2 with ⟨rfl, _⟩ | ⟨g, cap, cur, rfl, _, hh, _⟩
  · simp [Value.ownBlock]
  · intro e
    simp [Value.ownBlock] at e
    subst e
    rw [h1] at hh
    cases hh

set_option maxHeartbeats 3200000 in
set_option maxRecDepth 100000 in
theorem unitLines_any (p : Int) (s : Value) (L : List Lin.V) (w : World) (hp : IsP p) (hs : Vs 0 w s L) (hLm : ∀ u ∈ L, Lin.Md p u) (hLw : ∀ u ∈ L, Lin.Wd 40 u) (hl : L.length ≤ 1048576) :
    Calls Tryd.prog 88 #[.int .i64 p, s] w (VsR (fun M => Lin.Lines p L M ∧ M.length ≤ L.length) w) := by
  have HP := Lib.hid hp
  have HS := Lib.hid hs
  have HLM := Lib.hid hLm
  have HLW := Lib.hid hLw
  obtain ⟨ad, cap, rfl⟩ := Vs.shape hs
  have hp7 := hp.hi7
  have hp1 := hp.lo1
  have hmm := @run_makeMap Tryd.prog
  clear hp hs hLm hLw
  go_enter Tryd.func88, Tryd.ntmps88
  go_wp2
  clear hmm
  have HSE0 := Lib.hid (Seen.made w)
  have HB0 := Lib.hid (below_alloc1 w (.map #[] 0))
  go_loopw [5, 13] (fun sv i wr => ∃ (k : Nat) (M : List Lin.V), k ≤ L.length ∧ i = .int .i64 k ∧ Hid (Below w.heap.size w wr) ∧ Hid (Ow w.heap.size wr sv M) ∧ Hid (Seen wr w.heap.size k M) ∧ Hid (Lin.Lines p (L.take k) M ∧ M.length ≤ k)) (fun _ i _ => L.length - (intOf i).toNat)
  case atStart => exact ⟨0, [], Nat.zero_le _, rfl, HB0, Lib.hid (Ow.nil _ _), HSE0, Lib.hid ⟨Lin.Lines.nil p, by simp⟩⟩
  case round =>
    obtain ⟨k, M, hk, rfl, HB, HO, HSE, HL⟩ := hrel
    by_cases hlt : k < L.length
    · refine Vs.cases HS.out (fun _ _ hx _ => absurd hlt (by simp [hx])) (fun b o cap2 hv _ _ hc => ?_)
      obtain ⟨rfl, rfl⟩ : ad = some ⟨b, o, none⟩ ∧ cap = cap2 := by simpa using hv
      obtain ⟨v, hve⟩ : ∃ v, v = L[k] := ⟨_, rfl⟩
      have HV : Hid (At wr b (o + k * 40) v) := Lib.hid (by rw [hve]; exact (hc k hlt).below HB.out (hc k hlt).lt)
      have HI := Lib.hid (Tryd.infoVl v)
      have HI2 : Hid ((Tryd.prog.info? 82).map (·.size) = some (vl v).toArray.size) := Lib.hid (by have := HI.out; simpa using this)
      have HVM : Hid (Lin.Md p v) := Lib.hid (by rw [hve]; exact HLM.out _ (List.getElem_mem hlt))
      have HVW : Hid (Lin.Wd 40 v) := Lib.hid (by rw [hve]; exact HLW.out _ (List.getElem_mem hlt))
      have HTK : Hid (L.take (k + 1) = L.take k ++ [v]) := Lib.hid (by rw [hve]; exact List.take_succ_eq_append_getElem hlt)
      have HTM : Hid (∀ u ∈ L.take k, Lin.Md p u) := Lib.hid (fun u hu => HLM.out u (List.mem_of_mem_take hu))
      obtain ⟨ado, capo, rfl⟩ := HO.out.shape
      have hsz : w.heap.size ≤ wr.heap.size := HB.out.size
      have hlt2 : w.heap.size < wr.heap.size := HSE.out.lt
      clear hv hc hve
      by_cases hz : v = Lin.zv
      · subst hz
        have heq := heq_yes
        go_wp2_with (first | (with_reducible refine wpList_load_mid rfl 82 (.tmp 15) rfl b (o + k * 40) rfl (vl Lin.zv) _ HV.out.range Tryd.underlyingV rfl HI.out ?_) | (with_reducible refine wpList_allocV rfl (some 8) rfl rfl ?_; intro W2 hn2; have HN2 := Lib.hid hn2; have HT2 : Hid (W2.there wr.heap.size 0 (vl Lin.zv).toArray.size) := (Lib.hid (by have := hn2.there; simpa [vl_length] using this)); clear hn2) | (with_reducible refine wpList_store_mid rfl 82 (.tmp 8) (.tmp 16) rfl wr.heap.size 0 (vl Lin.zv).toArray rfl rfl HT2.out HI2.out (vl_all _) ?_) | (with_reducible refine wpList_load_mid rfl 82 (.tmp 8) rfl wr.heap.size 0 rfl (vl Lin.zv) _ (at_setCells _ _ _ _ HN2.out.there).range Tryd.underlyingV rfl HI.out ?_) | (with_reducible refine wpList_buildZ rfl (some 18) rfl rfl ?_))
        have HP2 := Lib.hid (HN2.out.put Lin.zv)
        go_roundw
        case rel => exact ⟨k + 1, M, by omega, by go_num, Lib.hid (HB.out.trans (HP2.out.1.mono hsz)), Lib.hid (HO.out.below HP2.out.1), Lib.hid ((HSE.out.below HP2.out.1).more (Nat.le_succ _) (fun _ h => h)), Lib.hid ⟨by rw [HTK.out]; exact HL.out.1.skip (by omega) HTM.out .zero, by have := HL.out.2; omega⟩⟩
        case measure => simp [intOf]; omega
      · have heq := heq_no HVW.out hz
        have HZ := Lib.hid hz
        clear hz
        go_wp2_with (first | (with_reducible refine wpList_load_mid rfl 82 (.tmp 15) rfl b (o + k * 40) rfl (vl v) _ HV.out.range Tryd.underlyingV rfl HI.out ?_) | (with_reducible refine wpList_allocV rfl (some 8) rfl rfl ?_; intro W2 hn2; have HN2 := Lib.hid hn2; have HT2 : Hid (W2.there wr.heap.size 0 (vl v).toArray.size) := (Lib.hid (by have := hn2.there; simpa [vl_length] using this)); clear hn2) | (with_reducible refine wpList_store_mid rfl 82 (.tmp 8) (.tmp 16) rfl wr.heap.size 0 (vl v).toArray rfl rfl HT2.out HI2.out (vl_all _) ?_) | (with_reducible refine wpList_load_mid rfl 82 (.tmp 8) rfl wr.heap.size 0 rfl (vl v) _ (at_setCells _ _ _ _ HN2.out.there).range Tryd.underlyingV rfl HI.out ?_) | (with_reducible refine wpList_buildZ rfl (some 18) rfl rfl ?_))
        have HP2 := Lib.hid (HN2.out.put v)
        clear heq
        refine (unitLead_any p v _ HP.out HVM.out HVW.out HZ.out).mono ?_
        rintro e W3 ⟨u, rfl, hb3, hUU, hUW⟩
        have HB3 := Lib.hid (HP2.out.1.trans (hb3.mono (by rw [HP2.out.2.2]; omega)))
        have HUU := Lib.hid hUU
        have HUW := Lib.hid hUW
        have HI3 := Lib.hid (Tryd.infoVl u)
        have HI4 : Hid ((Tryd.prog.info? 82).map (·.size) = some (vl u).toArray.size) := Lib.hid (by have := HI3.out; simpa using this)
        have hu7 : Hid (∀ i, 0 ≤ u i ∧ u i ≤ 7) := Lib.hid (fun i => by have := hUU.md i; omega)
        have hs3 : wr.heap.size ≤ W3.heap.size := HB3.out.size
        clear hb3 hUU hUW
        unfold vv
        go_upto_region 8 with (first | (with_reducible refine wpList_allocV rfl (some 9) rfl rfl ?_; intro W4 hn4; have HN4 := Lib.hid hn4; have HT4 : Hid (W4.there W3.heap.size 0 (vl u).toArray.size) := (Lib.hid (by have := hn4.there; simpa [vl_length] using this)); clear hn4) | (with_reducible refine wpList_store_mid rfl 82 (.tmp 9) (.tmp 22) rfl W3.heap.size 0 (vl u).toArray rfl rfl HT4.out HI4.out (vl_all _) ?_))
        have HP4 := Lib.hid (HN4.out.put u)
        refine forget_wp (fun W => Hid (Below wr.heap.size wr W ∧ At W W3.heap.size 0 u ∧ W.heap.size = W3.heap.size + 1)) (Lib.hid ⟨HB3.out.trans (HP4.out.1.mono hs3), HP4.out.2.1, HP4.out.2.2⟩) ?_
        intro W5 HB5
        clear HP4 HN4 HT4 HN2 HT2 HP2
        have HS5 := Lib.hid (HSE.out.below HB5.out.1)
        have HO5 := Lib.hid (HO.out.below HB5.out.1)
        have hne : Hid (some W3.heap.size ≠ some w.heap.size) := Lib.hid (fun e => by injection e with e; omega)
        have hmax : Hid (k < maxLen) := Lib.hid (by unfold maxLen; omega)
        have hapart := Lib.hid (seen_apart HS5.out HO5.out)
        have hml : Hid (M.length ≤ 1048576) := Lib.hid (by have := HL.out.2; omega)
        have hs5 : w.heap.size ≤ W5.heap.size := by have := HB5.out.1.size; omega
        go_wp2_with (first | (with_reducible refine wpList_load_mid rfl 82 (.tmp 9) rfl W3.heap.size 0 rfl (vl u) _ HB5.out.2.1.range Tryd.underlyingV rfl HI3.out ?_) | (with_reducible refine wpList_lookup_seen rfl (.tmp 23) (.tmp 24) rfl w.heap.size k M rfl HS5.out u rfl hu7.out ?_; intro rr hrr; have HRR := Lib.hid hrr; clear hrr; cases rr) | (with_reducible refine wpList_update_seen rfl rfl (.tmp 27) (.tmp 28) rfl w.heap.size k M rfl HS5.out hmax.out u rfl hu7.out ?_; intro W6 hs6 hg6; have HS6 := Lib.hid hs6; have HG6 := Lib.hid hg6; have HA6 := Lib.hid (HB5.out.2.1.grown hg6 hne.out); have HO6 := Lib.hid (HO5.out.grown hg6 (Or.inr hapart.out.symm)); clear hs6 hg6) | (with_reducible refine wpList_load_mid rfl 82 (.tmp 9) rfl W3.heap.size 0 rfl (vl u) _ HA6.out.range Tryd.underlyingV rfl HI3.out ?_) | (with_reducible refine wpList_oneV rfl (some 31) rfl (.tmp 30) rfl u rfl ?_; intro W7 hn7; have HN7 := Lib.hid hn7; have HZ7 : Hid (w.heap.size ≤ W7.heap.size) := (Lib.hid (by have := HG6.out.size; have := hn7.size; omega)); have HO7 := Lib.hid (HO6.out.below hn7.below); clear hn7) | (at_builtin; with_reducible refine wpList_appendV rfl (some 32) rfl (.tmp 29) (.tmp 31) rfl w.heap.size (.slice ado M.length capo) M rfl HO7.out W6.heap.size 1 u rfl HN7.out.at' hml.out HZ7.out ?_; intro s8 W8 ho8 hg8; have HO8 := Lib.hid ho8; have HG8 := Lib.hid hg8; clear ho8 hg8))
        · have HS7 := Lib.hid (HS6.out.below HN7.out.below)
          have hap8 := Lib.hid (seen_apart HS7.out HO7.out)
          have HS8 : Hid (Seen W8 w.heap.size (k + 1) (M ++ [u])) := Lib.hid (HS7.out.block (HG8.out.block _ HS7.out.lt hap8.out))
          have HB7 : Hid (Below w.heap.size w W7) := Lib.hid (((HB.out.trans (HB5.out.1.mono hsz)).grown HG6.out (by omega) (fun g hg => by injection hg with hg; omega)).trans (HN7.out.below.mono (by have := HG6.out.size; omega)))
          have HB8 : Hid (Below w.heap.size w W8) := Lib.hid (HB7.out.grown HG8.out (by have := HB7.out.size; omega) (fun g hg => ((HO7.out.lt) g hg).1))
          go_roundw
          case rel => exact ⟨k + 1, M ++ [u], by omega, by go_num, HB8, HO8, HS8, Lib.hid ⟨by rw [HTK.out]; exact HL.out.1.add (by omega) HTM.out HVM.out HUU.out HUW.out, by have := HL.out.2; simp; omega⟩⟩
          case measure => simp [intOf]; omega
        · have HIN : Hid (u ∈ M) := Lib.hid (by
            obtain ⟨x, hx, e⟩ := HRR.out rfl
            rw [← vv_inj (HL.out.1.wd x hx) HUW.out e]
            exact hx)
          go_roundw
          case rel => exact ⟨k + 1, M, by omega, by go_num, Lib.hid (HB.out.trans (HB5.out.1.mono hsz)), HO5, Lib.hid (HS5.out.more (Nat.le_succ _) (fun _ h => h)), Lib.hid ⟨by rw [HTK.out]; exact HL.out.1.skip (by omega) HTM.out (HUU.out.inside (by omega) HIN.out), by have := HL.out.2; omega⟩⟩
          case measure => simp [intOf]; omega
    · have hkk : Hid (L.take k = L) := Lib.hid (List.take_of_length_le (by omega))
      obtain ⟨ado, capo, rfl⟩ := HO.out.shape
      go_wp2
      go_ret
      exact ⟨_, M, rfl, HB.out, HO.out, by rw [← hkk.out]; simpa [hkk.out] using HL.out.1, by have := HL.out.2; omega⟩
end Go.Proofs.YtaojiojldljhlaaDoor

namespace Go.Proofs.YtaojiojldljhlaaDoor
open Go.RowKit

theorem ins_room {A X : List Value} {k d m : Nat} (hX : X.length = d) (hk : k ≤ m) (hm : m + d ≤ A.length) :
    ((A.take (k + d) ++ (A.take m).drop k ++ A.drop (m + d)).take k ++ X ++ (A.take (k + d) ++ (A.take m).drop k ++ A.drop (m + d)).drop (k + d)).take (m + d) = (A.take m).take k ++ (X ++ (A.take m).drop k) := by
  have h1 : (A.take (k + d)).length = k + d := by rw [List.length_take]; omega
  have h2 : (A.take (k + d) ++ (A.take m).drop k ++ A.drop (m + d)).take k = A.take k := by
    rw [List.append_assoc, List.take_append_of_le_length (by omega), List.take_take, Nat.min_eq_left (by omega)]
  have h3 : (A.take (k + d) ++ (A.take m).drop k ++ A.drop (m + d)).drop (k + d) = (A.take m).drop k ++ A.drop (m + d) := by
    rw [List.append_assoc, List.drop_append_of_le_length (by omega), List.drop_of_length_le (by omega), List.nil_append]
  rw [h2, h3, ← List.append_assoc, List.take_append_of_le_length (by simp; omega), List.take_of_length_le (by simp; omega), List.take_take, Nat.min_eq_left hk, List.append_assoc]
theorem ins_grow {R X Y : List Value} {k d m : Nat} (hX : X.length = d) (hY : Y.length = m - k) (hk : k ≤ m) (hm : m + d ≤ R.length) :
    ((R.take k ++ X ++ R.drop (k + d)).take (k + d) ++ Y ++ (R.take k ++ X ++ R.drop (k + d)).drop (m + d)).take (m + d) = R.take k ++ (X ++ Y) := by
  have h1 : (R.take k ++ X ++ R.drop (k + d)).take (k + d) = R.take k ++ X := by
    rw [List.take_append_of_le_length (by simp; omega), List.take_of_length_le (by simp; omega)]
  rw [h1, List.take_append_of_le_length (by simp; omega), List.take_of_length_le (by simp; omega), List.append_assoc]
theorem cellsOf_cons (v : Lin.V) (L : List Lin.V) : cellsOf (v :: L) = vl v ++ cellsOf L := by simp [cellsOf]
theorem cellsOf_take (L : List Lin.V) : ∀ i, cellsOf (L.take i) = (cellsOf L).take (i * 40) := by
  induction L with
  | nil => intro i; simp [cellsOf]
  | cons v L ih =>
    intro i
    cases i with
    | zero => simp [cellsOf]
    | succ i =>
      rw [List.take_succ_cons, cellsOf_cons, cellsOf_cons, ih, List.take_append, vl_length, List.take_of_length_le (l := vl v) (by rw [vl_length]; omega), show (i + 1) * 40 - 40 = i * 40 by omega]
theorem cellsOf_drop (L : List Lin.V) : ∀ i, cellsOf (L.drop i) = (cellsOf L).drop (i * 40) := by
  induction L with
  | nil => intro i; simp [cellsOf]
  | cons v L ih =>
    intro i
    cases i with
    | zero => simp
    | succ i =>
      rw [List.drop_succ_cons, cellsOf_cons, ih, List.drop_append, vl_length, List.drop_of_length_le (l := vl v) (by rw [vl_length]; omega), show (i + 1) * 40 - 40 = i * 40 by omega, List.nil_append]
theorem cellsOf_ins (L : List Lin.V) (u : Lin.V) (i : Nat) : cellsOf (L.take i ++ u :: L.drop i) = (cellsOf L).take (i * 40) ++ (vl u ++ (cellsOf L).drop (i * 40)) := by
  rw [cellsOf_append, cellsOf_cons, cellsOf_take, cellsOf_drop]
theorem cellsOf_one' (L : List Lin.V) : ∀ u ∈ cellsOf L, u.oneCell' = true := fun u hu => by
  obtain ⟨v, _, h⟩ := List.mem_flatMap.1 hu
  exact vl_one v u h

/-- copy of elements of 40 cells into a block. -/
theorem run_copyV (w : World) (ty : TypeId) (g o dLen dCap : Nat) (a : Addr) (sLen sCap : Nat) (cur : Array Value) (t : TypeId) (cs : List Value)
    (hg : w.heap[g]? = some (.cells cur t (0, 0))) (hn : cs.length = Nat.min sLen dLen * 40)
    (hsrc : ∀ j v, cs[j]? = some v → w.cell? (a.add j) = some v) (hfit : o + cs.length ≤ cur.size) (h1 : ∀ v ∈ cs, v.oneCell' = true) :
    (Builtin.copy_ #[76, 76] ty #[.slice (some ⟨g, o, none⟩) dLen dCap, .slice (some a) sLen sCap]).run Tryd.prog w =
      .ok (goInt (Nat.min sLen dLen)) (w.setRow g (cur.toList.take o ++ cs ++ cur.toList.drop (o + cs.length)).toArray) := by
  have hl := run_loadCells_list (P := Tryd.prog) w a cs hsrc
  have hst := run_storeCells_at Tryd.prog g o t cs 0 cur w hg (by simpa using hfit) h1
  obtain ⟨i, hi, _, hs, _⟩ := info_parts Tryd.infoVz
  simp [Builtin.copy_, run_underlying Tryd.underlyingSV, Builtin.lenOf, Builtin.firstCells, sizeOf, typeInfo, hi, hs, ← hn, hl, hst]

theorem step_copy_run {P : Program} {ops : Array Oper} {o : Oper} {a : Act} {w : World} {K : Act → World → Prop} {Q : Exit → Act → World → Prop} {E : Prop}
    (hg : o.guard = none) (d x : Operand) (dT sT : TypeId) (hop : o.op = Op.call { callee := Callee.builtin Builtin.copy, args := #[d, x], argTypes := #[dT, sT] })
    (v u : Value) (hd : a.eval d = v) (hx : a.eval x = u) {v' : Value} {w' : World} (hr : (Builtin.copy_ #[dT, sT] o.type #[v, u]).run P w = .ok v' w') (hK : K (a.put o.dst v') w') :
    if Region.wanted o (yielded ops a.tmps) = true then Oper.wp P o a w K Q else E := by
  have hw : Region.wanted o (yielded ops a.tmps) = true := by simp [Region.wanted, hg]
  rw [if_pos hw]
  unfold Oper.wp
  simp [execOp, hop, resolve, invoke, builtin, hd, hx, hr, Result.andThen]
  exact hK

theorem hoverlaps (w : World) (b g : Nat) (hne : b ≠ g) (C : Array Value) (tA : TypeId) (cur : Array Value) (t : TypeId) (hb : w.heap[b]? = some (.cells C tA (0, 0))) (hg : w.heap[g]? = some (.cells cur t (0, 0))) (h0 : cur.size ≠ 0) (o la lb ca cb : Nat) :
    (callFunc 97 #[.slice (some ⟨b, 0, none⟩) la ca, .slice (some ⟨g, o, none⟩) lb cb]).run Tryd.prog w = .ok (.value (.bool false)) w := by
  obtain ⟨i, hi, _, hs, _⟩ := info_parts Tryd.infoVz
  have hz : ∀ w, (sizeOf 82).run Tryd.prog w = .ok 40 w := fun w => by simp [sizeOf, typeInfo, hi, hs]
  rw [run_callFunc_extern Tryd.func97 (by kernel_rfl) (by kernel_rfl) (by kernel_rfl) (e := Extern.SlicesOverlaps.overlaps #[76, 76] #[4]) (by kernel_rfl),
    Lib.run_overlaps_apart w 76 4 82 Tryd.underlyingSV 40 hz ⟨b, 0, none⟩ ⟨g, o, none⟩ la ca lb cb hne tA t C.size cur.size (by simp [World.shape?, hb]) (by simp [World.shape?, hg]) h0 (by simp [World.frozen?, hb]) (by simp [World.frozen?, hb])]
  rfl

def InsR (base : Nat) (s : Value) (L : List Lin.V) (w : World) (e : Ending) (w' : World) : Prop := ∃ s', e = .returned s' ∧ Ow base w' s' L ∧ w.grownBy w' s.ownBlock

set_option maxHeartbeats 3200000 in
set_option maxRecDepth 100000 in
theorem insert_room (base g n c b i : Nat) (cur : Array Value) (L : List Lin.V) (u : Lin.V) (w : World) (hgb : base ≤ g) (hg : w.heap[g]? = some (.cells cur 82 (0, 0))) (hn : L.length = n) (hi : i < n) (hc : n + 1 ≤ c) (hcm : c ≤ maxLen) (hcs : cur.size = c * 40)
    (htk : cur.toList.take (n * 40) = cellsOf L) (hb : w.heap[b]? = some (.cells (vl u).toArray 82 (0, 0))) (hne : b ≠ g) :
    Calls Tryd.prog 94 #[.slice (some ⟨g, 0, none⟩) n c, .int .i64 i, .slice (some ⟨b, 0, none⟩) 1 1] w (InsR base (.slice (some ⟨g, 0, none⟩) n c) (L.take i ++ u :: L.drop i) w) := by
  have hz2 : ¬ ((i : Int) = (n : Int)) := by omega
  have hcm2 : c ≤ 9223372036854775807 := hcm
  have hw1 : IntKind.i64.wrap ((i : Int) + 1) = (i : Int) + 1 := by rw [IntKind.wrap_i64]; omega
  have hb1 : (0 : Int) ≤ (i : Int) + 1 := by omega
  have hin : i ≤ n := by omega
  have htn : ((i : Int) + 1).toNat = i + 1 := by omega
  have hb2 : ¬ (c = i + 1) := by omega
  have hb3 : (i : Int) ≤ (n : Int) + 1 := by omega
  have hb4 : ¬ (c = i) := by omega
  go_enter Tryd.func94, Tryd.ntmps94
  obtain ⟨Y, hY⟩ : ∃ Y, Y = (cur.toList.take (n * 40)).drop (i * 40) := ⟨_, rfl⟩
  have hsz : cur.toList.length = c * 40 := by simpa using hcs
  have hYl : Y.length = (n - i) * 40 := by rw [hY, List.length_drop, List.length_take, hsz]; omega
  have hY1 : ∀ v ∈ Y, v.oneCell' = true := fun v hv => cellsOf_one' L v (by rw [← htk]; rw [hY] at hv; exact List.mem_of_mem_drop hv)
  obtain ⟨R, hR⟩ : ∃ R : Array Value, R = (cur.toList.take ((i + 1) * 40) ++ Y ++ cur.toList.drop ((i + 1) * 40 + Y.length)).toArray := ⟨_, rfl⟩
  have hgd : w.drew.heap[g]? = some (.cells cur 82 (0, 0)) := hg
  have hcp1 : ∀ ty dc sc, (Builtin.copy_ #[76, 76] ty #[.slice (some ⟨g, (i + 1) * 40, none⟩) (n - i) dc, .slice (some ⟨g, i * 40, none⟩) (n + 1 - i) sc]).run Tryd.prog w.drew = .ok (goInt ((n - i : Nat) : Int)) (w.drew.setRow g R) := fun ty dc sc => by
    have h := run_copyV w.drew ty g ((i + 1) * 40) (n - i) dc ⟨g, i * 40, none⟩ (n + 1 - i) sc cur 82 Y hgd (by rw [hYl]; congr 1; simp only [Nat.min_def]; split <;> omega)
      (fun j v hj => by
        rw [Addr.add_mid, cell_of_row _ _ _ _ _ _ hgd]
        rw [hY, List.getElem?_drop, List.getElem?_take] at hj
        split at hj
        · simpa using hj
        · cases hj) (by rw [hYl, hcs]; omega) hY1
    rw [show Nat.min (n + 1 - i) (n - i) = n - i by simp only [Nat.min_def]; split <;> omega] at h
    rw [hR]
    exact h
  obtain ⟨W1, hW1⟩ : ∃ W1, W1 = w.drew.setRow g R := ⟨_, rfl⟩
  have hg1 : W1.heap[g]? = some (.cells R 82 (0, 0)) := by rw [hW1]; exact setRow_heap _ _ _ _ _ _ hgd
  have hb1' : W1.heap[b]? = some (.cells (vl u).toArray 82 (0, 0)) := by rw [hW1, setRow_other _ _ _ _ hne]; exact hb
  have hRl : R.toList.length = c * 40 := by rw [hR]; simp only [List.length_append, List.length_take, List.length_drop, hYl, hsz]; omega
  obtain ⟨R2, hR2⟩ : ∃ R2 : Array Value, R2 = (R.toList.take (i * 40) ++ vl u ++ R.toList.drop (i * 40 + (vl u).length)).toArray := ⟨_, rfl⟩
  have hcp2 : ∀ ty dl dc sc, 1 ≤ dl → (Builtin.copy_ #[76, 76] ty #[.slice (some ⟨g, i * 40, none⟩) dl dc, .slice (some ⟨b, 0, none⟩) 1 sc]).run Tryd.prog W1 = .ok (goInt 1) (W1.setRow g R2) := fun ty dl dc sc hdl => by
    have hmin : Nat.min 1 dl = 1 := by simp only [Nat.min_def]; split <;> omega
    have h := run_copyV W1 ty g (i * 40) dl dc ⟨b, 0, none⟩ 1 sc R 82 (vl u) hg1 (by rw [hmin, vl_length])
      (fun j v hj => by
        rw [Addr.add_mid, cell_of_row _ _ _ _ _ _ hb1']
        simpa using hj) (by rw [vl_length]; have : R.size = c * 40 := by simpa using hRl
                            omega) (vl_one u)
    rw [hmin] at h
    rw [hR2]
    exact h
  have HFIN : Hid (Ow base (W1.setRow g R2) (.slice (some ⟨g, 0, none⟩) (n + 1) c) (L.take i ++ u :: L.drop i) ∧ w.grownBy (W1.setRow g R2) (some g)) := Lib.hid (by
    have hlen : (L.take i ++ u :: L.drop i).length = n + 1 := by simp [hn]; omega
    refine ⟨⟨cellsOf_length _, Or.inr ⟨g, c, R2, by rw [hlen], hgb, setRow_heap _ _ _ _ _ _ hg1, by omega, hcm, ?_, ?_⟩⟩, ?_⟩
    · have : R2.toList.length = c * 40 := by rw [hR2]; simp only [List.length_append, List.length_take, List.length_drop, vl_length, hRl]; omega
      simpa using this
    · rw [hlen, cellsOf_ins, ← htk, ← hY, hR2, hR]
      have h := ins_room (A := cur.toList) (X := vl u) (k := i * 40) (d := 40) (m := n * 40) (vl_length u) (by omega) (by rw [hsz]; omega)
      rw [← hY] at h
      simp only [vl_length, hYl]
      rw [show (i + 1) * 40 = i * 40 + 40 by omega, show i * 40 + 40 + (n - i) * 40 = n * 40 + 40 by omega, show (n + 1) * 40 = n * 40 + 40 by omega]
      exact h
    · refine ⟨by rw [hW1]; rfl, by rw [hW1]; rfl, by rw [hW1]; rfl, by rw [hW1]; simp, fun k hk hkg => ?_⟩
      have hkg' : k ≠ g := fun e => hkg (by rw [e])
      rw [setRow_other _ _ _ _ hkg', hW1, setRow_other _ _ _ _ hkg']
      rfl)
  rw [← hW1] at hcp1
  have hov := fun o la lb ca cb => hoverlaps w b g hne _ _ cur _ hb hg (by rw [hcs]; omega) o la lb ca cb
  clear hY hsz hYl hY1 hR hgd hW1 hg1 hb1' hRl hR2 htk hg hb
  go_wp2_with (simp only [hov])
  go_region_law (refine step_copy_run rfl _ _ 76 76 rfl _ _ (by simp [Act.eval, Act.put]) (by simp [Act.eval, Act.put]) (hcp1 _ _ _) ?_)
  have hcp3 := hcp2 3 (n + 1 - i) (c - i) 1 (by omega)
  clear hcp1 hcp2
  go_wp2
  go_ret
  exact ⟨_, rfl, HFIN.out.1, HFIN.out.2⟩
set_option maxHeartbeats 3200000 in
set_option maxRecDepth 100000 in
theorem insert_grow (base g n b i : Nat) (cur : Array Value) (L : List Lin.V) (u : Lin.V) (w : World) (hbw : base ≤ w.heap.size) (hg : w.heap[g]? = some (.cells cur 82 (0, 0))) (hn : L.length = n) (hi : i < n) (hn2 : n ≤ 1048576) (hcs : cur.size = n * 40)
    (htk : cur.toList.take (n * 40) = cellsOf L) (hb : w.heap[b]? = some (.cells (vl u).toArray 82 (0, 0))) :
    Calls Tryd.prog 94 #[.slice (some ⟨g, 0, none⟩) n n, .int .i64 i, .slice (some ⟨b, 0, none⟩) 1 1] w (InsR base (.slice (some ⟨g, 0, none⟩) n n) (L.take i ++ u :: L.drop i) w) := by
  have hz2 : ¬ ((i : Int) = (n : Int)) := by omega
  have hw1 : IntKind.i64.wrap ((i : Int) + 1) = (i : Int) + 1 := by rw [IntKind.wrap_i64]; omega
  have hb1 : (0 : Int) ≤ (i : Int) + 1 := by omega
  have hin : i ≤ n := by omega
  have htn : ((i : Int) + 1).toNat = i + 1 := by omega
  have hb3 : (i : Int) ≤ (n : Int) + 1 := by omega
  have hci : ¬ (n = i) := by omega
  have hgw : g < w.heap.size := (Array.getElem?_eq_some_iff.1 hg).1
  have hbw2 : b < w.heap.size := (Array.getElem?_eq_some_iff.1 hb).1
  obtain ⟨i0, hi0, hz0, hzs, hzb⟩ := info_parts Tryd.infoVz
  have hgd : w.drew.heap[g]? = some (.cells cur 82 (0, 0)) := hg
  have hsz : cur.toList.length = n * 40 := by simpa using hcs
  obtain ⟨X, hX⟩ : ∃ X, X = cur.toList.take (i * 40) := ⟨_, rfl⟩
  have hXl : X.length = i * 40 := by rw [hX, List.length_take, hsz]; omega
  obtain ⟨Y, hY⟩ : ∃ Y, Y = (cur.toList.take (n * 40)).drop (i * 40) := ⟨_, rfl⟩
  have hYl : Y.length = (n - i) * 40 := by rw [hY, List.length_drop, List.length_take, hsz]; omega
  have hY1 : ∀ v ∈ Y, v.oneCell' = true := fun v hv => cellsOf_one' L v (by rw [← htk]; rw [hY] at hv; exact List.mem_of_mem_drop hv)
  have hold : (Builtin.firstCells i0.size i (.slice (some ⟨g, 0, none⟩) i n)).run Tryd.prog w.drew = .ok X.toArray w.drew := by
    rw [hzs]
    exact run_firstCells_some w.drew 40 i ⟨g, 0, none⟩ i n X hXl (fun j v hj => by
      rw [Addr.add_mid, cell_of_row _ _ _ _ _ _ hgd]
      rw [hX, List.getElem?_take] at hj
      split at hj
      · simpa using hj
      · cases hj)
  have hik : i + (n + 1 - i) = n + 1 := by omega
  have hkk : (n : Int) + 1 - (i : Int) = ((n + 1 - i : Nat) : Int) := by omega
  obtain ⟨G, hG⟩ : ∃ G, G = grownCap w (n + 1) n 82 := ⟨_, rfl⟩
  have hGn : n + 1 ≤ G := by rw [hG]; exact grownCap_ge w _ _ _
  have hGm : G ≤ maxLen := by rw [hG]; exact grownCap_le_maxLen w (n + 1) n _ (by unfold maxLen; omega)
  obtain ⟨ROW, hROW⟩ : ∃ ROW : Array Value, ROW = X.toArray ++ Builtin.zeroCells (Value.agg zl.toArray).cells (n + 1 - i) ++ Builtin.zeroCells (Value.agg zl.toArray).cells (G - (n + 1)) := ⟨_, rfl⟩
  have hrz : ∀ ty, (Builtin.append_ #[76, 3] ty #[.slice (some ⟨g, 0, none⟩) i n, .int .i64 ((n : Int) + 1 - (i : Int))]).run Tryd.prog w = .ok (.slice (some ⟨w.heap.size, 0, none⟩) (n + 1) G) (w.drew.alloc (.cells ROW 82)) := fun ty => by
    have h := Lib.run_append_grow_zeros w 76 3 ty 82 i0 _ .i64 .i64 Tryd.underlyingSV Tryd.underlying3 hi0 hz0 (some ⟨g, 0, none⟩) i n X hold (n + 1 - i) (by omega) (by omega) (by omega) (by omega) (by rw [hzb]; omega) (by rw [hzb, hik]; exact growslice_fits (by omega) (by omega))
    rw [hik] at h
    rw [hkk, hROW, hG]
    exact h
  have hRl : ROW.toList.length = G * 40 := by
    rw [hROW]
    have : (zl.toArray).size = 40 := by simp [zl_length]
    simp [Builtin.zeroCells, Value.cells, hXl, zl_length]
    omega
  have hRt : ROW.toList.take (i * 40) = X := by
    rw [hROW]
    simp [hXl]
  obtain ⟨W1, hW1⟩ : ∃ W1, W1 = w.drew.alloc (.cells ROW 82) := ⟨_, rfl⟩
  have hN1 : W1.heap[w.heap.size]? = some (.cells ROW 82 (0, 0)) := by rw [hW1]; exact heap_alloc_new w.drew _
  have hO1 : ∀ k, k < w.heap.size → W1.heap[k]? = w.heap[k]? := fun k hk => by rw [hW1]; exact heap_alloc_old w.drew _ (r := k) hk
  obtain ⟨R2, hR2⟩ : ∃ R2 : Array Value, R2 = (ROW.toList.take (i * 40) ++ vl u ++ ROW.toList.drop (i * 40 + (vl u).length)).toArray := ⟨_, rfl⟩
  have hR2l : R2.toList.length = G * 40 := by rw [hR2]; simp only [List.length_append, List.length_take, List.length_drop, vl_length, hRl]; omega
  have hcp1 : ∀ ty dl dc sc, 1 ≤ dl → (Builtin.copy_ #[76, 76] ty #[.slice (some ⟨w.heap.size, i * 40, none⟩) dl dc, .slice (some ⟨b, 0, none⟩) 1 sc]).run Tryd.prog W1 = .ok (goInt 1) (W1.setRow w.heap.size R2) := fun ty dl dc sc hdl => by
    have hmin : Nat.min 1 dl = 1 := by simp only [Nat.min_def]; split <;> omega
    have h := run_copyV W1 ty w.heap.size (i * 40) dl dc ⟨b, 0, none⟩ 1 sc ROW 82 (vl u) hN1 (by rw [hmin, vl_length])
      (fun j v hj => by
        rw [Addr.add_mid, cell_of_row _ _ _ _ _ _ ((hO1 b hbw2).trans hb)]
        simpa using hj) (by rw [vl_length]; have : ROW.size = G * 40 := by simpa using hRl
                            omega) (vl_one u)
    rw [hmin] at h
    rw [hR2]
    exact h
  obtain ⟨W2, hW2⟩ : ∃ W2, W2 = W1.setRow w.heap.size R2 := ⟨_, rfl⟩
  have hN2 : W2.heap[w.heap.size]? = some (.cells R2 82 (0, 0)) := by rw [hW2]; exact setRow_heap _ _ _ _ _ _ hN1
  have hO2 : ∀ k, k < w.heap.size → W2.heap[k]? = w.heap[k]? := fun k hk => by
    rw [hW2]
    show (W1.setRow w.heap.size R2).heap[k]? = _
    rw [setRow_other _ _ _ _ (by omega)]
    exact hO1 k hk
  obtain ⟨R3, hR3⟩ : ∃ R3 : Array Value, R3 = (R2.toList.take ((i + 1) * 40) ++ Y ++ R2.toList.drop ((i + 1) * 40 + Y.length)).toArray := ⟨_, rfl⟩
  have hcp2 : ∀ ty dc sc, (Builtin.copy_ #[76, 76] ty #[.slice (some ⟨w.heap.size, (i + 1) * 40, none⟩) (n - i) dc, .slice (some ⟨g, i * 40, none⟩) (n - i) sc]).run Tryd.prog W2.drew = .ok (goInt ((n - i : Nat) : Int)) (W2.drew.setRow w.heap.size R3) := fun ty dc sc => by
    have h := run_copyV W2.drew ty w.heap.size ((i + 1) * 40) (n - i) dc ⟨g, i * 40, none⟩ (n - i) sc R2 82 Y hN2 (by rw [hYl]; congr 1; simp)
      (fun j v hj => by
        rw [Addr.add_mid]
        show W2.cell? _ = _
        rw [cell_of_row _ _ _ _ _ _ ((hO2 g hgw).trans hg)]
        rw [hY, List.getElem?_drop, List.getElem?_take] at hj
        split at hj
        · simpa using hj
        · cases hj) (by rw [hYl]; have : R2.size = G * 40 := by simpa using hR2l
                        omega) hY1
    rw [show Nat.min (n - i) (n - i) = n - i by simp] at h
    rw [hR3]
    exact h
  have HFIN : Hid (Ow base (W2.drew.setRow w.heap.size R3) (.slice (some ⟨w.heap.size, 0, none⟩) (n + 1) G) (L.take i ++ u :: L.drop i) ∧ w.grownBy (W2.drew.setRow w.heap.size R3) (some g)) := Lib.hid (by
    have hlen : (L.take i ++ u :: L.drop i).length = n + 1 := by simp [hn]; omega
    refine ⟨⟨cellsOf_length _, Or.inr ⟨w.heap.size, G, R3, by rw [hlen], hbw, setRow_heap _ _ _ _ _ _ hN2, by omega, hGm, ?_, ?_⟩⟩, ?_⟩
    · have : R3.toList.length = G * 40 := by rw [hR3]; simp only [List.length_append, List.length_take, List.length_drop, hYl, hR2l]; omega
      simpa using this
    · rw [hlen, cellsOf_ins, ← htk, ← hY, hR3, hR2]
      have h := ins_grow (R := ROW.toList) (X := vl u) (Y := Y) (k := i * 40) (d := 40) (m := n * 40) (vl_length u) (by rw [hYl]; omega) (by omega) (by rw [hRl]; omega)
      simp only [vl_length, hYl]
      rw [show (i + 1) * 40 = i * 40 + 40 by omega, show i * 40 + 40 + (n - i) * 40 = n * 40 + 40 by omega, show (n + 1) * 40 = n * 40 + 40 by omega]
      rw [h, hRt, hX, List.take_take, Nat.min_eq_left (by omega)]
    · have hs2 : W2.heap.size = w.heap.size + 1 := by
        rw [hW2]
        show (W1.setRow w.heap.size R2).heap.size = _
        rw [setRow_size, hW1]
        simp
      refine ⟨by rw [hW2, hW1]; rfl, by rw [hW2, hW1]; rfl, by rw [hW2, hW1]; rfl, by rw [setRow_size]; show _ ≤ W2.heap.size; rw [hs2]; omega, fun k hk _ => ?_⟩
      rw [setRow_other _ _ _ _ (by omega)]
      exact hO2 k hk)
  rw [← hW1] at hrz
  rw [← hW2] at hcp1
  have hcp3 := hcp1 3 (n + 1 - i) (G - i) 1 (by omega)
  have hGi : ¬ (G = i) := by omega
  have hGim : ¬ (G = i + 1) := by omega
  unfold maxLen at hGm
  clear hY hsz hYl hY1 hgd hRl hRt hN1 hO1 hW1 hW2 hR2 hR2l hN2 hO2 hR3 htk hg hb hX hXl hold hik hkk hG hROW hcp1 hi0 hz0 hzs hzb hcs
  go_enter Tryd.func94, Tryd.ntmps94
  go_wp2_with (at_builtin; refine Lib.wpList_append_run _ rfl _ _ _ _ rfl _ _ rfl rfl _ _ (hrz _) ?_)
  go_region_law (refine step_copy_run rfl _ _ 76 76 rfl _ _ (by simp [Act.eval, Act.put]) (by simp [Act.eval, Act.put]) (hcp2 _ _ _) ?_)
  go_wp2
  go_ret
  exact ⟨_, rfl, HFIN.out.1, HFIN.out.2⟩
set_option maxHeartbeats 3200000 in
set_option maxRecDepth 100000 in
theorem insert_end (base b : Nat) (s : Value) (L : List Lin.V) (u : Lin.V) (w : World) (hbw : base ≤ w.heap.size) (hs : Ow base w s L) (hl : L.length ≤ 1048576) (hb : At w b 0 u) :
    Calls Tryd.prog 94 #[s, .int .i64 (L.length : Int), .slice (some ⟨b, 0, none⟩) 1 1] w (InsR base s (L ++ [u]) w) := by
  have HS := Lib.hid hs
  have HB := Lib.hid hb
  obtain ⟨n, hn⟩ : ∃ n, n = L.length := ⟨_, rfl⟩
  have HN := Lib.hid hn
  have hnl : n ≤ 1048576 := by omega
  rcases hs.2 with ⟨rfl, h0⟩ | ⟨g, c, cur, rfl, _, _, hnc, hcm, _⟩
  · rw [h0]
    clear hs hb hn
    go_enter Tryd.func94, Tryd.ntmps94
    go_wp2_with (at_builtin; refine wpList_appendV rfl (some 25) rfl (.tmp 23) (.tmp 24) rfl base _ L rfl HS.out b _ u rfl HB.out hl hbw ?_; intro s' w' hw' hgr; have HW := Lib.hid hw'; have HG := Lib.hid hgr; clear hw' hgr)
    go_ret
    exact ⟨_, rfl, HW.out, HG.out⟩
  · rw [← hn] at hnc HS ⊢
    have hcm2 : c ≤ 9223372036854775807 := hcm
    have hbn : ((n : Int) == (n : Int)) = true := by simp
    clear hs hb hcm hn
    by_cases hcn : c = n
    · subst hcn
      go_enter Tryd.func94, Tryd.ntmps94
      go_wp2_with (at_builtin; refine wpList_appendV rfl (some 25) rfl (.tmp 23) (.tmp 24) rfl base _ L rfl HS.out b _ u rfl HB.out hl hbw ?_; intro s' w' hw' hgr; have HW := Lib.hid hw'; have HG := Lib.hid hgr; clear hw' hgr)
      go_ret
      exact ⟨_, rfl, HW.out, HG.out⟩
    · have hcn2 : ¬ (c ≤ n) := by omega
      go_enter Tryd.func94, Tryd.ntmps94
      go_wp2_with (at_builtin; refine wpList_appendV rfl (some 25) rfl (.tmp 23) (.tmp 24) rfl base _ L rfl HS.out b _ u rfl HB.out hl hbw ?_; intro s' w' hw' hgr; have HW := Lib.hid hw'; have HG := Lib.hid hgr; clear hw' hgr)
      go_ret
      exact ⟨_, rfl, HW.out, HG.out⟩

theorem insert_any (base b i : Nat) (s : Value) (L : List Lin.V) (u : Lin.V) (w : World) (hbw : base ≤ w.heap.size) (hs : Ow base w s L) (hl : L.length ≤ 1048576) (hi : i ≤ L.length) (hb : w.heap[b]? = some (.cells (vl u).toArray 82 (0, 0))) (hne : some b ≠ s.ownBlock) :
    Calls Tryd.prog 94 #[s, .int .i64 (i : Int), .slice (some ⟨b, 0, none⟩) 1 1] w (InsR base s (L.take i ++ u :: L.drop i) w) := by
  by_cases hin : i = L.length
  · subst hin
    rw [List.take_length, List.drop_length]
    exact insert_end base b s L u w hbw hs hl (at_of_block hb)
  · rcases hs.2 with ⟨rfl, h0⟩ | ⟨g, c, cur, rfl, hg, hh, hnc, hcm, hcs, htk⟩
    · omega
    · by_cases hroom : L.length + 1 ≤ c
      · exact insert_room base g L.length c b i cur L u w hg hh rfl (by omega) hroom hcm hcs htk hb (fun e => hne (by rw [e]; rfl))
      · obtain rfl : c = L.length := by omega
        exact insert_grow base g L.length b i cur L u w hbw hh rfl (by omega) hl hcs htk hb
end Go.Proofs.YtaojiojldljhlaaDoor

namespace Go.Proofs.YtaojiojldljhlaaDoor
open Go.RowKit

theorem block_setCell' {w : World} {g i : Nat} {cs : Array Value} {t : TypeId} {fr : Nat × Nat} (h : w.heap[g]? = some (.cells cs t fr)) (v : Value) : (w.setCell ⟨g, i, none⟩ v).heap[g]? = some (.cells (cs.setIfInBounds i v) t fr) := by
  rw [setCell_eq_setRow w g i cs t fr v h]
  exact setRow_heap w g _ _ t _ h
theorem setCells_row (g : Nat) (t : TypeId) (fr : Nat × Nat) : ∀ (vs : List Value) (o : Nat) (cur : Array Value) (w : World), w.heap[g]? = some (.cells cur t fr) → o + vs.length ≤ cur.size →
    (w.setCells g o vs).heap[g]? = some (.cells (cur.toList.take o ++ vs ++ cur.toList.drop (o + vs.length)).toArray t fr)
  | [], o, cur, w, h, _ => by simpa [World.setCells] using h
  | v :: rest, o, cur, w, h, hl => by
    have ih := setCells_row g t fr rest (o + 1) (cur.setIfInBounds o v) (w.setCell ⟨g, o, none⟩ v) (block_setCell' h v) (by simp at hl ⊢; omega)
    rw [World.setCells, ih]
    congr 3
    have e := list_seg_step cur.toList o v rest (by simp at hl ⊢; omega)
    simpa [Array.toList_setIfInBounds] using e
theorem setCells_other (g k : Nat) (h : k ≠ g) : ∀ (vs : List Value) (o : Nat) (w : World), (w.setCells g o vs).heap[k]? = w.heap[k]?
  | [], _, _ => rfl
  | v :: rest, o, w => by
    rw [World.setCells, setCells_other g k h rest (o + 1)]
    exact Below.heap_setCell w ⟨g, o, none⟩ v k h
theorem setCells_rest (g : Nat) : ∀ (vs : List Value) (o : Nat) (w : World), (w.setCells g o vs).os = w.os ∧ (w.setCells g o vs).tape = w.tape ∧ (w.setCells g o vs).output = w.output ∧ (w.setCells g o vs).heap.size = w.heap.size
  | [], _, _ => ⟨rfl, rfl, rfl, rfl⟩
  | v :: rest, o, w => by
    rw [World.setCells]
    obtain ⟨h1, h2, h3, h4⟩ := setCells_rest g rest (o + 1) (w.setCell ⟨g, o, none⟩ v)
    exact ⟨h1, h2, h3, h4.trans (by simp [World.setCell])⟩
theorem grown_setCells (w : World) (g o : Nat) (vs : List Value) : w.grownBy (w.setCells g o vs) (some g) := by
  obtain ⟨h1, h2, h3, h4⟩ := setCells_rest g vs o w
  exact ⟨h1, h2, h3, by omega, fun k _ hne => setCells_other g k (fun e => hne (by rw [e])) vs o w⟩
theorem grown_trans {a b c : World} {row : Option Nat} (h : a.grownBy b row) (k : b.grownBy c row) : a.grownBy c row :=
  ⟨k.os.trans h.os, k.tape.trans h.tape, k.output.trans h.output, Nat.le_trans h.size k.size, fun i hi hne => (k.block i (Nat.lt_of_lt_of_le hi h.size) hne).trans (h.block i hi hne)⟩
theorem grown_refl (w : World) (row : Option Nat) : w.grownBy w row := ⟨rfl, rfl, rfl, Nat.le_refl _, fun _ _ _ => rfl⟩
theorem grown_below {a b c : World} {row : Option Nat} (h : a.grownBy b row) (k : Below b.heap.size b c) : a.grownBy c row :=
  ⟨k.os.trans h.os, k.tape.trans h.tape, k.output.trans h.output, Nat.le_trans h.size k.size, fun i hi hne => (k.block i (Nat.lt_of_lt_of_le hi h.size)).trans (h.block i hi hne)⟩
/-- An owned slice of vectors that is not empty. -/
structure Ox (base : Nat) (w : World) (g cap : Nat) (L : List Lin.V) : Prop where
  lo : base ≤ g
  own : Ow base w (.slice (some ⟨g, 0, none⟩) L.length cap) L
theorem Ox.lt {base : Nat} {w : World} {g cap : Nat} {L : List Lin.V} (h : Ox base w g cap L) : g < w.heap.size := by
  rcases h.own.2 with ⟨h0, _⟩ | ⟨g', c', cur, hv, _, hh, _⟩
  · cases h0
  · injection hv with e1 _ _
    injection e1 with e1
    injection e1 with e1
    subst e1
    exact (Array.getElem?_eq_some_iff.1 hh).1
theorem Ox.at' {base : Nat} {w : World} {g cap : Nat} {L : List Lin.V} (h : Ox base w g cap L) {k : Nat} (hk : k < L.length) : At w g (k * 40) L[k] := by
  rcases h.own.vs with ⟨h0, _⟩ | ⟨b, o, c, hv, _, _, hc⟩
  · rw [h0] at hk; exact absurd hk (Nat.not_lt_zero _)
  · injection hv with e1 _ _
    injection e1 with e1
    injection e1 with e1 e2
    subst e1 e2
    have := hc k hk
    rwa [Nat.zero_add] at this
theorem Ox.below {base : Nat} {w w' : World} {g cap : Nat} {L : List Lin.V} (h : Ox base w g cap L) (hb : Below w.heap.size w w') : Ox base w' g cap L := ⟨h.lo, h.own.below hb⟩
theorem cellsOf_set {L : List Lin.V} {k : Nat} (hk : k < L.length) (x : Lin.V) : cellsOf (L.set k x) = (cellsOf L).take (k * 40) ++ vl x ++ (cellsOf L).drop (k * 40 + 40) := by
  rw [List.set_eq_take_append_cons_drop, if_pos hk, cellsOf_append, cellsOf_cons, cellsOf_take, cellsOf_drop, show (k + 1) * 40 = k * 40 + 40 by omega, List.append_assoc]
theorem Ox.put {base : Nat} {w : World} {g cap : Nat} {L : List Lin.V} (h : Ox base w g cap L) {k : Nat} (hk : k < L.length) (x : Lin.V) : Ox base (w.setCells g (k * 40) (vl x)) g cap (L.set k x) ∧ w.there g (k * 40) 40 := by
  rcases h.own.2 with ⟨h0, _⟩ | ⟨g', c', cur, hv, hlo, hh, hnc, hcm, hcs, htk⟩
  · cases h0
  · injection hv with e1 _ e3
    injection e1 with e1
    injection e1 with e1
    subst e1 e3
    have hkc : k * 40 + 40 ≤ cap * 40 := by
      have : (k + 1) * 40 ≤ cap * 40 := Nat.mul_le_mul_right 40 (by omega)
      omega
    have hb := setCells_row g 82 (0, 0) (vl x) (k * 40) cur w hh (by rw [vl_length, hcs]; exact hkc)
    refine ⟨⟨h.lo, ⟨cellsOf_length _, Or.inr ⟨g, cap, _, rfl, hlo, hb, by simpa using hnc, hcm, ?_, ?_⟩⟩⟩, fun j hj => ⟨?_, by simp [World.frozen?, hh]⟩⟩
    · have hsz : cur.toList.length = cap * 40 := by simpa using hcs
      simp only [List.size_toArray, List.length_append, List.length_take, List.length_drop, vl_length, hsz]
      omega
    · rw [cellsOf_set hk, ← htk]
      have hkn : k * 40 + 40 ≤ L.length * 40 := by
        have : (k + 1) * 40 ≤ L.length * 40 := Nat.mul_le_mul_right 40 hk
        omega
      have hnc' : L.length * 40 ≤ cap * 40 := Nat.mul_le_mul_right 40 hnc
      have hsz : cur.toList.length = cap * 40 := by simpa using hcs
      rw [List.length_set, vl_length, List.take_take, Nat.min_eq_left (by omega), List.drop_take]
      simp only [List.append_assoc]
      rw [List.take_append, List.take_append, List.length_take, vl_length, hsz, Nat.min_eq_left (by omega), List.take_of_length_le (l := cur.toList.take (k * 40)) (by rw [List.length_take]; omega), List.take_of_length_le (l := vl x) (by rw [vl_length]; omega),
        show L.length * 40 - k * 40 - 40 = L.length * 40 - (k * 40 + 40) by omega]
    · rw [cell_of_row _ _ _ _ _ _ hh, Array.getElem?_eq_getElem (by rw [hcs]; omega)]
      rfl
theorem Ow.cases {base : Nat} {w : World} {s : Value} {L : List Lin.V} (h : Ow base w s L) {C : Prop} (h0 : s = .slice none 0 0 → L = [] → C) (h1 : ∀ g cap, s = .slice (some ⟨g, 0, none⟩) L.length cap → Ox base w g cap L → C) : C := by
  rcases h.2 with ⟨hs, hl⟩ | ⟨g, cap, cur, hs, hlo, r⟩
  · exact h0 hs (List.eq_nil_of_length_eq_zero hl)
  · exact h1 g cap hs ⟨hlo, by rw [← hs]; exact h⟩
theorem hindexS (g : Nat) {k n : Nat} (cap : Nat) (hk : k < n) (w : World) : (Instr.indexAt 76 (.slice (some ⟨g, 0, none⟩) n cap) (.int .i64 k)).run Tryd.prog w = .ok (.pointer (some ⟨g, k * 40, none⟩)) w := by
  have h2 : (0 : Int) ≤ (k : Int) := by omega
  have h3 : (k : Int) < (n : Int) := by omega
  go_simp

/-- The rows, the first k of them cleared at the new row's lead. -/
noncomputable def clr (p : Int) (u : Lin.V) (x : Lin.V) : Lin.V := Lin.add p x (-(x (Lin.ld u))) u
noncomputable def part (p : Int) (u : Lin.V) (L : List Lin.V) (k : Nat) : List Lin.V := (L.take k).map (clr p u) ++ L.drop k
theorem part_length (p : Int) (u : Lin.V) (L : List Lin.V) (k : Nat) : (part p u L k).length = L.length := by simp [part]; omega
theorem part_get (p : Int) (u : Lin.V) (L : List Lin.V) {k : Nat} (hk : k < L.length) : (part p u L k)[k]'(by rw [part_length]; exact hk) = L[k] := by
  have hl : ((L.take k).map (clr p u)).length = k := by simp; omega
  simp only [part]
  rw [List.getElem_append_right (by omega)]
  simp only [hl, Nat.sub_self, List.getElem_drop, Nat.add_zero]
theorem part_set (p : Int) (u : Lin.V) (L : List Lin.V) {k : Nat} (hk : k < L.length) : (part p u L k).set k (clr p u L[k]) = part p u L (k + 1) := by
  have hl : ((L.take k).map (clr p u)).length = k := by simp; omega
  unfold part
  rw [List.set_append_right _ _ (by omega), hl, Nat.sub_self, List.drop_eq_getElem_cons hk, List.set_cons_zero, List.take_succ_eq_append_getElem hk, List.map_append, List.append_assoc]
  rfl

def InrR (p : Int) (base : Nat) (s : Value) (L : List Lin.V) (u : Lin.V) (w : World) (e : Ending) (w' : World) : Prop :=
  ∃ s' k, e = .returned s' ∧ Ow base w' s' (Lin.put p L k u) ∧ w.grownBy w' s.ownBlock ∧ k ≤ L.length ∧ (∀ x ∈ L.take k, Lin.ld x < Lin.ld u) ∧ ∀ x ∈ L.drop k, ¬ Lin.ld x < Lin.ld u

set_option maxHeartbeats 3200000 in
set_option maxRecDepth 100000 in
theorem insertRow_any (p : Int) (base : Nat) (s : Value) (L : List Lin.V) (u : Lin.V) (w : World) (hp : IsP p) (hbw : base ≤ w.heap.size) (hs : Ow base w s L) (hL : Lin.Red p L) (hLw : ∀ x ∈ L, Lin.Wd 40 x) (hl : L.length ≤ 1048575)
    (hm : Lin.Md p u) (hw : Lin.Wd 40 u) (hne : u ≠ Lin.zv) : Calls Tryd.prog 89 #[.int .i64 p, s, vv u] w (InrR p base s L u w) := by
  have HP := Lib.hid hp
  have HM := Lib.hid hm
  have HW := Lib.hid hw
  have HNE := Lib.hid hne
  have HL := Lib.hid hL
  have HLW := Lib.hid hLw
  have hp7 := hp.hi7
  have hp1 := hp.lo1
  obtain ⟨d, hd⟩ : ∃ d, d = Lin.ld u := ⟨_, rfl⟩
  have hd40 : d < 40 := by rw [hd]; exact (ld_lt hw hne).1
  have HD := Lib.hid hd
  have HI := Lib.hid (Tryd.infoVl u)
  have HAT := Lib.hid (at_alloc w u 82)
  have HB0 := Lib.hid (below_alloc1 w (.cells (vl u).toArray 82))
  refine Ow.cases hs (fun hs0 hL0 => ?_) (fun g cap hs0 hox => ?_)
  · subst hs0 hL0
    clear hp hm hw hne hL hLw hd
    unfold vv
    go_enter Tryd.func89, Tryd.ntmps89
    go_wp2_with (with_reducible refine wpList_load_mid rfl 82 (.tmp 5) rfl w.heap.size 0 rfl (vl u) _ HAT.out.range Tryd.underlyingV rfl HI.out ?_)
    refine (leadOf_any u _ HW.out HNE.out).mono ?_
    rw [← HD.out]
    rintro e w2 ⟨rfl, hb2⟩
    have HAT2 := Lib.hid (HAT.out.later hb2)
    have HG2 : Hid (w.grownBy w2 none) := Lib.hid (grown_below (grown_below (grown_refl w _) HB0.out) hb2)
    have hsz2 : w.heap.size < w2.heap.size := by have := hb2.size; simp at this; omega
    clear hb2
    go_wp2
    refine wp_loop_rounds 1 ?_
    rw [rounds_succ]
    go_wp2_with (first | (with_reducible refine wpList_load_mid rfl 82 (.tmp 5) rfl w.heap.size 0 rfl (vl u) _ HAT2.out.range Tryd.underlyingV rfl HI.out ?_) | (with_reducible refine wpList_oneV rfl (some 40) rfl (.tmp 39) rfl u rfl ?_; intro W7 hn7; have HN7 := Lib.hid hn7; clear hn7))
    refine (insert_any base w2.heap.size 0 (.slice none 0 0) [] u W7 (by have := HN7.out.size; omega) (Ow.nil _ _) (by simp) (Nat.le_refl _) HN7.out.block (by simp [Value.ownBlock])).mono ?_
    rintro e W8 ⟨s8, rfl, ho8, hg8⟩
    have HO8 := Lib.hid ho8
    have HG8 : Hid (w.grownBy W8 none) := Lib.hid (grown_trans (grown_below HG2.out HN7.out.below) hg8)
    clear ho8 hg8
    go_wp2
    go_ret
    exact ⟨s8, 0, rfl, HO8.out, HG8.out, Nat.le_refl _, by simp, by simp⟩
  · subst hs0
    clear hp hm hw hne hL hLw hd
    unfold vv
    go_enter Tryd.func89, Tryd.ntmps89
    go_wp2_with (with_reducible refine wpList_load_mid rfl 82 (.tmp 5) rfl w.heap.size 0 rfl (vl u) _ HAT.out.range Tryd.underlyingV rfl HI.out ?_)
    refine (leadOf_any u _ HW.out HNE.out).mono ?_
    rw [← HD.out]
    rintro e w2 ⟨rfl, hb2⟩
    have HAT2 := Lib.hid (HAT.out.later hb2)
    have HOX2 : Hid (Ox base w2 g cap (part p u L 0)) := Lib.hid (by
      have := (hox.below HB0.out).below hb2
      simpa [part] using this)
    have HGR2 : Hid (w.grownBy w2 (some g)) := Lib.hid (grown_below (grown_below (grown_refl w _) HB0.out) hb2)
    have hgw : g < w.heap.size := hox.lt
    have hsz2 : w.heap.size < w2.heap.size := by have := hb2.size; simp at this; omega
    clear hb2 hox hs
    go_wp2
    go_loopw [8, 9, 10, 15] (fun pl _ _ i wr => ∃ (k P : Nat), k ≤ L.length ∧ i = .int .i64 k ∧ pl = .int .i64 P ∧ P ≤ k ∧ Hid (Ox base wr g cap (part p u L k)) ∧ Hid (At wr w.heap.size 0 u) ∧ Hid (w.grownBy wr (some g)) ∧ w.heap.size < wr.heap.size ∧ Hid (∀ j (h : j < L.length), j < P → Lin.ld L[j] < d) ∧ Hid (∀ j (h : j < L.length), P ≤ j → j < k → ¬ Lin.ld L[j] < d)) (fun _ _ _ i _ => L.length - (intOf i).toNat)
    case atStart => exact ⟨0, 0, Nat.zero_le _, rfl, rfl, Nat.le_refl _, HOX2, HAT2, HGR2, hsz2, Lib.hid (fun _ _ h => absurd h (Nat.not_lt_zero _)), Lib.hid (fun _ _ _ h => absurd h (Nat.not_lt_zero _))⟩
    case round =>
      obtain ⟨k, P, hk, rfl, rfl, hPk, HOX, HA, HG, hsw, HLO, HHI⟩ := hrel
      clear HOX2 HAT2 HGR2 hsz2
      by_cases hlt : k < L.length
      · obtain ⟨x, hx⟩ : ∃ x, x = L[k] := ⟨_, rfl⟩
        have HXE := Lib.hid hx
        have HXA : Hid (At wr g (k * 40) x) := Lib.hid (by
          have := HOX.out.at' (k := k) (by rw [part_length]; exact hlt)
          rwa [part_get p u L hlt, ← hx] at this)
        have HIX := Lib.hid (Tryd.infoVl x)
        have HI2 : Hid ((Tryd.prog.info? 82).map (·.size) = some (vl x).toArray.size) := Lib.hid (by have := HIX.out; simpa using this)
        have HXM : Hid (Lin.Md p x) := Lib.hid (by rw [hx]; exact HL.out.md _ (List.getElem_mem hlt))
        have HXW : Hid (Lin.Wd 40 x) := Lib.hid (by rw [hx]; exact HLW.out _ (List.getElem_mem hlt))
        have HXN : Hid (x ≠ Lin.zv) := Lib.hid (by rw [hx]; exact HL.out.ne (List.getElem_mem hlt))
        have hadd : (0 : Nat) + k * 40 = k * 40 := Nat.zero_add _
        clear hx
        go_upto_region 5 with (first | (with_reducible refine wpList_load_mid rfl 82 (.tmp 18) rfl g (k * 40) rfl (vl x) _ HXA.out.range Tryd.underlyingV rfl HIX.out ?_) | (with_reducible refine wpList_allocV rfl (some 10) rfl rfl ?_; intro W2 hn2; have HN2 := Lib.hid hn2; have HT2 : Hid (W2.there wr.heap.size 0 (vl x).toArray.size) := (Lib.hid (by have := hn2.there; simpa [vl_length] using this)); clear hn2) | (with_reducible refine wpList_store_mid rfl 82 (.tmp 10) (.tmp 19) rfl wr.heap.size 0 (vl x).toArray rfl rfl HT2.out HI2.out (vl_all x) ?_))
        have HP2 := Lib.hid (HN2.out.put x)
        refine forget_wp (fun W => Hid (Below wr.heap.size wr W ∧ At W wr.heap.size 0 x ∧ W.heap.size = wr.heap.size + 1)) (Lib.hid HP2.out) ?_
        intro W3 HB3
        clear HP2 HN2 HT2 HI2
        obtain ⟨dx, hdx⟩ : ∃ dx, dx = Lin.ld x := ⟨_, rfl⟩
        have HDX := Lib.hid hdx
        obtain ⟨f, hf⟩ : ∃ f, f = x d := ⟨_, rfl⟩
        have hfb : 0 ≤ f ∧ f < p := by rw [hf]; exact HXM.out d
        have HFE := Lib.hid hf
        have HCL : Hid (clr p u x = Lin.add p x (-f) u) := Lib.hid (by unfold clr; rw [← HD.out, ← hf])
        clear hdx hf
        simp only [Act.put]
        go_wp2_with (with_reducible refine wpList_load_mid rfl 82 (.tmp 10) rfl wr.heap.size 0 rfl (vl x) _ HB3.out.2.1.range Tryd.underlyingV rfl HIX.out ?_)
        refine (leadOf_any x _ HXW.out HXN.out).mono ?_
        rw [← HDX.out]
        rintro e W4 ⟨rfl, hb4⟩
        have HB4 : Hid (Below wr.heap.size wr W4 ∧ At W4 wr.heap.size 0 x ∧ wr.heap.size < W4.heap.size) := Lib.hid ⟨HB3.out.1.trans (hb4.mono (by have := HB3.out.2.2; omega)), HB3.out.2.1.later hb4, by have := HB3.out.2.2; have := hb4.size; omega⟩
        clear hb4 HB3
        obtain ⟨M, hM⟩ : ∃ M, M = part p u L k := ⟨_, rfl⟩
        have HME := Lib.hid hM
        have HOX4 : Hid (Ox base W4 g cap M) := Lib.hid (by rw [hM]; exact HOX.out.below HB4.out.1)
        clear hM
        have HS4 : Hid (At W4 w.heap.size 0 u ∧ At W4 wr.heap.size 0 x ∧ Hid (Ox base W4 g cap M ∧ w.grownBy W4 (some g) ∧ w.heap.size < W4.heap.size)) := Lib.hid ⟨HA.out.later HB4.out.1, HB4.out.2.1, Lib.hid ⟨HOX4.out, grown_below HG.out HB4.out.1, by have := HB4.out.2.2; omega⟩⟩
        have HSN : Hid (∀ W W', (At W w.heap.size 0 u ∧ At W wr.heap.size 0 x ∧ Hid (Ox base W g cap M ∧ w.grownBy W (some g) ∧ w.heap.size < W.heap.size)) → Below W.heap.size W W' → (At W' w.heap.size 0 u ∧ At W' wr.heap.size 0 x ∧ Hid (Ox base W' g cap M ∧ w.grownBy W' (some g) ∧ w.heap.size < W'.heap.size))) := Lib.hid (fun W W' h hb => ⟨h.1.later hb, h.2.1.later hb, Lib.hid ⟨h.2.2.out.1.below hb, grown_below h.2.2.out.2.1 hb, by have := h.2.2.out.2.2; have := hb.size; omega⟩⟩)
        have hcellS : ∀ W, (At W w.heap.size 0 u ∧ At W wr.heap.size 0 x ∧ Hid (Ox base W g cap M ∧ w.grownBy W (some g) ∧ w.heap.size < W.heap.size)) → W.cell? ⟨wr.heap.size, d, none⟩ = some (.int .i64 f) := fun W h => by rw [HFE.out]; have := h.2.1.cell hd40; rwa [Nat.zero_add] at this
        obtain ⟨y, hy⟩ : ∃ y, y = Lin.add p x (-f) u := ⟨_, rfl⟩
        have HYE := Lib.hid hy
        have HMM := Lib.hid (minusMultiple_any p f x u · HP.out hfb.1 hfb.2 HXM.out HXW.out HM.out HW.out)
        rw [← hy] at HMM
        have HI5 : Hid ((Tryd.prog.info? 82).map (·.size) = some (vl y).toArray.size) := Lib.hid (by have := Tryd.infoVl y; simpa using this)
        have hkM : k < M.length := by rw [HME.out, part_length]; exact hlt
        have HPUT : Hid (∀ W, Ox base W g cap M → Ox base (W.setCells g (k * 40) (vl y)) g cap (part p u L (k + 1)) ∧ W.there g (k * 40) (vl y).toArray.size) := Lib.hid (fun W h => by
          have h2 := h.put hkM y
          refine ⟨?_, by simpa [vl_length] using h2.2⟩
          have h3 := h2.1
          rw [HYE.out, ← HCL.out, HXE.out] at h3
          rw [HYE.out, ← HCL.out, HXE.out]
          have e := part_set p u L hlt
          rw [← HME.out] at e
          rwa [e] at h3)
        clear hy HOX4 HB4 HOX HA HG
        by_cases hlx : dx < d
        · have hlxi : decide ((dx : Int) < (d : Int)) = true := by simp; exact hlx
          have HNX : Hid (∀ j (h : j < L.length), j < k + 1 → Lin.ld L[j] < d) := Lib.hid (fun j h hj => by
            by_cases e : j = k
            · subst e; rw [← HXE.out, ← HDX.out]; exact hlx
            · have := List.pairwise_iff_getElem.1 HL.out.inc j k h hlt (by omega)
              rw [← HXE.out, ← HDX.out] at this
              omega)
          have hw1 : IntKind.i64.wrap ((k : Int) + 1) = (k : Int) + 1 := IntWalk.i64_in _ (by omega)
          go_upto_region 7 with fail
          refine wp_region_last (fun W => At W w.heap.size 0 u ∧ At W wr.heap.size 0 x ∧ Hid (Ox base W g cap M ∧ w.grownBy W (some g) ∧ w.heap.size < W.heap.size)) 10 (by kernel_rfl) rfl (by kernel_rfl) ?_
          have S1 := HSN.out _ _ HS4.out (Below.refl _ _).drew
          refine held_take (i := 0) (v := .slice (some ⟨g, 0, none⟩) L.length cap) (some 26) rfl rfl (by kernel_rfl) (by kernel_rfl) (by kernel_rfl) (fun _ _ _ h => h) (yieldsIf_move (by kernel_rfl) rfl (by kernel_rfl)) S1 ?_
          refine held_take (i := 1) (v := .int .i64 (k : Int)) (some 27) rfl rfl (by kernel_rfl) (by kernel_rfl) (by kernel_rfl) (fun _ _ _ h => h) (yieldsIf_move (by kernel_rfl) rfl (by kernel_rfl)) S1 ?_
          refine held_take (i := 2) (v := .int .i64 p) (some 28) rfl rfl (by kernel_rfl) (by kernel_rfl) (by kernel_rfl) (fun _ _ _ h => h) (yieldsIf_move (by kernel_rfl) rfl (by kernel_rfl)) S1 ?_
          refine held_take (i := 3) (v := .agg (vl x).toArray) (some 29) rfl rfl (by kernel_rfl) (by kernel_rfl) (by kernel_rfl) (fun _ _ _ h => h) (yieldsIf_load_mid (by kernel_rfl) 82 (.tmp 10) (by kernel_rfl) wr.heap.size 0 (by kernel_rfl) (vl x) _ (fun W h => h.2.1) Tryd.underlyingV rfl HIX.out) S1 ?_
          refine held_take (i := 4) (v := .int .i64 (d : Int)) (some 30) rfl rfl (by kernel_rfl) (by kernel_rfl) (by kernel_rfl) (fun _ _ _ h => h) (yieldsIf_move (by kernel_rfl) rfl (by kernel_rfl)) S1 ?_
          refine held_take (i := 5) (v := .pointer (some ⟨wr.heap.size, d, none⟩)) (some 31) rfl rfl (by kernel_rfl) (by kernel_rfl) (by kernel_rfl) (fun _ _ _ h => h) (yieldsIf_index (by kernel_rfl) rfl (by kernel_rfl) (by kernel_rfl) (hindexV wr.heap.size hd40)) S1 ?_
          refine held_take (i := 6) (v := .int .i64 f) (some 32) rfl rfl (by kernel_rfl) (by kernel_rfl) (by kernel_rfl) (fun _ _ _ h => h) (yieldsIf_cell (by kernel_rfl) rfl (by kernel_rfl) (fun W h => hload W (hcellS W h))) S1 ?_
          refine held_take (i := 7) (v := .agg (vl u).toArray) (some 33) rfl rfl (by kernel_rfl) (by kernel_rfl) (by kernel_rfl) (fun _ _ _ h => h) (yieldsIf_load_mid (by kernel_rfl) 82 (.tmp 5) (by kernel_rfl) w.heap.size 0 (by kernel_rfl) (vl u) _ (fun W h => h.1) Tryd.underlyingV rfl HI.out) S1 ?_
          refine held_enter (i := 8) (some 34) (f := 87) (args := #[.int .i64 p, vv x, .int .i64 f, vv u]) (by kernel_rfl) rfl rfl rfl (by kernel_rfl) (HMM.out _) ?_ (fun c w' h => by cases h.1) (fun w' h => by cases h.1)
          rintro e5 W5 ⟨he5, hb5⟩
          injection he5 with he5
          subst he5
          have S5 := HSN.out _ _ S1 hb5
          refine ⟨S5, ?_⟩
          clear hb5 S1 HS4
          refine held_take (i := 9) (v := .pointer (some ⟨g, k * 40, none⟩)) (some 35) rfl rfl (by kernel_rfl) (by kernel_rfl) (by kernel_rfl) (fun _ _ _ h => h) (yieldsIf_index (by kernel_rfl) rfl (by kernel_rfl) (by kernel_rfl) (hindexS g cap hlt)) S5 ?_
          refine held_none (i := 10) (v := .bool false) rfl rfl (by kernel_rfl) (by kernel_rfl) (by kernel_rfl) (fun _ _ _ h => h) (yieldsIf_move (by kernel_rfl) rfl (by kernel_rfl)) S5 ?_
          have hput := HPUT.out _ S5.2.2.out.1
          refine wpAnyH_done (by kernel_rfl) (lastQ_store rfl (by kernel_rfl) (by kernel_rfl) 82 (.tmp 35) (.tmp 34) (by kernel_rfl) g (k * 40) (vl y).toArray (by kernel_rfl) (by kernel_rfl) hput.2 HI5.out (vl_all _) ?_) _
          simp only [Act.put, List.setIfInBounds_toArray, List.set_cons_zero, List.set_cons_succ]
          have hgs := grown_setCells W5 g (k * 40) (vl y)
          have hgn : w.heap.size ≠ g := by omega
          have HA6 : Hid (At (W5.setCells g (k * 40) (vl y)) w.heap.size 0 u) := Lib.hid (S5.1.grown hgs (by simp; omega))
          have HG6 : Hid (w.grownBy (W5.setCells g (k * 40) (vl y)) (some g)) := Lib.hid (grown_trans S5.2.2.out.2.1 hgs)
          have HO6 : Hid (Ox base (W5.setCells g (k * 40) (vl y)) g cap (part p u L (k + 1))) := Lib.hid hput.1
          have hs6 : w.heap.size < (W5.setCells g (k * 40) (vl y)).heap.size := by have := hgs.size; have := S5.2.2.out.2.2; omega
          obtain ⟨W6, hW6⟩ : ∃ W6, W6 = W5.setCells g (k * 40) (vl y) := ⟨_, rfl⟩
          rw [show W5.setCells g (k * 40) (vl y).toArray.toList = W6 by rw [hW6]]
          rw [← hW6] at HA6 HG6 HO6 hs6
          clear hW6 S5 hcellS hput hgs
          go_wp2
          go_roundw
          case rel => exact ⟨k + 1, k + 1, by omega, by go_num, by go_num, by omega, HO6, HA6, HG6, hs6, HNX, Lib.hid (fun j h h1 h2 => absurd h2 (by omega))⟩
          case measure => simp [intOf]; omega
        · have hlxi : decide ((dx : Int) < (d : Int)) = false := by simp; omega
          go_upto_region 7 with fail
          refine wp_region_last (fun W => At W w.heap.size 0 u ∧ At W wr.heap.size 0 x ∧ Hid (Ox base W g cap M ∧ w.grownBy W (some g) ∧ w.heap.size < W.heap.size)) 10 (by kernel_rfl) rfl (by kernel_rfl) ?_
          have S1 := HSN.out _ _ HS4.out (Below.refl _ _).drew
          refine held_take (i := 0) (v := .slice (some ⟨g, 0, none⟩) L.length cap) (some 26) rfl rfl (by kernel_rfl) (by kernel_rfl) (by kernel_rfl) (fun _ _ _ h => h) (yieldsIf_move (by kernel_rfl) rfl (by kernel_rfl)) S1 ?_
          refine held_take (i := 1) (v := .int .i64 (k : Int)) (some 27) rfl rfl (by kernel_rfl) (by kernel_rfl) (by kernel_rfl) (fun _ _ _ h => h) (yieldsIf_move (by kernel_rfl) rfl (by kernel_rfl)) S1 ?_
          refine held_take (i := 2) (v := .int .i64 p) (some 28) rfl rfl (by kernel_rfl) (by kernel_rfl) (by kernel_rfl) (fun _ _ _ h => h) (yieldsIf_move (by kernel_rfl) rfl (by kernel_rfl)) S1 ?_
          refine held_take (i := 3) (v := .agg (vl x).toArray) (some 29) rfl rfl (by kernel_rfl) (by kernel_rfl) (by kernel_rfl) (fun _ _ _ h => h) (yieldsIf_load_mid (by kernel_rfl) 82 (.tmp 10) (by kernel_rfl) wr.heap.size 0 (by kernel_rfl) (vl x) _ (fun W h => h.2.1) Tryd.underlyingV rfl HIX.out) S1 ?_
          refine held_take (i := 4) (v := .int .i64 (d : Int)) (some 30) rfl rfl (by kernel_rfl) (by kernel_rfl) (by kernel_rfl) (fun _ _ _ h => h) (yieldsIf_move (by kernel_rfl) rfl (by kernel_rfl)) S1 ?_
          refine held_take (i := 5) (v := .pointer (some ⟨wr.heap.size, d, none⟩)) (some 31) rfl rfl (by kernel_rfl) (by kernel_rfl) (by kernel_rfl) (fun _ _ _ h => h) (yieldsIf_index (by kernel_rfl) rfl (by kernel_rfl) (by kernel_rfl) (hindexV wr.heap.size hd40)) S1 ?_
          refine held_take (i := 6) (v := .int .i64 f) (some 32) rfl rfl (by kernel_rfl) (by kernel_rfl) (by kernel_rfl) (fun _ _ _ h => h) (yieldsIf_cell (by kernel_rfl) rfl (by kernel_rfl) (fun W h => hload W (hcellS W h))) S1 ?_
          refine held_take (i := 7) (v := .agg (vl u).toArray) (some 33) rfl rfl (by kernel_rfl) (by kernel_rfl) (by kernel_rfl) (fun _ _ _ h => h) (yieldsIf_load_mid (by kernel_rfl) 82 (.tmp 5) (by kernel_rfl) w.heap.size 0 (by kernel_rfl) (vl u) _ (fun W h => h.1) Tryd.underlyingV rfl HI.out) S1 ?_
          refine held_enter (i := 8) (some 34) (f := 87) (args := #[.int .i64 p, vv x, .int .i64 f, vv u]) (by kernel_rfl) rfl rfl rfl (by kernel_rfl) (HMM.out _) ?_ (fun c w' h => by cases h.1) (fun w' h => by cases h.1)
          rintro e5 W5 ⟨he5, hb5⟩
          injection he5 with he5
          subst he5
          have S5 := HSN.out _ _ S1 hb5
          refine ⟨S5, ?_⟩
          clear hb5 S1 HS4
          refine held_take (i := 9) (v := .pointer (some ⟨g, k * 40, none⟩)) (some 35) rfl rfl (by kernel_rfl) (by kernel_rfl) (by kernel_rfl) (fun _ _ _ h => h) (yieldsIf_index (by kernel_rfl) rfl (by kernel_rfl) (by kernel_rfl) (hindexS g cap hlt)) S5 ?_
          refine held_none (i := 10) (v := .bool false) rfl rfl (by kernel_rfl) (by kernel_rfl) (by kernel_rfl) (fun _ _ _ h => h) (yieldsIf_move (by kernel_rfl) rfl (by kernel_rfl)) S5 ?_
          have hput := HPUT.out _ S5.2.2.out.1
          refine wpAnyH_done (by kernel_rfl) (lastQ_store rfl (by kernel_rfl) (by kernel_rfl) 82 (.tmp 35) (.tmp 34) (by kernel_rfl) g (k * 40) (vl y).toArray (by kernel_rfl) (by kernel_rfl) hput.2 HI5.out (vl_all _) ?_) _
          simp only [Act.put, List.setIfInBounds_toArray, List.set_cons_zero, List.set_cons_succ]
          have hgs := grown_setCells W5 g (k * 40) (vl y)
          have hgn : w.heap.size ≠ g := by omega
          have HA6 : Hid (At (W5.setCells g (k * 40) (vl y)) w.heap.size 0 u) := Lib.hid (S5.1.grown hgs (by simp; omega))
          have HG6 : Hid (w.grownBy (W5.setCells g (k * 40) (vl y)) (some g)) := Lib.hid (grown_trans S5.2.2.out.2.1 hgs)
          have HO6 : Hid (Ox base (W5.setCells g (k * 40) (vl y)) g cap (part p u L (k + 1))) := Lib.hid hput.1
          have hs6 : w.heap.size < (W5.setCells g (k * 40) (vl y)).heap.size := by have := hgs.size; have := S5.2.2.out.2.2; omega
          obtain ⟨W6, hW6⟩ : ∃ W6, W6 = W5.setCells g (k * 40) (vl y) := ⟨_, rfl⟩
          rw [show W5.setCells g (k * 40) (vl y).toArray.toList = W6 by rw [hW6]]
          rw [← hW6] at HA6 HG6 HO6 hs6
          clear hW6 S5 hcellS hput hgs
          go_wp2
          go_roundw
          case rel => exact ⟨k + 1, P, by omega, by go_num, by go_num, by omega, HO6, HA6, HG6, hs6, HLO, Lib.hid (fun j h h1 h2 => by
            by_cases e : j = k
            · subst e; rw [← HXE.out, ← HDX.out]; exact hlx
            · exact HHI.out j h h1 (by omega))⟩
          case measure => simp [intOf]; omega
      · obtain rfl : k = L.length := by omega
        obtain ⟨M, hM⟩ : ∃ M, M = part p u L L.length := ⟨_, rfl⟩
        have HML : Hid (M.length = L.length) := Lib.hid (by rw [hM, part_length])
        have HOW : Hid (Ow base wr (.slice (some ⟨g, 0, none⟩) L.length cap) M) := Lib.hid (by have := HOX.out.own; rwa [← hM, HML.out] at this)
        have hgr : g < wr.heap.size := HOX.out.lt
        have HPUT : Hid (M.take P ++ u :: M.drop P = Lin.put p L P u) := Lib.hid (by
          rw [hM, part, List.take_length, List.drop_length, List.append_nil, ← List.map_take, ← List.map_drop]
          rfl)
        have HLO2 : Hid (∀ x ∈ L.take P, Lin.ld x < Lin.ld u) := Lib.hid (fun x hx => by
          obtain ⟨j, hj, rfl⟩ := List.getElem_of_mem hx
          rw [List.getElem_take, ← HD.out]
          rw [List.length_take] at hj
          exact HLO.out j (by omega) (by omega))
        have HHI2 : Hid (∀ x ∈ L.drop P, ¬ Lin.ld x < Lin.ld u) := Lib.hid (fun x hx => by
          obtain ⟨j, hj, rfl⟩ := List.getElem_of_mem hx
          rw [List.getElem_drop, ← HD.out]
          rw [List.length_drop] at hj
          exact HHI.out (P + j) (by omega) (by omega) (by omega))
        clear hM HOX HLO HHI
        go_wp2_with (first | (with_reducible refine wpList_load_mid rfl 82 (.tmp 5) rfl w.heap.size 0 rfl (vl u) _ HA.out.range Tryd.underlyingV rfl HI.out ?_) | (with_reducible refine wpList_oneV rfl (some 40) rfl (.tmp 39) rfl u rfl ?_; intro W7 hn7; have HN7 := Lib.hid hn7; clear hn7))
        refine (insert_any base wr.heap.size P (.slice (some ⟨g, 0, none⟩) L.length cap) M u W7 (by have := HN7.out.size; omega) (HOW.out.below HN7.out.below) (by rw [HML.out]; omega) (by rw [HML.out]; exact hPk) HN7.out.block (by simp [Value.ownBlock]; omega)).mono ?_
        rintro e W8 ⟨s8, rfl, ho8, hg8⟩
        have HO8 := Lib.hid ho8
        have HG8 : Hid (w.grownBy W8 (some g)) := Lib.hid (grown_trans (grown_below HG.out HN7.out.below) hg8)
        clear ho8 hg8
        go_wp2
        go_ret
        exact ⟨s8, P, rfl, by rw [← HPUT.out]; exact HO8.out, HG8.out, hPk, HLO2.out, HHI2.out⟩
end Go.Proofs.YtaojiojldljhlaaDoor

namespace Go.Proofs.YtaojiojldljhlaaDoor
open Go.RowKit

/-- A reduced list that a call is gathering, a vector in a box of its own. -/
structure Inn (w1 W : World) (sv : Value) (R : List Lin.V) (vb : Nat) (r : Lin.V) : Prop where
  below : Below w1.heap.size w1 W
  own : Ow w1.heap.size W sv R
  lo : w1.heap.size ≤ vb
  at' : At W vb 0 r
  there : W.there vb 0 40
  ne : some vb ≠ sv.ownBlock
theorem Inn.next {w1 W W' : World} {sv : Value} {R : List Lin.V} {vb : Nat} {r : Lin.V} (h : Inn w1 W sv R vb r) (hb : Below W.heap.size W W') : Inn w1 W' sv R vb r :=
  ⟨h.below.trans (hb.mono h.below.size), h.own.below hb, h.lo, h.at'.later hb, there_below h.there hb h.at'.lt, h.ne⟩
theorem Inn.put {w1 W : World} {sv : Value} {R : List Lin.V} {vb : Nat} {r : Lin.V} (h : Inn w1 W sv R vb r) (x : Lin.V) : Inn w1 (W.setCells vb 0 (vl x)) sv R vb x :=
  ⟨below_setCells _ h.lo _ _ _ h.below, h.own.grown (grown_setCells W vb 0 (vl x)) (Or.inr h.ne.symm), h.lo, at_setCells _ _ _ _ h.there, World.there_setCells h.there _ _ _, h.ne⟩
theorem Ow.apart {base : Nat} {w : World} {s : Value} {L : List Lin.V} (h : Ow base w s L) {b : Nat} (hb : w.heap.size ≤ b) : some b ≠ s.ownBlock := fun e => by
  have := ((World.ownsRow.lt h) b e.symm).1
  have := ((World.ownsRow.lt h) b e.symm).2
  omega

/-- What a reduced list has to do with a list. -/
structure RedOf (p : Int) (R T : List Lin.V) : Prop where
  red : Lin.Red p R
  wd : ∀ u ∈ R, Lin.Wd 40 u
  eqv : Lin.Eqv p R T
theorem RedOf.nil (p : Int) : RedOf p [] [] := ⟨Lin.Red.nil p, by simp, Lin.Eqv.refl _ _⟩
theorem RedOf.skip {p : Int} (hp : 0 < p) {R T : List Lin.V} (h : RedOf p R T) {v : Lin.V} (hT : ∀ w ∈ T, Lin.Md p w) (hv : Lin.Md p v) (hr : Lin.Rest p R v R.length Lin.zv) : RedOf p R (T ++ [v]) :=
  ⟨h.red, h.wd, Lin.skip_eqv hp h.red hT hv h.eqv hr⟩
theorem RedOf.put {p : Int} (hp : 1 < p) {R T : List Lin.V} (h : RedOf p R T) {v r u : Lin.V} {k : Nat} (hT : ∀ w ∈ T, Lin.Md p w) (hv : Lin.Md p v) (hr : Lin.Rest p R v R.length r) (hne : r ≠ Lin.zv) (hu : Lin.Unit p r u) (huw : Lin.Wd 40 u) (hk : k ≤ R.length)
    (hlo : ∀ w ∈ R.take k, Lin.ld w < Lin.ld u) (hhi : ∀ w ∈ R.drop k, ¬ Lin.ld w < Lin.ld u) : RedOf p (Lin.put p R k u) (T ++ [v]) := by
  have hf := Lin.fits_of hr hne hu hk hlo hhi
  refine ⟨hf.red hp h.red, fun x hx => ?_, Lin.put_eqv hp h.red hT hv h.eqv hr hu hf⟩
  rcases Lin.put_mem.1 hx with rfl | ⟨y, hy, rfl⟩
  · exact huw
  · exact Lin.add_wd _ (h.wd y hy) huw
theorem put_length (p : Int) (R : List Lin.V) (k : Nat) (u : Lin.V) (hk : k ≤ R.length) : (Lin.put p R k u).length = R.length + 1 := by simp [Lin.put]; omega

set_option maxHeartbeats 6400000 in
set_option maxRecDepth 100000 in
theorem reducedList_any (p : Int) (s : Value) (L : List Lin.V) (w : World) (hp : IsP p) (hs : Vs 0 w s L) (hLm : ∀ u ∈ L, Lin.Md p u) (hLw : ∀ u ∈ L, Lin.Wd 40 u) (hl : L.length ≤ 1048575) :
    Calls Tryd.prog 78 #[.int .i64 p, s] w (VsR (fun R => RedOf p R L ∧ R.length ≤ L.length) w) := by
  have HP := Lib.hid hp
  have hul := unitLines_any p s L w hp hs hLm hLw (by omega)
  have HUL := Lib.hid hul
  have hp7 := hp.hi7
  have hp1 := hp.lo1
  obtain ⟨ads, caps, hsv⟩ := Vs.shape hs
  subst hsv
  clear hp hs hLm hLw hul
  go_enter Tryd.func78, Tryd.ntmps78
  go_wp2
  go_step3
  go_wp2
  go_step3
  go_wp2_with fail
  refine HUL.out.mono ?_
  rintro e w1 ⟨sl, M, rfl, hb1, ho1, hli, hml⟩
  have HB1 := Lib.hid hb1
  have HLI := Lib.hid hli
  have HVS := Lib.hid ho1.vs
  obtain ⟨adl, capl, rfl⟩ := ho1.shape
  have hs1 : w.heap.size ≤ w1.heap.size := hb1.size
  clear hb1 ho1 hli HUL
  go_wp2
  go_loopg [5, 7, 9, 14, 20] M.length (fun g s5 _ _ s14 _ wx => ∃ (k : Nat) (R : List Lin.V), k + g = M.length ∧ s14 = .int .i64 k ∧ Hid (Below w1.heap.size w1 wx) ∧ Hid (Ow w1.heap.size wx s5 R) ∧ Hid (RedOf p R (M.take k)) ∧ R.length ≤ k)
  case atStart => exact ⟨0, [], by omega, rfl, Lib.hid (Below.refl _ _), Lib.hid (Ow.nil _ _), Lib.hid (by rw [List.take_zero]; exact RedOf.nil p), Nat.le_refl _⟩
  case round =>
    obtain ⟨k, R, hkg, rfl, HB, HO, HR, hRk⟩ := hrel
    cases gk with
    | zero =>
      have HTK : Hid (M.take k = M) := Lib.hid (List.take_of_length_le (by omega))
      have hkz : ¬ ((k : Int) < (M.length : Int)) := by omega
      obtain ⟨adr, capr, rfl⟩ := HO.out.shape
      go_wp2
      try rw [Exit.noGoto_ret]
      go_ret
      refine ⟨_, R, rfl, HB1.out.trans (HB.out.mono hs1), ?_, ?_, by omega⟩
      · exact ⟨HO.out.1, HO.out.2.imp id (fun ⟨g, cap, cur, h1, h2, h3⟩ => ⟨g, cap, cur, h1, by omega, h3⟩)⟩
      · have := HR.out
        rw [HTK.out] at this
        exact ⟨this.red, this.wd, this.eqv.trans HLI.out.eqv⟩
    | succ g =>
      have hlt : k < M.length := by omega
      refine Vs.cases HVS.out (fun _ _ hx _ => absurd hlt (by simp [hx])) (fun b o cap2 hv _ _ hc => ?_)
      obtain ⟨rfl, rfl⟩ : adl = some ⟨b, o, none⟩ ∧ capl = cap2 := by simpa using hv
      obtain ⟨v, hve⟩ : ∃ v, v = M[k] := ⟨_, rfl⟩
      have HV : Hid (At wr b (o + k * 40) v) := Lib.hid (by rw [hve]; exact (hc k hlt).below HB.out (hc k hlt).lt)
      have HI := Lib.hid (Tryd.infoVl v)
      have HI2 : Hid ((Tryd.prog.info? 82).map (·.size) = some (vl v).toArray.size) := Lib.hid (by have := HI.out; simpa using this)
      have HVM : Hid (Lin.Md p v) := Lib.hid (by rw [hve]; exact HLI.out.md _ (List.getElem_mem hlt))
      have HVW : Hid (Lin.Wd 40 v) := Lib.hid (by rw [hve]; exact HLI.out.wd _ (List.getElem_mem hlt))
      have HVN : Hid (v ≠ Lin.zv) := Lib.hid (by rw [hve]; exact HLI.out.ne _ (List.getElem_mem hlt))
      have HTK : Hid (M.take (k + 1) = M.take k ++ [v]) := Lib.hid (by rw [hve]; exact List.take_succ_eq_append_getElem hlt)
      have HTM : Hid (∀ x ∈ M.take k, Lin.Md p x) := Lib.hid (fun x hx => HLI.out.md x (List.mem_of_mem_take hx))
      obtain ⟨adr, capr, rfl⟩ := HO.out.shape
      have hapart := HO.out.apart (Nat.le_refl _)
      have HAP := Lib.hid hapart
      have hsz : w1.heap.size ≤ wr.heap.size := HB.out.size
      have hR5 : R.length ≤ 1048575 := by omega
      clear hv hc hve hapart
      go_upto_region 5 with (first | (with_reducible refine wpList_load_mid rfl 82 (.tmp 16) rfl b (o + k * 40) rfl (vl v) _ HV.out.range Tryd.underlyingV rfl HI.out ?_) | (with_reducible refine wpList_allocV rfl (some 7) rfl rfl ?_; intro W2 hn2; have HN2 := Lib.hid hn2; have HT2 : Hid (W2.there wr.heap.size 0 (vl v).toArray.size) := (Lib.hid (by have := hn2.there; simpa [vl_length] using this)); clear hn2) | (with_reducible refine wpList_store_mid rfl 82 (.tmp 7) (.tmp 17) rfl wr.heap.size 0 (vl v).toArray rfl rfl HT2.out HI2.out (vl_all v) ?_))
      refine forget_wp (fun W => Hid (Inn w1 W (.slice adr R.length capr) R wr.heap.size v)) (Lib.hid ?_) ?_
      · have hp2 := HN2.out.put v
        exact ⟨HB.out.trans (hp2.1.mono hsz), HO.out.below hp2.1, hsz, hp2.2.1, World.there_setCells HN2.out.there _ _ _, HAP.out⟩
      intro W3 HN3
      clear HN2 HT2 HI2 HAP HO HB HV HI
      generalize wr.heap.size = vb at *
      simp only [Act.put]
      go_wp2
      go_loopg [9, 20] R.length (fun g2 _ s20 wx => ∃ (j : Nat) (r : Lin.V), j + g2 = R.length ∧ s20 = .int .i64 j ∧ Hid (Inn w1 wx (.slice adr R.length capr) R vb r) ∧ Hid (Lin.Rest p R v j r) ∧ Hid (Lin.Wd 40 r) ∧ Hid (r ≠ Lin.zv))
      case atStart => exact ⟨0, v, by omega, rfl, HN3, Lib.hid (Lin.Rest.start HVM.out), HVW, HVN⟩
      case round =>
        clear HN3
        obtain ⟨j, r, hjg, rfl, HN, HRE, HRW, HRN⟩ := hrel
        cases gk with
        | zero =>
          have hjR : ¬ ((j : Int) < (R.length : Int)) := by omega
          have HRR : Hid (Lin.Rest p R v R.length r) := Lib.hid (by have := HRE.out; rwa [show j = R.length by omega] at this)
          have HIR := Lib.hid (Tryd.infoVl r)
          go_wp2_with (with_reducible refine wpList_load_mid rfl 82 (.tmp 7) rfl vb 0 rfl (vl r) _ HN.out.at'.range Tryd.underlyingV rfl HIR.out ?_)
          refine (unitLead_any p r _ HP.out HRR.out.md HRW.out HRN.out).mono ?_
          rintro e W5 ⟨u, rfl, hb5, hUU, hUW⟩
          have HN5 := Lib.hid (HN.out.next hb5)
          have HUU := Lib.hid hUU
          have HUW := Lib.hid hUW
          clear hb5 hUU hUW
          go_wp2_with fail
          refine (insertRow_any p w1.heap.size _ R u _ HP.out HN5.out.below.size HN5.out.own HR.out.red HR.out.wd hR5 HUU.out.md HUW.out HUU.out.ne).mono ?_
          rintro e W6 ⟨s6, P, rfl, ho6, hg6, hP, hlo, hhi⟩
          have HO6 := Lib.hid ho6
          have HB6 : Hid (Below w1.heap.size w1 W6) := Lib.hid (HN5.out.below.grown hg6 HN5.out.below.size (fun gg hgg => ((HN5.out.own.lt) gg hgg).1))
          have HR6 : Hid (RedOf p (Lin.put p R P u) (M.take (k + 1))) := Lib.hid (by
            rw [HTK.out]
            exact HR.out.put hp1 HTM.out HVM.out HRR.out HRN.out HUU.out HUW.out hP hlo hhi)
          have hlen : (Lin.put p R P u).length ≤ k + 1 := by rw [put_length p R P u hP]; omega
          clear ho6 hg6 hlo hhi
          go_wp2
          go_roundg g
          case rel => exact ⟨k + 1, Lin.put p R P u, by omega, by go_num, HB6, HO6, HR6, hlen⟩
          case measure => omega
        | succ g2 =>
          have hjl : j < R.length := by omega
          refine Vs.cases HN.out.own.vs (fun _ _ hx _ => absurd hjl (by simp [hx])) (fun b2 o2 cap3 hv _ _ hc => ?_)
          obtain ⟨rfl, rfl⟩ : adr = some ⟨b2, o2, none⟩ ∧ capr = cap3 := by simpa using hv
          obtain ⟨u, hu⟩ : ∃ u, u = R[j] := ⟨_, rfl⟩
          have HUA : Hid (At wr b2 (o2 + j * 40) u) := Lib.hid (by rw [hu]; exact hc j hjl)
          have HUE := Lib.hid hu
          have HUM : Hid (Lin.Md p u) := Lib.hid (by rw [hu]; exact HR.out.red.md _ (List.getElem_mem hjl))
          have HUW : Hid (Lin.Wd 40 u) := Lib.hid (by rw [hu]; exact HR.out.wd _ (List.getElem_mem hjl))
          have HUN : Hid (u ≠ Lin.zv) := Lib.hid (by rw [hu]; exact HR.out.red.ne (List.getElem_mem hjl))
          have HI := Lib.hid (Tryd.infoVl u)
          have HI2 : Hid ((Tryd.prog.info? 82).map (·.size) = some (vl u).toArray.size) := Lib.hid (by have := HI.out; simpa using this)
          have HRM : Hid (Lin.Md p r) := Lib.hid HRE.out.md
          have HIR := Lib.hid (Tryd.infoVl r)
          have HAP : Hid (wr.heap.size ≠ vb) := Lib.hid (by have := HN.out.at'.lt; omega)
          obtain ⟨hd40, _, _⟩ := ld_lt HUW.out HUN.out
          obtain ⟨d, hd⟩ : ∃ d, d = Lin.ld u := ⟨_, rfl⟩
          have HD := Lib.hid hd
          rw [← hd] at hd40
          obtain ⟨f, hf⟩ : ∃ f, f = r d := ⟨_, rfl⟩
          have HF := Lib.hid hf
          have hfb := HRM.out d
          rw [← hf] at hfb
          clear hv hc hu hd hf
          go_upto_region 8 with (first | (with_reducible refine wpList_load_mid rfl 82 (.tmp 22) rfl b2 (o2 + j * 40) rfl (vl u) _ HUA.out.range Tryd.underlyingV rfl HI.out ?_) | (with_reducible refine wpList_allocV rfl (some 9) rfl rfl ?_; intro W2 hn2; have HN2 := Lib.hid hn2; have HT2 : Hid (W2.there wr.heap.size 0 (vl u).toArray.size) := (Lib.hid (by have := hn2.there; simpa [vl_length] using this)); clear hn2) | (with_reducible refine wpList_store_mid rfl 82 (.tmp 9) (.tmp 23) rfl wr.heap.size 0 (vl u).toArray rfl rfl HT2.out HI2.out (vl_all u) ?_))
          refine forget_wp (fun W => Hid (At W vb 0 r ∧ At W wr.heap.size 0 u ∧ Hid (Inn w1 W (.slice (some ⟨b2, o2, none⟩) R.length capr) R vb r))) (Lib.hid ?_) ?_
          · have hp2 := HN2.out.put u
            have h1 := HN.out.next hp2.1
            exact ⟨h1.at', hp2.2.1, Lib.hid h1⟩
          intro W3 HS3
          clear HN2 HT2 HN HUA
          simp only [Act.put, List.setIfInBounds_toArray, List.set_cons_zero, List.set_cons_succ]
          have HSN : Hid (∀ W W', (At W vb 0 r ∧ At W wr.heap.size 0 u ∧ Hid (Inn w1 W (.slice (some ⟨b2, o2, none⟩) R.length capr) R vb r)) → Below W.heap.size W W' → (At W' vb 0 r ∧ At W' wr.heap.size 0 u ∧ Hid (Inn w1 W' (.slice (some ⟨b2, o2, none⟩) R.length capr) R vb r))) := Lib.hid (fun W W' h hb => ⟨h.1.later hb, h.2.1.later hb, Lib.hid (h.2.2.out.next hb)⟩)
          have hcellS : ∀ W, (At W vb 0 r ∧ At W wr.heap.size 0 u ∧ Hid (Inn w1 W (.slice (some ⟨b2, o2, none⟩) R.length capr) R vb r)) → W.cell? ⟨vb, d, none⟩ = some (.int .i64 f) := fun W h => by rw [HF.out]; have := h.1.cell hd40; rwa [Nat.zero_add] at this
          obtain ⟨y, hy⟩ : ∃ y, y = Lin.add p r (-f) u := ⟨_, rfl⟩
          have HMM := Lib.hid (minusMultiple_any p f r u · HP.out hfb.1 hfb.2 HRM.out HRW.out HUM.out HUW.out)
          rw [← hy] at HMM
          have HRE2 : Hid (Lin.Rest p R v (j + 1) y) := Lib.hid (by rw [hy, HF.out, HD.out, HUE.out]; exact HRE.out.step (by omega) HR.out.red hjl)
          have HYW : Hid (Lin.Wd 40 y) := Lib.hid (by rw [hy]; exact Lin.add_wd _ HRW.out HUW.out)
          have HIY := Lib.hid (Tryd.infoVl y)
          have HI5 : Hid ((Tryd.prog.info? 82).map (·.size) = some (vl y).toArray.size) := Lib.hid (by have := HIY.out; simpa using this)
          have HLD := Lib.hid (leadOf_any u · HUW.out HUN.out)
          rw [← HD.out] at HLD
          clear hy HI2
          refine wp_region_last (fun W => At W vb 0 r ∧ At W wr.heap.size 0 u ∧ Hid (Inn w1 W (.slice (some ⟨b2, o2, none⟩) R.length capr) R vb r)) 8 (by kernel_rfl) rfl (by kernel_rfl) ?_
          have S1 := HSN.out _ _ HS3.out (Below.refl _ _).drew
          refine held_take (i := 0) (v := .int .i64 p) (some 24) rfl rfl (by kernel_rfl) (by kernel_rfl) (by kernel_rfl) (fun _ _ _ h => h) (yieldsIf_move (by kernel_rfl) rfl (by kernel_rfl)) S1 ?_
          refine held_take (i := 1) (v := .agg (vl r).toArray) (some 25) rfl rfl (by kernel_rfl) (by kernel_rfl) (by kernel_rfl) (fun _ _ _ h => h) (yieldsIf_load_mid (by kernel_rfl) 82 (.tmp 7) (by kernel_rfl) vb 0 (by kernel_rfl) (vl r) _ (fun W h => h.1) Tryd.underlyingV rfl HIR.out) S1 ?_
          refine held_take (i := 2) (v := .agg (vl u).toArray) (some 26) rfl rfl (by kernel_rfl) (by kernel_rfl) (by kernel_rfl) (fun _ _ _ h => h) (yieldsIf_load_mid (by kernel_rfl) 82 (.tmp 9) (by kernel_rfl) wr.heap.size 0 (by kernel_rfl) (vl u) _ (fun W h => h.2.1) Tryd.underlyingV rfl HI.out) S1 ?_
          refine held_take (i := 6) (v := .agg (vl u).toArray) (some 30) rfl rfl (by kernel_rfl) (by kernel_rfl) (by kernel_rfl) (fun _ _ _ h => h) (yieldsIf_load_mid (by kernel_rfl) 82 (.tmp 9) (by kernel_rfl) wr.heap.size 0 (by kernel_rfl) (vl u) _ (fun W h => h.2.1) Tryd.underlyingV rfl HI.out) S1 ?_
          refine held_enter (i := 3) (some 27) (f := 84) (args := #[vv u]) (by kernel_rfl) rfl rfl rfl (by kernel_rfl) (HLD.out _) ?_ (fun c w' h => by cases h.1) (fun w' h => by cases h.1)
          rintro e4 W4 ⟨he4, hb4⟩
          injection he4 with he4
          subst he4
          have S4 := HSN.out _ _ S1 hb4
          refine ⟨S4, ?_⟩
          clear hb4 S1 HS3
          refine held_take (i := 4) (v := .pointer (some ⟨vb, d, none⟩)) (some 28) rfl rfl (by kernel_rfl) (by kernel_rfl) (by kernel_rfl) (fun _ _ _ h => h) (yieldsIf_index (by kernel_rfl) rfl (by kernel_rfl) (by kernel_rfl) (hindexV vb hd40)) S4 ?_
          refine held_take (i := 5) (v := .int .i64 f) (some 29) rfl rfl (by kernel_rfl) (by kernel_rfl) (by kernel_rfl) (fun _ _ _ h => h) (yieldsIf_cell (by kernel_rfl) rfl (by kernel_rfl) (fun W h => hload W (hcellS W h))) S4 ?_
          refine held_enter (i := 7) (some 31) (f := 87) (args := #[.int .i64 p, vv r, .int .i64 f, vv u]) (by kernel_rfl) rfl rfl rfl (by kernel_rfl) (HMM.out _) ?_ (fun c w' h => by cases h.1) (fun w' h => by cases h.1)
          rintro e5 W5 ⟨he5, hb5⟩
          injection he5 with he5
          subst he5
          have S5 := HSN.out _ _ S4 hb5
          refine ⟨S5, ?_⟩
          clear hb5 S4
          refine held_none (i := 8) (v := .bool false) rfl rfl (by kernel_rfl) (by kernel_rfl) (by kernel_rfl) (fun _ _ _ h => h) (yieldsIf_move (by kernel_rfl) rfl (by kernel_rfl)) S5 ?_
          have HN6 := Lib.hid (S5.2.2.out.put y)
          refine wpAnyH_done (by kernel_rfl) (lastQ_store rfl (by kernel_rfl) (by kernel_rfl) 82 (.tmp 7) (.tmp 31) (by kernel_rfl) vb 0 (vl y).toArray (by kernel_rfl) (by kernel_rfl) (by have := S5.2.2.out.there; simpa [vl_length] using this) HI5.out (vl_all _) ?_) _
          simp only [Act.put, List.setIfInBounds_toArray, List.set_cons_zero, List.set_cons_succ]
          obtain ⟨W6, hW6⟩ : ∃ W6, W6 = W5.setCells vb 0 (vl y) := ⟨_, rfl⟩
          rw [show W5.setCells vb 0 (vl y).toArray.toList = W6 by rw [hW6]]
          rw [← hW6] at HN6
          clear hW6 S5 hcellS HSN HLD HMM HI5
          by_cases hy0 : y = Lin.zv
          · subst hy0
            have heq := heq_yes
            go_wp2_with (first | (with_reducible refine wpList_load_mid rfl 82 (.tmp 7) rfl vb 0 rfl (vl Lin.zv) _ HN6.out.at'.range Tryd.underlyingV rfl HIY.out ?_) | (with_reducible refine wpList_buildZ rfl (some 33) rfl rfl ?_))
            go_roundg g
            case rel => exact ⟨k + 1, R, by omega, by go_num, Lib.hid HN6.out.below, Lib.hid HN6.out.own, Lib.hid (by rw [HTK.out]; exact HR.out.skip (by omega) HTM.out HVM.out (HRE2.out.zero (by omega) rfl _)), by omega⟩
            case measure => omega
          · have heq := heq_no HYW.out hy0
            have HY0 := Lib.hid hy0
            clear hy0
            go_wp2_with (first | (with_reducible refine wpList_load_mid rfl 82 (.tmp 7) rfl vb 0 rfl (vl y) _ HN6.out.at'.range Tryd.underlyingV rfl HIY.out ?_) | (with_reducible refine wpList_buildZ rfl (some 33) rfl rfl ?_))
            go_roundg g2
            case rel => exact ⟨j + 1, y, by omega, by go_num, HN6, HRE2, HYW, HY0⟩
            case measure => omega
end Go.Proofs.YtaojiojldljhlaaDoor

