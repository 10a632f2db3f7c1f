/-
  Texts that ProofHml needs, part 2.
-/
import Derived.Test.YtpchbceohnabnabDoorZm1
import Derived.WalkKit
import Derived.Lib.Hide
import Derived.Deep.OwnRows
import Derived.Deep.Draws
import Derived.Test.YtpchbceohnabnabDoorChecked
import Derived.Outline
import Derived.Deep.QuietTactic
import Derived.BigQuiet
import Derived.BigRegion
import Derived.WalkLawsBesides
import Derived.Laws.CopyOwn
import Derived.OrdersHeld
import Derived.Deep.MidRow
import Derived.Deep.RegionHeld3
import Derived.StillTailTactics
import Derived.Deep.Cut
import Derived.Deep.CutRange
namespace Go.Proofs.YtpchbceohnabnabDoor
open Go.RowKit

theorem cell_lt {w : World} {b o : Nat} {u : Value} (h : w.cell? ⟨b, o, none⟩ = some u) : b < w.heap.size := World.block_lt_of_cell? _ _ h

/-- Cells of blocks from lo on (that were there) read as they did. -/
def Keep (lo : Nat) (w w' : World) : Prop := w.heap.size ≤ w'.heap.size ∧ ∀ b o, lo ≤ b → b < w.heap.size → w'.cell? ⟨b, o, none⟩ = w.cell? ⟨b, o, none⟩

theorem Keep.of_below {lo : Nat} {w w' : World} (h : Below w.heap.size w w') : Keep lo w w' := ⟨h.size, fun _ _ _ hb => h.cell (p := ⟨_, _, none⟩) hb⟩
theorem Keep.trans {lo : Nat} {a b c : World} (h : Keep lo a b) (k : Keep lo b c) : Keep lo a c :=
  ⟨Nat.le_trans h.1 k.1, fun i o hl hi => (k.2 i o hl (Nat.lt_of_lt_of_le hi h.1)).trans (h.2 i o hl hi)⟩
theorem Keep.set {lo g o : Nat} {w : World} (u : Value) (h : g < lo) : Keep lo w (w.setCell ⟨g, o, none⟩ u) :=
  ⟨by simp [World.setCell], fun b i hl _ => World.cell?_of_block (w := w) (a := ⟨b, i, none⟩) (Below.heap_setCell w ⟨g, o, none⟩ u b (by show b ≠ g; omega))⟩
theorem Keep.drewN {lo : Nat} (w : World) (n : Nat) : Keep lo w (w.drewN n) := ⟨Nat.le_refl _, fun _ _ _ _ => rfl⟩

/-- The slice value v reads, cell by cell, as the list xs (R: how one cell reads); its cells lie in blocks from lo on. -/
def Sl {α : Type} (lo : Nat) (R : World → Value → α → Prop) (w : World) (v : Value) (xs : List α) : Prop :=
  (xs = [] ∧ ∃ ad cap, v = .slice ad 0 cap) ∨
  ∃ b o cap, v = .slice (some ⟨b, o, none⟩) xs.length cap ∧ lo ≤ b ∧ 0 < xs.length ∧ ∀ k (h : k < xs.length), ∃ u, w.cell? ⟨b, o + k, none⟩ = some u ∧ R w u xs[k]

def IsI (_ : World) (v : Value) (x : Int) : Prop := v = .int .i64 x
def L1 (lo : Nat) := Sl lo IsI
def L2 (lo : Nat) := Sl lo (L1 lo)
def L3 (lo : Nat) := Sl lo (L2 lo)

def Stable {α : Type} (lo : Nat) (R : World → Value → α → Prop) : Prop := ∀ w w' v x, Keep lo w w' → R w v x → R w' v x
theorem stableI (lo : Nat) : Stable lo IsI := fun _ _ _ _ _ h => h
theorem Stable.sl {α : Type} {lo : Nat} {R : World → Value → α → Prop} (hR : Stable lo R) : Stable lo (Sl lo R) := by
  intro w w' v xs hk h
  rcases h with h | ⟨b, o, cap, hv, hlo, hpos, hc⟩
  · exact Or.inl h
  · refine Or.inr ⟨b, o, cap, hv, hlo, hpos, fun k hk' => ?_⟩
    obtain ⟨u, hu, hr⟩ := hc k hk'
    exact ⟨u, (hk.2 b (o + k) hlo (cell_lt hu)).trans hu, hR _ _ _ _ hk hr⟩
theorem stable1 (lo : Nat) : Stable lo (L1 lo) := (stableI lo).sl
theorem stable2 (lo : Nat) : Stable lo (L2 lo) := (stable1 lo).sl
theorem stable3 (lo : Nat) : Stable lo (L3 lo) := (stable2 lo).sl

theorem Sl.lower {α : Type} {lo lo' : Nat} {R R' : World → Value → α → Prop} (hl : lo' ≤ lo) (hR : ∀ w v x, R w v x → R' w v x) {w : World} {v : Value} {xs : List α} (h : Sl lo R w v xs) : Sl lo' R' w v xs := by
  rcases h with h | ⟨b, o, cap, hv, hlo, hpos, hc⟩
  · exact Or.inl h
  · refine Or.inr ⟨b, o, cap, hv, Nat.le_trans hl hlo, hpos, fun k hk' => ?_⟩
    obtain ⟨u, hu, hr⟩ := hc k hk'
    exact ⟨u, hu, hR _ _ _ hr⟩
theorem L1.lower {lo lo' : Nat} (hl : lo' ≤ lo) {w : World} {v : Value} {xs : List Int} (h : L1 lo w v xs) : L1 lo' w v xs := Sl.lower hl (fun _ _ _ h => h) h
theorem L2.lower {lo lo' : Nat} (hl : lo' ≤ lo) {w : World} {v : Value} {xs : List (List Int)} (h : L2 lo w v xs) : L2 lo' w v xs := Sl.lower hl (fun _ _ _ h => L1.lower hl h) h
theorem L3.lower {lo lo' : Nat} (hl : lo' ≤ lo) {w : World} {v : Value} {xs : List (List (List Int))} (h : L3 lo w v xs) : L3 lo' w v xs := Sl.lower hl (fun _ _ _ h => L2.lower hl h) h

theorem L1.below {lo : Nat} {w w' : World} {v : Value} {xs : List Int} (h : L1 lo w v xs) (hb : Below w.heap.size w w') : L1 lo w' v xs := stable1 lo _ _ _ _ (Keep.of_below hb) h
theorem L2.below {lo : Nat} {w w' : World} {v : Value} {xs : List (List Int)} (h : L2 lo w v xs) (hb : Below w.heap.size w w') : L2 lo w' v xs := stable2 lo _ _ _ _ (Keep.of_below hb) h
theorem L3.below {lo : Nat} {w w' : World} {v : Value} {xs : List (List (List Int))} (h : L3 lo w v xs) (hb : Below w.heap.size w w') : L3 lo w' v xs := stable3 lo _ _ _ _ (Keep.of_below hb) h

/-- The two shapes of a slice value. -/
theorem Sl.cases {α : Type} {lo : Nat} {R : World → Value → α → Prop} {w : World} {v : Value} {xs : List α} (h : Sl lo R w v xs) {P : Prop}
    (h0 : ∀ ad cap, xs = [] → v = .slice ad 0 cap → P)
    (h1 : ∀ b o cap, v = .slice (some ⟨b, o, none⟩) xs.length cap → lo ≤ b → 0 < xs.length → (∀ k (h : k < xs.length), ∃ u, w.cell? ⟨b, o + k, none⟩ = some u ∧ R w u xs[k]) → P) : P := by
  rcases h with ⟨h, ad, cap, hv⟩ | ⟨b, o, cap, hv, hlo, hpos, hc⟩
  · exact h0 ad cap h hv
  · exact h1 b o cap hv hlo hpos hc

/-- A slice that a call is filling: its own block g (the first that it made), n cells, the first k filled. -/
structure Fill {α : Type} (w wr : World) (t : TypeId) (n k : Nat) (z : Value) (R : World → Value → α → Prop) (xs : List α) (f : Nat → Value) : Prop where
  below : Below w.heap.size w wr
  row : wr.rowIs w.heap.size t n f
  done : ∀ j (h : j < xs.length), j < k → R wr (f j) (xs[j]'h)
  rest : ∀ j, k ≤ j → j < n → f j = z

theorem Fill.start {α : Type} (w : World) (t : TypeId) (n : Nat) (z : Value) (R : World → Value → α → Prop) (xs : List α) : Fill w (w.alloc (.cells (madeCells #[z] n) t)) t n 0 z R xs (fun _ => z) :=
  ⟨(Below.refl _ _).alloc (Nat.le_refl _) _, World.rowIs_made w z n t, fun _ _ h => absurd h (Nat.not_lt_zero _), fun _ _ _ => rfl⟩

/-- One cell more: behind a call that left w1 (all that was there is as it was), the store of u. -/
theorem Fill.step {α : Type} {w wr w1 : World} {t : TypeId} {n k : Nat} {z u : Value} {R : World → Value → α → Prop} {xs : List α} {f : Nat → Value} (hR : Stable (w.heap.size + 1) R) (h : Fill w wr t n k z R xs f)
    (hb : Below wr.heap.size wr w1) (hk : k < xs.length) (hu : R w1 u xs[k]) :
    Fill w (w1.setCell ⟨w.heap.size, k, none⟩ u) t n (k + 1) z R xs (fun j => if j = k then u else f j) := by
  have hlt := h.row.lt
  have hrow1 : w1.rowIs w.heap.size t n f := h.row.of_block (hb.block _ hlt)
  refine ⟨(h.below.trans (hb.mono (Nat.le_of_lt (by exact Nat.lt_of_le_of_lt (Nat.le_refl _) hlt)))).setCell (Nat.le_refl _) _, hrow1.set k u, fun j hj hjk => ?_, fun j h1 h2 => ?_⟩
  · by_cases e : j = k
    · subst e
      simp only [if_true]
      exact hR _ _ _ _ (Keep.set u (Nat.lt_succ_self _)) hu
    · rw [if_neg e]
      exact hR _ _ _ _ ((Keep.of_below hb).trans (Keep.set u (Nat.lt_succ_self _))) (h.done j hj (by omega))
  · rw [if_neg (by omega)]
    exact h.rest j (by omega) h2

/-- The filled slice reads as the list. -/
theorem Fill.sl {α : Type} {lo : Nat} {w wr : World} {t : TypeId} {z : Value} {R : World → Value → α → Prop} {xs : List α} {f : Nat → Value} (hlo : lo ≤ w.heap.size) (h : Fill w wr t xs.length xs.length z R xs f) :
    Sl lo R wr (.slice (some ⟨w.heap.size, 0, none⟩) xs.length xs.length) xs := by
  by_cases h0 : xs.length = 0
  · exact Or.inl ⟨List.eq_nil_of_length_eq_zero h0, _, _, by rw [h0]⟩
  · exact Or.inr ⟨w.heap.size, 0, xs.length, rfl, hlo, by omega, fun k hk => ⟨f k, by rw [Nat.zero_add]; exact h.row.cell hk, h.done k hk hk⟩⟩

/-- What is below B, said cell by cell, in the walk's own words. -/
theorem bcell {W w1 : World} (hb : Below W.heap.size W w1) : (∀ b o, b < W.heap.size → w1.cell? ⟨b, o, none⟩ = W.cell? ⟨b, o, none⟩) ∧ (∀ b o, b < W.heap.size → w1.frozen? ⟨b, o, none⟩ = W.frozen? ⟨b, o, none⟩) :=
  ⟨fun b o h => hb.cell (p := ⟨b, o, none⟩) h, fun b o h => hb.frozen (p := ⟨b, o, none⟩) h⟩

theorem drewN_below (w : World) (n : Nat) : Below w.heap.size w (w.drewN n) := ⟨rfl, rfl, rfl, Nat.le_refl _, fun _ _ => rfl⟩
theorem ret_int {k : IntKind} {a b : Int} (h : a = b) : Ending.returned (.int k a) = .returned (.int k b) := by rw [h]
theorem ret_bool {a b : Bool} (h : a = b) : Ending.returned (.bool a) = .returned (.bool b) := by rw [h]

/-- Every number of the list is at most n long, at every depth. -/
def Bd1 (n : Nat) (xs : List Int) : Prop := xs.length ≤ n
def Bd2 (n : Nat) (xs : List (List Int)) : Prop := xs.length ≤ n ∧ ∀ x ∈ xs, Bd1 n x
def Bd3 (n : Nat) (xs : List (List (List Int))) : Prop := xs.length ≤ n ∧ ∀ x ∈ xs, Bd2 n x

/-- How one of the bounds answers: -1, or a number from 0 on, and then the list is short. -/
def SzR (left : Int) (ok : Prop) (w : World) (e : Ending) (w' : World) : Prop := ∃ r : Int, e = .returned (.int .i64 r) ∧ w = w' ∧ (r = -1 ∨ 0 ≤ r ∧ r ≤ left ∧ ok)
def SzB (left : Int) (ok : Prop) (w : World) (e : Ending) (w' : World) : Prop := ∃ r : Int, e = .returned (.int .i64 r) ∧ Below w.heap.size w w' ∧ (r = -1 ∨ 0 ≤ r ∧ r ≤ left ∧ ok)

theorem Sl.shape {α : Type} {lo : Nat} {R : World → Value → α → Prop} {w : World} {v : Value} {xs : List α} (h : Sl lo R w v xs) : ∃ ad cap, v = .slice ad xs.length cap :=
  h.cases (fun ad cap hx hv => ⟨ad, cap, by subst hx; exact hv⟩) (fun b o cap hv _ _ _ => ⟨some ⟨b, o, none⟩, cap, hv⟩)
theorem owns_below {w w' : World} {base : Nat} {e : TypeId} {size n : Nat} {v : Value} {xs : List Value} (h : w.ownsRow base e size v n xs) (hb : Below w.heap.size w w') : w'.ownsRow base e size v n xs := by
  refine ⟨h.1, ?_⟩
  rcases h.2 with h2 | ⟨g, cap, cur, hv, hg, hh, r⟩
  · exact Or.inl h2
  · exact Or.inr ⟨g, cap, cur, hv, hg, by rw [hb.block g (Array.getElem?_eq_some_iff.1 hh).1]; exact hh, r⟩
/-- An owned slice of values reads as the list that its values read as. -/
theorem sl_of_owns {α : Type} {w : World} {base lo : Nat} {e : TypeId} {n : Nat} {v : Value} {vs : List Value} {R : World → Value → α → Prop} {xs : List α} (h : w.ownsRow base e 1 v n vs) (hlo : lo ≤ base) (hl : xs.length = n)
    (hR : ∀ k (h1 : k < xs.length) (h2 : k < vs.length), R w vs[k] xs[k]) : Sl lo R w v xs := by
  have hvl : vs.length = n := by have := h.1; omega
  rcases h.2 with ⟨rfl, h0⟩ | ⟨g, cap, cur, rfl, hg, hh, hnc, _, hcs, htk⟩
  · exact Or.inl ⟨List.eq_nil_of_length_eq_zero (by omega), _, _, rfl⟩
  · by_cases h0 : n = 0
    · subst h0
      exact Or.inl ⟨List.eq_nil_of_length_eq_zero hl, _, _, rfl⟩
    · refine Or.inr ⟨g, 0, cap, by rw [hl], by omega, by omega, fun k hk => ⟨vs[k]'(by omega), ?_, hR k hk (by omega)⟩⟩
      rw [Nat.zero_add, h.cellAt k (by omega)]
      simp
end Go.Proofs.YtpchbceohnabnabDoor

namespace Go.Proofs.YtpchbceohnabnabDoor
open Go.RowKit

theorem Tryd.infoI : (Tryd.prog.info? 2).map (fun i => (i.zero, i.size, i.bytes)) = some (some (.int .i64 0), 1, 8) := by kernel_rfl
theorem Tryd.infoS : (Tryd.prog.info? 22).map (fun i => (i.zero, i.size, i.bytes)) = some (some (.slice none 0 0), 1, 24) := by kernel_rfl
theorem Tryd.infoSS : (Tryd.prog.info? 48).map (fun i => (i.zero, i.size, i.bytes)) = some (some (.slice none 0 0), 1, 24) := by kernel_rfl

/-- A copy: a new slice in memory of its own that reads as the list. -/
def ToR {α : Type} (R : Nat → World → Value → α → Prop) (x : α) (w : World) (e : Ending) (w' : World) : Prop := ∃ v, e = .returned v ∧ R w.heap.size w' v x ∧ Below w.heap.size w w'

set_option maxHeartbeats 400000 in
theorem to1_any (v : Value) (xs : List Int) (w : World) (h : L1 0 w v xs) (hm : xs.length ≤ 1048576) :
    Calls Tryd.prog 34 #[v] w (ToR L1 xs w) := by
  have hmk := run_make_row' (P := Tryd.prog) 22 2 (.int .i64 0) 8 Tryd.underlying22 Tryd.infoI rfl .i64 .i64 xs.length (by omega) (by omega)
  refine Sl.cases h (fun ad cap hx hv => ?_) (fun b o cap hv _ hpos hc => ?_)
  · subst hx hv
    have hmk0 : ∀ w, (Instr.makeSlice 22 (.int .i64 0) (.int .i64 0)).run Tryd.prog w = .ok (.slice (some ⟨w.heap.size, 0, none⟩) 0 0) (w.alloc (.cells #[] 2)) := fun _ => by kernel_rfl
    clear hmk
    go_enter Tryd.func34, Tryd.ntmps34
    go_wp2
    refine wp_loop_rounds 1 ?_
    rw [rounds_succ]
    go_wp2
    go_ret
    exact ⟨_, rfl, Or.inl ⟨rfl, _, _, rfl⟩, (Below.refl _ _).alloc (Nat.le_refl _) _⟩
  · subst hv
    clear h
    have HC := Lib.hid hc
    clear hc
    go_enter Tryd.func34, Tryd.ntmps34
    go_wp2
    clear hmk
    go_loopw [4] (fun i wr => ∃ (k : Nat) (f : Nat → Value), k ≤ xs.length ∧ i = .int .i64 k ∧ Fill w wr 2 xs.length k (.int .i64 0) IsI xs f) (fun i _ => xs.length - (intOf i).toNat)
    case atStart => exact ⟨0, _, Nat.zero_le _, rfl, Fill.start _ _ _ _ _ _⟩
    case round =>
      obtain ⟨k, f, hk, rfl, HF⟩ := hrel
      by_cases hlt2 : k < xs.length
      · obtain ⟨u, hu, hr⟩ := HC.out k hlt2
        have hu' : wr.cell? ⟨b, o + k, none⟩ = some (.int .i64 xs[k]) := by
          rw [HF.below.cell (p := ⟨b, o + k, none⟩) (cell_lt hu), hu, hr]
        have hc1 := HF.row.cell hlt2
        have hc2 := HF.row.frozen k
        have HS := HF.step (w1 := wr) (u := .int .i64 xs[k]) (stableI _) (Below.refl _ _) hlt2 rfl
        have HF' := Lib.hid HF
        have HS' := Lib.hid HS
        clear HF HS hu hr
        go_wp2
        go_roundw
        case rel => exact ⟨k + 1, _, by omega, by go_num, HS'.out⟩
        case measure => simp [intOf]; omega
      · obtain rfl : k = xs.length := by omega
        have HF' := Lib.hid HF
        clear HF
        go_wp2
        go_ret
        exact ⟨_, rfl, HF'.out.sl (Nat.le_refl _), HF'.out.below⟩

set_option maxHeartbeats 400000 in
theorem to2_any (v : Value) (xs : List (List Int)) (w : World) (h : L2 0 w v xs) (hm : Bd2 1048576 xs) :
    Calls Tryd.prog 35 #[v] w (ToR L2 xs w) := by
  have hml : xs.length ≤ 1048576 := hm.1
  have HM := Lib.hid hm
  clear hm
  have hmk := run_make_row' (P := Tryd.prog) 48 22 (.slice none 0 0) 24 Tryd.underlying48 Tryd.infoS rfl .i64 .i64 xs.length (by omega) (by omega)
  refine Sl.cases h (fun ad cap hx hv => ?_) (fun b o cap hv _ hpos hc => ?_)
  · subst hx hv
    have hmk0 : ∀ w, (Instr.makeSlice 48 (.int .i64 0) (.int .i64 0)).run Tryd.prog w = .ok (.slice (some ⟨w.heap.size, 0, none⟩) 0 0) (w.alloc (.cells #[] 22)) := fun _ => by kernel_rfl
    clear hmk
    go_enter Tryd.func35, Tryd.ntmps35
    go_wp2
    refine wp_loop_rounds 1 ?_
    rw [rounds_succ]
    go_wp2
    go_ret
    exact ⟨_, rfl, Or.inl ⟨rfl, _, _, rfl⟩, (Below.refl _ _).alloc (Nat.le_refl _) _⟩
  · subst hv
    clear h
    have HC := Lib.hid hc
    clear hc
    go_enter Tryd.func35, Tryd.ntmps35
    go_wp2
    clear hmk
    go_loopw [4] (fun i wr => ∃ (k : Nat) (f : Nat → Value), k ≤ xs.length ∧ i = .int .i64 k ∧ Fill w wr 22 xs.length k (.slice none 0 0) (L1 (w.heap.size + 1)) xs f) (fun i _ => xs.length - (intOf i).toNat)
    case atStart => exact ⟨0, _, Nat.zero_le _, rfl, Fill.start _ _ _ _ _ _⟩
    case round =>
      obtain ⟨k, f, hk, rfl, HF⟩ := hrel
      by_cases hlt2 : k < xs.length
      · obtain ⟨u, hu, hr⟩ := HC.out k hlt2
        have hu' : wr.cell? ⟨b, o + k, none⟩ = some u := by
          rw [HF.below.cell (p := ⟨b, o + k, none⟩) (cell_lt hu), hu]
        have hr' : L1 0 wr u xs[k] := hr.below HF.below
        have hmx : (xs[k]).length ≤ 1048576 := HM.out.2 _ (List.getElem_mem hlt2)
        have HF' := Lib.hid HF
        have HR' := Lib.hid hr'
        clear HF hu hr hr'
        go_wp2_with fail
        refine (to1_any u xs[k] _ HR'.out hmx).mono ?_
        rintro e w1 ⟨u1, rfl, hr1, hb1⟩
        obtain ⟨ad1, cap1, rfl⟩ := Sl.shape hr1
        have hlr := HF'.out.row.lt
        have hc1 : w1.cell? ⟨w.heap.size, k, none⟩ = some (f k) := (hb1.cell (p := ⟨w.heap.size, k, none⟩) hlr).trans (HF'.out.row.cell hlt2)
        have hc2 : w1.frozen? ⟨w.heap.size, k, none⟩ = false := (hb1.frozen (p := ⟨w.heap.size, k, none⟩) hlr).trans (HF'.out.row.frozen k)
        have HS := Lib.hid (HF'.out.step (w1 := w1) (u := _) (stable1 _) hb1 hlt2 (hr1.lower hlr))
        clear hr1 hb1 hlr
        go_wp2
        go_roundw
        case rel => exact ⟨k + 1, _, by omega, by go_num, HS.out⟩
        case measure => simp [intOf]; omega
      · obtain rfl : k = xs.length := by omega
        have HF' := Lib.hid HF
        clear HF
        go_wp2
        go_ret
        exact ⟨_, rfl, Sl.lower (Nat.le_refl _) (fun _ _ _ h => h.lower (Nat.le_succ _)) (HF'.out.sl (Nat.le_refl _)), HF'.out.below⟩

set_option maxHeartbeats 400000 in
theorem to3_any (v : Value) (xs : List (List (List Int))) (w : World) (h : L3 0 w v xs) (hm : Bd3 1048576 xs) :
    Calls Tryd.prog 13 #[v] w (ToR L3 xs w) := by
  have hml : xs.length ≤ 1048576 := hm.1
  have HM := Lib.hid hm
  clear hm
  have hmk := run_make_row' (P := Tryd.prog) 23 48 (.slice none 0 0) 24 Tryd.underlying23 Tryd.infoSS rfl .i64 .i64 xs.length (by omega) (by omega)
  refine Sl.cases h (fun ad cap hx hv => ?_) (fun b o cap hv _ hpos hc => ?_)
  · subst hx hv
    have hmk0 : ∀ w, (Instr.makeSlice 23 (.int .i64 0) (.int .i64 0)).run Tryd.prog w = .ok (.slice (some ⟨w.heap.size, 0, none⟩) 0 0) (w.alloc (.cells #[] 48)) := fun _ => by kernel_rfl
    clear hmk
    go_enter Tryd.func13, Tryd.ntmps13
    go_wp2
    refine wp_loop_rounds 1 ?_
    rw [rounds_succ]
    go_wp2
    go_ret
    exact ⟨_, rfl, Or.inl ⟨rfl, _, _, rfl⟩, (Below.refl _ _).alloc (Nat.le_refl _) _⟩
  · subst hv
    clear h
    have HC := Lib.hid hc
    clear hc
    go_enter Tryd.func13, Tryd.ntmps13
    go_wp2
    clear hmk
    go_loopw [4] (fun i wr => ∃ (k : Nat) (f : Nat → Value), k ≤ xs.length ∧ i = .int .i64 k ∧ Fill w wr 48 xs.length k (.slice none 0 0) (L2 (w.heap.size + 1)) xs f) (fun i _ => xs.length - (intOf i).toNat)
    case atStart => exact ⟨0, _, Nat.zero_le _, rfl, Fill.start _ _ _ _ _ _⟩
    case round =>
      obtain ⟨k, f, hk, rfl, HF⟩ := hrel
      by_cases hlt2 : k < xs.length
      · obtain ⟨u, hu, hr⟩ := HC.out k hlt2
        have hu' : wr.cell? ⟨b, o + k, none⟩ = some u := by
          rw [HF.below.cell (p := ⟨b, o + k, none⟩) (cell_lt hu), hu]
        have hr' : L2 0 wr u xs[k] := hr.below HF.below
        have hmx : Bd2 1048576 xs[k] := HM.out.2 _ (List.getElem_mem hlt2)
        have HF' := Lib.hid HF
        have HR' := Lib.hid hr'
        clear HF hu hr hr'
        go_wp2_with fail
        refine (to2_any u xs[k] _ HR'.out hmx).mono ?_
        rintro e w1 ⟨u1, rfl, hr1, hb1⟩
        obtain ⟨ad1, cap1, rfl⟩ := Sl.shape hr1
        have hlr := HF'.out.row.lt
        have hc1 : w1.cell? ⟨w.heap.size, k, none⟩ = some (f k) := (hb1.cell (p := ⟨w.heap.size, k, none⟩) hlr).trans (HF'.out.row.cell hlt2)
        have hc2 : w1.frozen? ⟨w.heap.size, k, none⟩ = false := (hb1.frozen (p := ⟨w.heap.size, k, none⟩) hlr).trans (HF'.out.row.frozen k)
        have HS := Lib.hid (HF'.out.step (w1 := w1) (u := _) (stable2 _) hb1 hlt2 (hr1.lower hlr))
        clear hr1 hb1 hlr
        go_wp2
        go_roundw
        case rel => exact ⟨k + 1, _, by omega, by go_num, HS.out⟩
        case measure => simp [intOf]; omega
      · obtain rfl : k = xs.length := by omega
        have HF' := Lib.hid HF
        clear HF
        go_wp2
        go_ret
        exact ⟨_, rfl, Sl.lower (Nat.le_refl _) (fun _ _ _ h => h.lower (Nat.le_succ _)) (HF'.out.sl (Nat.le_refl _)), HF'.out.below⟩

/-- A whole complex in three values. -/
structure Cx (lo : Nat) (w : World) (dv mv : Value) (ds : List Int) (ms : List (List (List Int))) : Prop where
  dims : L1 lo w dv ds
  maps : L3 lo w mv ms
theorem Cx.below {lo : Nat} {w w' : World} {dv mv : Value} {ds : List Int} {ms : List (List (List Int))} (h : Cx lo w dv mv ds ms) (hb : Below w.heap.size w w') : Cx lo w' dv mv ds ms := ⟨h.dims.below hb, h.maps.below hb⟩
theorem Cx.lower {lo lo' : Nat} (hl : lo' ≤ lo) {w : World} {dv mv : Value} {ds : List Int} {ms : List (List (List Int))} (h : Cx lo w dv mv ds ms) : Cx lo' w dv mv ds ms := ⟨h.dims.lower hl, h.maps.lower hl⟩

def ToC (p : Int) (ds : List Int) (ms : List (List (List Int))) (w : World) (e : Ending) (w' : World) : Prop :=
  ∃ dv mv, e = .returned (.agg #[.int .i64 p, dv, mv]) ∧ Cx w.heap.size w' dv mv ds ms ∧ Below w.heap.size w w'

set_option maxHeartbeats 800000 in
theorem toComplex_any (p : Int) (dv mv : Value) (ds : List Int) (ms : List (List (List Int))) (w : World) (h : Cx 0 w dv mv ds ms) (hd : ds.length ≤ 1048576) (hm : Bd3 1048576 ms) :
    Calls Tryd.prog 12 #[.agg #[.int .i64 p, dv, mv]] w (ToC p ds ms w) := by
  have HM := Lib.hid hm
  have H := Lib.hid h
  clear hm h
  have hres : Tryd.f12.results = #[.cell 2 30] := by kernel_rfl
  have HRES := Lib.hid hres
  clear hres
  go_enter Tryd.func12, Tryd.ntmps12
  go_wp2_with fail
  have hb0 : Below w.heap.size w (((w.alloc (.cells #[.int .i64 p, dv, mv] 25)).alloc (.cells #[.int .i64 0, .slice none 0 0, .slice none 0 0] 30)).alloc (.cells #[.int .i64 p, .slice none 0 0, .slice none 0 0] 30)) :=
    (((Below.refl _ _).alloc (Nat.le_refl _) _).alloc (by simp) _).alloc (by simp; omega) _
  have HB0 := Lib.hid hb0
  clear hb0
  refine (to1_any dv ds _ (H.out.dims.below HB0.out) hd).mono ?_
  rintro e w1 ⟨u1, rfl, hr1, hb1⟩
  obtain ⟨ad1, cap1, rfl⟩ := Sl.shape hr1
  have hz : w.heap.size + 3 ≤ w1.heap.size := by have := hb1.size; simp at this; omega
  obtain ⟨hc, hf⟩ := bcell hb1
  have HR1 := Lib.hid hr1
  have HB1 := Lib.hid hb1
  clear hr1 hb1
  have hz1b : w.heap.size + 1 < w1.heap.size := by omega
  have hz1 : w.heap.size + 1 + 1 < w1.heap.size := by have := HB1.out.size; simp at this; omega
  have HR1' := Lib.hid (stable1 (w.heap.size + 1 + 1 + 1) _ _ _ _ (Keep.set (o := 1) (.slice ad1 ds.length cap1) (Nat.lt_succ_self _)) (HR1.out.lower (by simp)))
  clear HR1
  go_wp2_with fail
  have hb2 : Below w.heap.size w (w1.setCell ⟨w.heap.size + 1 + 1, 1, none⟩ (.slice ad1 ds.length cap1)) := (HB0.out.trans (HB1.out.mono (by simp; omega))).setCell (by show w.heap.size ≤ w.heap.size + 1 + 1; omega) _
  have HB2 := Lib.hid hb2
  clear hb2
  refine (to3_any mv ms _ (H.out.maps.below HB2.out) HM.out).mono ?_
  rintro e w2 ⟨u2, rfl, hr2, hb3⟩
  obtain ⟨ad2, cap2, rfl⟩ := Sl.shape hr2
  have hz2 : w1.heap.size ≤ w2.heap.size := by have := hb3.size; simpa using this
  have HR1 := Lib.hid (HR1'.out.below hb3)
  obtain ⟨hc2, hf2⟩ := bcell hb3
  have HR2 := Lib.hid hr2
  have HB3 := Lib.hid hb3
  clear hr2 hb3 HR1'
  go_wp2
  refine bodyPost_ret (v := .agg #[.int .i64 p, .slice ad1 ds.length cap1, .slice ad2 ms.length cap2]) ?_ rfl ?_
  · simp only [results, HRES.out]
    go_simp
  · have hk : Keep (w.heap.size + 1 + 1 + 1) w2 ((((w2.setCell ⟨w.heap.size + 1 + 1, 2, none⟩ (.slice ad2 ms.length cap2)).setCell ⟨w.heap.size + 1, 0, none⟩ (.int .i64 p)).setCell ⟨w.heap.size + 1, 1, none⟩ (.slice ad1 ds.length cap1)).setCell ⟨w.heap.size + 1, 2, none⟩ (.slice ad2 ms.length cap2)) :=
      (((Keep.set _ (by omega)).trans (Keep.set _ (by omega))).trans (Keep.set _ (by omega))).trans (Keep.set _ (by omega))
    refine ⟨_, _, rfl, ⟨?_, ?_⟩, ?_⟩
    · exact (stable1 _ _ _ _ _ hk HR1.out).lower (by omega)
    · exact (stable3 _ _ _ _ _ hk (HR2.out.lower (by simp; omega))).lower (by omega)
    · exact ((((HB2.out.trans (HB3.out.mono (by simp; omega))).setCell (by show w.heap.size ≤ w.heap.size + 1 + 1; omega) _).setCell (by show w.heap.size ≤ w.heap.size + 1; omega) _).setCell (by show w.heap.size ≤ w.heap.size + 1; omega) _).setCell (by show w.heap.size ≤ w.heap.size + 1; omega) _
end Go.Proofs.YtpchbceohnabnabDoor

namespace Go.Proofs.YtpchbceohnabnabDoor
open Go.RowKit

/-- A call that only reads: its value, and a world that parts from the first in draws alone. -/
def QR (v : Value) (w : World) (e : Ending) (w' : World) : Prop := e = .returned v ∧ ∃ m, w' = w.drewN m

theorem list_eq_take {α : Type} {xs ys : List α} {k : Nat} (hl : ys.length = xs.length) (hk : k = xs.length) (h : ∀ j (h1 : j < xs.length) (h2 : j < ys.length), j < k → xs[j] = ys[j]) : xs = ys :=
  List.ext_getElem hl.symm fun j h1 h2 => h j h1 h2 (by omega)

set_option maxHeartbeats 800000 in
theorem eq1_any (va vb : Value) (xs ys : List Int) (w : World) (ha : L1 0 w va xs) (hb : L1 0 w vb ys) (hm : xs.length ≤ 1048576) (hn : ys.length ≤ 1048576) :
    Calls Tryd.prog 38 #[va, vb] w (QR (.bool (decide (xs = ys))) w) := by
  by_cases hl : ys.length = xs.length
  · refine Sl.cases ha (fun ad cap hx hv => ?_) (fun b o cap hv _ hpos hc => ?_)
    · subst hx hv
      obtain ⟨ad2, cap2, hv2⟩ := Sl.shape hb
      rw [hl] at hv2
      obtain rfl : ys = [] := List.eq_nil_of_length_eq_zero hl
      subst hv2
      clear ha hb hl
      go_enter Tryd.func38, Tryd.ntmps38
      go_wp2
      refine wp_loop_rounds 1 ?_
      rw [rounds_succ]
      go_wp2
      go_ret
      exact ⟨rfl, 0, rfl⟩
    · refine Sl.cases hb (fun ad cap hx hv => absurd hl (by subst hx; simp; omega)) (fun b2 o2 cap2 hv2 _ hpos2 hc2 => ?_)
      rw [hl] at hv2
      subst hv hv2
      clear ha hb
      have HL := Lib.hid hl
      have HC := Lib.hid hc
      have HC2 := Lib.hid hc2
      clear hl hc hc2
      go_enter Tryd.func38, Tryd.ntmps38
      go_wp2
      go_loopw [5] (fun i wr => ∃ (k m : Nat), k ≤ xs.length ∧ i = .int .i64 k ∧ wr = w.drewN m ∧ Hid (∀ j (h1 : j < xs.length) (h2 : j < ys.length), j < k → xs[j] = ys[j])) (fun i _ => xs.length - (intOf i).toNat)
      case atStart => exact ⟨0, 0, Nat.zero_le _, rfl, rfl, Lib.hid (fun _ _ _ h => absurd h (Nat.not_lt_zero _))⟩
      case round =>
        obtain ⟨k, m, hk, rfl, rfl, HD⟩ := hrel
        by_cases hlt2 : k < xs.length
        · have hlt3 : k < ys.length := by have := HL.out; omega
          obtain ⟨u, hu, hr⟩ := HC.out k hlt2
          obtain ⟨u2, hu2, hr2⟩ := HC2.out k hlt3
          obtain ⟨x, hx⟩ : ∃ x, x = xs[k] := ⟨_, rfl⟩
          obtain ⟨y, hy⟩ : ∃ y, y = ys[k] := ⟨_, rfl⟩
          rw [hr, ← hx] at hu
          rw [hr2, ← hy] at hu2
          have HX := Lib.hid hx
          have HY := Lib.hid hy
          clear hx hy hr hr2
          by_cases hxy : x = y
          · have HXY := Lib.hid hxy
            have hq : (x != y) = false := by simp [hxy]
            have hq2 : (x == y) = true := by simp [hxy]
            clear hxy
            go_wp2
            go_quiet (fail)
            go_wp2
            go_roundw
            case rel => exact ⟨k + 1, _, by omega, by go_num, rfl, Lib.hid (fun j h1 h2 hjk => by
              by_cases e : j = k
              · subst e; rw [← HX.out, ← HY.out, HXY.out]
              · exact HD.out j h1 h2 (by omega))⟩
            case measure => simp [intOf]; omega
          · have HXY := Lib.hid hxy
            have hq : (x != y) = true := by simp [hxy]
            have hq2 : (x == y) = false := by simp [hxy]
            clear hxy
            go_wp2
            go_quiet (fail)
            go_wp2
            go_ret
            refine ⟨ret_bool ?_, m + nq, by rw [World.drewN_drewN]⟩
            have hne : ¬ xs = ys := fun e => HXY.out (by rw [HX.out, HY.out]; subst e; rfl)
            simp [hne]
        · go_wp2
          go_ret
          refine ⟨ret_bool ?_, m, rfl⟩
          have := list_eq_take HL.out (by omega) HD.out
          simp [this]
  · obtain ⟨ad, cap, rfl⟩ := Sl.shape ha
    obtain ⟨ad2, cap2, rfl⟩ := Sl.shape hb
    clear ha hb
    have hq : ((xs.length : Int) != (ys.length : Int)) = true := by simp; omega
    have hq2 : ((xs.length : Int) == (ys.length : Int)) = false := by simp; omega
    have HL := Lib.hid hl
    clear hl
    go_enter Tryd.func38, Tryd.ntmps38
    go_wp2
    go_ret
    refine ⟨ret_bool ?_, 0, rfl⟩
    have hne : ¬ xs = ys := fun e => HL.out (by rw [e])
    simp [hne]

set_option maxHeartbeats 800000 in
theorem eq2_any (va vb : Value) (xs ys : List (List Int)) (w : World) (ha : L2 0 w va xs) (hb : L2 0 w vb ys) (hm : Bd2 1048576 xs) (hn : Bd2 1048576 ys) :
    Calls Tryd.prog 39 #[va, vb] w (QR (.bool (decide (xs = ys))) w) := by
  have hm0 : xs.length ≤ 1048576 := hm.1
  have hn0 : ys.length ≤ 1048576 := hn.1
  have HM := Lib.hid hm
  have HN := Lib.hid hn
  clear hm hn
  by_cases hl : ys.length = xs.length
  · refine Sl.cases ha (fun ad cap hx hv => ?_) (fun b o cap hv _ hpos hc => ?_)
    · subst hx hv
      obtain ⟨ad2, cap2, hv2⟩ := Sl.shape hb
      rw [hl] at hv2
      obtain rfl : ys = [] := List.eq_nil_of_length_eq_zero hl
      subst hv2
      clear ha hb hl
      go_enter Tryd.func39, Tryd.ntmps39
      go_wp2
      refine wp_loop_rounds 1 ?_
      rw [rounds_succ]
      go_wp2
      go_ret
      exact ⟨rfl, 0, rfl⟩
    · refine Sl.cases hb (fun ad cap hx hv => absurd hl (by subst hx; simp; omega)) (fun b2 o2 cap2 hv2 _ hpos2 hc2 => ?_)
      rw [hl] at hv2
      subst hv hv2
      clear ha hb
      have HL := Lib.hid hl
      have HC := Lib.hid hc
      have HC2 := Lib.hid hc2
      clear hl hc hc2
      go_enter Tryd.func39, Tryd.ntmps39
      go_wp2
      go_loopw [5] (fun i wr => ∃ (k m : Nat), k ≤ xs.length ∧ i = .int .i64 k ∧ wr = w.drewN m ∧ Hid (∀ j (h1 : j < xs.length) (h2 : j < ys.length), j < k → xs[j] = ys[j])) (fun i _ => xs.length - (intOf i).toNat)
      case atStart => exact ⟨0, 0, Nat.zero_le _, rfl, rfl, Lib.hid (fun _ _ _ h => absurd h (Nat.not_lt_zero _))⟩
      case round =>
        obtain ⟨k, m, hk, rfl, hw, HD⟩ := hrel
        have HW := Lib.hid hw
        clear hw
        by_cases hlt2 : k < xs.length
        · have hlt3 : k < ys.length := by have := HL.out; omega
          obtain ⟨u, hu, hr⟩ := HC.out k hlt2
          obtain ⟨u2, hu2, hr2⟩ := HC2.out k hlt3
          have hu' : wr.cell? ⟨b, o + k, none⟩ = some u := by rw [HW.out]; exact hu
          have hu2' : wr.cell? ⟨b2, o2 + k, none⟩ = some u2 := by rw [HW.out]; exact hu2
          have HE := Lib.hid (fun (m2 : Nat) => eq1_any u u2 xs[k] ys[k] (wr.drewN m2) (by rw [HW.out]; exact (hr.below (drewN_below w m)).below (drewN_below _ m2)) (by rw [HW.out]; exact (hr2.below (drewN_below w m)).below (drewN_below _ m2)) (HM.out.2 _ (List.getElem_mem hlt2)) (HN.out.2 _ (List.getElem_mem hlt3)))
          clear hr hr2 hu hu2
          by_cases hxy : xs[k] = ys[k]
          · have HXY := Lib.hid hxy
            have HE' : Hid (∀ m2 : Nat, Calls Tryd.prog 38 #[u, u2] (wr.drewN m2) (QR (.bool true) (wr.drewN m2))) := Lib.hid (fun m2 => by have := HE.out m2; rwa [decide_eq_true hxy] at this)
            clear hxy HE
            go_wp2
            go_quiet ((go_at_call 38; exact Calls.quiet_of (HE'.out _)))
            go_wp2
            go_roundw
            case rel => exact ⟨k + 1, m + nq, by omega, by go_num, by rw [HW.out, World.drewN_drewN], Lib.hid (fun j h1 h2 hjk => by
              by_cases e : j = k
              · subst e; exact HXY.out
              · exact HD.out j h1 h2 (by omega))⟩
            case measure => simp [intOf]; omega
          · have HXY := Lib.hid hxy
            have HE' : Hid (∀ m2 : Nat, Calls Tryd.prog 38 #[u, u2] (wr.drewN m2) (QR (.bool false) (wr.drewN m2))) := Lib.hid (fun m2 => by have := HE.out m2; rwa [decide_eq_false hxy] at this)
            clear hxy HE
            go_wp2
            go_quiet ((go_at_call 38; exact Calls.quiet_of (HE'.out _)))
            go_wp2
            go_ret
            refine ⟨ret_bool ?_, m + nq, by rw [HW.out, World.drewN_drewN]⟩
            have hne : ¬ xs = ys := fun e => HXY.out (by subst e; rfl)
            simp [hne]
        · go_wp2
          go_ret
          refine ⟨ret_bool ?_, m, HW.out⟩
          have := list_eq_take HL.out (by omega) HD.out
          simp [this]
  · obtain ⟨ad, cap, rfl⟩ := Sl.shape ha
    obtain ⟨ad2, cap2, rfl⟩ := Sl.shape hb
    clear ha hb
    have hq : ((xs.length : Int) != (ys.length : Int)) = true := by simp; omega
    have hq2 : ((xs.length : Int) == (ys.length : Int)) = false := by simp; omega
    have HL := Lib.hid hl
    clear hl
    go_enter Tryd.func39, Tryd.ntmps39
    go_wp2
    go_ret
    refine ⟨ret_bool ?_, 0, rfl⟩
    have hne : ¬ xs = ys := fun e => HL.out (by rw [e])
    simp [hne]

set_option maxHeartbeats 800000 in
theorem eq3_any (va vb : Value) (xs ys : List (List (List Int))) (w : World) (ha : L3 0 w va xs) (hb : L3 0 w vb ys) (hm : Bd3 1048576 xs) (hn : Bd3 1048576 ys) :
    Calls Tryd.prog 16 #[va, vb] w (QR (.bool (decide (xs = ys))) w) := by
  have hm0 : xs.length ≤ 1048576 := hm.1
  have hn0 : ys.length ≤ 1048576 := hn.1
  have HM := Lib.hid hm
  have HN := Lib.hid hn
  clear hm hn
  by_cases hl : ys.length = xs.length
  · refine Sl.cases ha (fun ad cap hx hv => ?_) (fun b o cap hv _ hpos hc => ?_)
    · subst hx hv
      obtain ⟨ad2, cap2, hv2⟩ := Sl.shape hb
      rw [hl] at hv2
      obtain rfl : ys = [] := List.eq_nil_of_length_eq_zero hl
      subst hv2
      clear ha hb hl
      go_enter Tryd.func16, Tryd.ntmps16
      go_wp2
      refine wp_loop_rounds 1 ?_
      rw [rounds_succ]
      go_wp2
      go_ret
      exact ⟨rfl, 0, rfl⟩
    · refine Sl.cases hb (fun ad cap hx hv => absurd hl (by subst hx; simp; omega)) (fun b2 o2 cap2 hv2 _ hpos2 hc2 => ?_)
      rw [hl] at hv2
      subst hv hv2
      clear ha hb
      have HL := Lib.hid hl
      have HC := Lib.hid hc
      have HC2 := Lib.hid hc2
      clear hl hc hc2
      go_enter Tryd.func16, Tryd.ntmps16
      go_wp2
      go_loopw [5] (fun i wr => ∃ (k m : Nat), k ≤ xs.length ∧ i = .int .i64 k ∧ wr = w.drewN m ∧ Hid (∀ j (h1 : j < xs.length) (h2 : j < ys.length), j < k → xs[j] = ys[j])) (fun i _ => xs.length - (intOf i).toNat)
      case atStart => exact ⟨0, 0, Nat.zero_le _, rfl, rfl, Lib.hid (fun _ _ _ h => absurd h (Nat.not_lt_zero _))⟩
      case round =>
        obtain ⟨k, m, hk, rfl, hw, HD⟩ := hrel
        have HW := Lib.hid hw
        clear hw
        by_cases hlt2 : k < xs.length
        · have hlt3 : k < ys.length := by have := HL.out; omega
          obtain ⟨u, hu, hr⟩ := HC.out k hlt2
          obtain ⟨u2, hu2, hr2⟩ := HC2.out k hlt3
          have hu' : wr.cell? ⟨b, o + k, none⟩ = some u := by rw [HW.out]; exact hu
          have hu2' : wr.cell? ⟨b2, o2 + k, none⟩ = some u2 := by rw [HW.out]; exact hu2
          have HE := Lib.hid (fun (m2 : Nat) => eq2_any u u2 xs[k] ys[k] (wr.drewN m2) (by rw [HW.out]; exact (hr.below (drewN_below w m)).below (drewN_below _ m2)) (by rw [HW.out]; exact (hr2.below (drewN_below w m)).below (drewN_below _ m2)) (HM.out.2 _ (List.getElem_mem hlt2)) (HN.out.2 _ (List.getElem_mem hlt3)))
          clear hr hr2 hu hu2
          by_cases hxy : xs[k] = ys[k]
          · have HXY := Lib.hid hxy
            have HE' : Hid (∀ m2 : Nat, Calls Tryd.prog 39 #[u, u2] (wr.drewN m2) (QR (.bool true) (wr.drewN m2))) := Lib.hid (fun m2 => by have := HE.out m2; rwa [decide_eq_true hxy] at this)
            clear hxy HE
            go_wp2
            go_quiet ((go_at_call 39; exact Calls.quiet_of (HE'.out _)))
            go_wp2
            go_roundw
            case rel => exact ⟨k + 1, m + nq, by omega, by go_num, by rw [HW.out, World.drewN_drewN], Lib.hid (fun j h1 h2 hjk => by
              by_cases e : j = k
              · subst e; exact HXY.out
              · exact HD.out j h1 h2 (by omega))⟩
            case measure => simp [intOf]; omega
          · have HXY := Lib.hid hxy
            have HE' : Hid (∀ m2 : Nat, Calls Tryd.prog 39 #[u, u2] (wr.drewN m2) (QR (.bool false) (wr.drewN m2))) := Lib.hid (fun m2 => by have := HE.out m2; rwa [decide_eq_false hxy] at this)
            clear hxy HE
            go_wp2
            go_quiet ((go_at_call 39; exact Calls.quiet_of (HE'.out _)))
            go_wp2
            go_ret
            refine ⟨ret_bool ?_, m + nq, by rw [HW.out, World.drewN_drewN]⟩
            have hne : ¬ xs = ys := fun e => HXY.out (by subst e; rfl)
            simp [hne]
        · go_wp2
          go_ret
          refine ⟨ret_bool ?_, m, HW.out⟩
          have := list_eq_take HL.out (by omega) HD.out
          simp [this]
  · obtain ⟨ad, cap, rfl⟩ := Sl.shape ha
    obtain ⟨ad2, cap2, rfl⟩ := Sl.shape hb
    clear ha hb
    have hq : ((xs.length : Int) != (ys.length : Int)) = true := by simp; omega
    have hq2 : ((xs.length : Int) == (ys.length : Int)) = false := by simp; omega
    have HL := Lib.hid hl
    clear hl
    go_enter Tryd.func16, Tryd.ntmps16
    go_wp2
    go_ret
    refine ⟨ret_bool ?_, 0, rfl⟩
    have hne : ¬ xs = ys := fun e => HL.out (by rw [e])
    simp [hne]

/-- A call that answers a value and leaves what was there. -/
def BR (v : Value) (w : World) (e : Ending) (w' : World) : Prop := e = .returned v ∧ Below w.heap.size w w'

set_option maxHeartbeats 800000 in
/-- Two complexes that read alike are equal (all that the laws need of the comparison, in the case of success). -/
theorem eqComplex_true (p : Int) (dv mv dv2 mv2 : Value) (ds : List Int) (ms : List (List (List Int))) (w : World) (h : Cx 0 w dv mv ds ms) (h2 : Cx 0 w dv2 mv2 ds ms) (hd : ds.length ≤ 1048576) (hm : Bd3 1048576 ms) :
    Calls Tryd.prog 15 #[.agg #[.int .i64 p, dv, mv], .agg #[.int .i64 p, dv2, mv2]] w (BR (.bool true) w) := by
  have HM := Lib.hid hm
  have H := Lib.hid h
  have H2 := Lib.hid h2
  clear hm h h2
  go_enter Tryd.func15, Tryd.ntmps15
  go_wp2_with fail
  have hb0 : Below w.heap.size w ((w.alloc (.cells #[.int .i64 p, dv, mv] 30)).alloc (.cells #[.int .i64 p, dv2, mv2] 30)) :=
    ((Below.refl _ _).alloc (Nat.le_refl _) _).alloc (by simp) _
  have HB0 := Lib.hid hb0
  clear hb0
  have h1 := eq1_any dv dv2 ds ds _ (H.out.dims.below HB0.out) (H2.out.dims.below HB0.out) hd hd
  rw [decide_eq_true rfl] at h1
  refine h1.mono ?_
  clear h1
  rintro e w' ⟨rfl, m, rfl⟩
  go_wp2_with fail
  have h1 := eq3_any mv mv2 ms ms _ ((H.out.maps.below HB0.out).below (drewN_below _ m)) ((H2.out.maps.below HB0.out).below (drewN_below _ m)) HM.out HM.out
  rw [decide_eq_true rfl] at h1
  refine h1.mono ?_
  clear h1
  rintro e w' ⟨rfl, m2, rfl⟩
  go_wp2
  go_ret
  exact ⟨rfl, HB0.out.trans ((drewN_below _ (m + m2)).mono HB0.out.size)⟩
end Go.Proofs.YtpchbceohnabnabDoor

namespace Go.Proofs.YtpchbceohnabnabDoor
open Go.RowKit

def IsP (p : Int) : Prop := p = 2 ∨ p = 3 ∨ p = 5 ∨ p = 7
theorem IsP.lo {p : Int} (h : IsP p) : 2 ≤ p := by unfold IsP at h; omega
theorem IsP.hi {p : Int} (h : IsP p) : p ≤ 7 := by unfold IsP at h; omega
def RowOk (p n : Int) (xs : List Int) : Prop := (xs.length : Int) = n ∧ ∀ x ∈ xs, 0 ≤ x ∧ x ≤ p - 1
def TabOk (p r c : Int) (t : List (List Int)) : Prop := (t.length : Int) = r ∧ ∀ x ∈ t, RowOk p c x

/-- A call that answers a value and turns nothing. -/
def QW (v : Value) (w : World) (e : Ending) (w' : World) : Prop := e = .returned v ∧ w = w'
/-- .. a truth value that says whether P. -/
def BW (P : Prop) (w : World) (e : Ending) (w' : World) : Prop := ∃ b : Bool, e = .returned (.bool b) ∧ w = w' ∧ (b = true ↔ P)
theorem bw_true {P : Prop} {w : World} (h : P) : BW P w (.returned (.bool true)) w := ⟨true, rfl, rfl, by simp [h]⟩
theorem bw_false {P : Prop} {w : World} (h : ¬ P) : BW P w (.returned (.bool false)) w := ⟨false, rfl, rfl, by simp [h]⟩

theorem all_of_lt {α : Type} {xs : List α} {P : α → Prop} (h : ∀ j (hj : j < xs.length), P xs[j]) : ∀ x ∈ xs, P x := fun x hx => by
  obtain ⟨j, hj, rfl⟩ := List.getElem_of_mem hx
  exact h j hj

theorem in_any (n lo hi : Int) (w : World) : Calls Tryd.prog 51 #[.int .i64 n, .int .i64 lo, .int .i64 hi] w (QW (.bool (decide (lo ≤ n ∧ n ≤ hi))) w) := by
  by_cases h1 : lo ≤ n
  · by_cases h2 : n ≤ hi
    · rw [decide_eq_true ⟨h1, h2⟩]
      go_enter Tryd.func51, Tryd.ntmps51
      go_wp2
      go_ret
      exact ⟨rfl, rfl⟩
    · rw [decide_eq_false (fun h => h2 h.2)]
      go_enter Tryd.func51, Tryd.ntmps51
      go_wp2
      go_ret
      exact ⟨rfl, rfl⟩
  · rw [decide_eq_false (fun h => h1 h.1)]
    go_enter Tryd.func51, Tryd.ntmps51
    go_wp2
    go_ret
    exact ⟨rfl, rfl⟩

theorem spin_any (n lo hi : Int) (w : World) : Calls Tryd.prog 49 #[.int .i64 n, .int .i64 lo, .int .i64 hi] w (QW (.bool (decide (lo ≤ n ∧ n ≤ hi))) w) := by
  by_cases h1 : lo ≤ n
  · by_cases h2 : n ≤ hi
    · rw [decide_eq_true ⟨h1, h2⟩]
      go_enter Tryd.func49, Tryd.ntmps49
      go_wp2
      go_ret
      exact ⟨rfl, rfl⟩
    · rw [decide_eq_false (fun h => h2 h.2)]
      go_enter Tryd.func49, Tryd.ntmps49
      go_wp2
      go_ret
      exact ⟨rfl, rfl⟩
  · rw [decide_eq_false (fun h => h1 h.1)]
    go_enter Tryd.func49, Tryd.ntmps49
    go_wp2
    go_ret
    exact ⟨rfl, rfl⟩

theorem in_yes {n lo hi : Int} (h : lo ≤ n ∧ n ≤ hi) (w : World) : Calls Tryd.prog 51 #[.int .i64 n, .int .i64 lo, .int .i64 hi] w (QW (.bool true) w) := by
  have := in_any n lo hi w
  rwa [decide_eq_true h] at this
theorem in_no {n lo hi : Int} (h : ¬ (lo ≤ n ∧ n ≤ hi)) (w : World) : Calls Tryd.prog 51 #[.int .i64 n, .int .i64 lo, .int .i64 hi] w (QW (.bool false) w) := by
  have := in_any n lo hi w
  rwa [decide_eq_false h] at this
theorem spin_yes {n lo hi : Int} (h : lo ≤ n ∧ n ≤ hi) (w : World) : Calls Tryd.prog 49 #[.int .i64 n, .int .i64 lo, .int .i64 hi] w (QW (.bool true) w) := by
  have := spin_any n lo hi w
  rwa [decide_eq_true h] at this
theorem spin_no {n lo hi : Int} (h : ¬ (lo ≤ n ∧ n ≤ hi)) (w : World) : Calls Tryd.prog 49 #[.int .i64 n, .int .i64 lo, .int .i64 hi] w (QW (.bool false) w) := by
  have := spin_any n lo hi w
  rwa [decide_eq_false h] at this

theorem prime_yes {p : Int} (h : IsP p) (w : World) : Calls Tryd.prog 123 #[.int .i64 p] w (QW (.bool true) w) := by
  rcases h with rfl | rfl | rfl | rfl
  all_goals
    go_enter Tryd.func123, Tryd.ntmps123
    go_wp2
    go_ret
    exact ⟨rfl, rfl⟩
theorem prime_no {p : Int} (h : ¬ IsP p) (w : World) : Calls Tryd.prog 123 #[.int .i64 p] w (QW (.bool false) w) := by
  have h2 : (p == 2) = false := by simp; intro e; exact h (by simp [IsP, e])
  have h3 : (p == 3) = false := by simp; intro e; exact h (by simp [IsP, e])
  have h5 : (p == 5) = false := by simp; intro e; exact h (by simp [IsP, e])
  have h7 : (p == 7) = false := by simp; intro e; exact h (by simp [IsP, e])
  clear h
  go_enter Tryd.func123, Tryd.ntmps123
  go_wp2
  go_ret
  exact ⟨rfl, rfl⟩
theorem spprime_yes {p : Int} (h : IsP p) (w : World) : Calls Tryd.prog 111 #[.int .i64 p] w (QW (.bool true) w) := by
  rcases h with rfl | rfl | rfl | rfl
  all_goals
    go_enter Tryd.func111, Tryd.ntmps111
    go_wp2
    go_ret
    exact ⟨rfl, rfl⟩
theorem spprime_no {p : Int} (h : ¬ IsP p) (w : World) : Calls Tryd.prog 111 #[.int .i64 p] w (QW (.bool false) w) := by
  have h2 : (p == 2) = false := by simp; intro e; exact h (by simp [IsP, e])
  have h3 : (p == 3) = false := by simp; intro e; exact h (by simp [IsP, e])
  have h5 : (p == 5) = false := by simp; intro e; exact h (by simp [IsP, e])
  have h7 : (p == 7) = false := by simp; intro e; exact h (by simp [IsP, e])
  clear h
  go_enter Tryd.func111, Tryd.ntmps111
  go_wp2
  go_ret
  exact ⟨rfl, rfl⟩

/-- All numbers of a row are in lo..hi. -/
def AllIn (lo hi : Int) (xs : List Int) : Prop := ∀ x ∈ xs, lo ≤ x ∧ x ≤ hi
/-- A table of r rows of c numbers in lo..hi. -/
def TabIn (lo hi r c : Int) (t : List (List Int)) : Prop := (t.length : Int) = r ∧ ∀ x ∈ t, (x.length : Int) = c ∧ AllIn lo hi x

set_option maxHeartbeats 800000 in
theorem areWithin_any (lo hi : Int) (v : Value) (xs : List Int) (w : World) (h : L1 0 w v xs) (hm : xs.length ≤ 1048576) :
    Calls Tryd.prog 122 #[v, .int .i64 lo, .int .i64 hi] w (BW (AllIn lo hi xs) w) := by
  refine Sl.cases h (fun ad cap hx hv => ?_) (fun b o cap hv _ hpos hc => ?_)
  · subst hx hv
    go_enter Tryd.func122, Tryd.ntmps122
    go_wp2
    refine wp_loop_rounds 1 ?_
    rw [rounds_succ]
    go_wp2
    go_ret
    exact bw_true (by simp [AllIn])
  · subst hv
    clear h
    have HC := Lib.hid hc
    clear hc
    go_enter Tryd.func122, Tryd.ntmps122
    go_wp2
    go_loop [11] (fun i => ∃ (k : Nat), k ≤ xs.length ∧ i = .int .i64 k ∧ Hid (∀ j (h1 : j < xs.length), j < k → lo ≤ xs[j] ∧ xs[j] ≤ hi)) (fun i => xs.length - (intOf i).toNat)
    case atStart => exact ⟨0, Nat.zero_le _, rfl, Lib.hid (fun _ _ h => absurd h (Nat.not_lt_zero _))⟩
    case round =>
      obtain ⟨k, hk, rfl, HD⟩ := hrel
      by_cases hlt2 : k < xs.length
      · obtain ⟨u, hu, hr⟩ := HC.out k hlt2
        obtain ⟨x, hx⟩ : ∃ x, x = xs[k] := ⟨_, rfl⟩
        rw [hr, ← hx] at hu
        have HX := Lib.hid hx
        clear hx hr
        by_cases hxy : lo ≤ x ∧ x ≤ hi
        · have HXY := Lib.hid hxy
          clear hxy
          go_wp2_with fail
          refine (in_yes HXY.out _).mono ?_
          rintro e w' ⟨rfl, rfl⟩
          go_wp2
          go_round
          case rel => exact ⟨k + 1, by omega, by go_num, Lib.hid (fun j h1 hjk => by
            by_cases e : j = k
            · subst e; rw [← HX.out]; exact HXY.out
            · exact HD.out j h1 (by omega))⟩
          case measure => simp [intOf]; omega
        · have HXY := Lib.hid hxy
          clear hxy
          go_wp2_with fail
          refine (in_no HXY.out _).mono ?_
          rintro e w' ⟨rfl, rfl⟩
          go_wp2
          go_ret
          exact bw_false (fun h => HXY.out (by rw [HX.out]; exact h _ (List.getElem_mem hlt2)))
      · go_wp2
        go_ret
        exact bw_true (all_of_lt (fun j hj => HD.out j hj (by omega)))

set_option maxHeartbeats 800000 in
theorem isTableWithin_any (lo hi r c : Int) (v : Value) (xs : List (List Int)) (w : World) (h : L2 0 w v xs) (hm : Bd2 1048576 xs) :
    Calls Tryd.prog 109 #[v, .int .i64 r, .int .i64 c, .int .i64 lo, .int .i64 hi] w (BW (TabIn lo hi r c xs) w) := by
  have hm0 : xs.length ≤ 1048576 := hm.1
  have HM := Lib.hid hm
  clear hm
  by_cases hl : (xs.length : Int) = r
  · refine Sl.cases h (fun ad cap hx hv => ?_) (fun b o cap hv _ hpos hc => ?_)
    · subst hx hv
      subst hl
      go_enter Tryd.func109, Tryd.ntmps109
      go_wp2
      refine wp_loop_rounds 1 ?_
      rw [rounds_succ]
      go_wp2
      go_ret
      exact bw_true ⟨rfl, by simp⟩
    · subst hv
      subst hl
      clear h
      have HC := Lib.hid hc
      clear hc
      go_enter Tryd.func109, Tryd.ntmps109
      go_wp2
      go_loop [19] (fun i => ∃ (k : Nat), k ≤ xs.length ∧ i = .int .i64 k ∧ Hid (∀ j (h1 : j < xs.length), j < k → ((xs[j]).length : Int) = c ∧ AllIn lo hi xs[j])) (fun i => xs.length - (intOf i).toNat)
      case atStart => exact ⟨0, Nat.zero_le _, rfl, Lib.hid (fun _ _ h => absurd h (Nat.not_lt_zero _))⟩
      case round =>
        obtain ⟨k, hk, rfl, HD⟩ := hrel
        by_cases hlt2 : k < xs.length
        · obtain ⟨u, hu, hr⟩ := HC.out k hlt2
          have hml : (xs[k]).length ≤ 1048576 := HM.out.2 _ (List.getElem_mem hlt2)
          have HR := Lib.hid (fun W => areWithin_any lo hi u xs[k] W)
          obtain ⟨ys, hy⟩ : ∃ ys, ys = xs[k] := ⟨_, rfl⟩
          rw [← hy] at hr hml HR
          have HY := Lib.hid hy
          clear hy
          have HA := Lib.hid (HR.out _ hr hml)
          clear HR
          obtain ⟨ad, cap, rfl⟩ := Sl.shape hr
          clear hr
          by_cases hlc : (ys.length : Int) = c
          · have hq : ((ys.length : Int) != c) = false := by simp [hlc]
            have hq2 : ((ys.length : Int) == c) = true := by simp [hlc]
            have HLC := Lib.hid hlc
            clear hlc
            go_wp2_with fail
            refine HA.out.mono ?_
            rintro e w' ⟨bb, rfl, rfl, hbb⟩
            have HBB := Lib.hid hbb
            clear hbb
            cases bb with
            | true =>
              go_wp2
              go_round
              case rel => exact ⟨k + 1, by omega, by go_num, Lib.hid (fun j h1 hjk => by
                by_cases e : j = k
                · subst e; rw [← HY.out]; exact ⟨HLC.out, HBB.out.1 (by simp)⟩
                · exact HD.out j h1 (by omega))⟩
              case measure => simp [intOf]; omega
            | false =>
              go_wp2
              go_ret
              exact bw_false (fun h => absurd (HBB.out.2 (by rw [HY.out]; exact (h.2 _ (List.getElem_mem hlt2)).2)) (by simp))
          · have hq : ((ys.length : Int) != c) = true := by simp [hlc]
            have hq2 : ((ys.length : Int) == c) = false := by simp [hlc]
            have HLC := Lib.hid hlc
            clear hlc
            go_wp2
            go_ret
            exact bw_false (fun h => HLC.out (by rw [HY.out]; exact (h.2 _ (List.getElem_mem hlt2)).1))
        · go_wp2
          go_ret
          exact bw_true ⟨rfl, all_of_lt (fun j hj => HD.out j hj (by omega))⟩
  · obtain ⟨ad, cap, rfl⟩ := Sl.shape h
    clear h
    have hq : ((xs.length : Int) != r) = true := by simp [hl]
    have hq2 : ((xs.length : Int) == r) = false := by simp [hl]
    have HL := Lib.hid hl
    clear hl
    go_enter Tryd.func109, Tryd.ntmps109
    go_wp2
    go_ret
    exact bw_false (fun h => HL.out h.1)

theorem isTable_any (p r c : Int) (v : Value) (xs : List (List Int)) (w : World) (hp : IsP p) (h : L2 0 w v xs) (hm : Bd2 1048576 xs) :
    Calls Tryd.prog 89 #[.int .i64 p, v, .int .i64 r, .int .i64 c] w (BW (TabOk p r c xs) w) := by
  have hp0 := hp.lo
  have hp1 := hp.hi
  have HA := Lib.hid (isTableWithin_any 0 (p - 1) r c v xs w h hm)
  obtain ⟨ad, cap, rfl⟩ := Sl.shape h
  clear h hm
  go_enter Tryd.func89, Tryd.ntmps89
  go_wp2_with fail
  refine HA.out.mono ?_
  rintro e w' ⟨bb, rfl, rfl, hbb⟩
  have HBB := Lib.hid hbb
  clear hbb
  go_wp2
  go_ret
  exact ⟨bb, rfl, rfl, HBB.out⟩
end Go.Proofs.YtpchbceohnabnabDoor

namespace Go.Proofs.YtpchbceohnabnabDoor
open Go.RowKit

set_option maxHeartbeats 1600000 in
theorem l01Table_any (p r c : Int) (v : Value) (xs : List (List Int)) (w : World) (hp : IsP p) (h : L2 0 w v xs) (hm : Bd2 1048576 xs) :
    Calls Tryd.prog 112 #[.int .i64 p, v, .int .i64 r, .int .i64 c] w (BW (TabOk p r c xs) w) := by
  have hm0 : xs.length ≤ 1048576 := hm.1
  have HM := Lib.hid hm
  have hp0 := hp.lo
  have hp1 := hp.hi
  clear hm hp
  by_cases hl : (xs.length : Int) = r
  · refine Sl.cases h (fun ad cap hx hv => ?_) (fun b o cap hv _ hpos hc => ?_)
    · subst hx hv
      subst hl
      go_enter Tryd.func112, Tryd.ntmps112
      go_wp2
      refine wp_loop_rounds 1 ?_
      rw [rounds_succ]
      go_wp2
      go_ret
      exact bw_true ⟨rfl, by simp⟩
    · subst hv
      subst hl
      clear h
      have HC := Lib.hid hc
      clear hc
      go_enter Tryd.func112, Tryd.ntmps112
      go_wp2
      go_loop [9, 10] (fun i _ => ∃ (k : Nat), k ≤ xs.length ∧ i = .int .i64 k ∧ Hid (∀ j (h1 : j < xs.length), j < k → RowOk p c xs[j])) (fun i _ => xs.length - (intOf i).toNat)
      case atStart => exact ⟨0, Nat.zero_le _, rfl, Lib.hid (fun _ _ h => absurd h (Nat.not_lt_zero _))⟩
      case round =>
        obtain ⟨k, hk, rfl, HD⟩ := hrel
        by_cases hlt2 : k < xs.length
        · obtain ⟨u, hu, hr⟩ := HC.out k hlt2
          have hml : (xs[k]).length ≤ 1048576 := HM.out.2 _ (List.getElem_mem hlt2)
          obtain ⟨ys, hy⟩ : ∃ ys, ys = xs[k] := ⟨_, rfl⟩
          rw [← hy] at hr hml
          have HY := Lib.hid hy
          clear hy
          by_cases hlc : (ys.length : Int) = c
          · refine Sl.cases hr (fun ad2 cap2 hx hv => ?_) (fun b2 o2 cap2 hv _ hpos2 hc2 => ?_)
            · subst hv
              have hc0 : ((0 : Int) != c) = false := by rw [← hlc, hx]; rfl
              have hc1 : ((0 : Int) == c) = true := by rw [← hlc, hx]; rfl
              have HX := Lib.hid hx
              have HLC := Lib.hid hlc
              clear hx hlc hr
              go_wp2
              refine wp_loop_rounds 1 ?_
              rw [rounds_succ]
              go_wp2
              go_round
              case rel => exact ⟨k + 1, by omega, by go_num, Lib.hid (fun j h1 hjk => by
                by_cases e : j = k
                · subst e; rw [← HY.out]; exact ⟨HLC.out, by simp [HX.out]⟩
                · exact HD.out j h1 (by omega))⟩
              case measure => simp [intOf]; omega
            · subst hv
              have hc0 : ((ys.length : Int) != c) = false := by rw [hlc]; simp
              have hc1 : ((ys.length : Int) == c) = true := by rw [hlc]; simp
              have HLC := Lib.hid hlc
              have HC2 := Lib.hid hc2
              clear hlc hr hc2
              go_wp2
              go_loop [10] (fun i => ∃ (q : Nat), q ≤ ys.length ∧ i = .int .i64 q ∧ Hid (∀ j (h1 : j < ys.length), j < q → 0 ≤ ys[j] ∧ ys[j] ≤ p - 1)) (fun i => ys.length - (intOf i).toNat)
              case atStart => exact ⟨0, Nat.zero_le _, rfl, Lib.hid (fun _ _ h => absurd h (Nat.not_lt_zero _))⟩
              case round =>
                obtain ⟨q, hq, rfl, HD2⟩ := hrel
                by_cases hlt3 : q < ys.length
                · obtain ⟨u2, hu2, hr2⟩ := HC2.out q hlt3
                  obtain ⟨x, hx⟩ : ∃ x, x = ys[q] := ⟨_, rfl⟩
                  rw [hr2, ← hx] at hu2
                  have HX := Lib.hid hx
                  clear hx hr2
                  by_cases hxy : 0 ≤ x ∧ x ≤ p - 1
                  · have HXY := Lib.hid hxy
                    clear hxy
                    go_wp2_with fail
                    refine (spin_yes HXY.out _).mono ?_
                    rintro e w' ⟨rfl, rfl⟩
                    go_wp2
                    go_round
                    case rel => exact ⟨q + 1, by omega, by go_num, Lib.hid (fun j h1 hjk => by
                      by_cases e : j = q
                      · subst e; rw [← HX.out]; exact HXY.out
                      · exact HD2.out j h1 (by omega))⟩
                    case measure => simp [intOf]; omega
                  · have HXY := Lib.hid hxy
                    clear hxy
                    go_wp2_with fail
                    refine (spin_no HXY.out _).mono ?_
                    rintro e w' ⟨rfl, rfl⟩
                    go_wp2
                    go_ret
                    exact bw_false (fun h => HXY.out (by
                      rw [HX.out]
                      exact (h.2 ys (by rw [HY.out]; exact List.getElem_mem hlt2)).2 _ (List.getElem_mem hlt3)))
                · go_wp2
                  go_round
                  case rel => exact ⟨k + 1, by omega, by go_num, Lib.hid (fun j h1 hjk => by
                    by_cases e : j = k
                    · subst e; rw [← HY.out]; exact ⟨HLC.out, all_of_lt (fun j2 hj2 => HD2.out j2 hj2 (by omega))⟩
                    · exact HD.out j h1 (by omega))⟩
                  case measure => simp [intOf]; omega
          · obtain ⟨ad2, cap2, rfl⟩ := Sl.shape hr
            have hc0 : ((ys.length : Int) != c) = true := by simp [hlc]
            have hc1 : ((ys.length : Int) == c) = false := by simp [hlc]
            have HLC := Lib.hid hlc
            clear hlc hr
            go_wp2
            go_ret
            exact bw_false (fun h => HLC.out (h.2 ys (by rw [HY.out]; exact List.getElem_mem hlt2)).1)
        · go_wp2
          go_ret
          exact bw_true ⟨rfl, all_of_lt (fun j hj => HD.out j hj (by omega))⟩
  · obtain ⟨ad, cap, rfl⟩ := Sl.shape h
    clear h
    have hq : ((xs.length : Int) != r) = true := by simp [hl]
    have hq2 : ((xs.length : Int) == r) = false := by simp [hl]
    have HL := Lib.hid hl
    clear hl
    go_enter Tryd.func112, Tryd.ntmps112
    go_wp2
    go_ret
    exact bw_false (fun h => HL.out h.1)

/-- Where the first number other than 0 stands, or -1. -/
def leadOf : List Int → Int
  | [] => -1
  | x :: xs => if x = 0 then (let r := leadOf xs; if r < 0 then -1 else r + 1) else 0

theorem leadOf_zero {xs : List Int} (h : ∀ j (hj : j < xs.length), xs[j] = 0) : leadOf xs = -1 := by
  induction xs with
  | nil => rfl
  | cons x xs ih =>
    have h0 : x = 0 := h 0 (by simp)
    have ih' := ih (fun j hj => h (j + 1) (by simpa using hj))
    simp [leadOf, h0, ih']
theorem leadOf_at {xs : List Int} : ∀ {k : Nat} (hk : k < xs.length), (∀ j (hj : j < xs.length), j < k → xs[j] = 0) → xs[k] ≠ 0 → leadOf xs = k := by
  induction xs with
  | nil => intro k hk; simp at hk
  | cons x xs ih =>
    intro k hk h hne
    cases k with
    | zero => simp at hne; simp [leadOf, hne]
    | succ k =>
      have h0 : x = 0 := h 0 (by simp) (by omega)
      have := ih (k := k) (by simpa using hk) (fun j hj hjk => h (j + 1) (by simpa using hj) (by omega)) (by simpa using hne)
      simp only [leadOf, h0, if_true, this]
      rw [if_neg (by omega)]
      omega

set_option maxHeartbeats 800000 in
theorem l01Lead_any (v : Value) (xs : List Int) (w : World) (h : L1 0 w v xs) (hm : xs.length ≤ 1048576) :
    Calls Tryd.prog 102 #[v] w (QW (.int .i64 (leadOf xs)) w) := by
  refine Sl.cases h (fun ad cap hx hv => ?_) (fun b o cap hv _ hpos hc => ?_)
  · subst hx hv
    go_enter Tryd.func102, Tryd.ntmps102
    go_wp2
    refine wp_loop_rounds 1 ?_
    rw [rounds_succ]
    go_wp2
    go_ret
    exact ⟨rfl, rfl⟩
  · subst hv
    clear h
    have HC := Lib.hid hc
    clear hc
    go_enter Tryd.func102, Tryd.ntmps102
    go_wp2
    go_loop [3] (fun i => ∃ (k : Nat), k ≤ xs.length ∧ i = .int .i64 k ∧ Hid (∀ j (h1 : j < xs.length), j < k → xs[j] = 0)) (fun i => xs.length - (intOf i).toNat)
    case atStart => exact ⟨0, Nat.zero_le _, rfl, Lib.hid (fun _ _ h => absurd h (Nat.not_lt_zero _))⟩
    case round =>
      obtain ⟨k, hk, rfl, HD⟩ := hrel
      by_cases hlt2 : k < xs.length
      · obtain ⟨u, hu, hr⟩ := HC.out k hlt2
        obtain ⟨x, hx⟩ : ∃ x, x = xs[k] := ⟨_, rfl⟩
        rw [hr, ← hx] at hu
        have HX := Lib.hid hx
        clear hx hr
        by_cases hxy : x = 0
        · subst hxy
          go_wp2
          go_round
          case rel => exact ⟨k + 1, by omega, by go_num, Lib.hid (fun j h1 hjk => by
            by_cases e : j = k
            · subst e; exact HX.out.symm
            · exact HD.out j h1 (by omega))⟩
          case measure => simp [intOf]; omega
        · have hq : (x != 0) = true := by simp [hxy]
          have hq2 : (x == 0) = false := by simp [hxy]
          have HXY := Lib.hid hxy
          clear hxy
          go_wp2
          go_ret
          exact ⟨ret_int (leadOf_at hlt2 HD.out (by rw [← HX.out]; exact HXY.out)).symm, rfl⟩
      · go_wp2
        go_ret
        exact ⟨ret_int (leadOf_zero (fun j hj => HD.out j hj (by omega))).symm, rfl⟩
end Go.Proofs.YtpchbceohnabnabDoor

namespace Go.Proofs.YtpchbceohnabnabDoor
open Go.RowKit

def apRow (p f : Int) (acc row : List Int) : List Int := List.zipWith (fun a x => (a + f * x) % p) acc row
/-- The sum of the first k numbers of v times the first k rows of t, modulo p. -/
def apTo (p : Int) (c : Nat) (v : List Int) (t : List (List Int)) : Nat → List Int
  | 0 => List.replicate c 0
  | k + 1 => apRow p (v.getD k 0) (apTo p c v t k) (t.getD k [])
def apT (p : Int) (c : Nat) (v : List Int) (t : List (List Int)) : List Int := apTo p c v t v.length

/-- What a table has to be for a vector of numbers modulo p. -/
structure ApOk (p : Int) (c : Nat) (v : List Int) (t : List (List Int)) : Prop where
  prime : IsP p
  len : v.length ≤ t.length
  nums : ∀ x ∈ v, 0 ≤ x ∧ x ≤ p - 1
  rows : ∀ r ∈ t, RowOk p c r

theorem getD_of_lt {α : Type} {xs : List α} {k : Nat} (d : α) (h : k < xs.length) : xs.getD k d = xs[k] := by simp [List.getD, h]

theorem ApOk.row {p : Int} {c : Nat} {v : List Int} {t : List (List Int)} (h : ApOk p c v t) {k : Nat} (hk : k < v.length) : RowOk p c (t.getD k []) := by
  have hl := h.len
  rw [getD_of_lt _ (by omega)]
  exact h.rows _ (List.getElem_mem _)
theorem ApOk.num {p : Int} {c : Nat} {v : List Int} {t : List (List Int)} (h : ApOk p c v t) {k : Nat} (hk : k < v.length) : 0 ≤ v.getD k 0 ∧ v.getD k 0 ≤ p - 1 := by
  rw [getD_of_lt _ hk]
  exact h.nums _ (List.getElem_mem _)

theorem apTo_length {p : Int} {c : Nat} {v : List Int} {t : List (List Int)} (h : ApOk p c v t) : ∀ {k : Nat}, k ≤ v.length → (apTo p c v t k).length = c := by
  intro k
  induction k with
  | zero => intro _; simp [apTo]
  | succ k ih =>
    intro hk
    have hr := (h.row (k := k) (by omega)).1
    simp only [apTo, apRow, List.length_zipWith, ih (by omega)]
    omega
theorem apTo_at {p : Int} {c : Nat} {v : List Int} {t : List (List Int)} (h : ApOk p c v t) {k q : Nat} (hk : k < v.length) (hq : q < c) :
    (apTo p c v t (k + 1)).getD q 0 = ((apTo p c v t k).getD q 0 + v.getD k 0 * (t.getD k []).getD q 0) % p := by
  have hr := (h.row hk).1
  have hl := apTo_length h (Nat.le_of_lt hk)
  have hl2 := apTo_length h (k := k + 1) hk
  have q2 : q < (t.getD k []).length := by omega
  have q1 : q < (apTo p c v t (k + 1)).length := by omega
  have q3 : q < (apTo p c v t k).length := by omega
  rw [getD_of_lt _ q1, getD_of_lt _ q2, getD_of_lt _ q3]
  simp only [apTo, apRow, List.getElem_zipWith]
theorem apTo_mod {p : Int} {c : Nat} {v : List Int} {t : List (List Int)} (h : ApOk p c v t) : ∀ {k : Nat}, k ≤ v.length → ∀ q, 0 ≤ (apTo p c v t k).getD q 0 ∧ (apTo p c v t k).getD q 0 ≤ p - 1 := by
  intro k hk q
  have hp0 := h.prime.lo
  by_cases hq : q < c
  · cases k with
    | zero => simp [apTo, List.getD, hq]; omega
    | succ k =>
      rw [apTo_at h (by omega) hq]
      have h1 := Int.emod_nonneg ((apTo p c v t k).getD q 0 + v.getD k 0 * (t.getD k []).getD q 0) (show p ≠ 0 by omega)
      have h2 := Int.emod_lt_of_pos ((apTo p c v t k).getD q 0 + v.getD k 0 * (t.getD k []).getD q 0) (show 0 < p by omega)
      omega
  · have hl := apTo_length h hk
    have : (apTo p c v t k).getD q 0 = 0 := by simp [List.getD, show (apTo p c v t k).length ≤ q by omega]
    rw [this]
    omega

/-- The row of sums while it is being made: k numbers of v are done, and of the next one the first q places. -/
def apCell (p : Int) (c : Nat) (v : List Int) (t : List (List Int)) (k q : Nat) : Nat → Value := fun j => .int .i64 (if j < q then (apTo p c v t (k + 1)).getD j 0 else (apTo p c v t k).getD j 0)
structure Ap (w wr : World) (ty : TypeId) (p : Int) (c : Nat) (v : List Int) (t : List (List Int)) (k q : Nat) : Prop where
  below : Below w.heap.size w wr
  row : wr.rowIs w.heap.size ty c (apCell p c v t k q)

theorem Ap.start (w : World) (ty : TypeId) (p : Int) (c : Nat) (v : List Int) (t : List (List Int)) : Ap w (w.alloc (.cells (madeCells #[.int .i64 0] c) ty)) ty p c v t 0 0 :=
  ⟨(Below.refl _ _).alloc (Nat.le_refl _) _, (World.rowIs_made w (.int .i64 0) c ty).congr (fun j hj => by simp [apCell, apTo, List.getD, hj])⟩
theorem Ap.drew {w wr : World} {ty : TypeId} {p : Int} {c : Nat} {v : List Int} {t : List (List Int)} {k q : Nat} (h : Ap w wr ty p c v t k q) : Ap w wr.drew ty p c v t k q := ⟨h.below.drew, h.row.drew⟩
theorem Ap.step {w wr : World} {ty : TypeId} {p : Int} {c : Nat} {v : List Int} {t : List (List Int)} {k q : Nat} (ok : ApOk p c v t) (h : Ap w wr ty p c v t k q) (hk : k < v.length) (hq : q < c) {x : Int}
    (hx : x = ((apTo p c v t k).getD q 0 + v.getD k 0 * (t.getD k []).getD q 0) % p) : Ap w (wr.setCell ⟨w.heap.size, q, none⟩ (.int .i64 x)) ty p c v t k (q + 1) := by
  refine ⟨h.below.setCell (Nat.le_refl _) _, (h.row.set q _).congr (fun j hj => ?_)⟩
  by_cases e : j = q
  · subst e
    simp only [apCell, if_true]
    rw [if_pos (Nat.lt_succ_self _), apTo_at ok hk hq, hx]
  · rw [if_neg e]
    simp only [apCell]
    by_cases h2 : j < q
    · rw [if_pos h2, if_pos (by omega)]
    · rw [if_neg h2, if_neg (by omega)]
theorem Ap.next {w wr : World} {ty : TypeId} {p : Int} {c : Nat} {v : List Int} {t : List (List Int)} {k : Nat} (h : Ap w wr ty p c v t k c) : Ap w wr ty p c v t (k + 1) 0 :=
  ⟨h.below, h.row.congr (fun j hj => by simp [apCell, hj])⟩
theorem Ap.cell {w wr : World} {ty : TypeId} {p : Int} {c : Nat} {v : List Int} {t : List (List Int)} {k q : Nat} (h : Ap w wr ty p c v t k q) (hq : q < c) :
    wr.cell? ⟨w.heap.size, q, none⟩ = some (.int .i64 ((apTo p c v t k).getD q 0)) := by
  have := h.row.cell hq
  simpa [apCell] using this
theorem Ap.done {w wr : World} {ty : TypeId} {p : Int} {c : Nat} {v : List Int} {t : List (List Int)} (ok : ApOk p c v t) (h : Ap w wr ty p c v t v.length 0) : L1 w.heap.size wr (.slice (some ⟨w.heap.size, 0, none⟩) c c) (apT p c v t) := by
  have hl := apTo_length ok (Nat.le_refl _)
  by_cases h0 : c = 0
  · subst h0
    exact Or.inl ⟨List.eq_nil_of_length_eq_zero hl, _, _, rfl⟩
  · refine Or.inr ⟨w.heap.size, 0, c, by rw [apT, hl], Nat.le_refl _, by rw [apT, hl]; omega, fun j hj => ⟨_, h.row.cell (by rw [apT, hl] at hj; omega), ?_⟩⟩
    have hj' : j < (apTo p c v t v.length).length := hj
    simp only [apCell, IsI, Nat.not_lt_zero, if_false, apT, Nat.zero_add]
    rw [getD_of_lt _ hj']

def ApR (p : Int) (c : Nat) (v : List Int) (t : List (List Int)) (w : World) (e : Ending) (w' : World) : Prop := ∃ u, e = .returned u ∧ L1 w.heap.size w' u (apT p c v t) ∧ Below w.heap.size w w'

set_option maxHeartbeats 1600000 in
theorem applyTable_any (p : Int) (c : Nat) (va vt : Value) (v : List Int) (t : List (List Int)) (w : World) (ok : ApOk p c v t) (ha : L1 0 w va v) (ht : L2 0 w vt t) (hv : v.length ≤ 1048576) (hc : c ≤ 1048576) :
    Calls Tryd.prog 93 #[.int .i64 p, va, vt, .int .i64 c] w (ApR p c v t w) := by
  have hmk := run_make_row' (P := Tryd.prog) 22 2 (.int .i64 0) 8 Tryd.underlying22 Tryd.infoI rfl .i64 .i64 c (by omega) (by omega)
  have hp0 := ok.prime.lo
  have hp1 := ok.prime.hi
  have OK := Lib.hid ok
  clear ok
  refine Sl.cases ha (fun ad cap hx hv' => ?_) (fun b o cap hv' _ hpos hcl => ?_)
  · subst hx hv'
    clear ha ht
    go_enter Tryd.func93, Tryd.ntmps93
    go_wp2
    refine wp_loop_rounds 1 ?_
    rw [rounds_succ]
    go_wp2
    go_ret
    exact ⟨_, rfl, Ap.done OK.out (Ap.start _ _ _ _ _ _), (Below.refl _ _).alloc (Nat.le_refl _) _⟩
  · refine Sl.cases ht (fun ad2 cap2 hx2 hv2 => absurd OK.out.len (by subst hx2; simp only [List.length_nil]; omega)) (fun b2 o2 cap2 hv2 _ hpos2 hcl2 => ?_)
    subst hv' hv2
    clear ha ht
    have hlen := OK.out.len
    have HC := Lib.hid hcl
    have HC2 := Lib.hid hcl2
    clear hcl hcl2
    go_enter Tryd.func93, Tryd.ntmps93
    go_wp2
    clear hmk
    go_loopw [18] (fun i wr => ∃ (k : Nat), k ≤ v.length ∧ i = .int .i64 k ∧ Ap w wr 2 p c v t k 0) (fun i _ => v.length - (intOf i).toNat)
    case atStart => exact ⟨0, Nat.zero_le _, rfl, Ap.start _ _ _ _ _ _⟩
    case round =>
      obtain ⟨k, hk, rfl, HA⟩ := hrel
      by_cases hlt2 : k < v.length
      · have hlt3 : k < t.length := by omega
        obtain ⟨u, hu, hr⟩ := HC.out k hlt2
        obtain ⟨u2, hu2, hr2⟩ := HC2.out k hlt3
        have hnum := OK.out.num hlt2
        have hrow := OK.out.row hlt2
        rw [getD_of_lt _ hlt2] at hnum
        rw [getD_of_lt _ hlt3] at hrow
        obtain ⟨f, hf⟩ : ∃ f, f = v[k] := ⟨_, rfl⟩
        obtain ⟨ys, hy⟩ : ∃ ys, ys = t[k] := ⟨_, rfl⟩
        rw [← hf] at hnum
        rw [← hy] at hrow hr2
        obtain ⟨hf0, hf1⟩ := hnum
        have hu' : wr.cell? ⟨b, o + k, none⟩ = some (.int .i64 f) := by rw [HA.below.cell (p := ⟨b, o + k, none⟩) (cell_lt hu), hu, hr, hf]
        have hu2' : wr.cell? ⟨b2, o2 + k, none⟩ = some u2 := by rw [HA.below.cell (p := ⟨b2, o2 + k, none⟩) (cell_lt hu2), hu2]
        have HF := Lib.hid hf
        have HY := Lib.hid hy
        have HROW := Lib.hid hrow
        have HA' := Lib.hid HA
        clear hf hy hrow HA hu hr hu2
        refine Sl.cases hr2 (fun ad3 cap3 hx3 hv3 => ?_) (fun b3 o3 cap3 hv3 _ hpos3 hcl3 => ?_)
        · subst hv3
          have hc0 : Hid (c = 0) := Lib.hid (by have := HROW.out.1; rw [hx3] at this; simpa using this.symm)
          clear hx3 hr2
          go_wp2
          refine wp_loop_rounds 1 ?_
          rw [rounds_succ]
          go_wp2
          go_roundw
          case rel => exact ⟨k + 1, by omega, by go_num, Ap.next (by rw [hc0.out]; have := HA'.out; rwa [hc0.out] at this)⟩
          case measure => simp [intOf]; omega
        · subst hv3
          have hyc : ys.length = c := by have := HROW.out.1; omega
          have HYC := Lib.hid hyc
          have HC3 := Lib.hid hcl3
          clear hyc hr2 hcl3
          obtain ⟨wo, hwo⟩ : ∃ wo : World, wo = wr := ⟨_, rfl⟩
          have HWO := Lib.hid hwo
          clear hwo
          go_wp2
          go_loopw [28] (fun i wr => ∃ (q : Nat), q ≤ ys.length ∧ i = .int .i64 q ∧ Ap w wr 2 p c v t k q) (fun i _ => ys.length - (intOf i).toNat)
          case atStart => exact ⟨0, Nat.zero_le _, rfl, HA'.out⟩
          case round =>
            obtain ⟨q, hq, rfl, HB⟩ := hrel
            by_cases hlt4 : q < ys.length
            · have hqc : q < c := by have := HYC.out; omega
              obtain ⟨u3, hu3, hr3⟩ := HC3.out q hlt4
              have hx := HROW.out.2 _ (List.getElem_mem hlt4)
              obtain ⟨x, hxx⟩ : ∃ x, x = ys[q] := ⟨_, rfl⟩
              obtain ⟨a, haa⟩ : ∃ a, a = (apTo p c v t k).getD q 0 := ⟨_, rfl⟩
              have hab := apTo_mod OK.out (Nat.le_of_lt hlt2) q
              have hac := HB.cell hqc
              have hfz := HB.row.frozen q
              rw [← haa] at hab hac
              rw [← hxx] at hx
              obtain ⟨hx0, hx1⟩ := hx
              obtain ⟨ha0, ha1⟩ := hab
              have hu3' : wr.cell? ⟨b3, o3 + q, none⟩ = some (.int .i64 x) := by rw [HB.below.cell (p := ⟨b3, o3 + q, none⟩) (cell_lt hu3), hu3, hr3, hxx]
              have m0 : 0 ≤ f * x := Int.mul_nonneg hf0 hx0
              have m1 : f * x ≤ 36 := Int.le_trans (Int.mul_le_mul (show f ≤ 6 by omega) (show x ≤ 6 by omega) hx0 (by omega)) (by omega)
              have HS := Lib.hid (HB.step OK.out hlt2 hqc (x := (a + f * x) % p) (by rw [haa, HF.out, hxx, getD_of_lt _ hlt2, getD_of_lt _ hlt3, ← HY.out, getD_of_lt _ hlt4]))
              clear HB hu3 hr3 haa hxx
              go_wp2
              go_roundw
              case rel => exact ⟨q + 1, by omega, by go_num, HS.out⟩
              case measure => simp [intOf]; omega
            · have HB' := Lib.hid HB
              have hqc : Hid (q = c) := Lib.hid (by have := HYC.out; omega)
              clear HB
              go_wp2
              go_roundw
              case rel => exact ⟨k + 1, by omega, by go_num, Ap.next (by have := HB'.out; rwa [hqc.out] at this)⟩
              case measure => simp [intOf]; omega
      · have hkk : k = v.length := by omega
        subst hkk
        have HA' := Lib.hid HA
        clear HA
        go_wp2
        go_ret
        exact ⟨_, rfl, Ap.done OK.out HA'.out, HA'.out.below⟩
end Go.Proofs.YtpchbceohnabnabDoor

namespace Go.Proofs.YtpchbceohnabnabDoor
open Go.RowKit

set_option maxHeartbeats 3200000 in
theorem l01Apply_any (p : Int) (c : Nat) (va vt : Value) (v : List Int) (t : List (List Int)) (w : World) (ok : ApOk p c v t) (ha : L1 0 w va v) (ht : L2 0 w vt t) (hv : v.length ≤ 1048576) (hc : c ≤ 1048576) :
    Calls Tryd.prog 87 #[.int .i64 p, vt, va, .int .i64 c] w (ApR p c v t w) := by
  have hmk := run_make_row' (P := Tryd.prog) 22 2 (.int .i64 0) 8 Tryd.underlying22 Tryd.infoI rfl .i64 .i64 c (by omega) (by omega)
  have hp0 := ok.prime.lo
  have hp1 := ok.prime.hi
  have OK := Lib.hid ok
  clear ok
  refine Sl.cases ha (fun ad cap hx hv' => ?_) (fun b o cap hv' _ hpos hcl => ?_)
  · subst hx hv'
    clear ha ht
    go_enter Tryd.func87, Tryd.ntmps87
    go_wp2
    refine wp_loop_rounds 1 ?_
    rw [rounds_succ]
    go_wp2
    go_ret
    exact ⟨_, rfl, Ap.done OK.out (Ap.start _ _ _ _ _ _), (Below.refl _ _).alloc (Nat.le_refl _) _⟩
  · refine Sl.cases ht (fun ad2 cap2 hx2 hv2 => absurd OK.out.len (by subst hx2; simp only [List.length_nil]; omega)) (fun b2 o2 cap2 hv2 _ hpos2 hcl2 => ?_)
    subst hv' hv2
    clear ha ht
    have hlen := OK.out.len
    have HC := Lib.hid hcl
    have HC2 := Lib.hid hcl2
    clear hcl hcl2
    go_enter Tryd.func87, Tryd.ntmps87
    go_wp2
    clear hmk
    go_loopw [10, 11] (fun i _ wr => ∃ (k : Nat), k ≤ v.length ∧ i = .int .i64 k ∧ Ap w wr 2 p c v t k 0) (fun i _ _ => v.length - (intOf i).toNat)
    case atStart => exact ⟨0, Nat.zero_le _, rfl, Ap.start _ _ _ _ _ _⟩
    case round =>
      obtain ⟨k, hk, rfl, HA⟩ := hrel
      by_cases hlt2 : k < v.length
      · have hlt3 : k < t.length := by omega
        obtain ⟨u, hu, hr⟩ := HC.out k hlt2
        obtain ⟨u2, hu2, hr2⟩ := HC2.out k hlt3
        have hnum := OK.out.num hlt2
        have hrow := OK.out.row hlt2
        rw [getD_of_lt _ hlt2] at hnum
        rw [getD_of_lt _ hlt3] at hrow
        obtain ⟨f, hf⟩ : ∃ f, f = v[k] := ⟨_, rfl⟩
        obtain ⟨ys, hy⟩ : ∃ ys, ys = t[k] := ⟨_, rfl⟩
        rw [← hf] at hnum
        rw [← hy] at hrow hr2
        obtain ⟨hf0, hf1⟩ := hnum
        have HU : Hid (w.cell? ⟨b, o + k, none⟩ = some (.int .i64 f)) := Lib.hid (by rw [hu, hr, hf])
        have HU2 := Lib.hid hu2
        have HF := Lib.hid hf
        have HY := Lib.hid hy
        have HROW := Lib.hid hrow
        have HR2 := Lib.hid hr2
        have HA' := Lib.hid HA
        clear hf hy hrow HA hu hr hu2 hr2
        obtain ⟨wo, hwo⟩ : ∃ wo : World, wo = wr := ⟨_, rfl⟩
        have HWO := Lib.hid hwo
        clear hwo
        go_wp2
        go_loopw [11] (fun i wr => ∃ (q : Nat), q ≤ c ∧ i = .int .i64 q ∧ Ap w wr 2 p c v t k q) (fun i _ => c - (intOf i).toNat)
        case atStart => exact ⟨0, Nat.zero_le _, rfl, HA'.out⟩
        case round =>
          obtain ⟨q, hq, rfl, HB⟩ := hrel
          by_cases hlt4 : q < c
          · have hl5 : q < ys.length := by have := HROW.out.1; omega
            refine Sl.cases HR2.out (fun ad3 cap3 hx3 hv3 => absurd hl5 (by subst hx3; simp)) (fun b3 o3 cap3 hv3 _ hpos3 hcl3 => ?_)
            obtain ⟨u3, hu3, hr3⟩ := hcl3 q hl5
            have hx := HROW.out.2 _ (List.getElem_mem hl5)
            obtain ⟨x, hxx⟩ : ∃ x, x = ys[q] := ⟨_, rfl⟩
            obtain ⟨a, haa⟩ : ∃ a, a = (apTo p c v t k).getD q 0 := ⟨_, rfl⟩
            have hab := apTo_mod OK.out (Nat.le_of_lt hlt2) q
            have hac := HB.cell hlt4
            have hfz := HB.row.frozen q
            rw [← haa] at hab hac
            rw [← hxx] at hx
            obtain ⟨hx0, hx1⟩ := hx
            obtain ⟨ha0, ha1⟩ := hab
            have hu' : wr.cell? ⟨b, o + k, none⟩ = some (.int .i64 f) := by rw [HB.below.cell (p := ⟨b, o + k, none⟩) (cell_lt HU.out)]; exact HU.out
            have hu2' : wr.cell? ⟨b2, o2 + k, none⟩ = some (.slice (some ⟨b3, o3, none⟩) ys.length cap3) := by rw [HB.below.cell (p := ⟨b2, o2 + k, none⟩) (cell_lt HU2.out)]; rw [HU2.out, hv3]
            have hu3' : wr.cell? ⟨b3, o3 + q, none⟩ = some (.int .i64 x) := by rw [HB.below.cell (p := ⟨b3, o3 + q, none⟩) (cell_lt hu3), hu3, hr3, hxx]
            have m0 : 0 ≤ f * x := Int.mul_nonneg hf0 hx0
            have m1 : f * x ≤ 36 := Int.le_trans (Int.mul_le_mul (show f ≤ 6 by omega) (show x ≤ 6 by omega) hx0 (by omega)) (by omega)
            have HS := Lib.hid (HB.step OK.out hlt2 hlt4 (x := (a + f * x) % p) (by rw [haa, HF.out, hxx, getD_of_lt _ hlt2, getD_of_lt _ hlt3, ← HY.out, getD_of_lt _ hl5]))
            clear HB hu3 hr3 haa hxx hv3 hcl3
            go_wp2
            go_region
            all_goals go_wp2
            all_goals go_roundw
            case rel => exact ⟨q + 1, by omega, by go_num, HS.out.drew⟩
            case measure => simp [intOf]; omega
          · have HB' := Lib.hid HB
            have hqc : Hid (q = c) := Lib.hid (by omega)
            clear HB
            go_wp2
            go_roundw
            case rel => exact ⟨k + 1, by omega, by go_num, Ap.next (by have := HB'.out; rwa [hqc.out] at this)⟩
            case measure => simp [intOf]; omega
      · have hkk : k = v.length := by omega
        subst hkk
        have HA' := Lib.hid HA
        clear HA
        go_wp2
        go_ret
        exact ⟨_, rfl, Ap.done OK.out HA'.out, HA'.out.below⟩
end Go.Proofs.YtpchbceohnabnabDoor

namespace Go.Proofs.YtpchbceohnabnabDoor
open Go.RowKit

def ints (zs : List Int) : Array Value := (zs.map (Value.int .i64)).toArray
theorem ints_size (zs : List Int) : (ints zs).size = zs.length := by simp [ints]
theorem ints_at {zs : List Int} {i : Nat} (h : i < zs.length) : (ints zs)[i]? = some (.int .i64 zs[i]) := by simp [ints, h]

section
variable {P : Program}
theorem run_part_int (w : World) {e : TypeId} (he : P.underlying e = some (.int .i64)) (cs : Array Value) (i : Nat) (v : Value) (h : cs[i]? = some v) : (part e cs i).run P w = .ok v w := by
  simp [part, isAgg, run_underlying he, h]

/-- Equality place by place is equality of lists. -/
theorem ints_agree {zs ys : List Int} (h : zs.length = ys.length) : (∀ i ∈ List.range' 0 zs.length 1, zs.getD i 0 = ys.getD i 0) ↔ zs = ys := by
  constructor
  · intro hall
    refine List.ext_getElem h fun i h1 h2 => ?_
    have := hall i (by simpa using h1)
    simpa [List.getD, h1, h2] using this
  · intro e i _
    rw [e]

theorem run_equalIn_ints (w : World) (d : Nat) {t e : TypeId} {n : Nat} (zs ys : List Int) (ht : P.underlying t = some (.array n e)) (he : P.underlying e = some (.int .i64)) (hz : (P.info? e).map (·.size) = some 1)
    (h1 : zs.length = n) (h2 : ys.length = n) : (Op.equalIn (d + 2) t (.agg (ints zs)) (.agg (ints ys))).run P w = .ok (decide (zs = ys)) w := by
  obtain ⟨inf, hi, hs⟩ := Option.map_eq_some_iff.1 hz
  have hsz : (sizeOf e).run P w = .ok 1 w := by simp [sizeOf, typeInfo, hi, hs]
  have key := ints_agree (h1.trans h2.symm)
  rw [h1] at key
  have hd : decide (zs = ys) = decide (∀ i ∈ List.range' 0 n 1, zs.getD i 0 = ys.getD i 0) := by
    by_cases hq : zs = ys
    · rw [decide_eq_true hq, decide_eq_true (key.2 hq)]
    · rw [decide_eq_false hq, decide_eq_false (fun hh => hq (key.1 hh))]
  have hr : ∀ i ∈ List.range' 0 n 1, i < zs.length ∧ i < ys.length := fun i hm => by
    have := (List.mem_range'_1.1 hm).2
    omega
  rw [hd, Op.equalIn]
  simp only [Sem.run_bind, run_underlying ht, Result.andThen_ok, hsz, Std.Legacy.Range.forIn_eq_forIn_range', Std.Legacy.Range.size, Nat.sub_zero, Nat.add_sub_cancel, Nat.div_one, Nat.mul_one]
  clear hd key
  generalize List.range' 0 n 1 = l at hr ⊢
  induction l with
  | nil => simp
  | cons i l ih =>
    obtain ⟨hi1, hi2⟩ := hr i (List.mem_cons_self ..)
    have hh : (Op.equalIn (d + 1) e (.int .i64 (zs.getD i 0)) (.int .i64 (ys.getD i 0))).run P w = .ok (zs.getD i 0 == ys.getD i 0) w := run_equalIn_int w d e .i64 .i64 _ _ he
    have ha := run_part_int w he (ints zs) i (.int .i64 (zs.getD i 0)) (by rw [ints_at hi1]; simp [List.getD, hi1])
    have hb := run_part_int w he (ints ys) i (.int .i64 (ys.getD i 0)) (by rw [ints_at hi2]; simp [List.getD, hi2])
    have hnext := ih (fun j hj => hr j (List.mem_cons_of_mem _ hj))
    simp only [List.forIn_cons, Sem.run_bind, ha, hb, hh, Result.andThen_ok]
    by_cases hq : zs.getD i 0 = ys.getD i 0
    · rw [beq_iff_eq.2 hq]
      simp only [Bool.not_true, Bool.false_eq_true, if_false, Sem.run_pure, Result.andThen_ok]
      rw [hnext]
      simp only [List.forall_mem_cons, hq, true_and]
    · rw [beq_eq_false_iff_ne.2 hq]
      simp only [Bool.not_false, if_true, Sem.run_pure, Result.andThen_ok, List.forall_mem_cons, hq, false_and, decide_false]

theorem run_neq_ints (w : World) {t e : TypeId} {n : Nat} (zs ys : List Int) (ht : P.underlying t = some (.array n e)) (he : P.underlying e = some (.int .i64)) (hz : (P.info? e).map (·.size) = some 1)
    (h1 : zs.length = n) (h2 : ys.length = n) : (binOp .neq t (.agg (ints zs)) (.agg (ints ys))).run P w = .ok (.bool (!decide (zs = ys))) w := by
  rw [run_neq_struct, run_equalIn_ints w 9998 zs ys ht he hz h1 h2]
  rfl
end
end Go.Proofs.YtpchbceohnabnabDoor

namespace Go.Proofs.YtpchbceohnabnabDoor
open Go.RowKit

def zl : List Value := List.replicate 40 (.int .i64 0)
theorem zl_length : zl.length = 40 := by simp [zl]
/-- A row with zeros behind it, MaxRows numbers in all. -/
def pad (v : List Int) : List Int := v ++ List.replicate (40 - v.length) 0
theorem pad_length {v : List Int} (h : v.length ≤ 40) : (pad v).length = 40 := by simp [pad]; omega
theorem pad_splice (v : List Int) : (splice zl 0 (v.map (Value.int .i64))).toArray = ints (pad v) := by
  have e : zl = (List.replicate 40 (0 : Int)).map (Value.int .i64) := by simp [zl]
  have h2 : List.drop v.length (List.replicate 40 (0 : Int)) = List.replicate (40 - v.length) 0 := List.drop_replicate ..
  rw [e]
  simp only [splice, ints, pad, List.take_zero, List.nil_append, Nat.zero_add, List.length_map, ← List.map_drop, h2, List.map_append]
theorem pad_zero {v : List Int} (h : v.length ≤ 40) : pad v = List.replicate 40 0 ↔ ∀ x ∈ v, x = 0 := by
  constructor
  · intro e x hx
    have : x ∈ pad v := by simp [pad, hx]
    rw [e] at this
    exact List.eq_of_mem_replicate this
  · intro hall
    refine List.eq_replicate_iff.2 ⟨pad_length h, fun x hx => ?_⟩
    rcases List.mem_append.1 hx with h1 | h1
    · exact hall x h1
    · exact List.eq_of_mem_replicate h1

theorem Tryd.underlyingV : Tryd.prog.underlying 94 = some (.array 40 2) := by kernel_rfl
theorem Tryd.infoV : (Tryd.prog.info? 94).map (·.size) = some 40 := by kernel_rfl
theorem Tryd.infoI1 : (Tryd.prog.info? 2).map (·.size) = some 1 := by kernel_rfl

set_option maxRecDepth 100000 in
theorem hmk40 : ∀ w, (Instr.makeSlice 22 (.int .i64 40) (.int .i64 40)).run Tryd.prog w = .ok (.slice (some ⟨w.heap.size, 0, none⟩) 40 40) (w.alloc (.cells zl.toArray 2)) := fun w => by
  have h := run_make_row' (P := Tryd.prog) 22 2 (.int .i64 0) 8 Tryd.underlying22 Tryd.infoI rfl .i64 .i64 40 (by omega) (by omega) w
  have e : madeCells #[.int .i64 0] 40 = zl.toArray := by kernel_rfl
  rw [e] at h
  exact h

theorem below_two (w : World) (A B : Obj) : Below w.heap.size w ((w.alloc A).alloc B) := ((Below.refl _ _).alloc (Nat.le_refl _) _).alloc (by simp) _
theorem below_second (w : World) (A B : Obj) : Below (w.heap.size + 1) (w.alloc A) ((w.alloc A).alloc B) := (Below.refl _ _).alloc (by simp) _
def AR (a : Array Value) (w : World) (e : Ending) (w' : World) : Prop := e = .returned (.agg a) ∧ Below w.heap.size w w'

set_option maxHeartbeats 3200000 in
set_option maxRecDepth 100000 in
theorem vectorOf_any (va : Value) (v : List Int) (w : World) (ha : L1 0 w va v) (hv : v.length ≤ 40) :
    Calls Tryd.prog 84 #[va] w (AR (ints (pad v)) w) := by
  have hmk := hmk40
  have hat : ∀ (g : Nat) w, (Instr.arrayAt 94 (.slice (some ⟨g, 0, none⟩) 40 40)).run Tryd.prog w = .ok (.pointer (some ⟨g, 0, none⟩)) w := fun g w => run_arrayAt w _ _ 40 _ 40 40 Tryd.underlyingV (Nat.le_refl _)
  have hres : Tryd.f84.results = #[.cell 2 94] := by kernel_rfl
  have HRES := Lib.hid hres
  clear hres
  obtain ⟨cs, hcs⟩ : ∃ cs, cs = v.map (Value.int .i64) := ⟨_, rfl⟩
  have hcl : cs.length = v.length := by rw [hcs]; simp
  have hsp : (splice zl 0 cs).toArray = ints (pad v) := by rw [hcs]; exact pad_splice v
  have hone : ∀ u ∈ cs, u.oneCell' = true := by rw [hcs]; exact ints_oneCell _ _
  have hsrc : ∃ ad cap, va = .slice ad v.length cap ∧ (0 < cs.length → ∃ a, ad = some a ∧ ∀ j u, cs[j]? = some u → w.cell? (a.add j) = some u) := by
    refine Sl.cases ha (fun ad cap hx hv' => ⟨ad, cap, by subst hx; exact hv', fun h0 => by rw [hcl, hx] at h0; simp at h0⟩) (fun b o cap hv' _ hpos hc => ⟨_, cap, hv', fun _ => ⟨_, rfl, fun j u hu => ?_⟩⟩)
    have hj : j < v.length := by rw [← hcl]; exact (List.getElem?_eq_some_iff.1 hu).1
    obtain ⟨u2, h2, h3⟩ := hc j hj
    rw [Addr.add_lit, h2, h3]
    rw [hcs] at hu
    simp [hj] at hu
    rw [hu]
  obtain ⟨ad, cap, rfl, hpos⟩ := hsrc
  have HN : Hid (cs.length = Nat.min v.length 40) := Lib.hid (by rw [hcl]; exact (Nat.min_eq_left hv).symm)
  have HFIT : Hid (0 + cs.length ≤ zl.length) := Lib.hid (by rw [zl_length]; omega)
  have HPOS : Hid (∀ W, Below w.heap.size w W → 0 < cs.length → some (⟨w.heap.size + 1, 0, none⟩ : Addr) = some ⟨w.heap.size + 1, 0, none⟩ ∧ ∃ a, ad = some a ∧ ∀ j u, cs[j]? = some u → W.cell? (a.add j) = some u) := Lib.hid (fun W hb h0 => by
    obtain ⟨a, h1, h2⟩ := hpos h0
    refine ⟨rfl, a, h1, fun j u hu => ?_⟩
    have h3 := h2 j u hu
    rw [hb.cell (World.block_lt_of_cell? _ _ h3), h3])
  have HSP := Lib.hid hsp
  have HONE := Lib.hid hone
  have HPAD : Hid ((Tryd.prog.info? 94).map (·.size) = some (ints (pad v)).size) := Lib.hid (by rw [ints_size, pad_length hv]; exact Tryd.infoV)
  have HALL : Hid ((ints (pad v)).all (·.oneCell') = true) := Lib.hid (by simp [ints, Value.oneCell'])
  clear hcl hsp hone hpos hcs ha
  go_enter Tryd.func84, Tryd.ntmps84
  go_wp2_with (with_reducible refine wpList_copy_splice rfl (.tmp 5) (.tmp 6) 22 22 rfl 2 Tryd.underlying22 Tryd.infoI1 (some ⟨w.heap.size + 1, 0, none⟩) ad 40 40 v.length cap rfl rfl (w.heap.size + 1) 0 zl 2 (heap_alloc2_new _ _ _) cs HN.out (HPOS.out _ (below_two _ _ _)) HFIT.out HONE.out (w.heap.size + 1) _ (below_second _ _ _) (Nat.le_refl _) ?_)
  intro w2 HG2 hB2
  have hzz : ∃ old : Array Value, old.size = 40 ∧ w2.heap[w.heap.size]? = some (.cells old 94 (0, 0)) := by
    refine ⟨_, ?_, (hB2.block _ (Nat.lt_succ_self _)).trans (heap_alloc_new _ _)⟩
    rfl
  obtain ⟨old, hold, hz⟩ := hzz
  have hbel : Below w.heap.size w w2 := ((Below.refl _ _).alloc (Nat.le_refl _) _).trans (hB2.mono (Nat.le_succ _))
  have hg2 : w2.heap[w.heap.size + 1]? = some (.cells (ints (pad v)) 2 (0, 0)) := by rw [← HSP.out]; exact HG2.out
  have HZ := Lib.hid hz
  have HB := Lib.hid hbel
  have HOLD := Lib.hid hold
  have HG := Lib.hid hg2
  have HOS : Hid (old.size = (ints (pad v)).size) := Lib.hid (by rw [hold, ints_size, pad_length hv])
  clear hz hbel hold hg2 HG2 hB2
  go_wp2_with (first | (with_reducible refine wpList_load_row rfl 94 (.tmp 9) rfl (w.heap.size + 1) rfl 2 (ints (pad v)) (0, 0) _ HG.out Tryd.underlyingV rfl HPAD.out ?_) | (with_reducible refine wpList_store_row rfl 94 (.tmp 2) (.tmp 10) rfl w.heap.size (ints (pad v)) rfl rfl 94 old HZ.out HPAD.out HOS.out HALL.out ?_))
  exact bodyPost_ret (v := .agg (ints (pad v))) (results_cell_row HRES.out _ _ w.heap.size 94 (ints (pad v)) (0, 0) _ rfl (setRow_heap _ _ _ _ _ _ HZ.out) Tryd.underlyingV rfl HPAD.out) rfl ⟨rfl, below_setRow HB.out (Nat.le_refl _) _⟩
end Go.Proofs.YtpchbceohnabnabDoor

namespace Go.Proofs.YtpchbceohnabnabDoor
open Go.RowKit

section
variable {P : Program} {ops : Array Oper} {Q : Exit → Act → World → Prop} {md : Region.Mode} {S : World → Prop} {n : Nat}

/-- The last operation, taken out: it waits as it did and does nothing. -/
def calmOp (o : Oper) : Oper := { o with op := .move (.const (.bool false)), dst := none }
/-- What is owed where all others have come up: the last one. -/
def lastQ (P : Program) (ops : Array Oper) (n : Nat) (Q : Exit → Act → World → Prop) : Exit → Act → World → Prop
  | .normal, a, w => wpOp P ops Q n (fun a' w' => Q .normal a' w') a w
  | e, a, w => Q e a w
structure LastOk (md : Region.Mode) (ops : Array Oper) (n : Nat) (on : Oper) : Prop where
  at' : ops[n]? = some on
  size : n + 1 = ops.size
  guard : ∀ (j : Nat) (oj : Oper), ops[j]? = some oj → oj.guard = none
  ord : ∀ (j : Nat) (oj : Oper), ops[j]? = some oj → ∀ e : Edge, e ∈ oj.after → e.on < j
  last : ∀ j, j < n → ∃ e : Edge, e ∈ on.after ∧ Region.binds md e = true ∧ e.on = j

theorem calm_get {on : Oper} (h : LastOk md ops n on) (i : Nat) : (ops.setIfInBounds n (calmOp on))[i]? = if i = n then some (calmOp on) else ops[i]? := by
  have := h.size
  by_cases e : i = n
  · subst e
    rw [if_pos rfl, Array.getElem?_setIfInBounds_self_of_lt (by omega)]
  · rw [if_neg e, Array.getElem?_setIfInBounds_ne (fun h => e h.symm)]
theorem calm_ready {on : Oper} (h : LastOk md ops n on) (listed : Array Bool) : Region.ready md (ops.setIfInBounds n (calmOp on)) listed = Region.ready md ops listed := by
  unfold Region.ready
  rw [Array.size_setIfInBounds]
  refine List.filter_congr fun i _ => ?_
  rw [calm_get h]
  by_cases e : i = n
  · subst e
    rw [if_pos rfl, h.at']
    rfl
  · rw [if_neg e]
theorem getD_same {listed : Array Bool} {i : Nat} (h : i < listed.size) (x y : Bool) : listed.getD i x = listed.getD i y := by simp [h]
theorem least_unlisted {listed : Array Bool} : ∀ k, listed.getD k true = false → ∃ m, m ≤ k ∧ listed.getD m true = false ∧ ∀ j, j < m → listed.getD j true = true := by
  intro k
  induction k using Nat.strongRecOn with
  | ind k ih =>
    intro hk
    by_cases hx : ∃ j, j < k ∧ listed.getD j true = false
    · obtain ⟨j, hj, h0⟩ := hx
      obtain ⟨m, h1, h2⟩ := ih j hj h0
      exact ⟨m, by omega, h2⟩
    · exact ⟨k, Nat.le_refl _, hk, fun j hj => by
        cases hb : listed.getD j true with
        | true => rfl
        | false => exact absurd ⟨j, hj, hb⟩ hx⟩
theorem ready_some {on : Oper} (h : LastOk md ops n on) {listed : Array Bool} (hs : listed.size = ops.size) (hn : listed.getD n true = false) : Region.ready md ops listed ≠ [] := by
  obtain ⟨m, hm, h0, h1⟩ := least_unlisted n hn
  have hlt : m < ops.size := by have := h.size; omega
  intro e
  have : m ∈ Region.ready md ops listed := mem_ready.2 ⟨h0, ops[m], Array.getElem?_eq_getElem hlt, fun x hx _ => by
    have hx2 := h.ord m ops[m] (Array.getElem?_eq_getElem hlt) x hx
    rw [getD_same (by omega) false true]
    exact h1 _ hx2⟩
  rw [e] at this
  cases this
theorem last_ready {on : Oper} (h : LastOk md ops n on) {listed : Array Bool} (hs : listed.size = ops.size) (hr : n ∈ Region.ready md ops listed) : ∀ j, j < ops.size → (listed.setIfInBounds n true).getD j true = true := by
  intro j hj
  by_cases e : j = n
  · subst e
    simp [hs, hj]
  · obtain ⟨x, hx, hb, he⟩ := h.last j (by have := h.size; omega)
    obtain ⟨_, oj, hoj, hall⟩ := mem_ready.1 hr
    rw [h.at'] at hoj
    injection hoj with hoj
    subst hoj
    have h2 := hall x hx hb
    rw [he] at h2
    rw [getD_set_ne true (fun h => e h.symm), getD_same (by omega) true false]
    exact h2
theorem ready_none {listed : Array Bool} (hall : ∀ j, j < ops.size → listed.getD j true = true) : Region.ready md ops listed = [] := by
  refine List.eq_nil_iff_forall_not_mem.2 fun i hi => ?_
  obtain ⟨h0, oj, hoj, _⟩ := mem_ready.1 hi
  have := hall i (Array.getElem?_eq_some_iff.1 hoj).1
  rw [this] at h0
  cases h0
theorem wp_of_last {o : Oper} {a : Act} {w : World} {K K' : Act → World → Prop} (h : ∀ a w, K a w → K' a w) (hh : o.wp P a w K (lastQ P ops n Q)) : o.wp P a w K' Q := by
  unfold Oper.wp at *
  generalize (execOp a.eval o).run P w = r at *
  cases r with
  | ok x w' =>
    cases x <;> simp only [Oper.upon] at hh ⊢ <;>
      first
        | exact h _ _ hh
        | exact Calls.mono hh (fun e w'' he => by cases e <;> first | exact h _ _ he | exact he)
        | exact Rows.mono hh (fun _ _ he => h _ _ he)
  | halt x w' => cases x <;> simp only [Oper.upon] at hh ⊢ <;> exact hh
theorem held_normal {Q' : Exit → Act → World → Prop} {ops' : Array Oper} {listed : Array Bool} {a : Act} {w : World} (hr : Region.ready md ops' listed = []) : ∀ fuel, wpAnyH P md ops' Q' S fuel listed a w → Q' .normal a w
  | 0, h => h.2
  | _ + 1, h => h.1 hr

theorem any_of_calm {on : Oper} (h : LastOk md ops n on) : ∀ (fuel : Nat) (listed : Array Bool) (a : Act) (w : World), listed.size = ops.size → listed.getD n true = false →
    wpAnyH P md (ops.setIfInBounds n (calmOp on)) (lastQ P ops n Q) S fuel listed a w → wpAny P md ops Q fuel listed a w := by
  intro fuel
  induction fuel with
  | zero =>
    intro listed a w hs hn hh
    have h0 := hh.1
    rw [calm_ready h] at h0
    exact absurd h0 (ready_some h hs hn)
  | succ fuel ih =>
    intro listed a w hs hn hh
    have hne := ready_some h hs hn
    refine ⟨fun e => absurd e hne, fun i hi => ?_⟩
    have h1 := hh.2 i (by rw [calm_ready h]; exact hi)
    obtain ⟨hi0, oi, hoi, _⟩ := mem_ready.1 hi
    have hw : ∀ (o : Oper) (f : Nat → Option Bool), o.guard = none → Region.wanted o f = true := fun o f hg => by unfold Region.wanted; rw [hg]
    by_cases e : i = n
    · subst e
      have hall := last_ready h hs hi
      unfold wpOp at h1
      rw [calm_get h, if_pos rfl] at h1
      have hg : (calmOp on).guard = none := h.guard i on h.at'
      simp only [hw _ _ hg, if_true] at h1
      have h2 : S w ∧ wpAnyH P md (ops.setIfInBounds i (calmOp on)) (lastQ P ops i Q) S fuel (listed.setIfInBounds i true) a w := by
        rcases h1 with h1 | h1
        · exact h1
        · exact absurd h1.1.1 (by
            have : (execOp a.eval (calmOp on)).runT P w #[] = (.ok (.value (.bool false)) w, #[]) := rfl
            rw [this]
            exact Array.not_mem_empty _)
      have h3 := held_normal (by rw [calm_ready h]; exact ready_none hall) _ h2.2
      exact wpOp_mono (fun a' w' hq => wpAny_done (ready_none hall) hq _) h3
    · unfold wpOp at h1 ⊢
      rw [calm_get h, if_neg e, hoi] at h1
      rw [hoi]
      have hg := h.guard _ _ hoi
      simp only [hw _ _ hg, if_true] at h1 ⊢
      refine h1.imp (wp_of_last fun a' w' hk => ih _ _ _ (by simpa using hs) ?_ hk.2) (fun hx => ⟨hx.1, hx.2⟩)
      rw [getD_set_ne true e]
      exact hn

/-- The conditions as one Bool. -/
def lastB (md : Region.Mode) (ops : Array Oper) (n : Nat) : Bool :=
  decide (n + 1 = ops.size) && (List.range ops.size).all (fun j => match ops[j]? with | some o => o.guard.isNone && o.after.all (fun e => decide (e.on < j)) | none => true) &&
  (match ops[n]? with | some o => (List.range n).all (fun j => o.after.any fun e => Region.binds md e && decide (e.on = j)) | none => false)
theorem lastB_ok {on : Oper} (hn : ops[n]? = some on) (h : lastB md ops n = true) : LastOk md ops n on := by
  unfold lastB at h
  rw [hn] at h
  simp only [Bool.and_eq_true, decide_eq_true_eq, List.all_eq_true, List.mem_range] at h
  obtain ⟨⟨h1, h2⟩, h3⟩ := h
  have key : ∀ (j : Nat) (oj : Oper), ops[j]? = some oj → oj.guard = none ∧ ∀ e : Edge, e ∈ oj.after → e.on < j := fun j oj hj => by
    have := h2 j (Array.getElem?_eq_some_iff.1 hj).1
    rw [hj] at this
    simp only [Bool.and_eq_true] at this
    refine ⟨Option.isNone_iff_eq_none.1 this.1, fun e he => ?_⟩
    have h5 := Array.all_eq_true_iff_forall_mem.1 this.2 e he
    exact of_decide_eq_true h5
  refine ⟨hn, h1, fun j oj hj => (key j oj hj).1, fun j oj hj => (key j oj hj).2, fun j hj => ?_⟩
  obtain ⟨i, hi, h6⟩ := Array.any_eq_true.1 (h3 j hj)
  obtain ⟨e, he⟩ : ∃ e, e = on.after[i] := ⟨_, rfl⟩
  rw [← he] at h6
  have he : e ∈ on.after := he ▸ Array.getElem_mem hi
  rw [Bool.and_eq_true] at h6
  exact ⟨e, he, h6.1, of_decide_eq_true h6.2⟩
/-- The region: all but the last in whatever order under S, then the last. -/
theorem wp_region_last {id : Nat} {a : Act} {w : World} {on : Oper} (S : World → Prop) (n : Nat) (hm : P.follows .mixedOrders = true) (hn : ops[n]? = some on) (hB : lastB .any ops n = true)
    (h : wpAnyH P .any (ops.setIfInBounds n (calmOp on)) (lastQ P ops n Q) S ops.size (Array.replicate ops.size false) a w.drew) : (Code.region id ops true).wp P Q a w := by
  have hl := lastB_ok hn hB
  refine wp_region_any hm (any_of_calm (S := S) hl _ _ _ _ (by simp) ?_ h)
  have := hl.size
  have hlt : n < ops.size := by omega
  simp [hlt]

/-- One call alone may come up. -/
theorem held_call {i : Nat} {oi : Oper} {fuel : Nat} {listed : Array Bool} {a : Act} {w : World} (hr : Region.ready md ops listed = [i]) (hi : ops[i]? = some oi) (hg : oi.guard = none)
    (h : oi.wp P a w (fun a' w' => S w' ∧ wpAnyH P md ops Q S fuel (listed.setIfInBounds i true) a' w') Q) : wpAnyH P md ops Q S (fuel + 1) listed a w :=
  wpAnyH_all hr (by simp) (fun j hj => by
    obtain rfl := List.mem_singleton.1 hj
    unfold wpOp
    rw [hi]
    have hw : Region.wanted oi (yielded ops a.tmps) = true := by unfold Region.wanted; rw [hg]
    simp only [hw, if_true]
    exact Or.inl h)
theorem wp_enter {o : Oper} {a : Act} {w : World} {K : Act → World → Prop} {f : FuncId} {args : Array Value} (h : (execOp a.eval o).run P w = .ok (.enter f args) w) {R : Ending → World → Prop} (hc : Calls P f args w R) (hR : ∀ v w', R (.returned v) w' → K (a.put o.dst v) w') (h2 : ∀ c w', ¬ R (.panicked c) w') (h3 : ∀ w', ¬ R .outgrown w') : o.wp P a w K Q := by
  unfold Oper.wp
  rw [h]
  refine hc.mono fun e w' he => ?_
  cases e with
  | returned v => exact hR v w' he
  | panicked c => exact absurd he (h2 c w')
  | outgrown => exact absurd he (h3 w')
theorem held_take {i : Nat} {oi : Oper} {v : Value} {fuel : Nat} {listed : Array Bool} {a : Act} {w : World} (d : Option Tmp) (hi : ops[i]? = some oi) (hd : oi.dst = d)
    (hs : Region.noSelect ops = true) (hf : Region.free md ops listed i = true) (hr : (Region.ready md ops listed).contains i = true)
    (hQ : ∀ c a w, Q (.panic c) (a.put oi.dst v) w → Q (.panic c) a w) (hy : YieldsIf P ops S oi v a) (hS : S w)
    (h : wpAnyH P md ops Q S fuel (listed.setIfInBounds i true) (a.put d v) w) : wpAnyH P md ops Q S (fuel + 1) listed a w :=
  wpAnyH_take hi hs hf hr hQ hy hS (by rw [hd]; exact h)
theorem held_enter {i : Nat} {oi : Oper} {fuel : Nat} {listed : Array Bool} {a : Act} {w : World} (d : Option Tmp) {f : FuncId} {args : Array Value} (hr : Region.ready md ops listed = [i]) (hi : ops[i]? = some oi) (hg : oi.guard = none) (hd : oi.dst = d)
    (h : (execOp a.eval oi).run P w = .ok (.enter f args) w) {R : Ending → World → Prop} (hc : Calls P f args w R) (hR : ∀ v w', R (.returned v) w' → S w' ∧ wpAnyH P md ops Q S fuel (listed.setIfInBounds i true) (a.put d v) w') (h2 : ∀ c w', ¬ R (.panicked c) w') (h3 : ∀ w', ¬ R .outgrown w') : wpAnyH P md ops Q S (fuel + 1) listed a w :=
  held_call hr hi hg (wp_enter h hc (fun v w' hv => by rw [hd]; exact hR v w' hv) h2 h3)
/-- The end: the last operation itself. -/
theorem lastQ_of {on : Oper} {a : Act} {w : World} (hn : ops[n]? = some on) (hg : on.guard = none) (h : on.wp P a w (fun a' w' => Q .normal a' w') Q) : lastQ P ops n Q .normal a w := by
  show wpOp P ops Q n _ a w
  unfold wpOp
  rw [hn]
  have hw : Region.wanted on (yielded ops a.tmps) = true := by unfold Region.wanted; rw [hg]
  simp only [hw, if_true]
  exact Or.inl h
theorem lastQ_store {on : Oper} {a : Act} {w : World} (hn : ops[n]? = some on) (hg : on.guard = none) (hd : on.dst = none) (ty : TypeId) (x y : Operand) (ho : on.op = .store ty x y)
    (b o : Nat) (cells : Array Value) (hx : a.eval x = .pointer (some ⟨b, o, none⟩)) (hy : a.eval y = .agg cells)
    (ht : w.there b o cells.size) (hi : (P.info? ty).map (·.size) = some cells.size) (h1 : cells.all (·.oneCell') = true)
    (h : Q .normal a (w.setCells b o cells.toList)) : lastQ P ops n Q .normal a w :=
  lastQ_of hn hg (wp_store_mid ty x y ho b o cells hx hy ht hi h1 (by rw [hd]; exact h))
theorem held_none {i : Nat} {oi : Oper} {fuel : Nat} {listed : Array Bool} {a : Act} {w : World} {v : Value} (hi : ops[i]? = some oi) (hd : oi.dst = none)
    (hs : Region.noSelect ops = true) (hf : Region.free md ops listed i = true) (hr : (Region.ready md ops listed).contains i = true)
    (hQ : ∀ c a w, Q (.panic c) (a.put oi.dst v) w → Q (.panic c) a w) (hy : YieldsIf P ops S oi v a) (hS : S w)
    (h : wpAnyH P md ops Q S fuel (listed.setIfInBounds i true) a w) : wpAnyH P md ops Q S (fuel + 1) listed a w :=
  held_take none hi hd hs hf hr hQ hy hS h
theorem yieldsIf_move {o : Oper} {a : Act} {x : Operand} {v : Value} (hg : o.guard = none) (ho : o.op = .move x) (hx : a.eval x = v) : YieldsIf P ops S o v a :=
  Or.inl ⟨by unfold Region.wanted; rw [hg], fun w _ => by
    unfold execOp
    simp only [ho, hx]
    rfl⟩
theorem yieldsIf_cell {o : Oper} {a : Act} {x : Operand} {v : Value} {t : TypeId} {b off : Nat} (hg : o.guard = none) (ho : o.op = .load t x) (hx : a.eval x = .pointer (some ⟨b, off, none⟩)) (hrun : ∀ w, S w → (Instr.loadAt t (.pointer (some ⟨b, off, none⟩))).run P w = .ok v w) : YieldsIf P ops S o v a :=
  Or.inl ⟨by unfold Region.wanted; rw [hg], fun w hw => by
    unfold execOp
    simp only [ho, hx, Sem.run_bind, hrun w hw, Result.andThen_ok]
    rfl⟩
theorem yieldsIf_index {o : Oper} {a : Act} {x y : Operand} {v u i : Value} {t : TypeId} (hg : o.guard = none) (ho : o.op = .indexAddr t x y) (hx : a.eval x = u) (hy : a.eval y = i) (hrun : ∀ w, (Instr.indexAt t u i).run P w = .ok v w) : YieldsIf P ops S o v a :=
  Or.inl ⟨by unfold Region.wanted; rw [hg], fun w _ => by
    unfold execOp
    simp only [ho, hx, hy, Sem.run_bind, hrun w, Result.andThen_ok]
    rfl⟩
/-- A guarded operation that is not wanted. -/
theorem held_skip0 {i : Nat} {oi : Oper} {fuel : Nat} {listed : Array Bool} {a : Act} {w : World} (d : Option Tmp) (hi : ops[i]? = some oi) (hd : oi.dst = d)
    (hs : Region.noSelect ops = true) (hf : Region.free md ops listed i = true) (hr : (Region.ready md ops listed).contains i = true)
    (hQ : ∀ c a w, Q (.panic c) (a.put oi.dst undef) w → Q (.panic c) a w) (hw : Region.wanted oi (yielded ops a.tmps) = false) (hS : S w)
    (h : wpAnyH P md ops Q S fuel (listed.setIfInBounds i true) (a.put d undef) w) : wpAnyH P md ops Q S (fuel + 1) listed a w :=
  held_take d hi hd hs hf hr hQ (Or.inr ⟨hw, rfl⟩) hS h
/-- A guarded call that is wanted, alone to come up. -/
theorem held_enterG {i : Nat} {oi : Oper} {fuel : Nat} {listed : Array Bool} {a : Act} {w : World} (d : Option Tmp) {f : FuncId} {args : Array Value} (hr : Region.ready md ops listed = [i]) (hi : ops[i]? = some oi) (hw : Region.wanted oi (yielded ops a.tmps) = true) (hd : oi.dst = d)
    (h : (execOp a.eval oi).run P w = .ok (.enter f args) w) {R : Ending → World → Prop} (hc : Calls P f args w R) (hR : ∀ v w', R (.returned v) w' → S w' ∧ wpAnyH P md ops Q S fuel (listed.setIfInBounds i true) (a.put d v) w') (h2 : ∀ c w', ¬ R (.panicked c) w') (h3 : ∀ w', ¬ R .outgrown w') : wpAnyH P md ops Q S (fuel + 1) listed a w :=
  wpAnyH_all hr (by simp) (fun j hj => by
    obtain rfl := List.mem_singleton.1 hj
    unfold wpOp
    rw [hi]
    simp only [hw, if_true]
    exact Or.inl (wp_enter h hc (fun v w' hv => by rw [hd]; exact hR v w' hv) h2 h3))
theorem yieldsIf_runG {o : Oper} {a : Act} {v : Value} (hw : Region.wanted o (yielded ops a.tmps) = true) (hrun : ∀ w, S w → (execOp a.eval o).run P w = .ok (.value v) w) : YieldsIf P ops S o v a :=
  Or.inl ⟨hw, hrun⟩
theorem yieldsIf_cellG {o : Oper} {a : Act} {x : Operand} {v : Value} {t : TypeId} {b off : Nat} (hw : Region.wanted o (yielded ops a.tmps) = true) (ho : o.op = .load t x) (hx : a.eval x = .pointer (some ⟨b, off, none⟩)) (hrun : ∀ w, S w → (Instr.loadAt t (.pointer (some ⟨b, off, none⟩))).run P w = .ok v w) : YieldsIf P ops S o v a :=
  Or.inl ⟨hw, fun w hw => by
    unfold execOp
    simp only [ho, hx, Sem.run_bind, hrun w hw, Result.andThen_ok]
    rfl⟩
end
end Go.Proofs.YtpchbceohnabnabDoor


namespace Go.Proofs.YtpchbceohnabnabDoor
open Go.RowKit

/-- Differentials of differentials are 0. -/
def SqOk (p : Int) (ds : List Int) (ms : List (List (List Int))) : Prop :=
  ∀ q, q + 1 < ms.length → ∀ r ∈ ms.getD (q + 1) [], ∀ x ∈ apT p (ds.getD q 0).toNat r (ms.getD q []), x = 0
/-- All that a complex is asked besides. -/
structure PreOk (p : Int) (ds : List Int) (ms : List (List (List Int))) : Prop where
  prime : IsP p
  len0 : 1 ≤ ds.length
  len1 : ds.length ≤ 6
  mlen : ms.length + 1 = ds.length
  dims : ∀ d ∈ ds, 0 ≤ d ∧ d ≤ 8
  tabs : ∀ k, k < ms.length → TabOk p (ds.getD (k + 1) 0) (ds.getD k 0) (ms.getD k [])

theorem PreOk.dim {p : Int} {ds : List Int} {ms : List (List (List Int))} (h : PreOk p ds ms) (k : Nat) : 0 ≤ ds.getD k 0 ∧ ds.getD k 0 ≤ 8 := by
  by_cases hk : k < ds.length
  · rw [getD_of_lt _ hk]; exact h.dims _ (List.getElem_mem _)
  · simp [List.getD, show ds.length ≤ k by omega]
theorem PreOk.ap {p : Int} {ds : List Int} {ms : List (List (List Int))} (h : PreOk p ds ms) {q : Nat} (hq : q + 1 < ms.length) {r : List Int} (hr : r ∈ ms.getD (q + 1) []) : ApOk p (ds.getD q 0).toNat r (ms.getD q []) := by
  have h1 := h.tabs (q + 1) hq
  have h0 := h.tabs q (by omega)
  have hd := h.dim q
  refine ⟨h.prime, ?_, (h1.2 r hr).2, fun r2 hr2 => ⟨?_, (h0.2 r2 hr2).2⟩⟩
  · have e1 := (h1.2 r hr).1
    have e2 := h0.1
    omega
  · have e1 := (h0.2 r2 hr2).1
    omega
theorem apT_length {p : Int} {c : Nat} {v : List Int} {t : List (List Int)} (h : ApOk p c v t) : (apT p c v t).length = c := apTo_length h (Nat.le_refl _)

/-- A call that says whether P, and leaves what was there. -/
def BB (P : Prop) (w : World) (e : Ending) (w' : World) : Prop := ∃ b : Bool, e = .returned (.bool b) ∧ Below w.heap.size w w' ∧ (b = true ↔ P)
theorem bb_true {P : Prop} {w w' : World} (hb : Below w.heap.size w w') (h : P) : BB P w (.returned (.bool true)) w' := ⟨true, rfl, hb, by simp [h]⟩
theorem bb_false {P : Prop} {w w' : World} (hb : Below w.heap.size w w') (h : ¬ P) : BB P w (.returned (.bool false)) w' := ⟨false, rfl, hb, by simp [h]⟩

theorem neq_zero {v : List Int} (hv : v.length ≤ 40) (w : World) : (binOp .neq 94 (.agg (ints (pad v))) (.agg #[.int .i64 0, .int .i64 0, .int .i64 0, .int .i64 0, .int .i64 0, .int .i64 0, .int .i64 0, .int .i64 0, .int .i64 0, .int .i64 0, .int .i64 0, .int .i64 0, .int .i64 0, .int .i64 0, .int .i64 0, .int .i64 0, .int .i64 0, .int .i64 0, .int .i64 0, .int .i64 0, .int .i64 0, .int .i64 0, .int .i64 0, .int .i64 0, .int .i64 0, .int .i64 0, .int .i64 0, .int .i64 0, .int .i64 0, .int .i64 0, .int .i64 0, .int .i64 0, .int .i64 0, .int .i64 0, .int .i64 0, .int .i64 0, .int .i64 0, .int .i64 0, .int .i64 0, .int .i64 0])).run Tryd.prog w = .ok (.bool (!decide (∀ x ∈ v, x = 0))) w := by
  have h := run_neq_ints (P := Tryd.prog) w (pad v) (List.replicate 40 0) Tryd.underlyingV Tryd.underlying2 Tryd.infoI1 (pad_length hv) (by simp)
  rw [show (#[.int .i64 0, .int .i64 0, .int .i64 0, .int .i64 0, .int .i64 0, .int .i64 0, .int .i64 0, .int .i64 0, .int .i64 0, .int .i64 0, .int .i64 0, .int .i64 0, .int .i64 0, .int .i64 0, .int .i64 0, .int .i64 0, .int .i64 0, .int .i64 0, .int .i64 0, .int .i64 0, .int .i64 0, .int .i64 0, .int .i64 0, .int .i64 0, .int .i64 0, .int .i64 0, .int .i64 0, .int .i64 0, .int .i64 0, .int .i64 0, .int .i64 0, .int .i64 0, .int .i64 0, .int .i64 0, .int .i64 0, .int .i64 0, .int .i64 0, .int .i64 0, .int .i64 0, .int .i64 0] : Array Value) = ints (List.replicate 40 0) from by kernel_rfl, h]
  have e := pad_zero hv
  by_cases hh : ∀ x ∈ v, x = 0
  · rw [decide_eq_true hh, decide_eq_true (e.2 hh)]
  · rw [decide_eq_false hh, decide_eq_false (fun h2 => hh (e.1 h2))]

/-- A cell of what was there, read in a later world. -/
theorem later {w w' : World} {b o : Nat} {u : Value} {B : Nat} (hb : Below B w w') (hB : w.heap.size ≤ B) (h : w.cell? ⟨b, o, none⟩ = some u) : w'.cell? ⟨b, o, none⟩ = some u := by
  rw [hb.cell (p := ⟨b, o, none⟩) (Nat.lt_of_lt_of_le (cell_lt h) hB), h]

set_option maxHeartbeats 3200000 in
set_option maxRecDepth 100000 in
theorem squares_any (p : Int) (dv mv : Value) (ds : List Int) (ms : List (List (List Int))) (w : World) (h : Cx 0 w dv mv ds ms) (ok : PreOk p ds ms) :
    Calls Tryd.prog 125 #[.agg #[.int .i64 p, dv, mv]] w (BB (SqOk p ds ms) w) := by
  have hlen0 := ok.len1
  have hmlen := Lib.hid ok.mlen
  have hml : ms.length ≤ 5 := by have := ok.mlen; have := ok.len1; omega
  have OK := Lib.hid ok
  clear ok
  have hb0 : Below w.heap.size w (w.alloc (.cells #[.int .i64 p, dv, mv] 30)) := (Below.refl _ _).alloc (Nat.le_refl _) _
  have HB0 := Lib.hid hb0
  clear hb0
  refine Sl.cases h.maps (fun ad cap hx hv' => ?_) (fun bm om capm hv' _ hpos hcl => ?_)
  · subst hx hv'
    clear h
    go_enter Tryd.func125, Tryd.ntmps125
    go_wp2
    refine wp_loop_rounds 1 ?_
    rw [rounds_succ]
    go_wp2
    go_ret
    exact bb_true HB0.out (fun q hq => absurd hq (by simp))
  · subst hv'
    refine Sl.cases h.dims (fun ad cap hx hv' => absurd hmlen.out (by subst hx; simp)) (fun bd od capd hv' _ hposd hcld => ?_)
    subst hv'
    have HC := Lib.hid hcl
    have HD := Lib.hid hcld
    clear h hcl hcld
    go_enter Tryd.func125, Tryd.ntmps125
    go_wp2
    go_loopw [3, 5, 6, 20] (fun i _ _ _ wr => ∃ (q : Nat), q ≤ ms.length ∧ i = .int .i64 ((q : Int) + 1) ∧ Below (w.heap.size + 1) (w.alloc (.cells #[.int .i64 p, .slice (some ⟨bd, od, none⟩) ds.length capd, .slice (some ⟨bm, om, none⟩) ms.length capm] 30)) wr ∧
      Hid (∀ q2, q2 < q → q2 + 1 < ms.length → ∀ r ∈ ms.getD (q2 + 1) [], ∀ x ∈ apT p (ds.getD q2 0).toNat r (ms.getD q2 []), x = 0)) (fun i _ _ _ _ => ms.length - (intOf i - 1).toNat)
    case atStart => exact ⟨0, Nat.zero_le _, rfl, Below.refl _ _, Lib.hid (fun _ h => absurd h (Nat.not_lt_zero _))⟩
    case round =>
      obtain ⟨q, hq, rfl, hbel, HSQ⟩ := hrel
      have HBEL := Lib.hid hbel
      clear hbel
      have hbw : Below w.heap.size w wr := HB0.out.trans (HBEL.out.mono (Nat.le_succ _))
      have HBW := Lib.hid hbw
      clear hbw
      have c0 : wr.cell? ⟨w.heap.size, 0, none⟩ = some (.int .i64 p) := later HBEL.out (by simp) (by simp)
      have c1 : wr.cell? ⟨w.heap.size, 1, none⟩ = some (.slice (some ⟨bd, od, none⟩) ds.length capd) := later HBEL.out (by simp) (by simp)
      have c2 : wr.cell? ⟨w.heap.size, 2, none⟩ = some (.slice (some ⟨bm, om, none⟩) ms.length capm) := later HBEL.out (by simp) (by simp)
      by_cases hlt : q + 1 < ms.length
      · obtain ⟨u1, hu1, hr1⟩ := HC.out (q + 1) hlt
        obtain ⟨u0, hu0, hr0⟩ := HC.out q (by omega)
        obtain ⟨ud, hud, hrd⟩ := HD.out q (by have := hmlen.out; omega)
        have hu1' : wr.cell? ⟨bm, om + (q + 1), none⟩ = some u1 := later HBW.out (Nat.le_refl _) hu1
        have hu0' : wr.cell? ⟨bm, om + q, none⟩ = some u0 := later HBW.out (Nat.le_refl _) hu0
        have hud' : wr.cell? ⟨bd, od + q, none⟩ = some ud := later HBW.out (Nat.le_refl _) hud
        have hdim := OK.out.dim q
        have hql : q < ds.length := by have := hmlen.out; omega
        obtain ⟨c, hc⟩ := Int.eq_ofNat_of_zero_le hdim.1
        have hc8 : c ≤ 8 := by omega
        have hud2 : wr.cell? ⟨bd, od + q, none⟩ = some (.int .i64 (c : Int)) := by rw [hud', hrd, ← getD_of_lt 0 hql, hc]
        have HCC : Hid ((ds.getD q 0).toNat = c) := Lib.hid (by omega)
        have htab := OK.out.tabs (q + 1) hlt
        rw [getD_of_lt _ hlt] at htab
        have htl : (ms[q + 1]).length ≤ 8 := by have := htab.1; have := OK.out.dim (q + 1 + 1); omega
        have hrl : ∀ r ∈ ms[q + 1], r.length ≤ 8 := fun r hr => by have := (htab.2 r hr).1; have := OK.out.dim (q + 1); omega
        have HRL := Lib.hid hrl
        have HR1 := Lib.hid hr1
        have HR0 := Lib.hid hr0
        have HNEXT : Hid ((∀ r ∈ ms[q + 1], ∀ x ∈ apT p c r (ms.getD q []), x = 0) → ∀ q2, q2 < q + 1 → q2 + 1 < ms.length → ∀ r ∈ ms.getD (q2 + 1) [], ∀ x ∈ apT p (ds.getD q2 0).toNat r (ms.getD q2 []), x = 0) := Lib.hid (fun hall q2 hq2 hlt2 => by
          by_cases e : q2 = q
          · subst e
            rw [HCC.out, getD_of_lt _ hlt]
            exact hall
          · exact HSQ.out q2 (by omega) hlt2)
        obtain ⟨t1, ht1⟩ : ∃ t1, t1 = ms[q + 1] := ⟨_, rfl⟩
        have HT1 := Lib.hid ht1
        rw [← ht1] at htl
        have HR1' : Hid (L2 0 w u1 t1) := Lib.hid (by rw [ht1]; exact HR1.out)
        have HNEXT' : Hid ((∀ j (hj : j < t1.length), ∀ x ∈ apT p c t1[j] (ms.getD q []), x = 0) → ∀ q2, q2 < q + 1 → q2 + 1 < ms.length → ∀ r ∈ ms.getD (q2 + 1) [], ∀ x ∈ apT p (ds.getD q2 0).toNat r (ms.getD q2 []), x = 0) := Lib.hid (fun hall => HNEXT.out (fun r hr => by
          rw [← ht1] at hr
          obtain ⟨j, hj, rfl⟩ := List.getElem_of_mem hr
          exact hall j hj))
        have HAP : Hid (∀ j (hj : j < t1.length), ApOk p c t1[j] (ms.getD q [])) := Lib.hid (fun j hj => by
          have := OK.out.ap hlt (r := t1[j]) (by rw [getD_of_lt _ hlt, ← ht1]; exact List.getElem_mem _)
          rwa [HCC.out] at this)
        have HNOT : Hid (∀ j (hj : j < t1.length), ¬ (∀ x ∈ apT p c t1[j] (ms.getD q []), x = 0) → ¬ SqOk p ds ms) := Lib.hid (fun j hj hne hs => hne (by
          have := hs q hlt t1[j] (by rw [getD_of_lt _ hlt, ← ht1]; exact List.getElem_mem _)
          rwa [HCC.out] at this))
        have HRLL : Hid (∀ j (hj : j < t1.length), (t1[j]).length ≤ 1048576) := Lib.hid (fun j hj => by have := HRL.out t1[j] (by rw [← ht1]; exact List.getElem_mem _); omega)
        have HR0' : Hid (L2 0 w u0 (ms.getD q [])) := Lib.hid (by rw [getD_of_lt _ (by omega)]; exact HR0.out)
        obtain ⟨t0, ht0⟩ : ∃ t0, t0 = ms.getD q [] := ⟨_, rfl⟩
        rw [← ht0] at HNEXT' HAP HNOT HR0'
        have HU0 := Lib.hid hu0
        have HUD : Hid (w.cell? ⟨bd, od + q, none⟩ = some (.int .i64 (c : Int))) := Lib.hid (by rw [hud, hrd, ← getD_of_lt 0 hql, hc])
        clear hu1 hu0 hud hr1 hr0 hrd hud' hdim hc htab hrl ht1 HR1 HR0 HNEXT HRL ht0 HCC
        refine Sl.cases HR1'.out (fun ad1 cap1 hx1 hv1 => ?_) (fun b1 o1 cap1 hv1 _ hpos1 hcl1 => ?_)
        · subst hv1
          have HX1 := Lib.hid hx1
          clear hx1
          go_wp2
          refine wp_loop_rounds 1 ?_
          rw [rounds_succ]
          go_wp2
          go_roundw
          case rel => exact ⟨q + 1, by omega, by go_num, HBEL.out, Lib.hid (HNEXT'.out (fun j hj => absurd hj (by rw [HX1.out]; simp)))⟩
          case measure => simp [intOf]; omega
        · subst hv1
          have HC1 := Lib.hid hcl1
          clear hcl1
          have hdec : decide ((q : Int) + 1 < (ms.length : Int)) = true := by simp; omega
          obtain ⟨wo, hwo⟩ : ∃ wo : World, wo = wr := ⟨_, rfl⟩
          have HWO := Lib.hid hwo
          clear hwo
          go_wp2
          go_loopw [5, 6, 20] (fun _ _ i wr => ∃ (j : Nat), j ≤ t1.length ∧ i = .int .i64 j ∧ Below (w.heap.size + 1) (w.alloc (.cells #[.int .i64 p, .slice (some ⟨bd, od, none⟩) ds.length capd, .slice (some ⟨bm, om, none⟩) ms.length capm] 30)) wr ∧
            Hid (∀ j2 (hj : j2 < t1.length), j2 < j → ∀ x ∈ apT p c t1[j2] t0, x = 0)) (fun _ _ i _ => t1.length - (intOf i).toNat)
          case atStart => exact ⟨0, Nat.zero_le _, rfl, HBEL.out, Lib.hid (fun _ _ h => absurd h (Nat.not_lt_zero _))⟩
          case round =>
            clear c0 c1 c2 hu1' hu0' hud2
            obtain ⟨j, hj, rfl, hbel2, HJ⟩ := hrel
            have HBEL2 := Lib.hid hbel2
            clear hbel2
            have HBW2 := Lib.hid (HB0.out.trans (HBEL2.out.mono (Nat.le_succ _)))
            have c0 : wr.cell? ⟨w.heap.size, 0, none⟩ = some (.int .i64 p) := later HBEL2.out (by simp) (by simp)
            have c1 : wr.cell? ⟨w.heap.size, 1, none⟩ = some (.slice (some ⟨bd, od, none⟩) ds.length capd) := later HBEL2.out (by simp) (by simp)
            have c2 : wr.cell? ⟨w.heap.size, 2, none⟩ = some (.slice (some ⟨bm, om, none⟩) ms.length capm) := later HBEL2.out (by simp) (by simp)
            by_cases hltj : j < t1.length
            · obtain ⟨u2, hu2, hr2⟩ := HC1.out j hltj
              have hu2' : wr.cell? ⟨b1, o1 + j, none⟩ = some u2 := later HBW2.out (Nat.le_refl _) hu2
              have hu0' : wr.cell? ⟨bm, om + q, none⟩ = some u0 := later HBW2.out (Nat.le_refl _) HU0.out
              have hud2 : wr.cell? ⟨bd, od + q, none⟩ = some (.int .i64 (c : Int)) := later HBW2.out (Nat.le_refl _) HUD.out
              have HR2 := Lib.hid hr2
              clear hu2 hr2
              have hql' : q < ms.length := by omega
              go_wp2
              have hw1 : IntKind.i64.wrap ((q : Int) + 1 - 1) = (q : Int) := by rw [show (q : Int) + 1 - 1 = q by omega]; exact IntWalk.i64_in _ (by omega)
              have hw2 : IntKind.i64.wrap (q : Int) = (q : Int) := IntWalk.i64_in _ (by omega)
              have hq0 : (0 : Int) ≤ (q : Int) := by omega
              have hq1 : (q : Int) < (ms.length : Int) := by omega
              have hq2 : (q : Int) < (ds.length : Int) := by omega
              go_still_tail 15, (by kernel_rfl)
              change wpList _ _ _ _ _ wr.drew
              clear hw1 hw2 hq0 hq1 hq2
              have HBD := Lib.hid (HBW2.out.drew)
              have hall := HAP.out j hltj
              have hlen : (apT p c t1[j] t0).length ≤ 40 := by rw [apT_length hall]; omega
              have HALLJ := Lib.hid hall
              have HLEN := Lib.hid hlen
              clear hall hlen
              go_wp2_with fail
              refine (applyTable_any p c u2 u0 t1[j] t0 _ HALLJ.out (HR2.out.below HBD.out) (HR0'.out.below HBD.out) (HRLL.out j hltj) (by omega)).mono ?_
              rintro e w1 ⟨u, rfl, hru, hb1⟩
              have HRU := Lib.hid hru
              have HB1 := Lib.hid (HBEL2.out.drew.trans (hb1.mono (by have := HBEL2.out.size; simp at this; simp; omega)))
              clear hru hb1
              go_wp2_with fail
              refine (vectorOf_any u (apT p c t1[j] t0) _ (HRU.out.lower (Nat.zero_le _)) HLEN.out).mono ?_
              rintro e w2 ⟨rfl, hb2⟩
              have HB2 := Lib.hid (HB1.out.trans (hb2.mono (by have := HB1.out.size; simp at this; omega)))
              have HB2W := Lib.hid (HB0.out.trans (HB2.out.mono (Nat.le_succ _)))
              clear hb2
              have hneq := neq_zero HLEN.out
              by_cases hz : ∀ x ∈ apT p c t1[j] t0, x = 0
              · rw [decide_eq_true hz] at hneq
                have HZ := Lib.hid hz
                clear hz
                go_wp2
                go_roundw
                case rel => exact ⟨j + 1, by omega, by go_num, HB2.out, Lib.hid (fun j2 hj2 hlt2 => by
                  by_cases e : j2 = j
                  · subst e; exact HZ.out
                  · exact HJ.out j2 hj2 (by omega))⟩
                case measure => simp [intOf]; omega
              · rw [decide_eq_false hz] at hneq
                have HZ := Lib.hid hz
                clear hz
                go_wp2
                go_ret
                exact bb_false HB2W.out (HNOT.out j hltj HZ.out)
            · go_wp2
              go_roundw
              case rel => exact ⟨q + 1, by omega, by go_num, HBEL2.out, Lib.hid (HNEXT'.out (fun j2 hj2 => HJ.out j2 hj2 (by omega)))⟩
              case measure => simp [intOf]; omega
      · go_wp2
        go_ret
        exact bb_true HBW.out (fun q2 hq2 => HSQ.out q2 (by omega) hq2)
end Go.Proofs.YtpchbceohnabnabDoor

namespace Go.Proofs.YtpchbceohnabnabDoor
open Go.RowKit

def IsCx (p : Int) (ds : List Int) (ms : List (List (List Int))) : Prop := PreOk p ds ms ∧ SqOk p ds ms

theorem bw_yes {f : FuncId} {args : Array Value} {w : World} {P : Prop} (h : Calls Tryd.prog f args w (BW P w)) (hp : P) : Calls Tryd.prog f args w (QW (.bool true) w) :=
  h.mono fun _ _ ⟨b, he, hw, hb⟩ => ⟨by rw [he, hb.2 hp], hw⟩
theorem bw_no {f : FuncId} {args : Array Value} {w : World} {P : Prop} (h : Calls Tryd.prog f args w (BW P w)) (hp : ¬ P) : Calls Tryd.prog f args w (QW (.bool false) w) :=
  h.mono fun _ _ ⟨b, he, hw, hb⟩ => ⟨by
    have : b = false := by cases b with | false => rfl | true => exact absurd (hb.1 rfl) hp
    rw [he, this], hw⟩
theorem qw_quiet {f : FuncId} {args : Array Value} {w : World} {n : Nat} {v : Value} (h : Calls Tryd.prog f args (w.drewN n) (QW v (w.drewN n))) : Calls Tryd.prog f args (w.drewN n) fun e w'' => e = .returned v ∧ ∃ m, w'' = w.drewN m :=
  h.mono fun _ _ ⟨he, hw⟩ => ⟨he, n, hw.symm⟩

theorem topOf_any (p : Int) (dv mv : Value) (n : Nat) (ad : Option Addr) (cap : Nat) (w : World) (hd : dv = .slice ad n cap) (hn : n ≤ 1048576) :
    Calls Tryd.prog 52 #[.agg #[.int .i64 p, dv, mv]] w (BR (.int .i64 ((n : Int) - 1)) w) := by
  subst hd
  have hb0 : Below w.heap.size w (w.alloc (.cells #[.int .i64 p, .slice ad n cap, mv] 30)) := (Below.refl _ _).alloc (Nat.le_refl _) _
  have HB0 := Lib.hid hb0
  clear hb0
  go_enter Tryd.func52, Tryd.ntmps52
  go_wp2
  go_ret
  exact ⟨rfl, HB0.out⟩

/-- What stands in the boxes of a call over a complex, in whatever later world. -/
structure Bx (w wr : World) (b : Nat) (p : Int) (dv mv : Value) (ds : List Int) (ms : List (List (List Int))) : Prop where
  below : Below w.heap.size w wr
  c0 : wr.cell? ⟨b, 0, none⟩ = some (.int .i64 p)
  c1 : wr.cell? ⟨b, 1, none⟩ = some dv
  c2 : wr.cell? ⟨b, 2, none⟩ = some mv
  lt : b < wr.heap.size
  cx : Cx 0 wr dv mv ds ms
theorem Bx.next {w wr w' : World} {b : Nat} {p : Int} {dv mv : Value} {ds : List Int} {ms : List (List (List Int))} (h : Bx w wr b p dv mv ds ms) (hb : Below wr.heap.size wr w') : Bx w w' b p dv mv ds ms :=
  ⟨h.below.trans (hb.mono h.below.size), later hb (Nat.le_refl _) h.c0, later hb (Nat.le_refl _) h.c1, later hb (Nat.le_refl _) h.c2, Nat.lt_of_lt_of_le h.lt hb.size, h.cx.below hb⟩
theorem Bx.start {w : World} {p : Int} {dv mv : Value} {ds : List Int} {ms : List (List (List Int))} (t : TypeId) (h : Cx 0 w dv mv ds ms) : Bx w (w.alloc (.cells #[.int .i64 p, dv, mv] t)) w.heap.size p dv mv ds ms :=
  ⟨(Below.refl _ _).alloc (Nat.le_refl _) _, by simp, by simp, by simp, by simp, h.below ((Below.refl _ _).alloc (Nat.le_refl _) _)⟩

/-- The sizes that hasSizes asks. -/
structure SizesOk (g lo hi : Int) (ds : List Int) (ms : List (List (List Int))) : Prop where
  len0 : 1 ≤ ds.length
  len1 : ds.length ≤ 6
  mlen : ms.length + 1 = ds.length
  dims : AllIn 0 g ds
  tabs : ∀ k, k < ms.length → TabIn lo hi (ds.getD (k + 1) 0) (ds.getD k 0) (ms.getD k [])
theorem pre_sizes {p : Int} {ds : List Int} {ms : List (List (List Int))} (hp : IsP p) (h : SizesOk 8 0 (p - 1) ds ms) : PreOk p ds ms := ⟨hp, h.len0, h.len1, h.mlen, h.dims, h.tabs⟩
theorem sizes_pre {p : Int} {ds : List Int} {ms : List (List (List Int))} (h : PreOk p ds ms) : SizesOk 8 0 (p - 1) ds ms := ⟨h.len0, h.len1, h.mlen, h.dims, h.tabs⟩

theorem hloadC0 (w : World) {b : Nat} {p : Int} {dv mv : Value} (c0 : w.cell? ⟨b, 0, none⟩ = some (.int .i64 p)) (c1 : w.cell? ⟨b, 1, none⟩ = some dv) (c2 : w.cell? ⟨b, 2, none⟩ = some mv) : (Instr.loadAt 30 (.pointer (some ⟨b, 0, none⟩))).run Tryd.prog w = .ok (.agg #[.int .i64 p, dv, mv]) w := by go_simp
theorem hloadM0 (w : World) {b o : Nat} {x : Value} (h : w.cell? ⟨b, o, none⟩ = some x) : (Instr.loadAt 23 (.pointer (some ⟨b, o, none⟩))).run Tryd.prog w = .ok x w := by go_simp
theorem hloadD0 (w : World) {b o : Nat} {x : Value} (h : w.cell? ⟨b, o, none⟩ = some x) : (Instr.loadAt 22 (.pointer (some ⟨b, o, none⟩))).run Tryd.prog w = .ok x w := by go_simp
theorem hneqI0 {a b : Int} {c : Bool} (h : (a != b) = c) (w : World) : (binOp .neq 2 (.int .i64 a) (.int .i64 b)).run Tryd.prog w = .ok (.bool c) w := by subst h; go_simp
section
variable {P : Program} {md : Region.Mode} {ops : Array Oper} {Q : Exit → Act → World → Prop} {S : World → Prop}
theorem yieldsIf_run0 {o : Oper} {a : Act} {v : Value} (hg : o.guard = none) (hrun : ∀ w, S w → (execOp a.eval o).run P w = .ok (.value v) w) : YieldsIf P ops S o v a :=
  Or.inl ⟨by unfold Region.wanted; rw [hg], hrun⟩
theorem yieldsIf_binG {o : Oper} {a : Act} {x y : Operand} {v u i : Value} {b : BinOp} {t t' : TypeId} (hw : Region.wanted o (yielded ops a.tmps) = true) (ho : o.op = .binOp b t x y t') (hx : a.eval x = u) (hy : a.eval y = i) (hge : ∀ w, (eqGuard b t x y u i).run P w = .ok () w) (hrun : ∀ w, (binOp b t u i).run P w = .ok v w) : YieldsIf P ops S o v a :=
  Or.inl ⟨hw, fun w _ => by
    unfold execOp
    simp only [ho, hx, hy, Sem.run_bind, hge w, hrun w, Result.andThen_ok]
    rfl⟩
end

set_option maxHeartbeats 3200000 in
set_option maxRecDepth 100000 in
theorem hasSizes_any (p g lo hi : Int) (dv mv : Value) (ds : List Int) (ms : List (List (List Int))) (w : World) (h : Cx 0 w dv mv ds ms) (hd : ds.length ≤ 1048576) (hm : Bd3 1048576 ms) :
    Calls Tryd.prog 124 #[.agg #[.int .i64 p, dv, mv], .int .i64 g, .int .i64 lo, .int .i64 hi] w (BB (SizesOk g lo hi ds ms) w) := by
  have hml : ms.length ≤ 1048576 := hm.1
  have HM := Lib.hid hm
  clear hm
  obtain ⟨ad, cap, rfl⟩ := Sl.shape h.dims
  obtain ⟨am, capm, rfl⟩ := Sl.shape h.maps
  have hx0 := Bx.start (p := p) 30 h
  clear h
  obtain ⟨w1, hw1⟩ : ∃ w1, w1 = w.alloc (.cells #[.int .i64 p, .slice ad ds.length cap, .slice am ms.length capm] 30) := ⟨_, rfl⟩
  rw [← hw1] at hx0
  have HX1 := Lib.hid hx0
  have c0 := hx0.c0
  have c1 := hx0.c1
  have c2 := hx0.c2
  clear hx0
  have HTOP := Lib.hid (fun W => topOf_any p (.slice ad ds.length cap) (.slice am ms.length capm) ds.length ad cap W rfl hd)
  have HDIM : Hid (∀ W, Below w1.heap.size w1 W → Calls Tryd.prog 122 #[.slice ad ds.length cap, .int .i64 0, .int .i64 g] W (BW (AllIn 0 g ds) W)) := Lib.hid (fun W h => areWithin_any 0 g _ ds W (HX1.out.cx.below h).dims hd)
  have HDD : Hid (Below w1.heap.size w1 w1.drew) := Lib.hid (Below.refl _ _).drew
  by_cases hr : 0 ≤ (ds.length : Int) - 1 ∧ (ds.length : Int) - 1 ≤ 5
  · have HR := Lib.hid hr
    have HIN := Lib.hid (fun W => in_yes (n := (ds.length : Int) - 1) (lo := 0) (hi := 5) HR.out W)
    by_cases hl : (ms.length : Int) = (ds.length : Int) - 1
    · have HNEQ : Hid (∀ W, (binOp .neq 2 (.int .i64 ms.length) (.int .i64 ((ds.length : Int) - 1))).run Tryd.prog W = .ok (.bool false) W) := Lib.hid (fun W => hneqI0 (by simp [hl]) W)
      have HL := Lib.hid hl
      clear hl hr
      go_enter Tryd.func124, Tryd.ntmps124
      go_upto_region 1 with fail
      rw [← hw1]
      clear hw1
      refine wp_region_held_drew (S := fun W => Hid (Below w1.heap.size w1 W)) (by kernel_rfl) HDD (fun _ => ?_)
      refine held_take (i := 0) (v := (.agg #[.int .i64 p, .slice ad ds.length cap, .slice am ms.length capm])) (some 11) rfl rfl (by kernel_rfl) (by kernel_rfl) (by kernel_rfl) (fun _ _ _ h => h) (yieldsIf_cell (by kernel_rfl) rfl (by kernel_rfl) (fun W h => hloadC0 W (later h.out (Nat.le_refl _) c0) (later h.out (Nat.le_refl _) c1) (later h.out (Nat.le_refl _) c2))) HDD ?_
      refine held_enter (i := 1) (some 12) (f := 52) (args := #[(.agg #[.int .i64 p, .slice ad ds.length cap, .slice am ms.length capm])]) (by kernel_rfl) rfl rfl rfl (by kernel_rfl) (HTOP.out _) ?_ (fun c w' h => by cases h.1) (fun w' h => by cases h.1)
      rintro e4 w4 ⟨he4, hb4⟩
      injection he4 with he4
      subst he4
      have HB4 : Hid (Below w1.heap.size w1 w4) := Lib.hid (HDD.out.trans hb4)
      clear hb4
      refine ⟨HB4, ?_⟩
      refine held_enter (i := 2) (some 13) (f := 51) (args := #[.int .i64 ((ds.length : Int) - 1), .int .i64 0, .int .i64 5]) (by kernel_rfl) rfl rfl rfl (by kernel_rfl) (HIN.out _) ?_ (fun c w' h => by cases h.1) (fun w' h => by cases h.1)
      rintro e5 w5 ⟨he5, hw5⟩
      injection he5 with he5
      subst he5 hw5
      refine ⟨HB4, ?_⟩
      refine held_take (i := 3) (v := .bool false) (some 14) rfl rfl (by kernel_rfl) (by kernel_rfl) (by kernel_rfl) (fun _ _ _ h => h) (yieldsIf_run0 (by kernel_rfl) (fun W _ => by kernel_rfl)) HB4 ?_
      refine held_take (i := 4) (v := .bool false) (some 15) rfl rfl (by kernel_rfl) (by kernel_rfl) (by kernel_rfl) (fun _ _ _ h => h) (yieldsIf_move (by kernel_rfl) rfl (by kernel_rfl)) HB4 ?_
      refine held_take (i := 5) (v := .pointer (some ⟨w.heap.size, 2, none⟩)) (some 16) rfl rfl (by kernel_rfl) (by kernel_rfl) (by kernel_rfl) (fun _ _ _ h => h) (yieldsIf_runG (by kernel_rfl) (fun W _ => by kernel_rfl)) HB4 ?_
      refine held_take (i := 6) (v := .slice am ms.length capm) (some 17) rfl rfl (by kernel_rfl) (by kernel_rfl) (by kernel_rfl) (fun _ _ _ h => h) (yieldsIf_cellG (by kernel_rfl) rfl (by kernel_rfl) (fun W h => hloadM0 W (later h.out (Nat.le_refl _) c2))) HB4 ?_
      refine held_take (i := 7) (v := .int .i64 ms.length) (some 18) rfl rfl (by kernel_rfl) (by kernel_rfl) (by kernel_rfl) (fun _ _ _ h => h) (yieldsIf_runG (by kernel_rfl) (fun W _ => by kernel_rfl)) HB4 ?_
      refine held_take (i := 8) (v := (.agg #[.int .i64 p, .slice ad ds.length cap, .slice am ms.length capm])) (some 19) rfl rfl (by kernel_rfl) (by kernel_rfl) (by kernel_rfl) (fun _ _ _ h => h) (yieldsIf_cellG (by kernel_rfl) rfl (by kernel_rfl) (fun W h => hloadC0 W (later h.out (Nat.le_refl _) c0) (later h.out (Nat.le_refl _) c1) (later h.out (Nat.le_refl _) c2))) HB4 ?_
      refine held_enterG (i := 9) (some 20) (f := 52) (args := #[(.agg #[.int .i64 p, .slice ad ds.length cap, .slice am ms.length capm])]) (by kernel_rfl) rfl (by kernel_rfl) rfl (by kernel_rfl) (HTOP.out _) ?_ (fun c w' h => by cases h.1) (fun w' h => by cases h.1)
      rintro e5 w5 ⟨he5, hb5⟩
      injection he5 with he5
      subst he5
      have HB5 : Hid (Below w1.heap.size w1 w5) := Lib.hid (HB4.out.trans (hb5.mono HB4.out.size))
      clear hb5
      refine ⟨HB5, ?_⟩
      refine held_take (i := 10) (v := .bool false) (some 21) rfl rfl (by kernel_rfl) (by kernel_rfl) (by kernel_rfl) (fun _ _ _ h => h) (yieldsIf_binG (by kernel_rfl) rfl (by kernel_rfl) (by kernel_rfl) (fun _ => by kernel_rfl) (fun W => HNEQ.out W)) HB5 ?_
      refine held_take (i := 11) (v := .bool false) (some 22) rfl rfl (by kernel_rfl) (by kernel_rfl) (by kernel_rfl) (fun _ _ _ h => h) (yieldsIf_run0 (by kernel_rfl) (fun W _ => by kernel_rfl)) HB5 ?_
      refine held_take (i := 12) (v := .bool false) (some 23) rfl rfl (by kernel_rfl) (by kernel_rfl) (by kernel_rfl) (fun _ _ _ h => h) (yieldsIf_move (by kernel_rfl) rfl (by kernel_rfl)) HB5 ?_
      refine held_take (i := 13) (v := .pointer (some ⟨w.heap.size, 1, none⟩)) (some 24) rfl rfl (by kernel_rfl) (by kernel_rfl) (by kernel_rfl) (fun _ _ _ h => h) (yieldsIf_runG (by kernel_rfl) (fun W _ => by kernel_rfl)) HB5 ?_
      refine held_take (i := 14) (v := .slice ad ds.length cap) (some 25) rfl rfl (by kernel_rfl) (by kernel_rfl) (by kernel_rfl) (fun _ _ _ h => h) (yieldsIf_cellG (by kernel_rfl) rfl (by kernel_rfl) (fun W h => hloadD0 W (later h.out (Nat.le_refl _) c1))) HB5 ?_
      refine held_take (i := 15) (v := .int .i64 g) (some 26) rfl rfl (by kernel_rfl) (by kernel_rfl) (by kernel_rfl) (fun _ _ _ h => h) (yieldsIf_runG (by kernel_rfl) (fun W _ => by kernel_rfl)) HB5 ?_
      refine held_enterG (i := 16) (some 27) (f := 122) (args := #[.slice ad ds.length cap, .int .i64 0, .int .i64 g]) (by kernel_rfl) rfl (by kernel_rfl) rfl (by kernel_rfl) (HDIM.out _ HB5.out) ?_ (fun c w' h => by obtain ⟨_, h, _⟩ := h; cases h) (fun w' h => by obtain ⟨_, h, _⟩ := h; cases h)
      rintro e6 w6 ⟨bb, he6, hw6, hbb⟩
      injection he6 with he6
      subst he6 hw6
      have HBB := Lib.hid hbb
      clear hbb
      refine ⟨HB5, ?_⟩
      refine held_take (i := 17) (v := .bool (!bb)) (some 28) rfl rfl (by kernel_rfl) (by kernel_rfl) (by kernel_rfl) (fun _ _ _ h => h) (yieldsIf_runG (by kernel_rfl) (fun W _ => by kernel_rfl)) HB5 ?_
      refine held_take (i := 18) (v := .bool (!bb)) (some 29) rfl rfl (by kernel_rfl) (by kernel_rfl) (by kernel_rfl) (fun _ _ _ h => h) (yieldsIf_run0 (by kernel_rfl) (fun W _ => by kernel_rfl)) HB5 ?_
      refine wpAnyH_done (by kernel_rfl) ?_ _
      simp only [Act.put, List.setIfInBounds_toArray, List.set_cons_zero, List.set_cons_succ]
      have HX5 := Lib.hid (HX1.out.next HB5.out)
      clear c0 c1 c2 HTOP HDIM HDD HNEQ HIN HB4
      cases bb with
      | false =>
        have HBF : Hid (¬ AllIn 0 g ds) := Lib.hid (fun h => absurd (HBB.out.2 h) (by simp))
        clear HBB
        go_wp2
        go_ret
        exact bb_false HX5.out.below (fun h => HBF.out h.dims)
      | true =>
        have HDIMS : Hid (AllIn 0 g ds) := Lib.hid (HBB.out.1 (by simp))
        have c2 := HX5.out.c2
        clear HBB
        simp only [Bool.not_true]
        go_wp2
        clear c2
        go_loopw [9, 10, 33] (fun _ _ i wr => ∃ (k m : Nat), k ≤ ms.length ∧ i = .int .i64 k ∧ wr = w5.drewN m ∧ Hid (∀ j, j < ms.length → j < k → TabIn lo hi (ds.getD (j + 1) 0) (ds.getD j 0) (ms.getD j []))) (fun _ _ i _ => ms.length - (intOf i).toNat)
        case atStart => exact ⟨0, 0, Nat.zero_le _, rfl, rfl, Lib.hid (fun _ _ h => absurd h (Nat.not_lt_zero _))⟩
        case round =>
          obtain ⟨k, m, hk, rfl, hw, HD⟩ := hrel
          have HXR : Hid (Bx w wr w.heap.size p (.slice ad ds.length cap) (.slice am ms.length capm) ds ms) := Lib.hid (by rw [hw]; exact HX5.out.next (drewN_below _ m))
          have HW := Lib.hid hw
          clear hw
          have c0 := HXR.out.c0
          have c1 := HXR.out.c1
          have c2 := HXR.out.c2
          by_cases hlt : k < ms.length
          · refine Sl.cases HXR.out.cx.dims (fun _ _ hx _ => absurd HR.out (by simp [hx])) (fun bd od capd hv _ hposd hcld => ?_)
            injection hv with e1 _ e3
            subst e1 e3
            refine Sl.cases HXR.out.cx.maps (fun _ _ hx _ => absurd hlt (by simp [hx])) (fun bm om capm2 hv _ hposm hclm => ?_)
            injection hv with e1 _ e3
            subst e1 e3
            have hd1 : k + 1 < ds.length := by have := HL.out; omega
            obtain ⟨u, hu, hr⟩ := hclm k hlt
            obtain ⟨v0, hv0, hr0⟩ := hcld k (by omega)
            obtain ⟨v1, hv1, hr1⟩ := hcld (k + 1) hd1
            rw [hr0] at hv0
            rw [hr1] at hv1
            obtain ⟨d0, hd0⟩ : ∃ d, d = ds[k] := ⟨_, rfl⟩
            obtain ⟨d1, hd1'⟩ : ∃ d, d = ds[k + 1] := ⟨_, rfl⟩
            rw [← hd0] at hv0
            rw [← hd1'] at hv1
            have HE := Lib.hid (fun (m2 : Nat) => isTableWithin_any lo hi d1 d0 u ms[k] (wr.drewN m2) (hr.below (drewN_below wr m2)) (HM.out.2 _ (List.getElem_mem hlt)))
            have HT : Hid (TabIn lo hi (ds.getD (k + 1) 0) (ds.getD k 0) (ms.getD k []) ↔ TabIn lo hi d1 d0 ms[k]) := Lib.hid (by rw [getD_of_lt _ hd1, getD_of_lt _ (by omega : k < ds.length), getD_of_lt _ hlt, hd0, hd1'])
            clear hr hr0 hr1 hcld hclm hd0 hd1'
            have hw1 : IntKind.i64.wrap ((k : Int) + 1) = (k : Int) + 1 := IntWalk.i64_in _ (by omega)
            have hq3 : (0 : Int) ≤ (k : Int) + 1 := by omega
            have hq4 : (k : Int) + 1 < (ds.length : Int) := by omega
            have hq5 : ((k : Int) + 1).toNat = k + 1 := by omega
            have hq6 : (k : Int) < (ds.length : Int) := by omega
            by_cases ht : TabIn lo hi d1 d0 ms[k]
            · have HEY : Hid (∀ m2, Calls Tryd.prog 109 #[u, .int .i64 d1, .int .i64 d0, .int .i64 lo, .int .i64 hi] (wr.drewN m2) (QW (.bool true) (wr.drewN m2))) := Lib.hid (fun m2 => bw_yes (HE.out m2) ht)
              have HTY := Lib.hid ht
              clear ht HE
              go_wp2
              go_quiet ((go_at_call 109; exact qw_quiet (HEY.out _)))
              clear hw1 hq3 hq4 hq5 hq6
              go_wp2
              go_roundw
              case rel => exact ⟨k + 1, m + nq, by omega, by go_num, by rw [HW.out, World.drewN_drewN], Lib.hid (fun j h1 hjk => by
                by_cases e : j = k
                · subst e; exact HT.out.2 HTY.out
                · exact HD.out j h1 (by omega))⟩
              case measure => simp [intOf]; omega
            · have HEY : Hid (∀ m2, Calls Tryd.prog 109 #[u, .int .i64 d1, .int .i64 d0, .int .i64 lo, .int .i64 hi] (wr.drewN m2) (QW (.bool false) (wr.drewN m2))) := Lib.hid (fun m2 => bw_no (HE.out m2) ht)
              have HTY := Lib.hid ht
              clear ht HE
              go_wp2
              go_quiet ((go_at_call 109; exact qw_quiet (HEY.out _)))
              clear hw1 hq3 hq4 hq5 hq6
              go_wp2
              go_ret
              exact bb_false (HXR.out.next (drewN_below _ nq)).below (fun h => HTY.out (HT.out.1 (h.tabs k hlt)))
          · go_wp2
            go_ret
            exact bb_true HXR.out.below ⟨by have := HR.out; omega, by have := HR.out; omega, by have := HL.out; omega, HDIMS.out, fun j hj => HD.out j hj (by omega)⟩
    · have HNEQ : Hid (∀ W, (binOp .neq 2 (.int .i64 ms.length) (.int .i64 ((ds.length : Int) - 1))).run Tryd.prog W = .ok (.bool true) W) := Lib.hid (fun W => hneqI0 (by simp [hl]) W)
      have HL := Lib.hid hl
      clear hl hr
      go_enter Tryd.func124, Tryd.ntmps124
      go_upto_region 1 with fail
      rw [← hw1]
      clear hw1
      refine wp_region_held_drew (S := fun W => Hid (Below w1.heap.size w1 W)) (by kernel_rfl) HDD (fun _ => ?_)
      refine held_take (i := 0) (v := (.agg #[.int .i64 p, .slice ad ds.length cap, .slice am ms.length capm])) (some 11) rfl rfl (by kernel_rfl) (by kernel_rfl) (by kernel_rfl) (fun _ _ _ h => h) (yieldsIf_cell (by kernel_rfl) rfl (by kernel_rfl) (fun W h => hloadC0 W (later h.out (Nat.le_refl _) c0) (later h.out (Nat.le_refl _) c1) (later h.out (Nat.le_refl _) c2))) HDD ?_
      refine held_enter (i := 1) (some 12) (f := 52) (args := #[(.agg #[.int .i64 p, .slice ad ds.length cap, .slice am ms.length capm])]) (by kernel_rfl) rfl rfl rfl (by kernel_rfl) (HTOP.out _) ?_ (fun c w' h => by cases h.1) (fun w' h => by cases h.1)
      rintro e4 w4 ⟨he4, hb4⟩
      injection he4 with he4
      subst he4
      have HB4 : Hid (Below w1.heap.size w1 w4) := Lib.hid (HDD.out.trans hb4)
      clear hb4
      refine ⟨HB4, ?_⟩
      refine held_enter (i := 2) (some 13) (f := 51) (args := #[.int .i64 ((ds.length : Int) - 1), .int .i64 0, .int .i64 5]) (by kernel_rfl) rfl rfl rfl (by kernel_rfl) (HIN.out _) ?_ (fun c w' h => by cases h.1) (fun w' h => by cases h.1)
      rintro e5 w5 ⟨he5, hw5⟩
      injection he5 with he5
      subst he5 hw5
      refine ⟨HB4, ?_⟩
      refine held_take (i := 3) (v := .bool false) (some 14) rfl rfl (by kernel_rfl) (by kernel_rfl) (by kernel_rfl) (fun _ _ _ h => h) (yieldsIf_run0 (by kernel_rfl) (fun W _ => by kernel_rfl)) HB4 ?_
      refine held_take (i := 4) (v := .bool false) (some 15) rfl rfl (by kernel_rfl) (by kernel_rfl) (by kernel_rfl) (fun _ _ _ h => h) (yieldsIf_move (by kernel_rfl) rfl (by kernel_rfl)) HB4 ?_
      refine held_take (i := 5) (v := .pointer (some ⟨w.heap.size, 2, none⟩)) (some 16) rfl rfl (by kernel_rfl) (by kernel_rfl) (by kernel_rfl) (fun _ _ _ h => h) (yieldsIf_runG (by kernel_rfl) (fun W _ => by kernel_rfl)) HB4 ?_
      refine held_take (i := 6) (v := .slice am ms.length capm) (some 17) rfl rfl (by kernel_rfl) (by kernel_rfl) (by kernel_rfl) (fun _ _ _ h => h) (yieldsIf_cellG (by kernel_rfl) rfl (by kernel_rfl) (fun W h => hloadM0 W (later h.out (Nat.le_refl _) c2))) HB4 ?_
      refine held_take (i := 7) (v := .int .i64 ms.length) (some 18) rfl rfl (by kernel_rfl) (by kernel_rfl) (by kernel_rfl) (fun _ _ _ h => h) (yieldsIf_runG (by kernel_rfl) (fun W _ => by kernel_rfl)) HB4 ?_
      refine held_take (i := 8) (v := (.agg #[.int .i64 p, .slice ad ds.length cap, .slice am ms.length capm])) (some 19) rfl rfl (by kernel_rfl) (by kernel_rfl) (by kernel_rfl) (fun _ _ _ h => h) (yieldsIf_cellG (by kernel_rfl) rfl (by kernel_rfl) (fun W h => hloadC0 W (later h.out (Nat.le_refl _) c0) (later h.out (Nat.le_refl _) c1) (later h.out (Nat.le_refl _) c2))) HB4 ?_
      refine held_enterG (i := 9) (some 20) (f := 52) (args := #[(.agg #[.int .i64 p, .slice ad ds.length cap, .slice am ms.length capm])]) (by kernel_rfl) rfl (by kernel_rfl) rfl (by kernel_rfl) (HTOP.out _) ?_ (fun c w' h => by cases h.1) (fun w' h => by cases h.1)
      rintro e5 w5 ⟨he5, hb5⟩
      injection he5 with he5
      subst he5
      have HB5 : Hid (Below w1.heap.size w1 w5) := Lib.hid (HB4.out.trans (hb5.mono HB4.out.size))
      clear hb5
      refine ⟨HB5, ?_⟩
      refine held_take (i := 10) (v := .bool true) (some 21) rfl rfl (by kernel_rfl) (by kernel_rfl) (by kernel_rfl) (fun _ _ _ h => h) (yieldsIf_binG (by kernel_rfl) rfl (by kernel_rfl) (by kernel_rfl) (fun _ => by kernel_rfl) (fun W => HNEQ.out W)) HB5 ?_
      refine held_take (i := 11) (v := .bool true) (some 22) rfl rfl (by kernel_rfl) (by kernel_rfl) (by kernel_rfl) (fun _ _ _ h => h) (yieldsIf_run0 (by kernel_rfl) (fun W _ => by kernel_rfl)) HB5 ?_
      refine held_take (i := 12) (v := .bool true) (some 23) rfl rfl (by kernel_rfl) (by kernel_rfl) (by kernel_rfl) (fun _ _ _ h => h) (yieldsIf_move (by kernel_rfl) rfl (by kernel_rfl)) HB5 ?_
      refine held_skip0 (i := 13) (some 24) rfl rfl (by kernel_rfl) (by kernel_rfl) (by kernel_rfl) (fun _ _ _ h => h) (by kernel_rfl) HB5 ?_
      refine held_skip0 (i := 14) (some 25) rfl rfl (by kernel_rfl) (by kernel_rfl) (by kernel_rfl) (fun _ _ _ h => h) (by kernel_rfl) HB5 ?_
      refine held_skip0 (i := 15) (some 26) rfl rfl (by kernel_rfl) (by kernel_rfl) (by kernel_rfl) (fun _ _ _ h => h) (by kernel_rfl) HB5 ?_
      refine held_skip0 (i := 16) (some 27) rfl rfl (by kernel_rfl) (by kernel_rfl) (by kernel_rfl) (fun _ _ _ h => h) (by kernel_rfl) HB5 ?_
      refine held_skip0 (i := 17) (some 28) rfl rfl (by kernel_rfl) (by kernel_rfl) (by kernel_rfl) (fun _ _ _ h => h) (by kernel_rfl) HB5 ?_
      refine held_take (i := 18) (v := .bool true) (some 29) rfl rfl (by kernel_rfl) (by kernel_rfl) (by kernel_rfl) (fun _ _ _ h => h) (yieldsIf_run0 (by kernel_rfl) (fun W _ => by kernel_rfl)) HB5 ?_
      refine wpAnyH_done (by kernel_rfl) ?_ _
      simp only [Act.put, List.setIfInBounds_toArray, List.set_cons_zero, List.set_cons_succ]
      have HX5 := Lib.hid (HX1.out.next HB5.out)
      clear c0 c1 c2 HTOP HDIM HDD HNEQ HIN HB4
      go_wp2
      go_ret
      exact bb_false HX5.out.below (fun h => HL.out (by have := h.mlen; omega))
  · have HR := Lib.hid hr
    have HIN := Lib.hid (fun W => in_no (n := (ds.length : Int) - 1) (lo := 0) (hi := 5) HR.out W)
    clear hr
    go_enter Tryd.func124, Tryd.ntmps124
    go_upto_region 1 with fail
    rw [← hw1]
    clear hw1
    refine wp_region_held_drew (S := fun W => Hid (Below w1.heap.size w1 W)) (by kernel_rfl) HDD (fun _ => ?_)
    refine held_take (i := 0) (v := (.agg #[.int .i64 p, .slice ad ds.length cap, .slice am ms.length capm])) (some 11) rfl rfl (by kernel_rfl) (by kernel_rfl) (by kernel_rfl) (fun _ _ _ h => h) (yieldsIf_cell (by kernel_rfl) rfl (by kernel_rfl) (fun W h => hloadC0 W (later h.out (Nat.le_refl _) c0) (later h.out (Nat.le_refl _) c1) (later h.out (Nat.le_refl _) c2))) HDD ?_
    refine held_enter (i := 1) (some 12) (f := 52) (args := #[(.agg #[.int .i64 p, .slice ad ds.length cap, .slice am ms.length capm])]) (by kernel_rfl) rfl rfl rfl (by kernel_rfl) (HTOP.out _) ?_ (fun c w' h => by cases h.1) (fun w' h => by cases h.1)
    rintro e4 w4 ⟨he4, hb4⟩
    injection he4 with he4
    subst he4
    have HB4 : Hid (Below w1.heap.size w1 w4) := Lib.hid (HDD.out.trans hb4)
    clear hb4
    refine ⟨HB4, ?_⟩
    refine held_enter (i := 2) (some 13) (f := 51) (args := #[.int .i64 ((ds.length : Int) - 1), .int .i64 0, .int .i64 5]) (by kernel_rfl) rfl rfl rfl (by kernel_rfl) (HIN.out _) ?_ (fun c w' h => by cases h.1) (fun w' h => by cases h.1)
    rintro e5 w5 ⟨he5, hw5⟩
    injection he5 with he5
    subst he5 hw5
    refine ⟨HB4, ?_⟩
    refine held_take (i := 3) (v := .bool true) (some 14) rfl rfl (by kernel_rfl) (by kernel_rfl) (by kernel_rfl) (fun _ _ _ h => h) (yieldsIf_run0 (by kernel_rfl) (fun W _ => by kernel_rfl)) HB4 ?_
    refine held_take (i := 4) (v := .bool true) (some 15) rfl rfl (by kernel_rfl) (by kernel_rfl) (by kernel_rfl) (fun _ _ _ h => h) (yieldsIf_move (by kernel_rfl) rfl (by kernel_rfl)) HB4 ?_
    refine held_skip0 (i := 5) (some 16) rfl rfl (by kernel_rfl) (by kernel_rfl) (by kernel_rfl) (fun _ _ _ h => h) (by kernel_rfl) HB4 ?_
    refine held_skip0 (i := 6) (some 17) rfl rfl (by kernel_rfl) (by kernel_rfl) (by kernel_rfl) (fun _ _ _ h => h) (by kernel_rfl) HB4 ?_
    refine held_skip0 (i := 7) (some 18) rfl rfl (by kernel_rfl) (by kernel_rfl) (by kernel_rfl) (fun _ _ _ h => h) (by kernel_rfl) HB4 ?_
    refine held_skip0 (i := 8) (some 19) rfl rfl (by kernel_rfl) (by kernel_rfl) (by kernel_rfl) (fun _ _ _ h => h) (by kernel_rfl) HB4 ?_
    refine held_skip0 (i := 9) (some 20) rfl rfl (by kernel_rfl) (by kernel_rfl) (by kernel_rfl) (fun _ _ _ h => h) (by kernel_rfl) HB4 ?_
    refine held_skip0 (i := 10) (some 21) rfl rfl (by kernel_rfl) (by kernel_rfl) (by kernel_rfl) (fun _ _ _ h => h) (by kernel_rfl) HB4 ?_
    refine held_take (i := 11) (v := .bool true) (some 22) rfl rfl (by kernel_rfl) (by kernel_rfl) (by kernel_rfl) (fun _ _ _ h => h) (yieldsIf_run0 (by kernel_rfl) (fun W _ => by kernel_rfl)) HB4 ?_
    refine held_take (i := 12) (v := .bool true) (some 23) rfl rfl (by kernel_rfl) (by kernel_rfl) (by kernel_rfl) (fun _ _ _ h => h) (yieldsIf_move (by kernel_rfl) rfl (by kernel_rfl)) HB4 ?_
    refine held_skip0 (i := 13) (some 24) rfl rfl (by kernel_rfl) (by kernel_rfl) (by kernel_rfl) (fun _ _ _ h => h) (by kernel_rfl) HB4 ?_
    refine held_skip0 (i := 14) (some 25) rfl rfl (by kernel_rfl) (by kernel_rfl) (by kernel_rfl) (fun _ _ _ h => h) (by kernel_rfl) HB4 ?_
    refine held_skip0 (i := 15) (some 26) rfl rfl (by kernel_rfl) (by kernel_rfl) (by kernel_rfl) (fun _ _ _ h => h) (by kernel_rfl) HB4 ?_
    refine held_skip0 (i := 16) (some 27) rfl rfl (by kernel_rfl) (by kernel_rfl) (by kernel_rfl) (fun _ _ _ h => h) (by kernel_rfl) HB4 ?_
    refine held_skip0 (i := 17) (some 28) rfl rfl (by kernel_rfl) (by kernel_rfl) (by kernel_rfl) (fun _ _ _ h => h) (by kernel_rfl) HB4 ?_
    refine held_take (i := 18) (v := .bool true) (some 29) rfl rfl (by kernel_rfl) (by kernel_rfl) (by kernel_rfl) (fun _ _ _ h => h) (yieldsIf_run0 (by kernel_rfl) (fun W _ => by kernel_rfl)) HB4 ?_
    refine wpAnyH_done (by kernel_rfl) ?_ _
    simp only [Act.put, List.setIfInBounds_toArray, List.set_cons_zero, List.set_cons_succ]
    have HX5 := Lib.hid (HX1.out.next HB4.out)
    clear c0 c1 c2 HTOP HDIM HDD HIN
    go_wp2
    go_ret
    exact bb_false HX5.out.below (fun h => HR.out (by have := h.len0; have := h.len1; omega))

set_option maxHeartbeats 3200000 in
set_option maxRecDepth 100000 in
theorem isComplex_any (p : Int) (dv mv : Value) (ds : List Int) (ms : List (List (List Int))) (w : World) (h : Cx 0 w dv mv ds ms) (hd : ds.length ≤ 1048576) (hm : Bd3 1048576 ms) :
    Calls Tryd.prog 113 #[.agg #[.int .i64 p, dv, mv]] w (BB (IsCx p ds ms) w) := by
  have HM := Lib.hid hm
  have HD := Lib.hid hd
  clear hm hd
  obtain ⟨ad, cap, rfl⟩ := Sl.shape h.dims
  obtain ⟨am, capm, rfl⟩ := Sl.shape h.maps
  have hx0 := Bx.start (p := p) 30 h
  clear h
  obtain ⟨w1, hw1⟩ : ∃ w1, w1 = w.alloc (.cells #[.int .i64 p, .slice ad ds.length cap, .slice am ms.length capm] 30) := ⟨_, rfl⟩
  rw [← hw1] at hx0
  have HX1 := Lib.hid hx0
  have c0 := hx0.c0
  have c1 := hx0.c1
  have c2 := hx0.c2
  clear hx0
  by_cases hp : IsP p
  · have HP := Lib.hid hp
    have hp0 := hp.lo
    have hp1 := hp.hi
    clear hp
    go_enter Tryd.func113, Tryd.ntmps113
    go_upto_region 1 with fail
    rw [← hw1]
    clear hw1
    go_wp2_with fail
    refine (prime_yes HP.out _).mono ?_
    rintro e w' ⟨rfl, rfl⟩
    go_wp2_with fail
    refine (hasSizes_any p 8 0 (p - 1) _ _ ds ms _ HX1.out.cx HD.out HM.out).mono ?_
    rintro e w2 ⟨bb, rfl, hb2, hbb⟩
    have HX2 := Lib.hid (HX1.out.next hb2)
    have HBB := Lib.hid hbb
    clear hbb hb2 c0 c1 c2
    cases bb with
    | true =>
      have HPRE : Hid (PreOk p ds ms) := Lib.hid (pre_sizes HP.out (HBB.out.1 (by simp)))
      have c0 := HX2.out.c0
      have c1 := HX2.out.c1
      have c2 := HX2.out.c2
      clear HBB
      go_wp2_with fail
      refine (squares_any p _ _ ds ms _ HX2.out.cx HPRE.out).mono ?_
      rintro e w3 ⟨bb, rfl, hb3, hbb⟩
      have HBB := Lib.hid hbb
      have HB3 := Lib.hid (HX2.out.next hb3).below
      clear hbb hb3
      go_wp2
      go_ret
      exact ⟨bb, rfl, HB3.out, ⟨fun h => ⟨HPRE.out, HBB.out.1 h⟩, fun h => HBB.out.2 h.2⟩⟩
    | false =>
      have HNO : Hid (¬ IsCx p ds ms) := Lib.hid (fun h => absurd (HBB.out.2 (sizes_pre h.1)) (by simp))
      clear HBB
      go_wp2
      go_ret
      exact bb_false HX2.out.below HNO.out
  · have HP := Lib.hid hp
    clear hp
    go_enter Tryd.func113, Tryd.ntmps113
    go_upto_region 1 with fail
    rw [← hw1]
    clear hw1
    go_wp2_with fail
    refine (prime_no HP.out _).mono ?_
    rintro e w' ⟨rfl, rfl⟩
    go_wp2
    go_ret
    exact bb_false HX1.out.below (fun h => HP.out h.1.prime)
end Go.Proofs.YtpchbceohnabnabDoor

namespace Go.Proofs.YtpchbceohnabnabDoor
open Go.RowKit

theorem IsCx.tab {p : Int} {ds : List Int} {ms : List (List (List Int))} (h : IsCx p ds ms) {k : Nat} (hk : k < ms.length) : TabOk p (ds.getD (k + 1) 0) (ds.getD k 0) (ms.getD k []) := h.1.tabs k hk

theorem leadOf_neg {xs : List Int} (h : ∀ x ∈ xs, x = 0) : leadOf xs = -1 := leadOf_zero (fun _ hj => h _ (List.getElem_mem hj))
theorem leadOf_pos {xs : List Int} (h : ¬ ∀ x ∈ xs, x = 0) : 0 ≤ leadOf xs := by
  induction xs with
  | nil => exact absurd (by simp) h
  | cons x xs ih =>
    by_cases h0 : x = 0
    · have h2 : ¬ ∀ y ∈ xs, y = 0 := fun hh => h (fun y hy => by
        rcases List.mem_cons.1 hy with e | e
        · rw [e]; exact h0
        · exact hh y e)
      have := ih h2
      simp only [leadOf, h0, if_true]
      rw [if_neg (by omega)]
      omega
    · simp [leadOf, h0]
theorem Sl.at {α : Type} {lo : Nat} {R : World → Value → α → Prop} {w : World} {b o n cap : Nat} {xs : List α} (h : Sl lo R w (.slice (some ⟨b, o, none⟩) n cap) xs) {k : Nat} (hk : k < xs.length) :
    ∃ u, w.cell? ⟨b, o + k, none⟩ = some u ∧ R w u xs[k] := by
  refine Sl.cases h (fun _ _ hx _ => absurd hk (by simp [hx])) (fun b2 o2 cap2 hv _ _ hc => ?_)
  injection hv with e1 _ _
  injection e1 with e1
  injection e1 with e1 e2
  subst e1 e2
  exact hc k hk

/-- A table in front of another one: what spec and program compute of a row of it. -/
theorem pre_ap {p : Int} {ds : List Int} {ms : List (List (List Int))} {k : Nat} (hp : IsP p) (hd : ∀ d ∈ ds, 0 ≤ d ∧ d ≤ 8) (hk : 1 ≤ k) (hkd : k < ds.length) (h1 : TabOk p (ds.getD (k + 1) 0) (ds.getD k 0) (ms.getD k []))
    (h0 : TabOk p (ds.getD k 0) (ds.getD (k - 1) 0) (ms.getD (k - 1) [])) {r : List Int} (hr : r ∈ ms.getD k []) : ApOk p (ds.getD (k - 1) 0).toNat r (ms.getD (k - 1) []) := by
  have hdim : 0 ≤ ds.getD (k - 1) 0 := by rw [getD_of_lt _ (by omega)]; exact (hd _ (List.getElem_mem _)).1
  refine ⟨hp, ?_, (h1.2 r hr).2, fun r2 hr2 => ⟨?_, (h0.2 r2 hr2).2⟩⟩
  · have e1 := (h1.2 r hr).1
    have e2 := h0.1
    omega
  · have e1 := (h0.2 r2 hr2).1
    omega

set_option maxHeartbeats 3200000 in
set_option maxRecDepth 100000 in
theorem l01Is_no (p : Int) (dv mv : Value) (ds : List Int) (ms : List (List (List Int))) (w : World) (h : Cx 0 w dv mv ds ms) (hd : ds.length ≤ 1048576) (hm : Bd3 1048576 ms)
    (hno : ¬ IsP p ∨ ds.length < 1 ∨ 6 < ds.length ∨ ms.length + 1 ≠ ds.length) :
    Calls Tryd.prog 95 #[.agg #[.int .i64 p, dv, mv]] w (BB (IsCx p ds ms) w) := by
  have hml : ms.length ≤ 1048576 := hm.1
  have hfalse : ¬ IsCx p ds ms := fun hh => by
    have := hh.1.prime
    have := hh.1.len0
    have := hh.1.len1
    have := hh.1.mlen
    rcases hno with h1 | h1 | h1 | h1
    · exact h1 hh.1.prime
    · omega
    · omega
    · omega
  have HF := Lib.hid hfalse
  clear hfalse
  obtain ⟨ad, cap, rfl⟩ := Sl.shape h.dims
  obtain ⟨am, capm, rfl⟩ := Sl.shape h.maps
  have HB := Lib.hid (Bx.start (p := p) 30 h).below
  clear h hm
  by_cases hp : IsP p
  · have HP := Lib.hid hp
    by_cases h1 : ds.length < 1
    · clear hno hp
      go_enter Tryd.func95, Tryd.ntmps95
      go_wp2_with fail
      refine (spprime_yes HP.out _).mono ?_
      rintro e w' ⟨rfl, rfl⟩
      go_wp2
      go_ret
      exact bb_false HB.out HF.out
    · by_cases h6 : 6 < ds.length
      · clear hno hp
        go_enter Tryd.func95, Tryd.ntmps95
        go_wp2_with fail
        refine (spprime_yes HP.out _).mono ?_
        rintro e w' ⟨rfl, rfl⟩
        go_wp2
        go_ret
        exact bb_false HB.out HF.out
      · have hl : ¬ (ms.length : Int) = (ds.length : Int) - 1 := by
          rcases hno with h2 | h2 | h2 | h2
          · exact absurd hp h2
          · omega
          · omega
          · omega
        have hq1 : ((ms.length : Int) != (ds.length : Int) - 1) = true := by simp [hl]
        have hq2 : ((ms.length : Int) == (ds.length : Int) - 1) = false := by simp [hl]
        clear hno hl hp
        go_enter Tryd.func95, Tryd.ntmps95
        go_wp2_with fail
        refine (spprime_yes HP.out _).mono ?_
        rintro e w' ⟨rfl, rfl⟩
        go_wp2
        go_ret
        exact bb_false HB.out HF.out
  · have HP := Lib.hid hp
    clear hp hno
    go_enter Tryd.func95, Tryd.ntmps95
    go_wp2_with fail
    refine (spprime_no HP.out _).mono ?_
    rintro e w' ⟨rfl, rfl⟩
    go_wp2
    go_ret
    exact bb_false HB.out HF.out

set_option maxHeartbeats 6400000 in
set_option maxRecDepth 100000 in
theorem l01Is_yes (p : Int) (dv mv : Value) (ds : List Int) (ms : List (List (List Int))) (w : World) (h : Cx 0 w dv mv ds ms) (hm : Bd3 1048576 ms)
    (hp : IsP p) (hl1 : 1 ≤ ds.length) (hl6 : ds.length ≤ 6) (hl : ms.length + 1 = ds.length) :
    Calls Tryd.prog 95 #[.agg #[.int .i64 p, dv, mv]] w (BB (IsCx p ds ms) w) := by
  have hml : ms.length ≤ 1048576 := hm.1
  have HM := Lib.hid hm
  obtain ⟨ad, cap, rfl⟩ := Sl.shape h.dims
  obtain ⟨am, capm, rfl⟩ := Sl.shape h.maps
  have HX0 := Lib.hid (Bx.start (p := p) 30 h)
  have HP := Lib.hid hp
  have hq1 : ((ms.length : Int) != (ds.length : Int) - 1) = false := by simp; omega
  have hq2 : ((ms.length : Int) == (ds.length : Int) - 1) = true := by simp; omega
  have hdq1 : decide ((ds.length : Int) < 1) = false := by simp; omega
  have hdq2 : decide ((6 : Int) < (ds.length : Int)) = false := by simp; omega
  have HL := Lib.hid hl
  clear h hm hp hl
  go_enter Tryd.func95, Tryd.ntmps95
  go_wp2_with fail
  refine (spprime_yes HP.out _).mono ?_
  rintro e w' ⟨rfl, rfl⟩
  go_wp2
  obtain ⟨w1, hw1⟩ : ∃ w1, w1 = w.alloc (.cells #[.int .i64 p, .slice ad ds.length cap, .slice am ms.length capm] 30) := ⟨_, rfl⟩
  rw [← hw1]
  rw [← hw1] at HX0
  have c0 := HX0.out.c0
  have c1 := HX0.out.c1
  have c2 := HX0.out.c2
  clear hw1
  go_loop [3] (fun i => ∃ (k : Nat), k ≤ ds.length ∧ i = .int .i64 k ∧ Hid (∀ j (h1 : j < ds.length), j < k → 0 ≤ ds[j] ∧ ds[j] ≤ 8)) (fun i => ds.length - (intOf i).toNat)
  case atStart => exact ⟨0, Nat.zero_le _, rfl, Lib.hid (fun _ _ h => absurd h (Nat.not_lt_zero _))⟩
  case round =>
    obtain ⟨k, hk, rfl, HD⟩ := hrel
    by_cases hlt : k < ds.length
    · refine Sl.cases HX0.out.cx.dims (fun _ _ hx _ => absurd hlt (by simp [hx])) (fun bd od capd hv _ hposd hcld => ?_)
      injection hv with e1 _ e3
      subst e1 e3
      obtain ⟨u, hu, hr⟩ := hcld k hlt
      obtain ⟨x, hx⟩ : ∃ x, x = ds[k] := ⟨_, rfl⟩
      rw [hr, ← hx] at hu
      have HX := Lib.hid hx
      clear hx hr hcld
      by_cases hxy : 0 ≤ x ∧ x ≤ 8
      · have HXY := Lib.hid hxy
        clear hxy
        go_wp2_with fail
        refine (spin_yes HXY.out _).mono ?_
        rintro e w' ⟨rfl, rfl⟩
        go_wp2
        go_round
        case rel => exact ⟨k + 1, by omega, by go_num, Lib.hid (fun j h1 hjk => by
          by_cases e : j = k
          · subst e; rw [← HX.out]; exact HXY.out
          · exact HD.out j h1 (by omega))⟩
        case measure => simp [intOf]; omega
      · have HXY := Lib.hid hxy
        clear hxy
        go_wp2_with fail
        refine (spin_no HXY.out _).mono ?_
        rintro e w' ⟨rfl, rfl⟩
        go_wp2
        go_ret
        exact bb_false HX0.out.below (fun h => HXY.out (by rw [HX.out]; exact h.1.dims _ (List.getElem_mem hlt)))
    · have HDIMS : Hid (∀ d ∈ ds, 0 ≤ d ∧ d ≤ 8) := Lib.hid (all_of_lt (fun j hj => HD.out j hj (by omega)))
      clear HD
      go_wp2
      clear c0 c1 c2
      go_loopw [4, 5] (fun i _ wr => ∃ (k : Nat), k ≤ ms.length ∧ i = .int .i64 k ∧ Hid (Bx w wr w.heap.size p (.slice ad ds.length cap) (.slice am ms.length capm) ds ms) ∧ Hid (∀ j, j < ms.length → j < k → TabOk p (ds.getD (j + 1) 0) (ds.getD j 0) (ms.getD j [])) ∧
        Hid (∀ q, q + 1 < k → ∀ r ∈ ms.getD (q + 1) [], ∀ x ∈ apT p (ds.getD q 0).toNat r (ms.getD q []), x = 0)) (fun i _ _ => ms.length - (intOf i).toNat)
      case atStart => exact ⟨0, Nat.zero_le _, rfl, HX0, Lib.hid (fun _ _ h => absurd h (Nat.not_lt_zero _)), Lib.hid (fun _ h => absurd h (Nat.not_lt_zero _))⟩
      case round =>
        obtain ⟨k, hk, rfl, HXR, HD, HS⟩ := hrel
        have c0 := HXR.out.c0
        have c1 := HXR.out.c1
        have c2 := HXR.out.c2
        by_cases hlt : k < ms.length
        · refine Sl.cases HXR.out.cx.dims (fun _ _ hx _ => absurd hl1 (by simp [hx])) (fun bd od capd hv _ hposd hcld => ?_)
          injection hv with e1 _ e3
          subst e1 e3
          refine Sl.cases HXR.out.cx.maps (fun _ _ hx _ => absurd hlt (by simp [hx])) (fun bm om capm2 hv _ hposm hclm => ?_)
          injection hv with e1 _ e3
          subst e1 e3
          have hd1 : k + 1 < ds.length := by have := HL.out; omega
          obtain ⟨u, hu, hr⟩ := hclm k hlt
          obtain ⟨v0, hv0, hr0⟩ := hcld k (by omega)
          obtain ⟨v1, hv1, hr1⟩ := hcld (k + 1) hd1
          rw [hr0] at hv0
          rw [hr1] at hv1
          obtain ⟨d0, hd0⟩ : ∃ d, d = ds[k] := ⟨_, rfl⟩
          obtain ⟨d1, hd1'⟩ : ∃ d, d = ds[k + 1] := ⟨_, rfl⟩
          rw [← hd0] at hv0
          rw [← hd1'] at hv1
          have HE := Lib.hid (fun (m2 : Nat) => l01Table_any p d1 d0 u ms[k] (wr.drewN m2) HP.out (hr.below (drewN_below wr m2)) (HM.out.2 _ (List.getElem_mem hlt)))
          have HT : Hid (TabOk p (ds.getD (k + 1) 0) (ds.getD k 0) (ms.getD k []) ↔ TabOk p d1 d0 ms[k]) := Lib.hid (by rw [getD_of_lt _ hd1, getD_of_lt _ (by omega : k < ds.length), getD_of_lt _ hlt, hd0, hd1'])
          have HR := Lib.hid hr
          clear hr hr0 hr1 hcld hclm hd0 hd1'
          have hw1 : IntKind.i64.wrap ((k : Int) + 1) = (k : Int) + 1 := IntWalk.i64_in _ (by omega)
          have hq3 : (0 : Int) ≤ (k : Int) + 1 := by omega
          have hq4 : (k : Int) + 1 < (ds.length : Int) := by omega
          have hq5 : ((k : Int) + 1).toNat = k + 1 := by omega
          have hq6 : (k : Int) < (ds.length : Int) := by omega
          have hdec1 : decide ((k : Int) < (ms.length : Int)) = true := by simp; omega
          by_cases ht : TabOk p d1 d0 ms[k]
          · have HEY : Hid (∀ m2, Calls Tryd.prog 112 #[.int .i64 p, u, .int .i64 d1, .int .i64 d0] (wr.drewN m2) (QW (.bool true) (wr.drewN m2))) := Lib.hid (fun m2 => bw_yes (HE.out m2) ht)
            have HTY := Lib.hid ht
            clear ht HE
            go_wp2
            go_quiet ((go_at_call 112; exact qw_quiet (HEY.out _)))
            clear hw1 hq3 hq4 hq5 hq6
            go_wp2
            have HXO := Lib.hid (HXR.out.next (drewN_below _ nq))
            have HRO := Lib.hid (HR.out.below (drewN_below _ nq))
            have hv0' : (wr.drewN nq).cell? ⟨bm, om + k, none⟩ = some u := hu
            clear c0 c1 c2 hu hv0 hv1 HXR HR
            generalize wr.drewN nq = wo at *
            have HU := Lib.hid hv0'
            clear hv0'
            have HNX : Hid ((1 ≤ k → ∀ r ∈ ms.getD k [], ∀ x ∈ apT p (ds.getD (k - 1) 0).toNat r (ms.getD (k - 1) []), x = 0) → (∀ j, j < ms.length → j < k + 1 → TabOk p (ds.getD (j + 1) 0) (ds.getD j 0) (ms.getD j [])) ∧
                ∀ q, q + 1 < k + 1 → ∀ r ∈ ms.getD (q + 1) [], ∀ x ∈ apT p (ds.getD q 0).toNat r (ms.getD q []), x = 0) := Lib.hid (fun hz => ⟨fun j h1 hjk => by
              by_cases e : j = k
              · subst e; exact HT.out.2 HTY.out
              · exact HD.out j h1 (by omega), fun q hqk => by
              by_cases e : q + 1 = k
              · subst e; exact hz (by omega)
              · exact HS.out q (by omega)⟩)
            by_cases hk0 : 1 ≤ k
            · obtain ⟨t1, ht1⟩ : ∃ t, t = ms[k] := ⟨_, rfl⟩
              obtain ⟨t0, ht0⟩ : ∃ t, t = ms.getD (k - 1) [] := ⟨_, rfl⟩
              have HRO' : Hid (L2 0 wo u t1) := Lib.hid (by rw [ht1]; exact HRO.out)
              have hdim : 0 ≤ ds.getD (k - 1) 0 ∧ ds.getD (k - 1) 0 ≤ 8 := by rw [getD_of_lt _ (by omega)]; exact HDIMS.out _ (List.getElem_mem _)
              obtain ⟨c, hc⟩ := Int.eq_ofNat_of_zero_le hdim.1
              have hc8 : c ≤ 8 := by omega
              have HC : Hid (ds.getD (k - 1) 0 = (c : Int)) := Lib.hid hc
              have HCN : Hid ((ds.getD (k - 1) 0).toNat = c) := Lib.hid (by rw [hc]; rfl)
              have HAP : Hid (∀ j (hj : j < t1.length), ApOk p c t1[j] t0) := Lib.hid (fun j hj => by
                have h1 : TabOk p (ds.getD (k + 1) 0) (ds.getD k 0) (ms.getD k []) := HT.out.2 HTY.out
                have h0 := HD.out (k - 1) (by omega) (by omega)
                rw [show k - 1 + 1 = k by omega] at h0
                have := pre_ap HP.out HDIMS.out hk0 (by omega) h1 h0 (r := t1[j]) (by rw [getD_of_lt _ hlt, ← ht1]; exact List.getElem_mem _)
                rwa [HCN.out, ← ht0] at this)
              have HNX2 : Hid ((∀ j (hj : j < t1.length), ∀ x ∈ apT p c t1[j] t0, x = 0) → (∀ j, j < ms.length → j < k + 1 → TabOk p (ds.getD (j + 1) 0) (ds.getD j 0) (ms.getD j [])) ∧
                ∀ q, q + 1 < k + 1 → ∀ r ∈ ms.getD (q + 1) [], ∀ x ∈ apT p (ds.getD q 0).toNat r (ms.getD q []), x = 0) := Lib.hid (fun hall => HNX.out (fun _ r hr => by
                rw [getD_of_lt _ hlt, ← ht1] at hr
                obtain ⟨j, hj, rfl⟩ := List.getElem_of_mem hr
                rw [HCN.out, ← ht0]
                exact hall j hj))
              have HNOT : Hid (∀ j (hj : j < t1.length), ¬ (∀ x ∈ apT p c t1[j] t0, x = 0) → ¬ IsCx p ds ms) := Lib.hid (fun j hj hne hs => hne (by
                have := hs.2 (k - 1) (by omega) t1[j] (by rw [show k - 1 + 1 = k by omega, getD_of_lt _ hlt, ← ht1]; exact List.getElem_mem _)
                rwa [HCN.out, ← ht0] at this))
              have HRL : Hid (∀ j (hj : j < t1.length), (t1[j]).length ≤ 1048576) := Lib.hid (fun j hj => (HM.out.2 _ (List.getElem_mem hlt)).2 _ (by rw [← ht1]; exact List.getElem_mem _))
              have htl : t1.length ≤ 1048576 := by rw [ht1]; exact (HM.out.2 _ (List.getElem_mem hlt)).1
              have hk1 : k - 1 < ms.length := by omega
              have hk2 : k - 1 < ds.length := by omega
              obtain ⟨u0, hu0, hr0⟩ := Sl.at HXO.out.cx.maps hk1
              obtain ⟨ud, hud, hrd⟩ := Sl.at HXO.out.cx.dims hk2
              have HU0 := Lib.hid hu0
              have HUD : Hid (wo.cell? ⟨bd, od + (k - 1), none⟩ = some (.int .i64 (c : Int))) := Lib.hid (by rw [hud, hrd, ← getD_of_lt 0 hk2, hc])
              have HR0 : Hid (L2 0 wo u0 t0) := Lib.hid (by rw [ht0, getD_of_lt _ hk1]; exact hr0)
              clear ht1 ht0 hdim hc hu0 hr0 hud hrd HNX HRO HT HTY HD HS HCN HC
              refine Sl.cases HRO'.out (fun ad1 cap1 hx1 hv1 => ?_) (fun b1 o1 cap1 hv1 _ hpos1 hcl1 => ?_)
              · subst hv1
                have c0 := HXO.out.c0
                have c1 := HXO.out.c1
                have c2 := HXO.out.c2
                have hu := HU.out
                have HX1 := Lib.hid hx1
                clear hx1
                refine wp_loop_rounds 1 ?_
                rw [rounds_succ]
                go_wp2
                go_roundw
                case rel =>
                  have hh := HNX2.out (fun j hj => absurd hj (by rw [HX1.out]; simp))
                  exact ⟨k + 1, by omega, by go_num, HXO, Lib.hid hh.1, Lib.hid hh.2⟩
                case measure => simp [intOf]; omega
              · subst hv1
                have HC1 := Lib.hid hcl1
                clear hcl1
                go_loopw [5] (fun i wr => ∃ (j : Nat), j ≤ t1.length ∧ i = .int .i64 j ∧ Hid (Below wo.heap.size wo wr) ∧ Hid (∀ j2 (hj : j2 < t1.length), j2 < j → ∀ x ∈ apT p c t1[j2] t0, x = 0)) (fun i _ => t1.length - (intOf i).toNat)
                case atStart => exact ⟨0, Nat.zero_le _, rfl, Lib.hid (Below.refl _ _), Lib.hid (fun _ _ h => absurd h (Nat.not_lt_zero _))⟩
                case round =>
                  obtain ⟨j, hj, rfl, HBO, HJ⟩ := hrel
                  have HXI := Lib.hid (HXO.out.next HBO.out)
                  have c0 := HXI.out.c0
                  have c1 := HXI.out.c1
                  have c2 := HXI.out.c2
                  have hu := later HBO.out (Nat.le_refl _) HU.out
                  have hdec2 : decide (0 < (k : Int)) = true := by simp; omega
                  by_cases hltj : j < t1.length
                  · obtain ⟨u2, hu2, hr2⟩ := HC1.out j hltj
                    have hu2' := later HBO.out (Nat.le_refl _) hu2
                    have hu0 := later HBO.out (Nat.le_refl _) HU0.out
                    have hud := later HBO.out (Nat.le_refl _) HUD.out
                    have HR2 := Lib.hid (hr2.below HBO.out)
                    have HR0' := Lib.hid (HR0.out.below HBO.out)
                    clear hu2 hr2
                    have hw1 : IntKind.i64.wrap ((k : Int) - 1) = (k : Int) - 1 := IntWalk.i64_in _ (by omega)
                    have hq3 : (0 : Int) ≤ (k : Int) - 1 := by omega
                    have hq4 : (k : Int) - 1 < (ds.length : Int) := by omega
                    have hq5 : ((k : Int) - 1).toNat = k - 1 := by omega
                    have hq6 : (k : Int) - 1 < (ms.length : Int) := by omega
                    have hq7 : (k : Int) < (ms.length : Int) := by omega
                    have hq8 : (0 : Int) ≤ (k : Int) := by omega
                    have hq9 : (j : Int) < (t1.length : Int) := by omega
                    have hq10 : (0 : Int) ≤ (j : Int) := by omega
                    have hq11 : (1 : Int) ≤ (k : Int) := by omega
                    have hq12 : (k : Int) ≤ (ms.length : Int) := by omega
                    have hq13 : (k : Int) ≤ (ds.length : Int) := by omega
                    have hq14 : (0 : Int) < (k : Int) := by omega
                    go_wp2
                    go_still_tail 22, (by kernel_rfl)
                    change wpList _ _ _ _ _ wr.drew
                    clear hw1 hq3 hq4 hq5 hq6 hq7 hq8 hq9 hq10 hq11 hq12 hq13 hq14
                    have hall := HAP.out j hltj
                    have hlen : (apT p c t1[j] t0).length ≤ 1048576 := by rw [apT_length hall]; omega
                    have HALLJ := Lib.hid hall
                    have HLEN := Lib.hid hlen
                    clear hall hlen
                    go_wp2_with fail
                    refine (l01Apply_any p c u2 u0 t1[j] t0 _ HALLJ.out ((HR2.out.below (Below.refl _ _).drew)) (HR0'.out.below (Below.refl _ _).drew) (HRL.out j hltj) (by omega)).mono ?_
                    rintro e w2 ⟨u3, rfl, hru, hb2⟩
                    have HRU := Lib.hid hru
                    have HB2 := Lib.hid (HBO.out.drew.trans (hb2.mono (by have := HBO.out.size; simpa using this)))
                    clear hru hb2
                    go_wp2_with fail
                    have hlead := l01Lead_any u3 (apT p c t1[j] t0) w2 (HRU.out.lower (Nat.zero_le _)) HLEN.out
                    by_cases hz : ∀ x ∈ apT p c t1[j] t0, x = 0
                    · rw [leadOf_neg hz] at hlead
                      have HZ := Lib.hid hz
                      clear hz
                      refine hlead.mono ?_
                      clear hlead
                      rintro e w' ⟨rfl, rfl⟩
                      go_wp2
                      go_roundw
                      case rel => exact ⟨j + 1, by omega, by go_num, HB2, Lib.hid (fun j2 hj2 hlt2 => by
                        by_cases e : j2 = j
                        · subst e; exact HZ.out
                        · exact HJ.out j2 hj2 (by omega))⟩
                      case measure => simp [intOf]; omega
                    · obtain ⟨r, hr0, hr⟩ : ∃ r, 0 ≤ r ∧ leadOf (apT p c t1[j] t0) = r := ⟨_, leadOf_pos hz, rfl⟩
                      rw [hr] at hlead
                      have HZ := Lib.hid hz
                      clear hz hr
                      refine hlead.mono ?_
                      clear hlead
                      rintro e w' ⟨rfl, rfl⟩
                      go_wp2
                      go_ret
                      exact bb_false (HXO.out.next HB2.out).below (HNOT.out j hltj HZ.out)
                  · go_wp2
                    go_roundw
                    case rel =>
                      have hh := HNX2.out (fun j2 hj2 => HJ.out j2 hj2 (by omega))
                      exact ⟨k + 1, by omega, by go_num, HXI, Lib.hid hh.1, Lib.hid hh.2⟩
                    case measure => simp [intOf]; omega
            · have HNX' : Hid _ := Lib.hid (HNX.out (fun h => absurd h hk0))
              obtain ⟨a1, cap1, rfl⟩ := Sl.shape HRO.out
              have c0 := HXO.out.c0
              have c1 := HXO.out.c1
              have c2 := HXO.out.c2
              have hu := HU.out
              have htl : (ms[k]).length ≤ 1048576 := (HM.out.2 _ (List.getElem_mem hlt)).1
              obtain ⟨n1, hn1⟩ : ∃ n, n = (ms[k]).length := ⟨_, rfl⟩
              rw [← hn1] at hu htl
              have HN1 := Lib.hid hn1
              clear hn1
              have hdec2 : decide (0 < (k : Int)) = false := by simp; omega
              refine wp_loop_rounds 1 ?_
              rw [rounds_succ]
              by_cases hn0 : 0 < n1
              all_goals
                go_wp2
                go_roundw
                case rel => exact ⟨k + 1, by omega, by go_num, HXO, Lib.hid HNX'.out.1, Lib.hid HNX'.out.2⟩
                case measure => simp [intOf]; omega
          · have HEY : Hid (∀ m2, Calls Tryd.prog 112 #[.int .i64 p, u, .int .i64 d1, .int .i64 d0] (wr.drewN m2) (QW (.bool false) (wr.drewN m2))) := Lib.hid (fun m2 => bw_no (HE.out m2) ht)
            have HTY := Lib.hid ht
            clear ht HE
            go_wp2
            go_quiet ((go_at_call 112; exact qw_quiet (HEY.out _)))
            clear hw1 hq3 hq4 hq5 hq6
            go_wp2
            go_ret
            exact bb_false (HXR.out.next (drewN_below _ nq)).below (fun h => HTY.out (HT.out.1 (h.1.tabs k hlt)))
        · go_wp2
          go_ret
          exact bb_true HXR.out.below ⟨⟨HP.out, hl1, hl6, HL.out, HDIMS.out, fun j hj => HD.out j hj (by omega)⟩, fun q hq => HS.out q (by omega)⟩

theorem l01Is_any (p : Int) (dv mv : Value) (ds : List Int) (ms : List (List (List Int))) (w : World) (h : Cx 0 w dv mv ds ms) (hd : ds.length ≤ 1048576) (hm : Bd3 1048576 ms) :
    Calls Tryd.prog 95 #[.agg #[.int .i64 p, dv, mv]] w (BB (IsCx p ds ms) w) := by
  by_cases h1 : IsP p
  · by_cases h2 : 1 ≤ ds.length ∧ ds.length ≤ 6 ∧ ms.length + 1 = ds.length
    · exact l01Is_yes p dv mv ds ms w h hm h1 h2.1 h2.2.1 h2.2.2
    · exact l01Is_no p dv mv ds ms w h hd hm (Or.inr (by omega))
  · exact l01Is_no p dv mv ds ms w h hd hm (Or.inl h1)

theorem below_alloc1 (w : World) (A : Obj) : Below w.heap.size w (w.alloc A) := (Below.refl _ _).alloc (Nat.le_refl _) _
theorem cx_drew {lo : Nat} {w : World} {dv mv : Value} {ds : List Int} {ms : List (List (List Int))} (h : Cx lo w dv mv ds ms) : Cx lo w.drew dv mv ds ms := h.below (Below.refl _ _).drew
theorem Cx.zero {lo : Nat} {w : World} {dv mv : Value} {ds : List Int} {ms : List (List (List Int))} (h : Cx lo w dv mv ds ms) : Cx 0 w dv mv ds ms := h.lower (Nat.zero_le _)
theorem Cx.shapes {lo : Nat} {w : World} {dv mv : Value} {ds : List Int} {ms : List (List (List Int))} (h : Cx lo w dv mv ds ms) : (∃ a c, dv = .slice a ds.length c) ∧ ∃ a c, mv = .slice a ms.length c := ⟨Sl.shape h.dims, Sl.shape h.maps⟩
theorem qr_below {v : Value} {w : World} {e : Ending} {w' : World} (h : QR v w e w') : e = .returned v ∧ Below w.heap.size w w' := by
  obtain ⟨h1, m, h2⟩ := h
  exact ⟨h1, by rw [h2]; exact drewN_below w m⟩
end Go.Proofs.YtpchbceohnabnabDoor


namespace Go.Proofs.YtpchbceohnabnabDoor
open Go.RowKit

/-- Blocks from lo up to hi are as they were. -/
def Same (lo hi : Nat) (w w' : World) : Prop := ∀ b, lo ≤ b → b < hi → w'.heap[b]? = w.heap[b]?
theorem Same.of_below {lo hi : Nat} {w w' : World} {B : Nat} (h : Below B w w') (hh : hi ≤ B) : Same lo hi w w' := fun b _ hb => h.block b (Nat.lt_of_lt_of_le hb hh)
theorem Same.trans {lo hi : Nat} {a b c : World} (h : Same lo hi a b) (k : Same lo hi b c) : Same lo hi a c := fun i hl hi => (k i hl hi).trans (h i hl hi)
theorem Same.set {lo hi g o : Nat} {w : World} (u : Value) (h : g < lo ∨ hi ≤ g) : Same lo hi w (w.setCell ⟨g, o, none⟩ u) := fun b hl hb => Below.heap_setCell w ⟨g, o, none⟩ u b (by show b ≠ g; omega)
theorem Same.narrow {lo hi lo' hi' : Nat} {w w' : World} (h : Same lo hi w w') (h1 : lo ≤ lo') (h2 : hi' ≤ hi) : Same lo' hi' w w' := fun b hl hb => h b (by omega) (by omega)

/-- The slice v reads as xs; its cells lie in blocks from lo up to hi, and may be written. -/
def Sw {α : Type} (lo hi : Nat) (R : World → Value → α → Prop) (w : World) (v : Value) (xs : List α) : Prop :=
  (xs = [] ∧ ∃ ad cap, v = .slice ad 0 cap) ∨
  ∃ b o cap, v = .slice (some ⟨b, o, none⟩) xs.length cap ∧ lo ≤ b ∧ b < hi ∧ 0 < xs.length ∧ (∀ k (h : k < xs.length), ∃ u, w.cell? ⟨b, o + k, none⟩ = some u ∧ R w u xs[k]) ∧ ∀ k, k < xs.length → w.frozen? ⟨b, o + k, none⟩ = false
def W1 (lo hi : Nat) := Sw lo hi IsI
def W2 (lo hi : Nat) := Sw lo hi (W1 lo hi)
def W3 (lo hi : Nat) := Sw lo hi (W2 lo hi)

def Steady {α : Type} (lo hi : Nat) (R : World → Value → α → Prop) : Prop := ∀ w w' v x, Same lo hi w w' → R w v x → R w' v x
theorem steadyI (lo hi : Nat) : Steady lo hi IsI := fun _ _ _ _ _ h => h
theorem Steady.sw {α : Type} {lo hi : Nat} {R : World → Value → α → Prop} (hR : Steady lo hi R) : Steady lo hi (Sw lo hi R) := by
  intro w w' v xs hk h
  rcases h with h | ⟨b, o, cap, hv, hlo, hhi, hpos, hc, hf⟩
  · exact Or.inl h
  · refine Or.inr ⟨b, o, cap, hv, hlo, hhi, hpos, fun k hk' => ?_, fun k hk' => ?_⟩
    · obtain ⟨u, hu, hr⟩ := hc k hk'
      exact ⟨u, (World.cell?_of_block (w := w) (a := ⟨b, o + k, none⟩) (hk b hlo hhi)).trans hu, hR _ _ _ _ hk hr⟩
    · exact (World.frozen?_of_block (w := w) (a := ⟨b, o + k, none⟩) (hk b hlo hhi)).trans (hf k hk')
theorem steady1 (lo hi : Nat) : Steady lo hi (W1 lo hi) := (steadyI lo hi).sw
theorem steady2 (lo hi : Nat) : Steady lo hi (W2 lo hi) := (steady1 lo hi).sw
theorem steady3 (lo hi : Nat) : Steady lo hi (W3 lo hi) := (steady2 lo hi).sw

theorem Sw.wider {α : Type} {lo hi lo' hi' : Nat} {R R' : World → Value → α → Prop} (hl : lo' ≤ lo) (hh : hi ≤ hi') (hR : ∀ w v x, R w v x → R' w v x) {w : World} {v : Value} {xs : List α} (h : Sw lo hi R w v xs) : Sw lo' hi' R' w v xs := by
  rcases h with h | ⟨b, o, cap, hv, hlo, hhi, hpos, hc, hf⟩
  · exact Or.inl h
  · refine Or.inr ⟨b, o, cap, hv, by omega, by omega, hpos, fun k hk' => ?_, hf⟩
    obtain ⟨u, hu, hr⟩ := hc k hk'
    exact ⟨u, hu, hR _ _ _ hr⟩
theorem W1.wider {lo hi lo' hi' : Nat} (hl : lo' ≤ lo) (hh : hi ≤ hi') {w : World} {v : Value} {xs : List Int} (h : W1 lo hi w v xs) : W1 lo' hi' w v xs := Sw.wider hl hh (fun _ _ _ h => h) h
theorem W2.wider {lo hi lo' hi' : Nat} (hl : lo' ≤ lo) (hh : hi ≤ hi') {w : World} {v : Value} {xs : List (List Int)} (h : W2 lo hi w v xs) : W2 lo' hi' w v xs := Sw.wider hl hh (fun _ _ _ h => h.wider hl hh) h
theorem W3.wider {lo hi lo' hi' : Nat} (hl : lo' ≤ lo) (hh : hi ≤ hi') {w : World} {v : Value} {xs : List (List (List Int))} (h : W3 lo hi w v xs) : W3 lo' hi' w v xs := Sw.wider hl hh (fun _ _ _ h => h.wider hl hh) h

theorem Sw.sl {α : Type} {lo hi : Nat} {R R' : World → Value → α → Prop} (hR : ∀ w v x, R w v x → R' w v x) {w : World} {v : Value} {xs : List α} (h : Sw lo hi R w v xs) : Sl lo R' w v xs := by
  rcases h with h | ⟨b, o, cap, hv, hlo, _, hpos, hc, _⟩
  · exact Or.inl h
  · refine Or.inr ⟨b, o, cap, hv, hlo, hpos, fun k hk' => ?_⟩
    obtain ⟨u, hu, hr⟩ := hc k hk'
    exact ⟨u, hu, hR _ _ _ hr⟩
theorem W1.l1 {lo hi : Nat} {w : World} {v : Value} {xs : List Int} (h : W1 lo hi w v xs) : L1 lo w v xs := Sw.sl (fun _ _ _ h => h) h
theorem W2.l2 {lo hi : Nat} {w : World} {v : Value} {xs : List (List Int)} (h : W2 lo hi w v xs) : L2 lo w v xs := Sw.sl (fun _ _ _ h => h.l1) h
theorem W3.l3 {lo hi : Nat} {w : World} {v : Value} {xs : List (List (List Int))} (h : W3 lo hi w v xs) : L3 lo w v xs := Sw.sl (fun _ _ _ h => h.l2) h
theorem W1.same {lo hi : Nat} {w w' : World} {v : Value} {xs : List Int} (h : W1 lo hi w v xs) (hs : Same lo hi w w') : W1 lo hi w' v xs := steady1 lo hi _ _ _ _ hs h
theorem W2.same {lo hi : Nat} {w w' : World} {v : Value} {xs : List (List Int)} (h : W2 lo hi w v xs) (hs : Same lo hi w w') : W2 lo hi w' v xs := steady2 lo hi _ _ _ _ hs h
theorem W3.same {lo hi : Nat} {w w' : World} {v : Value} {xs : List (List (List Int))} (h : W3 lo hi w v xs) (hs : Same lo hi w w') : W3 lo hi w' v xs := steady3 lo hi _ _ _ _ hs h
theorem Sw.cases {α : Type} {lo hi : Nat} {R : World → Value → α → Prop} {w : World} {v : Value} {xs : List α} (h : Sw lo hi R w v xs) {P : Prop}
    (h0 : ∀ ad cap, xs = [] → v = .slice ad 0 cap → P)
    (h1 : ∀ b o cap, v = .slice (some ⟨b, o, none⟩) xs.length cap → lo ≤ b → b < hi → 0 < xs.length → (∀ k (h : k < xs.length), ∃ u, w.cell? ⟨b, o + k, none⟩ = some u ∧ R w u xs[k]) → (∀ k, k < xs.length → w.frozen? ⟨b, o + k, none⟩ = false) → P) : P := by
  rcases h with ⟨h, ad, cap, hv⟩ | ⟨b, o, cap, hv, hlo, hhi, hpos, hc, hf⟩
  · exact h0 ad cap h hv
  · exact h1 b o cap hv hlo hhi hpos hc hf
theorem Sw.shape {α : Type} {lo hi : Nat} {R : World → Value → α → Prop} {w : World} {v : Value} {xs : List α} (h : Sw lo hi R w v xs) : ∃ ad cap, v = .slice ad xs.length cap :=
  h.cases (fun ad cap hx hv => ⟨ad, cap, by subst hx; exact hv⟩) (fun b o cap hv _ _ _ _ _ => ⟨some ⟨b, o, none⟩, cap, hv⟩)

/-- The filling of a slice, the elements in a span of blocks of their own. -/
structure FillW {α : Type} (w wr : World) (t : TypeId) (n k : Nat) (z : Value) (R : Nat → Nat → World → Value → α → Prop) (xs : List α) (f : Nat → Value) : Prop where
  below : Below w.heap.size w wr
  row : wr.rowIs w.heap.size t n f
  done : ∀ j (h : j < xs.length), j < k → R (w.heap.size + 1) wr.heap.size wr (f j) (xs[j]'h)

theorem FillW.start {α : Type} (w : World) (t : TypeId) (n : Nat) (z : Value) (R : Nat → Nat → World → Value → α → Prop) (xs : List α) : FillW w (w.alloc (.cells (madeCells #[z] n) t)) t n 0 z R xs (fun _ => z) :=
  ⟨(Below.refl _ _).alloc (Nat.le_refl _) _, World.rowIs_made w z n t, fun _ _ h => absurd h (Nat.not_lt_zero _)⟩
theorem FillW.step {α : Type} {w wr w1 : World} {t : TypeId} {n k : Nat} {z u : Value} {R : Nat → Nat → World → Value → α → Prop} {xs : List α} {f : Nat → Value} (hR : ∀ lo hi, Steady lo hi (R lo hi))
    (hW : ∀ lo hi lo' hi' w v x, lo' ≤ lo → hi ≤ hi' → R lo hi w v x → R lo' hi' w v x) (h : FillW w wr t n k z R xs f)
    (hb : Below wr.heap.size wr w1) (hk : k < xs.length) (hu : R wr.heap.size w1.heap.size w1 u xs[k]) :
    FillW w (w1.setCell ⟨w.heap.size, k, none⟩ u) t n (k + 1) z R xs (fun j => if j = k then u else f j) := by
  have hlt := h.row.lt
  have hrow1 : w1.rowIs w.heap.size t n f := h.row.of_block (hb.block _ hlt)
  have hsz : (w1.setCell ⟨w.heap.size, k, none⟩ u).heap.size = w1.heap.size := by simp [World.setCell]
  refine ⟨(h.below.trans (hb.mono (Nat.le_of_lt hlt))).setCell (Nat.le_refl _) _, hrow1.set k u, fun j hj hjk => ?_⟩
  rw [hsz]
  by_cases e : j = k
  · subst e
    simp only [if_true]
    refine hW _ _ _ _ _ _ _ hlt (Nat.le_refl _) (hR _ _ _ _ _ _ (Same.set u (Or.inl ?_)) hu)
    exact hlt
  · rw [if_neg e]
    have hd := h.done j hj (by omega)
    refine hW _ _ _ _ _ _ _ (Nat.le_refl _) hb.size (hR _ _ _ _ _ _ ((Same.of_below hb (Nat.le_refl _)).trans (Same.set u (Or.inl (Nat.lt_succ_self _)))) hd)
theorem FillW.sw {α : Type} {w wr : World} {t : TypeId} {z : Value} {R : Nat → Nat → World → Value → α → Prop} {xs : List α} {f : Nat → Value}
    (hW : ∀ lo hi lo' hi' w v x, lo' ≤ lo → hi ≤ hi' → R lo hi w v x → R lo' hi' w v x) (h : FillW w wr t xs.length xs.length z R xs f) :
    Sw w.heap.size wr.heap.size (R w.heap.size wr.heap.size) wr (.slice (some ⟨w.heap.size, 0, none⟩) xs.length xs.length) xs := by
  by_cases h0 : xs.length = 0
  · exact Or.inl ⟨List.eq_nil_of_length_eq_zero h0, _, _, by rw [h0]⟩
  · exact Or.inr ⟨w.heap.size, 0, xs.length, rfl, Nat.le_refl _, h.row.lt, by omega, fun k hk => ⟨f k, by rw [Nat.zero_add]; exact h.row.cell hk, hW _ _ _ _ _ _ _ (Nat.le_succ _) (Nat.le_refl _) (h.done k hk hk)⟩, fun k _ => h.row.frozen _⟩

def ToW {α : Type} (R : Nat → Nat → World → Value → α → Prop) (x : α) (w : World) (e : Ending) (w' : World) : Prop := ∃ v, e = .returned v ∧ R w.heap.size w'.heap.size w' v x ∧ Below w.heap.size w w'

set_option maxHeartbeats 400000 in
theorem to1w_any (v : Value) (xs : List Int) (w : World) (h : L1 0 w v xs) (hm : xs.length ≤ 1048576) :
    Calls Tryd.prog 34 #[v] w (ToW W1 xs w) := by
  have hmk := run_make_row' (P := Tryd.prog) 22 2 (.int .i64 0) 8 Tryd.underlying22 Tryd.infoI rfl .i64 .i64 xs.length (by omega) (by omega)
  refine Sl.cases h (fun ad cap hx hv => ?_) (fun b o cap hv _ hpos hc => ?_)
  · subst hx hv
    have hmk0 : ∀ w, (Instr.makeSlice 22 (.int .i64 0) (.int .i64 0)).run Tryd.prog w = .ok (.slice (some ⟨w.heap.size, 0, none⟩) 0 0) (w.alloc (.cells #[] 2)) := fun _ => by kernel_rfl
    clear hmk
    go_enter Tryd.func34, Tryd.ntmps34
    go_wp2
    refine wp_loop_rounds 1 ?_
    rw [rounds_succ]
    go_wp2
    go_ret
    exact ⟨_, rfl, Or.inl ⟨rfl, _, _, rfl⟩, (Below.refl _ _).alloc (Nat.le_refl _) _⟩
  · subst hv
    clear h
    have HC := Lib.hid hc
    clear hc
    go_enter Tryd.func34, Tryd.ntmps34
    go_wp2
    clear hmk
    go_loopw [4] (fun i wr => ∃ (k : Nat) (f : Nat → Value), k ≤ xs.length ∧ i = .int .i64 k ∧ FillW w wr 2 xs.length k (.int .i64 0) (fun _ _ => IsI) xs f) (fun i _ => xs.length - (intOf i).toNat)
    case atStart => exact ⟨0, _, Nat.zero_le _, rfl, FillW.start _ _ _ _ _ _⟩
    case round =>
      obtain ⟨k, f, hk, rfl, HF⟩ := hrel
      by_cases hlt2 : k < xs.length
      · obtain ⟨u, hu, hr⟩ := HC.out k hlt2
        have hu' : wr.cell? ⟨b, o + k, none⟩ = some (.int .i64 xs[k]) := by
          rw [HF.below.cell (p := ⟨b, o + k, none⟩) (cell_lt hu), hu, hr]
        have hc1 := HF.row.cell hlt2
        have hc2 := HF.row.frozen k
        have HS := HF.step (w1 := wr) (u := .int .i64 xs[k]) (fun _ _ => steadyI _ _) (fun _ _ _ _ _ _ _ _ _ h => h) (Below.refl _ _) hlt2 rfl
        have HF' := Lib.hid HF
        have HS' := Lib.hid HS
        clear HF HS hu hr
        go_wp2
        go_roundw
        case rel => exact ⟨k + 1, _, by omega, by go_num, HS'.out⟩
        case measure => simp [intOf]; omega
      · obtain rfl : k = xs.length := by omega
        have HF' := Lib.hid HF
        clear HF
        go_wp2
        go_ret
        exact ⟨_, rfl, HF'.out.sw (fun _ _ _ _ _ _ _ _ _ h => h), HF'.out.below⟩

set_option maxHeartbeats 400000 in
theorem to2w_any (v : Value) (xs : List (List Int)) (w : World) (h : L2 0 w v xs) (hm : Bd2 1048576 xs) :
    Calls Tryd.prog 35 #[v] w (ToW W2 xs w) := by
  have hml : xs.length ≤ 1048576 := hm.1
  have HM := Lib.hid hm
  clear hm
  have hmk := run_make_row' (P := Tryd.prog) 48 22 (.slice none 0 0) 24 Tryd.underlying48 Tryd.infoS rfl .i64 .i64 xs.length (by omega) (by omega)
  refine Sl.cases h (fun ad cap hx hv => ?_) (fun b o cap hv _ hpos hc => ?_)
  · subst hx hv
    have hmk0 : ∀ w, (Instr.makeSlice 48 (.int .i64 0) (.int .i64 0)).run Tryd.prog w = .ok (.slice (some ⟨w.heap.size, 0, none⟩) 0 0) (w.alloc (.cells #[] 22)) := fun _ => by kernel_rfl
    clear hmk
    go_enter Tryd.func35, Tryd.ntmps35
    go_wp2
    refine wp_loop_rounds 1 ?_
    rw [rounds_succ]
    go_wp2
    go_ret
    exact ⟨_, rfl, Or.inl ⟨rfl, _, _, rfl⟩, (Below.refl _ _).alloc (Nat.le_refl _) _⟩
  · subst hv
    clear h
    have HC := Lib.hid hc
    clear hc
    go_enter Tryd.func35, Tryd.ntmps35
    go_wp2
    clear hmk
    go_loopw [4] (fun i wr => ∃ (k : Nat) (f : Nat → Value), k ≤ xs.length ∧ i = .int .i64 k ∧ FillW w wr 22 xs.length k (.slice none 0 0) W1 xs f) (fun i _ => xs.length - (intOf i).toNat)
    case atStart => exact ⟨0, _, Nat.zero_le _, rfl, FillW.start _ _ _ _ _ _⟩
    case round =>
      obtain ⟨k, f, hk, rfl, HF⟩ := hrel
      by_cases hlt2 : k < xs.length
      · obtain ⟨u, hu, hr⟩ := HC.out k hlt2
        have hu' : wr.cell? ⟨b, o + k, none⟩ = some u := by
          rw [HF.below.cell (p := ⟨b, o + k, none⟩) (cell_lt hu), hu]
        have hr' : L1 0 wr u xs[k] := hr.below HF.below
        have hmx : (xs[k]).length ≤ 1048576 := HM.out.2 _ (List.getElem_mem hlt2)
        have HF' := Lib.hid HF
        have HR' := Lib.hid hr'
        clear HF hu hr hr'
        go_wp2_with fail
        refine (to1w_any u xs[k] _ HR'.out hmx).mono ?_
        rintro e w1 ⟨u1, rfl, hr1, hb1⟩
        obtain ⟨ad1, cap1, rfl⟩ := Sw.shape hr1
        have hlr := HF'.out.row.lt
        have hc1 : w1.cell? ⟨w.heap.size, k, none⟩ = some (f k) := (hb1.cell (p := ⟨w.heap.size, k, none⟩) hlr).trans (HF'.out.row.cell hlt2)
        have hc2 : w1.frozen? ⟨w.heap.size, k, none⟩ = false := (hb1.frozen (p := ⟨w.heap.size, k, none⟩) hlr).trans (HF'.out.row.frozen k)
        have HS := Lib.hid (HF'.out.step (w1 := w1) (u := _) steady1 (fun _ _ _ _ _ _ _ h1 h2 h => W1.wider h1 h2 h) hb1 hlt2 hr1)
        clear hr1 hb1 hlr
        go_wp2
        go_roundw
        case rel => exact ⟨k + 1, _, by omega, by go_num, HS.out⟩
        case measure => simp [intOf]; omega
      · obtain rfl : k = xs.length := by omega
        have HF' := Lib.hid HF
        clear HF
        go_wp2
        go_ret
        exact ⟨_, rfl, HF'.out.sw (fun _ _ _ _ _ _ _ h1 h2 h => W1.wider h1 h2 h), HF'.out.below⟩

set_option maxHeartbeats 400000 in
theorem to3w_any (v : Value) (xs : List (List (List Int))) (w : World) (h : L3 0 w v xs) (hm : Bd3 1048576 xs) :
    Calls Tryd.prog 13 #[v] w (ToW W3 xs w) := by
  have hml : xs.length ≤ 1048576 := hm.1
  have HM := Lib.hid hm
  clear hm
  have hmk := run_make_row' (P := Tryd.prog) 23 48 (.slice none 0 0) 24 Tryd.underlying23 Tryd.infoSS rfl .i64 .i64 xs.length (by omega) (by omega)
  refine Sl.cases h (fun ad cap hx hv => ?_) (fun b o cap hv _ hpos hc => ?_)
  · subst hx hv
    have hmk0 : ∀ w, (Instr.makeSlice 23 (.int .i64 0) (.int .i64 0)).run Tryd.prog w = .ok (.slice (some ⟨w.heap.size, 0, none⟩) 0 0) (w.alloc (.cells #[] 48)) := fun _ => by kernel_rfl
    clear hmk
    go_enter Tryd.func13, Tryd.ntmps13
    go_wp2
    refine wp_loop_rounds 1 ?_
    rw [rounds_succ]
    go_wp2
    go_ret
    exact ⟨_, rfl, Or.inl ⟨rfl, _, _, rfl⟩, (Below.refl _ _).alloc (Nat.le_refl _) _⟩
  · subst hv
    clear h
    have HC := Lib.hid hc
    clear hc
    go_enter Tryd.func13, Tryd.ntmps13
    go_wp2
    clear hmk
    go_loopw [4] (fun i wr => ∃ (k : Nat) (f : Nat → Value), k ≤ xs.length ∧ i = .int .i64 k ∧ FillW w wr 48 xs.length k (.slice none 0 0) W2 xs f) (fun i _ => xs.length - (intOf i).toNat)
    case atStart => exact ⟨0, _, Nat.zero_le _, rfl, FillW.start _ _ _ _ _ _⟩
    case round =>
      obtain ⟨k, f, hk, rfl, HF⟩ := hrel
      by_cases hlt2 : k < xs.length
      · obtain ⟨u, hu, hr⟩ := HC.out k hlt2
        have hu' : wr.cell? ⟨b, o + k, none⟩ = some u := by
          rw [HF.below.cell (p := ⟨b, o + k, none⟩) (cell_lt hu), hu]
        have hr' : L2 0 wr u xs[k] := hr.below HF.below
        have hmx : Bd2 1048576 xs[k] := HM.out.2 _ (List.getElem_mem hlt2)
        have HF' := Lib.hid HF
        have HR' := Lib.hid hr'
        clear HF hu hr hr'
        go_wp2_with fail
        refine (to2w_any u xs[k] _ HR'.out hmx).mono ?_
        rintro e w1 ⟨u1, rfl, hr1, hb1⟩
        obtain ⟨ad1, cap1, rfl⟩ := Sw.shape hr1
        have hlr := HF'.out.row.lt
        have hc1 : w1.cell? ⟨w.heap.size, k, none⟩ = some (f k) := (hb1.cell (p := ⟨w.heap.size, k, none⟩) hlr).trans (HF'.out.row.cell hlt2)
        have hc2 : w1.frozen? ⟨w.heap.size, k, none⟩ = false := (hb1.frozen (p := ⟨w.heap.size, k, none⟩) hlr).trans (HF'.out.row.frozen k)
        have HS := Lib.hid (HF'.out.step (w1 := w1) (u := _) steady2 (fun _ _ _ _ _ _ _ h1 h2 h => W2.wider h1 h2 h) hb1 hlt2 hr1)
        clear hr1 hb1 hlr
        go_wp2
        go_roundw
        case rel => exact ⟨k + 1, _, by omega, by go_num, HS.out⟩
        case measure => simp [intOf]; omega
      · obtain rfl : k = xs.length := by omega
        have HF' := Lib.hid HF
        clear HF
        go_wp2
        go_ret
        exact ⟨_, rfl, HF'.out.sw (fun _ _ _ _ _ _ _ h1 h2 h => W2.wider h1 h2 h), HF'.out.below⟩

end Go.Proofs.YtpchbceohnabnabDoor

namespace Go.Proofs.YtpchbceohnabnabDoor
open Go.RowKit

structure CxW (lo hi : Nat) (w : World) (dv mv : Value) (ds : List Int) (ms : List (List (List Int))) : Prop where
  dims : W1 lo hi w dv ds
  maps : W3 lo hi w mv ms
theorem CxW.same {lo hi : Nat} {w w' : World} {dv mv : Value} {ds : List Int} {ms : List (List (List Int))} (h : CxW lo hi w dv mv ds ms) (hs : Same lo hi w w') : CxW lo hi w' dv mv ds ms := ⟨h.dims.same hs, h.maps.same hs⟩
theorem CxW.cx {lo hi : Nat} {w : World} {dv mv : Value} {ds : List Int} {ms : List (List (List Int))} (h : CxW lo hi w dv mv ds ms) : Cx lo w dv mv ds ms := ⟨h.dims.l1, h.maps.l3⟩
def ToCW (p : Int) (ds : List Int) (ms : List (List (List Int))) (w : World) (e : Ending) (w' : World) : Prop :=
  ∃ dv mv, e = .returned (.agg #[.int .i64 p, dv, mv]) ∧ CxW w.heap.size w'.heap.size w' dv mv ds ms ∧ Below w.heap.size w w'

set_option maxHeartbeats 800000 in
theorem toComplexw_any (p : Int) (dv mv : Value) (ds : List Int) (ms : List (List (List Int))) (w : World) (h : Cx 0 w dv mv ds ms) (hd : ds.length ≤ 1048576) (hm : Bd3 1048576 ms) :
    Calls Tryd.prog 12 #[.agg #[.int .i64 p, dv, mv]] w (ToCW p ds ms w) := by
  have HM := Lib.hid hm
  have H := Lib.hid h
  clear hm h
  have hres : Tryd.f12.results = #[.cell 2 30] := by kernel_rfl
  have HRES := Lib.hid hres
  clear hres
  go_enter Tryd.func12, Tryd.ntmps12
  go_wp2_with fail
  have hb0 : Below w.heap.size w (((w.alloc (.cells #[.int .i64 p, dv, mv] 25)).alloc (.cells #[.int .i64 0, .slice none 0 0, .slice none 0 0] 30)).alloc (.cells #[.int .i64 p, .slice none 0 0, .slice none 0 0] 30)) :=
    (((Below.refl _ _).alloc (Nat.le_refl _) _).alloc (by simp) _).alloc (by simp; omega) _
  have HB0 := Lib.hid hb0
  clear hb0
  refine (to1w_any dv ds _ (H.out.dims.below HB0.out) hd).mono ?_
  rintro e w1 ⟨u1, rfl, hr1, hb1⟩
  obtain ⟨ad1, cap1, rfl⟩ := Sw.shape hr1
  have hz : w.heap.size + 3 ≤ w1.heap.size := by have := hb1.size; simp at this; omega
  obtain ⟨hc, hf⟩ := bcell hb1
  have HR1 := Lib.hid hr1
  have HB1 := Lib.hid hb1
  clear hr1 hb1
  have hz1b : w.heap.size + 1 < w1.heap.size := by omega
  have hz1 : w.heap.size + 1 + 1 < w1.heap.size := by omega
  have HR1' : Hid (W1 (w.heap.size + 1 + 1 + 1) w1.heap.size (w1.setCell ⟨w.heap.size + 1 + 1, 1, none⟩ (.slice ad1 ds.length cap1)) (.slice ad1 ds.length cap1) ds) := Lib.hid ((HR1.out.wider (by simp) (Nat.le_refl _)).same (Same.set _ (Or.inl (Nat.lt_succ_self _))))
  clear HR1
  go_wp2_with fail
  have hb2 : Below w.heap.size w (w1.setCell ⟨w.heap.size + 1 + 1, 1, none⟩ (.slice ad1 ds.length cap1)) := (HB0.out.trans (HB1.out.mono (by simp; omega))).setCell (by show w.heap.size ≤ w.heap.size + 1 + 1; omega) _
  have HB2 := Lib.hid hb2
  clear hb2
  refine (to3w_any mv ms _ (H.out.maps.below HB2.out) HM.out).mono ?_
  rintro e w2 ⟨u2, rfl, hr2, hb3⟩
  obtain ⟨ad2, cap2, rfl⟩ := Sw.shape hr2
  have hz2 : w1.heap.size ≤ w2.heap.size := by have := hb3.size; simpa using this
  have HR1 : Hid (W1 (w.heap.size + 1 + 1 + 1) w1.heap.size w2 (.slice ad1 ds.length cap1) ds) := Lib.hid (HR1'.out.same (Same.of_below hb3 (by simp)))
  obtain ⟨hc2, hf2⟩ := bcell hb3
  have HR2 : Hid (W3 (w.heap.size + 1 + 1 + 1) w2.heap.size w2 (.slice ad2 ms.length cap2) ms) := Lib.hid (hr2.wider (by simp; omega) (Nat.le_refl _))
  have HB3 := Lib.hid hb3
  clear hr2 hb3 HR1'
  go_wp2
  refine bodyPost_ret (v := .agg #[.int .i64 p, .slice ad1 ds.length cap1, .slice ad2 ms.length cap2]) ?_ rfl ?_
  · simp only [results, HRES.out]
    go_simp
  · have hk : ∀ hi, Same (w.heap.size + 1 + 1 + 1) hi w2 ((((w2.setCell ⟨w.heap.size + 1 + 1, 2, none⟩ (.slice ad2 ms.length cap2)).setCell ⟨w.heap.size + 1, 0, none⟩ (.int .i64 p)).setCell ⟨w.heap.size + 1, 1, none⟩ (.slice ad1 ds.length cap1)).setCell ⟨w.heap.size + 1, 2, none⟩ (.slice ad2 ms.length cap2)) :=
      fun hi => (((Same.set _ (Or.inl (by omega))).trans (Same.set _ (Or.inl (by omega)))).trans (Same.set _ (Or.inl (by omega)))).trans (Same.set _ (Or.inl (by omega)))
    refine ⟨_, _, rfl, ⟨?_, ?_⟩, ?_⟩
    · exact (HR1.out.same (hk _)).wider (by omega) (by simp; omega)
    · exact (HR2.out.same (hk _)).wider (by omega) (by simp)
    · exact ((((HB2.out.trans (HB3.out.mono (by simp; omega))).setCell (by show w.heap.size ≤ w.heap.size + 1 + 1; omega) _).setCell (by show w.heap.size ≤ w.heap.size + 1; omega) _).setCell (by show w.heap.size ≤ w.heap.size + 1; omega) _).setCell (by show w.heap.size ≤ w.heap.size + 1; omega) _

/-- Only blocks from lo up to hi may have been written. -/
structure Only (lo hi : Nat) (w w' : World) : Prop where
  os : w'.os = w.os
  tape : w'.tape = w.tape
  output : w'.output = w.output
  size : w'.heap.size = w.heap.size
  block : ∀ b, (b < lo ∨ hi ≤ b) → w'.heap[b]? = w.heap[b]?
theorem Only.refl (lo hi : Nat) (w : World) : Only lo hi w w := ⟨rfl, rfl, rfl, rfl, fun _ _ => rfl⟩
theorem Only.trans {lo hi : Nat} {a b c : World} (h : Only lo hi a b) (k : Only lo hi b c) : Only lo hi a c := ⟨k.os.trans h.os, k.tape.trans h.tape, k.output.trans h.output, k.size.trans h.size, fun i hi => (k.block i hi).trans (h.block i hi)⟩
theorem Only.wider {lo hi lo' hi' : Nat} {a b : World} (h : Only lo hi a b) (h1 : lo' ≤ lo) (h2 : hi ≤ hi') : Only lo' hi' a b := ⟨h.os, h.tape, h.output, h.size, fun i hi => h.block i (by omega)⟩
theorem Only.set {lo hi g o : Nat} {w : World} (u : Value) (h1 : lo ≤ g) (h2 : g < hi) : Only lo hi w (w.setCell ⟨g, o, none⟩ u) := ⟨rfl, rfl, rfl, by simp, fun b hb => Below.heap_setCell w ⟨g, o, none⟩ u b (by show b ≠ g; omega)⟩
theorem Only.below {lo hi B : Nat} {w w' : World} (h : Only lo hi w w') (hB : B ≤ lo) : Below B w w' := ⟨h.os, h.tape, h.output, Nat.le_of_eq h.size.symm, fun k hk => h.block k (Or.inl (by omega))⟩
theorem Only.same {lo hi lo' hi' : Nat} {w w' : World} (h : Only lo hi w w') (hd : hi' ≤ lo ∨ hi ≤ lo') : Same lo' hi' w w' := fun b hl hh => h.block b (by omega)
theorem Only.cell {lo hi : Nat} {w w' : World} (h : Only lo hi w w') {b o : Nat} (hb : b < lo ∨ hi ≤ b) : w'.cell? ⟨b, o, none⟩ = w.cell? ⟨b, o, none⟩ := World.cell?_of_block (w := w) (a := ⟨b, o, none⟩) (h.block b hb)
theorem Only.frozen {lo hi : Nat} {w w' : World} (h : Only lo hi w w') {b o : Nat} (hb : b < lo ∨ hi ≤ b) : w'.frozen? ⟨b, o, none⟩ = w.frozen? ⟨b, o, none⟩ := World.frozen?_of_block (w := w) (a := ⟨b, o, none⟩) (h.block b hb)

/-- Numbers have been written over numbers, nothing else. -/
structure Tame (w w' : World) : Prop where
  slices : ∀ b o a n c, w.cell? ⟨b, o, none⟩ = some (.slice a n c) → w'.cell? ⟨b, o, none⟩ = some (.slice a n c)
  nums : ∀ b o x, w.cell? ⟨b, o, none⟩ = some (.int .i64 x) → ∃ y, w'.cell? ⟨b, o, none⟩ = some (.int .i64 y)
  frozen : ∀ b o, w'.frozen? ⟨b, o, none⟩ = w.frozen? ⟨b, o, none⟩
theorem Tame.refl (w : World) : Tame w w := ⟨fun _ _ _ _ _ h => h, fun _ _ x h => ⟨x, h⟩, fun _ _ => rfl⟩
theorem Tame.trans {a b c : World} (h : Tame a b) (k : Tame b c) : Tame a c :=
  ⟨fun i o x n m hh => k.slices i o x n m (h.slices i o x n m hh), fun i o x hh => by obtain ⟨y, hy⟩ := h.nums i o x hh; exact k.nums i o y hy, fun i o => (k.frozen i o).trans (h.frozen i o)⟩
theorem Tame.set {w : World} {b o : Nat} {x y : Int} (h : w.cell? ⟨b, o, none⟩ = some (.int .i64 x)) : Tame w (w.setCell ⟨b, o, none⟩ (.int .i64 y)) := by
  refine ⟨fun b2 o2 a n c hh => ?_, fun b2 o2 z hh => ?_, fun _ _ => World.frozen?_setCell _ _ _ _⟩
  · by_cases e : (⟨b, o, none⟩ : Addr) = ⟨b2, o2, none⟩
    · rw [← e, h] at hh
      cases hh
    · rw [World.cell?_setCell_other _ _ _ _ e]
      exact hh
  · by_cases e : (⟨b, o, none⟩ : Addr) = ⟨b2, o2, none⟩
    · rw [← e]
      exact ⟨y, World.cell?_setCell_same _ _ _ h⟩
    · rw [World.cell?_setCell_other _ _ _ _ e]
      exact ⟨z, hh⟩

/-- Some number. -/
def AnyI (_ : World) (v : Value) (_ : Int) : Prop := ∃ x : Int, v = .int .i64 x
def T1 (lo hi : Nat) := Sw lo hi AnyI
def T2 (lo hi : Nat) := Sw lo hi (T1 lo hi)
def T3 (lo hi : Nat) := Sw lo hi (T2 lo hi)
theorem W1.t1 {lo hi : Nat} {w : World} {v : Value} {xs : List Int} (h : W1 lo hi w v xs) : T1 lo hi w v xs := Sw.wider (Nat.le_refl _) (Nat.le_refl _) (fun _ _ x h => ⟨x, h⟩) h
theorem W2.t2 {lo hi : Nat} {w : World} {v : Value} {xs : List (List Int)} (h : W2 lo hi w v xs) : T2 lo hi w v xs := Sw.wider (Nat.le_refl _) (Nat.le_refl _) (fun _ _ _ h => h.t1) h
theorem W3.t3 {lo hi : Nat} {w : World} {v : Value} {xs : List (List (List Int))} (h : W3 lo hi w v xs) : T3 lo hi w v xs := Sw.wider (Nat.le_refl _) (Nat.le_refl _) (fun _ _ _ h => h.t2) h
structure CxT (lo hi : Nat) (w : World) (dv mv : Value) (ds : List Int) (ms : List (List (List Int))) : Prop where
  dims : T1 lo hi w dv ds
  maps : T3 lo hi w mv ms
theorem CxW.t {lo hi : Nat} {w : World} {dv mv : Value} {ds : List Int} {ms : List (List (List Int))} (h : CxW lo hi w dv mv ds ms) : CxT lo hi w dv mv ds ms := ⟨h.dims.t1, h.maps.t3⟩

end Go.Proofs.YtpchbceohnabnabDoor

namespace Go.Proofs.YtpchbceohnabnabDoor
open Go.RowKit

/-- A table that a call has made: its own row of rows at block g, row j at block g + 1 + j, number i of it Z j i. -/
structure Mat (w w' : World) (r c : Nat) (Z : Nat → Nat → Int) : Prop where
  below : Below w.heap.size w w'
  size : w'.heap.size = w.heap.size + 1 + r
  top : w'.rowIs w.heap.size 22 r (fun j => .slice (some ⟨w.heap.size + 1 + j, 0, none⟩) c c)
  rows : ∀ j, j < r → w'.rowIs (w.heap.size + 1 + j) 2 c (fun i => .int .i64 (Z j i))
def tableOf (r c : Nat) (Z : Nat → Nat → Int) : List (List Int) := (List.range r).map fun j => (List.range c).map fun i => Z j i
theorem Mat.w2 {w w' : World} {r c : Nat} {Z : Nat → Nat → Int} (h : Mat w w' r c Z) : W2 w.heap.size w'.heap.size w' (.slice (some ⟨w.heap.size, 0, none⟩) r r) (tableOf r c Z) := by
  by_cases h0 : r = 0
  · subst h0
    exact Or.inl ⟨rfl, _, _, rfl⟩
  · refine Or.inr ⟨w.heap.size, 0, r, by simp [tableOf], Nat.le_refl _, h.top.lt, by simp [tableOf]; omega, fun k hk => ?_, fun k _ => h.top.frozen _⟩
    have hk' : k < r := by simpa [tableOf] using hk
    refine ⟨_, by rw [Nat.zero_add]; exact h.top.cell hk', ?_⟩
    simp only [tableOf, List.getElem_map, List.getElem_range]
    by_cases hc : c = 0
    · subst hc
      exact Or.inl ⟨rfl, _, _, rfl⟩
    · refine Or.inr ⟨w.heap.size + 1 + k, 0, c, by simp, by omega, (h.rows k hk').lt, by simp; omega, fun i hi => ?_, fun i _ => (h.rows k hk').frozen _⟩
      have hi' : i < c := by simpa using hi
      refine ⟨_, by rw [Nat.zero_add]; exact (h.rows k hk').cell hi', ?_⟩
      simp only [IsI, List.getElem_map, List.getElem_range]
theorem Mat.set {w w' : World} {r c : Nat} {Z : Nat → Nat → Int} (h : Mat w w' r c Z) {j i : Nat} (hj : j < r) (x : Int) :
    Mat w (w'.setCell ⟨w.heap.size + 1 + j, i, none⟩ (.int .i64 x)) r c (fun j2 i2 => if j2 = j ∧ i2 = i then x else Z j2 i2) := by
  refine ⟨h.below.setCell (by show w.heap.size ≤ w.heap.size + 1 + j; omega) _, by simp [h.size], h.top.setOther (by show w.heap.size ≠ w.heap.size + 1 + j; omega) _, fun j2 hj2 => ?_⟩
  by_cases e : j2 = j
  · subst e
    exact ((h.rows j2 hj2).set i _).congr (fun i2 _ => by by_cases e2 : i2 = i <;> simp [e2])
  · exact ((h.rows j2 hj2).setOther (by show w.heap.size + 1 + j2 ≠ w.heap.size + 1 + j; omega) _).congr (fun i2 _ => by simp [e])
theorem Mat.congr {w w' : World} {r c : Nat} {Z Z' : Nat → Nat → Int} (h : Mat w w' r c Z) (e : ∀ j, j < r → ∀ i, i < c → Z j i = Z' j i) : Mat w w' r c Z' :=
  ⟨h.below, h.size, h.top, fun j hj => (h.rows j hj).congr (fun i hi => by rw [e j hj i hi])⟩

/-- While the rows are being made: k of them are there. -/
structure MatTo (w w' : World) (r c k : Nat) : Prop where
  below : Below w.heap.size w w'
  size : w'.heap.size = w.heap.size + 1 + k
  top : w'.rowIs w.heap.size 22 r (fun j => if j < k then .slice (some ⟨w.heap.size + 1 + j, 0, none⟩) c c else .slice none 0 0)
  rows : ∀ j, j < k → w'.rowIs (w.heap.size + 1 + j) 2 c (fun _ => .int .i64 0)
theorem MatTo.start (w : World) (r c : Nat) : MatTo w (w.alloc (.cells (madeCells #[.slice none 0 0] r) 22)) r c 0 :=
  ⟨(Below.refl _ _).alloc (Nat.le_refl _) _, by simp, (World.rowIs_made w _ r _).congr (fun j _ => by simp), fun j hj => absurd hj (Nat.not_lt_zero _)⟩
theorem MatTo.step {w w' : World} {r c k : Nat} (h : MatTo w w' r c k) : MatTo w ((w'.alloc (.cells (madeCells #[.int .i64 0] c) 2)).setCell ⟨w.heap.size, k, none⟩ (.slice (some ⟨w'.heap.size, 0, none⟩) c c)) r c (k + 1) := by
  have hnew := World.rowIs_made w' (.int .i64 0) c 2
  have hs := h.size
  refine ⟨(h.below.alloc (by omega) _).setCell (Nat.le_refl _) _, by simp [h.size]; omega, ((h.top.alloc _).set k _).congr (fun j _ => ?_), fun j hj => ?_⟩
  · by_cases e : j = k
    · subst e
      rw [if_pos rfl, if_pos (Nat.lt_succ_self _), hs]
    · rw [if_neg e]
      by_cases h2 : j < k
      · rw [if_pos h2, if_pos (by omega)]
      · rw [if_neg h2, if_neg (by omega)]
  · by_cases e : j = k
    · subst e
      rw [← hs]
      exact hnew.setOther (by show w'.heap.size ≠ w.heap.size; omega) _
    · exact ((h.rows j (by omega)).alloc _).setOther (by show w.heap.size + 1 + j ≠ w.heap.size; omega) _
theorem MatTo.done {w w' : World} {r c : Nat} (h : MatTo w w' r c r) : Mat w w' r c (fun _ _ => 0) :=
  ⟨h.below, h.size, h.top.congr (fun j hj => by rw [if_pos hj]), h.rows⟩

def MatR (r c : Nat) (Z : Nat → Nat → Int) (w : World) (e : Ending) (w' : World) : Prop := e = .returned (.slice (some ⟨w.heap.size, 0, none⟩) r r) ∧ Mat w w' r c Z

set_option maxHeartbeats 800000 in
theorem zeroTable_any (r c : Nat) (w : World) (hr : r ≤ 1048576) (hc : c ≤ 1048576) : Calls Tryd.prog 110 #[.int .i64 r, .int .i64 c] w (MatR r c (fun _ _ => 0) w) := by
  have hmk := run_make_row' (P := Tryd.prog) 48 22 (.slice none 0 0) 24 Tryd.underlying48 Tryd.infoS rfl .i64 .i64 r (by omega) (by omega)
  have hmk2 := run_make_row' (P := Tryd.prog) 22 2 (.int .i64 0) 8 Tryd.underlying22 Tryd.infoI rfl .i64 .i64 c (by omega) (by omega)
  go_enter Tryd.func110, Tryd.ntmps110
  go_wp2
  clear hmk
  go_loopw [6, 11] (fun _ i wr => ∃ (k : Nat), k ≤ r ∧ i = .int .i64 k ∧ MatTo w wr r c k) (fun _ i _ => r - (intOf i).toNat)
  case atStart => exact ⟨0, Nat.zero_le _, rfl, MatTo.start _ _ _⟩
  case round =>
    obtain ⟨k, hk, rfl, HM⟩ := hrel
    by_cases hlt : k < r
    · have hc1 : ∀ o, (wr.alloc o).cell? ⟨w.heap.size, k, none⟩ = some (if k < k then .slice (some ⟨w.heap.size + 1 + k, 0, none⟩) c c else .slice none 0 0) := fun o => (HM.top.alloc o).cell hlt
      have hc2 : ∀ o, (wr.alloc o).cell? ⟨w.heap.size, k, none⟩ = some (.slice none 0 0) := fun o => by rw [hc1 o, if_neg (Nat.lt_irrefl _)]
      have hf : ∀ o, (wr.alloc o).frozen? ⟨w.heap.size, k, none⟩ = false := fun o => (HM.top.alloc o).frozen k
      have HS := Lib.hid HM.step
      clear hc1 HM
      go_wp2
      go_roundw
      case rel => exact ⟨k + 1, by omega, by go_num, HS.out⟩
      case measure => simp [intOf]; omega
    · have hkk : k = r := by omega
      subst hkk
      have HM' := Lib.hid HM
      clear HM
      go_wp2
      go_ret
      exact ⟨rfl, HM'.out.done⟩
end Go.Proofs.YtpchbceohnabnabDoor

namespace Go.Proofs.YtpchbceohnabnabDoor
open Go.RowKit

end Go.Proofs.YtpchbceohnabnabDoor

namespace Go.Proofs.YtpchbceohnabnabDoor
open Go.RowKit

/-- A row of numbers, gathered: its cells lie in a block of numbers. -/
def G1 (w : World) (u : Value) (xs : List Int) : Prop := w.ownsRow 0 2 1 u xs.length (xs.map (Value.int .i64))
theorem G1.below {w w' : World} {u : Value} {xs : List Int} (h : G1 w u xs) (hb : Below w.heap.size w w') : G1 w' u xs := owns_below h hb
theorem G1.l1 {w : World} {u : Value} {xs : List Int} (h : G1 w u xs) : L1 0 w u xs := sl_of_owns h (Nat.le_refl _) rfl (fun k h1 h2 => by simp [IsI])
theorem owns_mono {w : World} {base base' : Nat} {e : TypeId} {size n : Nat} {v : Value} {xs : List Value} (h : w.ownsRow base e size v n xs) (hb : base' ≤ base) : w.ownsRow base' e size v n xs := by
  refine ⟨h.1, ?_⟩
  rcases h.2 with h2 | ⟨g, cap, cur, hu, hg, r⟩
  · exact Or.inl h2
  · exact Or.inr ⟨g, cap, cur, hu, Nat.le_trans hb hg, r⟩
/-- A row of another kind may grow beside it. -/
theorem owns_grown {w w' : World} {base base' : Nat} {e e' : TypeId} {size size' n n' : Nat} {u v : Value} {xs vs : List Value} (h : w.ownsRow base e size u n xs) (hv : w.ownsRow base' e' size' v n' vs) (he : e ≠ e') (hg : w.grownBy w' v.ownBlock) : w'.ownsRow base e size u n xs := by
  refine ⟨h.1, ?_⟩
  rcases h.2 with h2 | ⟨g, cap, cur, hu, hb, hh, r⟩
  · exact Or.inl h2
  · refine Or.inr ⟨g, cap, cur, hu, hb, ?_, r⟩
    rw [hg.block g (Array.getElem?_eq_some_iff.1 hh).1]
    · exact hh
    · intro e2
      rcases hv.2 with ⟨rfl, _⟩ | ⟨g2, cap2, cur2, rfl, _, hh2, _⟩
      · simp [Value.ownBlock] at e2
      · simp [Value.ownBlock] at e2
        subst e2
        rw [hh] at hh2
        simp at hh2
        exact he hh2.2
/-- A table gathered row by row. -/
def G2 (w : World) (u : Value) (t : List (List Int)) : Prop := ∃ vs, w.ownsRow 0 22 1 u t.length vs ∧ ∀ k (h1 : k < vs.length) (h2 : k < t.length), G1 w vs[k] t[k]
theorem G2.below {w w' : World} {u : Value} {t : List (List Int)} (h : G2 w u t) (hb : Below w.heap.size w w') : G2 w' u t := by
  obtain ⟨vs, ho, hr⟩ := h
  exact ⟨vs, owns_below ho hb, fun k h1 h2 => (hr k h1 h2).below hb⟩
theorem G2.l2 {w : World} {u : Value} {t : List (List Int)} (h : G2 w u t) : L2 0 w u t := by
  obtain ⟨vs, ho, hr⟩ := h
  exact sl_of_owns ho (Nat.le_refl _) rfl (fun k h1 h2 => (hr k h2 h1).l1)

end Go.Proofs.YtpchbceohnabnabDoor


namespace Go.Proofs.YtpchbceohnabnabDoor
open Go.RowKit

/-- The dimension of a degree, 0 beyond the top. -/
def dimZ (ds : List Int) (n : Int) : Int := if 0 ≤ n ∧ n ≤ (ds.length : Int) - 1 then ds.getD n.toNat 0 else 0

set_option maxHeartbeats 800000 in
theorem l01Dim_any (p n : Int) (dv mv : Value) (ds : List Int) (ms : List (List (List Int))) (w : World) (h : Cx 0 w dv mv ds ms) (hd : ds.length ≤ 1048576) :
    Calls Tryd.prog 58 #[.agg #[.int .i64 p, dv, mv], .int .i64 n] w (BR (.int .i64 (dimZ ds n)) w) := by
  have hx0 := Bx.start (p := p) 30 h
  have HX0 := Lib.hid hx0
  have H := Lib.hid h
  clear h hx0
  by_cases hr : 0 ≤ n ∧ n ≤ (ds.length : Int) - 1
  · have hdz : dimZ ds n = ds.getD n.toNat 0 := if_pos hr
    rw [hdz]
    clear hdz
    obtain ⟨q, rfl⟩ : ∃ q : Nat, n = (q : Int) := ⟨n.toNat, by omega⟩
    have hq : q < ds.length := by omega
    have HR := Lib.hid hr
    clear hr
    refine Sl.cases H.out.dims (fun _ _ hx _ => absurd hq (by simp [hx])) (fun bd od capd hv _ hposd hcld => ?_)
    obtain ⟨u, hu, hru⟩ := hcld q hq
    subst hv
    have hu2 := later HX0.out.below (Nat.le_refl _) hu
    obtain ⟨x, hx⟩ : ∃ x, x = ds[q] := ⟨_, rfl⟩
    rw [hru, ← hx] at hu2
    have HX : Hid (ds.getD (q : Int).toNat 0 = x) := Lib.hid (by rw [hx, Int.toNat_natCast, getD_of_lt _ hq])
    clear hx hu hru hcld
    go_enter Tryd.func58, Tryd.ntmps58
    go_wp2_with fail
    refine (spin_yes HR.out _).mono ?_
    rintro e w' ⟨rfl, rfl⟩
    go_wp2
    go_ret
    exact ⟨ret_int HX.out.symm, HX0.out.below⟩
  · have hdz : dimZ ds n = 0 := if_neg hr
    rw [hdz]
    clear hdz
    have HR := Lib.hid hr
    clear hr
    obtain ⟨ad, cap, rfl⟩ := Sl.shape H.out.dims
    go_enter Tryd.func58, Tryd.ntmps58
    go_wp2_with fail
    refine (spin_no HR.out _).mono ?_
    rintro e w' ⟨rfl, rfl⟩
    go_wp2
    go_ret
    exact ⟨rfl, HX0.out.below⟩

/-- The rows of the differential of a degree; for the degree 0, and beyond the top, rows without numbers. -/
def mapZ (ds : List Int) (ms : List (List (List Int))) (n : Int) : List (List Int) := if 1 ≤ n ∧ n ≤ (ds.length : Int) - 1 then ms.getD (n.toNat - 1) [] else List.replicate (dimZ ds n).toNat []
def L2R (xs : List (List Int)) (w : World) (e : Ending) (w' : World) : Prop := ∃ v, e = .returned v ∧ L2 0 w' v xs ∧ Below w.heap.size w w'

end Go.Proofs.YtpchbceohnabnabDoor

namespace Go.Proofs.YtpchbceohnabnabDoor
open Go.RowKit

end Go.Proofs.YtpchbceohnabnabDoor

namespace Go.Proofs.YtpchbceohnabnabDoor
open Go.RowKit

set_option maxHeartbeats 800000 in
theorem l01Map_in (p : Int) (q : Nat) (dv mv : Value) (ds : List Int) (ms : List (List (List Int))) (w : World) (h : Cx 0 w dv mv ds ms) (hd : ds.length ≤ 1048576) (hl : ms.length + 1 = ds.length) (hq : q < ms.length) :
    Calls Tryd.prog 88 #[.agg #[.int .i64 p, dv, mv], .int .i64 ((q : Int) + 1)] w (L2R (ms.getD q []) w) := by
  have HX0 := Lib.hid (Bx.start (p := p) 30 h)
  have H := Lib.hid h
  have HL := Lib.hid hl
  have hr : 1 ≤ (q : Int) + 1 ∧ (q : Int) + 1 ≤ (ds.length : Int) - 1 := by omega
  have HR := Lib.hid hr
  have hqb : q < 1048576 := by omega
  obtain ⟨ad, cap, rfl⟩ := Sl.shape h.dims
  refine Sl.cases H.out.maps (fun _ _ hx _ => absurd hq (by simp [hx])) (fun bm om capm hv _ hposm hclm => ?_)
  obtain ⟨u, hu, hru⟩ := hclm q hq
  subst hv
  have hu2 := later HX0.out.below (Nat.le_refl _) hu
  have HRU : Hid (L2 0 w u (ms.getD q [])) := Lib.hid (by rw [getD_of_lt _ hq]; exact hru)
  clear hu hru hclm hl hr h
  go_enter Tryd.func88, Tryd.ntmps88
  go_wp2_with fail
  refine (spin_yes HR.out _).mono ?_
  rintro e w' ⟨rfl, rfl⟩
  go_wp2
  go_ret
  exact ⟨_, rfl, HRU.out.below HX0.out.below, HX0.out.below⟩

set_option maxHeartbeats 1600000 in
theorem l01Map_out (p n : Int) (d : Nat) (dv mv : Value) (ds : List Int) (ms : List (List (List Int))) (w : World) (h : Cx 0 w dv mv ds ms) (hd : ds.length ≤ 1048576) (hr : ¬ (1 ≤ n ∧ n ≤ (ds.length : Int) - 1)) (hdz : dimZ ds n = (d : Int)) (hd8 : d ≤ 8) :
    Calls Tryd.prog 88 #[.agg #[.int .i64 p, dv, mv], .int .i64 n] w (L2R (List.replicate d []) w) := by
  have HX0 := Lib.hid (Bx.start (p := p) 30 h)
  have HR := Lib.hid hr
  have HDZ := Lib.hid hdz
  obtain ⟨ad, cap, rfl⟩ := Sl.shape h.dims
  obtain ⟨i0, hi, hz0, hz1, hz2⟩ := info_parts Tryd.infoS
  clear h hr hdz
  go_enter Tryd.func88, Tryd.ntmps88
  go_wp2_with fail
  refine (spin_no HR.out _).mono ?_
  rintro e w' ⟨rfl, rfl⟩
  go_wp2
  have hown0 := World.ownsRow_made (base := w.heap.size + 1) (e := 22) (size := 1) (w.alloc (.cells #[.int .i64 p, .slice ad ds.length cap, mv] 30)) #[] 0 (by simp) (by unfold maxLen; omega) (by simp)
  have hb1 : Below (w.heap.size + 1) (w.alloc (.cells #[.int .i64 p, .slice ad ds.length cap, mv] 30)) ((w.alloc (.cells #[.int .i64 p, .slice ad ds.length cap, mv] 30)).alloc (.cells #[] 22)) := (Below.refl _ _).alloc (by simp) _
  have HB1 := Lib.hid hb1
  have HOWN0 := Lib.hid hown0
  have HNX : Hid (∀ W, Below (w.heap.size + 1) (w.alloc (.cells #[.int .i64 p, .slice ad ds.length cap, mv] 30)) W → Bx w W w.heap.size p (.slice ad ds.length cap) mv ds ms) := Lib.hid (fun W hb => HX0.out.next (by simpa using hb))
  clear hb1 hown0
  go_loopw [5, 6] (fun o i wr => ∃ (k : Nat) (vs : List Value), k ≤ d ∧ i = .int .i64 k ∧ Hid (Below (w.heap.size + 1) (w.alloc (.cells #[.int .i64 p, .slice ad ds.length cap, mv] 30)) wr) ∧ Hid (wr.ownsRow (w.heap.size + 1) 22 1 o k vs) ∧ Hid (∀ u ∈ vs, ∃ a c, u = .slice a 0 c)) (fun _ i _ => d - (intOf i).toNat)
  case atStart => exact ⟨0, [], Nat.zero_le _, rfl, HB1, Lib.hid (by simpa using HOWN0.out), Lib.hid (by simp)⟩
  case round =>
    obtain ⟨k, vs, hk, rfl, HBE, HO, HV⟩ := hrel
    have HX := Lib.hid (HNX.out _ HBE.out)
    have c0 := HX.out.c0
    have c1 := HX.out.c1
    have c2 := HX.out.c2
    go_wp2_with fail
    have hdim := l01Dim_any p n _ mv ds ms _ HX.out.cx hd
    rw [HDZ.out] at hdim
    refine hdim.mono ?_
    clear hdim
    rintro e w2 ⟨rfl, hb2⟩
    have hsz : w.heap.size + 1 ≤ wr.heap.size := by have := HBE.out.size; simpa using this
    have HB2 := Lib.hid (HBE.out.trans (hb2.mono hsz))
    have HO2 := Lib.hid (owns_below HO.out hb2)
    have hsz2 : w.heap.size + 1 ≤ w2.heap.size := by have := hb2.size; omega
    clear hb2 c0 c1 c2
    by_cases hlt : k < d
    · go_wp2_with (at_builtin; refine wpList_append_own _ rfl (.tmp 27) (.tmp 29) 48 rfl (w.heap.size + 1) 22 i0 (.slice none 0 0) 1 24 Tryd.underlying48 hi hz0 hz1 hz2 rfl (by decide) _ _ _ rfl ((HO2.out.alloc _).alloc _) ⟨w2.heap.size + 1, 0, none⟩ 1 1 [.slice (some ⟨w2.heap.size, 0, none⟩) 0 0] rfl rfl ?c1 ?c2 ?c3 ?c4 ?c5 ?_)
      case c1 =>
        intro j u hj
        match j, hj with
        | 0, hj => simp at hj; subst hj; simp [Addr.add]
      case c2 => intro u hu; simp at hu; subst hu; rfl
      case c3 => unfold maxLen; omega
      case c4 => omega
      case c5 => simp; omega
      intro v' w3 hown' hgrow _
      have HB3 : Hid (Below (w.heap.size + 1) (w.alloc (.cells #[.int .i64 p, .slice ad ds.length cap, mv] 30)) w3) := Lib.hid (((HB2.out.alloc hsz2 _).alloc (by simp; omega) _).grown hgrow (by simp; omega) (fun g hg => ((HO2.out.lt) g hg).1))
      have HO3 := Lib.hid hown'
      clear hown' hgrow
      go_wp2
      go_roundw
      case rel => exact ⟨k + 1, _, by omega, by go_num, HB3, HO3, Lib.hid (fun u hu => by
        rcases List.mem_append.1 hu with h1 | h1
        · exact HV.out u h1
        · simp at h1
          exact ⟨_, _, h1⟩)⟩
      case measure => simp [intOf]; omega
    · have hkk : Hid (k = d) := Lib.hid (by omega)
      go_wp2
      go_ret
      refine ⟨_, rfl, sl_of_owns HO2.out (Nat.zero_le _) (by simp [hkk.out]) (fun j h1 h2 => ?_), (HNX.out _ HB2.out).below⟩
      obtain ⟨a, c, hu⟩ := HV.out _ (List.getElem_mem h2)
      exact Or.inl ⟨by simp, a, c, hu⟩

/-- What l01Map answers of a complex, for every degree. -/
theorem l01Map_any (p n : Int) (dv mv : Value) (ds : List Int) (ms : List (List (List Int))) (w : World) (h : Cx 0 w dv mv ds ms) (hcx : IsCx p ds ms) :
    Calls Tryd.prog 88 #[.agg #[.int .i64 p, dv, mv], .int .i64 n] w (L2R (mapZ ds ms n) w) := by
  have hl6 := hcx.1.len1
  by_cases hr : 1 ≤ n ∧ n ≤ (ds.length : Int) - 1
  · rw [mapZ, if_pos hr]
    obtain ⟨q, rfl⟩ : ∃ q : Nat, n = (q : Int) + 1 := ⟨(n - 1).toNat, by omega⟩
    have e : ((q : Int) + 1).toNat - 1 = q := by omega
    rw [e]
    exact l01Map_in p q dv mv ds ms w h (by omega) hcx.1.mlen (by have := hcx.1.mlen; omega)
  · rw [mapZ, if_neg hr]
    have hd : 0 ≤ dimZ ds n ∧ dimZ ds n ≤ 8 := by
      unfold dimZ
      split
      · exact hcx.1.dim _
      · omega
    obtain ⟨d, hdd⟩ := Int.eq_ofNat_of_zero_le hd.1
    have e : (dimZ ds n).toNat = d := by omega
    rw [e]
    exact l01Map_out p n d dv mv ds ms w h (by omega) hr hdd (by omega)
end Go.Proofs.YtpchbceohnabnabDoor

