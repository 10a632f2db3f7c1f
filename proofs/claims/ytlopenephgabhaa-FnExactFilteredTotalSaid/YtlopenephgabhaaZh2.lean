/-
  Texts that ProofFtl needs, part 2.
-/
import Derived.Test.YtlopenephgabhaaZh1
import Derived.WalkKit
import Derived.Lib.Hide
import Derived.Deep.OwnRows
import Derived.Deep.Draws
import Derived.Test.YtlopenephgabhaaChecked
import Derived.Outline
import Derived.Deep.QuietTactic
import Derived.BigQuiet
import Derived.BigRegion
import Derived.WalkLawsBesides
import Derived.Laws.CopyOwn
import Derived.OrdersHeld
import Derived.Deep.MidRow
import Derived.Deep.RegionHeld3
import Derived.StillTailTactics
import Derived.Deep.Cut
import Derived.Deep.CutRange
import Derived.Test.YtlopenephgabhaaRows
import Derived.ProofKit
import Derived.OpenShut
import Derived.ChangeOld
import Derived.Deep.Slices
import Derived.Lib.SmallJoins
import Derived.KernelRfl
import Derived.Deep.Strs
import Derived.Great.Walk
import Derived.WideKeyArr
import Derived.Maps.OwnOps
import Derived.Maps.OwnSet
import Derived.Carry
import Derived.Great.BuildSlice
import Derived.Laws.CopyRow
import Derived.Lib.Overlaps
import Derived.Lib.AppendZerosOnto
import Derived.Lib.JoinLaws
import Derived.Deep.RegionLaw
import Derived.Deep.LoopGhost
import Derived.WalkMore
import Derived.OwnWalk
namespace Go.Proofs.Ytlopenephgabhaa
open Go.RowKit

theorem cell_lt {w : World} {b o : Nat} {u : Value} (h : w.cell? ⟨b, o, none⟩ = some u) : b < w.heap.size := World.block_lt_of_cell? _ _ h

/-- Cells of blocks from lo on (that were there) read as they did. -/
def Keep (lo : Nat) (w w' : World) : Prop := w.heap.size ≤ w'.heap.size ∧ ∀ b o, lo ≤ b → b < w.heap.size → w'.cell? ⟨b, o, none⟩ = w.cell? ⟨b, o, none⟩

theorem Keep.of_below {lo : Nat} {w w' : World} (h : Below w.heap.size w w') : Keep lo w w' := ⟨h.size, fun _ _ _ hb => h.cell (p := ⟨_, _, none⟩) hb⟩
theorem Keep.trans {lo : Nat} {a b c : World} (h : Keep lo a b) (k : Keep lo b c) : Keep lo a c :=
  ⟨Nat.le_trans h.1 k.1, fun i o hl hi => (k.2 i o hl (Nat.lt_of_lt_of_le hi h.1)).trans (h.2 i o hl hi)⟩
theorem Keep.set {lo g o : Nat} {w : World} (u : Value) (h : g < lo) : Keep lo w (w.setCell ⟨g, o, none⟩ u) :=
  ⟨by simp [World.setCell], fun b i hl _ => World.cell?_of_block (w := w) (a := ⟨b, i, none⟩) (Below.heap_setCell w ⟨g, o, none⟩ u b (by show b ≠ g; omega))⟩
/-- The slice value v reads, cell by cell, as the list xs (R: how one cell reads); its cells lie in blocks from lo on. -/
def Sl {α : Type} (lo : Nat) (R : World → Value → α → Prop) (w : World) (v : Value) (xs : List α) : Prop :=
  (xs = [] ∧ ∃ ad cap, v = .slice ad 0 cap) ∨
  ∃ b o cap, v = .slice (some ⟨b, o, none⟩) xs.length cap ∧ lo ≤ b ∧ 0 < xs.length ∧ ∀ k (h : k < xs.length), ∃ u, w.cell? ⟨b, o + k, none⟩ = some u ∧ R w u xs[k]

def IsI (_ : World) (v : Value) (x : Int) : Prop := v = .int .i64 x
def L1 (lo : Nat) := Sl lo IsI
def L2 (lo : Nat) := Sl lo (L1 lo)
def L3 (lo : Nat) := Sl lo (L2 lo)

def Stable {α : Type} (lo : Nat) (R : World → Value → α → Prop) : Prop := ∀ w w' v x, Keep lo w w' → R w v x → R w' v x
theorem stableI (lo : Nat) : Stable lo IsI := fun _ _ _ _ _ h => h
theorem Stable.sl {α : Type} {lo : Nat} {R : World → Value → α → Prop} (hR : Stable lo R) : Stable lo (Sl lo R) := by
  intro w w' v xs hk h
  rcases h with h | ⟨b, o, cap, hv, hlo, hpos, hc⟩
  · exact Or.inl h
  · refine Or.inr ⟨b, o, cap, hv, hlo, hpos, fun k hk' => ?_⟩
    obtain ⟨u, hu, hr⟩ := hc k hk'
    exact ⟨u, (hk.2 b (o + k) hlo (cell_lt hu)).trans hu, hR _ _ _ _ hk hr⟩
theorem stable1 (lo : Nat) : Stable lo (L1 lo) := (stableI lo).sl
theorem stable2 (lo : Nat) : Stable lo (L2 lo) := (stable1 lo).sl
theorem stable3 (lo : Nat) : Stable lo (L3 lo) := (stable2 lo).sl

theorem Sl.lower {α : Type} {lo lo' : Nat} {R R' : World → Value → α → Prop} (hl : lo' ≤ lo) (hR : ∀ w v x, R w v x → R' w v x) {w : World} {v : Value} {xs : List α} (h : Sl lo R w v xs) : Sl lo' R' w v xs := by
  rcases h with h | ⟨b, o, cap, hv, hlo, hpos, hc⟩
  · exact Or.inl h
  · refine Or.inr ⟨b, o, cap, hv, Nat.le_trans hl hlo, hpos, fun k hk' => ?_⟩
    obtain ⟨u, hu, hr⟩ := hc k hk'
    exact ⟨u, hu, hR _ _ _ hr⟩
theorem L1.lower {lo lo' : Nat} (hl : lo' ≤ lo) {w : World} {v : Value} {xs : List Int} (h : L1 lo w v xs) : L1 lo' w v xs := Sl.lower hl (fun _ _ _ h => h) h
theorem L2.lower {lo lo' : Nat} (hl : lo' ≤ lo) {w : World} {v : Value} {xs : List (List Int)} (h : L2 lo w v xs) : L2 lo' w v xs := Sl.lower hl (fun _ _ _ h => L1.lower hl h) h
theorem L3.lower {lo lo' : Nat} (hl : lo' ≤ lo) {w : World} {v : Value} {xs : List (List (List Int))} (h : L3 lo w v xs) : L3 lo' w v xs := Sl.lower hl (fun _ _ _ h => L2.lower hl h) h

theorem L1.below {lo : Nat} {w w' : World} {v : Value} {xs : List Int} (h : L1 lo w v xs) (hb : Below w.heap.size w w') : L1 lo w' v xs := stable1 lo _ _ _ _ (Keep.of_below hb) h
theorem L2.below {lo : Nat} {w w' : World} {v : Value} {xs : List (List Int)} (h : L2 lo w v xs) (hb : Below w.heap.size w w') : L2 lo w' v xs := stable2 lo _ _ _ _ (Keep.of_below hb) h
theorem L3.below {lo : Nat} {w w' : World} {v : Value} {xs : List (List (List Int))} (h : L3 lo w v xs) (hb : Below w.heap.size w w') : L3 lo w' v xs := stable3 lo _ _ _ _ (Keep.of_below hb) h

/-- The two shapes of a slice value. -/
theorem Sl.cases {α : Type} {lo : Nat} {R : World → Value → α → Prop} {w : World} {v : Value} {xs : List α} (h : Sl lo R w v xs) {P : Prop}
    (h0 : ∀ ad cap, xs = [] → v = .slice ad 0 cap → P)
    (h1 : ∀ b o cap, v = .slice (some ⟨b, o, none⟩) xs.length cap → lo ≤ b → 0 < xs.length → (∀ k (h : k < xs.length), ∃ u, w.cell? ⟨b, o + k, none⟩ = some u ∧ R w u xs[k]) → P) : P := by
  rcases h with ⟨h, ad, cap, hv⟩ | ⟨b, o, cap, hv, hlo, hpos, hc⟩
  · exact h0 ad cap h hv
  · exact h1 b o cap hv hlo hpos hc

/-- A slice that a call is filling: its own block g (the first that it made), n cells, the first k filled. -/
structure Fill {α : Type} (w wr : World) (t : TypeId) (n k : Nat) (z : Value) (R : World → Value → α → Prop) (xs : List α) (f : Nat → Value) : Prop where
  below : Below w.heap.size w wr
  row : wr.rowIs w.heap.size t n f
  done : ∀ j (h : j < xs.length), j < k → R wr (f j) (xs[j]'h)
  rest : ∀ j, k ≤ j → j < n → f j = z

theorem Fill.start {α : Type} (w : World) (t : TypeId) (n : Nat) (z : Value) (R : World → Value → α → Prop) (xs : List α) : Fill w (w.alloc (.cells (madeCells #[z] n) t)) t n 0 z R xs (fun _ => z) :=
  ⟨(Below.refl _ _).alloc (Nat.le_refl _) _, World.rowIs_made w z n t, fun _ _ h => absurd h (Nat.not_lt_zero _), fun _ _ _ => rfl⟩

/-- One cell more: behind a call that left w1 (all that was there is as it was), the store of u. -/
theorem Fill.step {α : Type} {w wr w1 : World} {t : TypeId} {n k : Nat} {z u : Value} {R : World → Value → α → Prop} {xs : List α} {f : Nat → Value} (hR : Stable (w.heap.size + 1) R) (h : Fill w wr t n k z R xs f)
    (hb : Below wr.heap.size wr w1) (hk : k < xs.length) (hu : R w1 u xs[k]) :
    Fill w (w1.setCell ⟨w.heap.size, k, none⟩ u) t n (k + 1) z R xs (fun j => if j = k then u else f j) := by
  have hlt := h.row.lt
  have hrow1 : w1.rowIs w.heap.size t n f := h.row.of_block (hb.block _ hlt)
  refine ⟨(h.below.trans (hb.mono (Nat.le_of_lt (by exact Nat.lt_of_le_of_lt (Nat.le_refl _) hlt)))).setCell (Nat.le_refl _) _, hrow1.set k u, fun j hj hjk => ?_, fun j h1 h2 => ?_⟩
  · by_cases e : j = k
    · subst e
      simp only [if_true]
      exact hR _ _ _ _ (Keep.set u (Nat.lt_succ_self _)) hu
    · rw [if_neg e]
      exact hR _ _ _ _ ((Keep.of_below hb).trans (Keep.set u (Nat.lt_succ_self _))) (h.done j hj (by omega))
  · rw [if_neg (by omega)]
    exact h.rest j (by omega) h2

/-- The filled slice reads as the list. -/
theorem Fill.sl {α : Type} {lo : Nat} {w wr : World} {t : TypeId} {z : Value} {R : World → Value → α → Prop} {xs : List α} {f : Nat → Value} (hlo : lo ≤ w.heap.size) (h : Fill w wr t xs.length xs.length z R xs f) :
    Sl lo R wr (.slice (some ⟨w.heap.size, 0, none⟩) xs.length xs.length) xs := by
  by_cases h0 : xs.length = 0
  · exact Or.inl ⟨List.eq_nil_of_length_eq_zero h0, _, _, by rw [h0]⟩
  · exact Or.inr ⟨w.heap.size, 0, xs.length, rfl, hlo, by omega, fun k hk => ⟨f k, by rw [Nat.zero_add]; exact h.row.cell hk, h.done k hk hk⟩⟩

/-- What is below B, said cell by cell, in the walk's own words. -/
theorem bcell {W w1 : World} (hb : Below W.heap.size W w1) : (∀ b o, b < W.heap.size → w1.cell? ⟨b, o, none⟩ = W.cell? ⟨b, o, none⟩) ∧ (∀ b o, b < W.heap.size → w1.frozen? ⟨b, o, none⟩ = W.frozen? ⟨b, o, none⟩) :=
  ⟨fun b o h => hb.cell (p := ⟨b, o, none⟩) h, fun b o h => hb.frozen (p := ⟨b, o, none⟩) h⟩

theorem drewN_below (w : World) (n : Nat) : Below w.heap.size w (w.drewN n) := ⟨rfl, rfl, rfl, Nat.le_refl _, fun _ _ => rfl⟩
theorem ret_int {k : IntKind} {a b : Int} (h : a = b) : Ending.returned (.int k a) = .returned (.int k b) := by rw [h]
theorem ret_bool {a b : Bool} (h : a = b) : Ending.returned (.bool a) = .returned (.bool b) := by rw [h]

/-- Every number of the list is at most n long, at every depth. -/
def Bd1 (n : Nat) (xs : List Int) : Prop := xs.length ≤ n
def Bd2 (n : Nat) (xs : List (List Int)) : Prop := xs.length ≤ n ∧ ∀ x ∈ xs, Bd1 n x
def Bd3 (n : Nat) (xs : List (List (List Int))) : Prop := xs.length ≤ n ∧ ∀ x ∈ xs, Bd2 n x

def SzB (left : Int) (ok : Prop) (w : World) (e : Ending) (w' : World) : Prop := ∃ r : Int, e = .returned (.int .i64 r) ∧ Below w.heap.size w w' ∧ (r = -1 ∨ 0 ≤ r ∧ r ≤ left ∧ ok)

theorem Sl.shape {α : Type} {lo : Nat} {R : World → Value → α → Prop} {w : World} {v : Value} {xs : List α} (h : Sl lo R w v xs) : ∃ ad cap, v = .slice ad xs.length cap :=
  h.cases (fun ad cap hx hv => ⟨ad, cap, by subst hx; exact hv⟩) (fun b o cap hv _ _ _ => ⟨some ⟨b, o, none⟩, cap, hv⟩)
theorem owns_below {w w' : World} {base : Nat} {e : TypeId} {size n : Nat} {v : Value} {xs : List Value} (h : w.ownsRow base e size v n xs) (hb : Below w.heap.size w w') : w'.ownsRow base e size v n xs := by
  refine ⟨h.1, ?_⟩
  rcases h.2 with h2 | ⟨g, cap, cur, hv, hg, hh, r⟩
  · exact Or.inl h2
  · exact Or.inr ⟨g, cap, cur, hv, hg, by rw [hb.block g (Array.getElem?_eq_some_iff.1 hh).1]; exact hh, r⟩
/-- An owned slice of values reads as the list that its values read as. -/
theorem sl_of_owns {α : Type} {w : World} {base lo : Nat} {e : TypeId} {n : Nat} {v : Value} {vs : List Value} {R : World → Value → α → Prop} {xs : List α} (h : w.ownsRow base e 1 v n vs) (hlo : lo ≤ base) (hl : xs.length = n)
    (hR : ∀ k (h1 : k < xs.length) (h2 : k < vs.length), R w vs[k] xs[k]) : Sl lo R w v xs := by
  have hvl : vs.length = n := by have := h.1; omega
  rcases h.2 with ⟨rfl, h0⟩ | ⟨g, cap, cur, rfl, hg, hh, hnc, _, hcs, htk⟩
  · exact Or.inl ⟨List.eq_nil_of_length_eq_zero (by omega), _, _, rfl⟩
  · by_cases h0 : n = 0
    · subst h0
      exact Or.inl ⟨List.eq_nil_of_length_eq_zero hl, _, _, rfl⟩
    · refine Or.inr ⟨g, 0, cap, by rw [hl], by omega, by omega, fun k hk => ⟨vs[k]'(by omega), ?_, hR k hk (by omega)⟩⟩
      rw [Nat.zero_add, h.cellAt k (by omega)]
      simp
end Go.Proofs.Ytlopenephgabhaa

namespace Go.Proofs.Ytlopenephgabhaa
open Go.RowKit

theorem Try.infoI : (Try.prog.info? 2).map (fun i => (i.zero, i.size, i.bytes)) = some (some (.int .i64 0), 1, 8) := by kernel_rfl
theorem Try.infoS : (Try.prog.info? 35).map (fun i => (i.zero, i.size, i.bytes)) = some (some (.slice none 0 0), 1, 24) := by kernel_rfl
theorem Try.infoSS : (Try.prog.info? 22).map (fun i => (i.zero, i.size, i.bytes)) = some (some (.slice none 0 0), 1, 24) := by kernel_rfl

/-- A copy: a new slice in memory of its own that reads as the list. -/
def ToR {α : Type} (R : Nat → World → Value → α → Prop) (x : α) (w : World) (e : Ending) (w' : World) : Prop := ∃ v, e = .returned v ∧ R w.heap.size w' v x ∧ Below w.heap.size w w'

set_option maxHeartbeats 400000 in
theorem to1_any (v : Value) (xs : List Int) (w : World) (h : L1 0 w v xs) (hm : xs.length ≤ 1048576) :
    Calls Try.prog 77 #[v] w (ToR L1 xs w) := by
  have hmk := run_make_row' (P := Try.prog) 35 2 (.int .i64 0) 8 Try.underlying35 Try.infoI rfl .i64 .i64 xs.length (by omega) (by omega)
  refine Sl.cases h (fun ad cap hx hv => ?_) (fun b o cap hv _ hpos hc => ?_)
  · subst hx hv
    have hmk0 : ∀ w, (Instr.makeSlice 35 (.int .i64 0) (.int .i64 0)).run Try.prog w = .ok (.slice (some ⟨w.heap.size, 0, none⟩) 0 0) (w.alloc (.cells #[] 2)) := fun _ => by kernel_rfl
    clear hmk
    go_enter Try.func77, Try.ntmps77
    go_wp2
    refine wp_loop_rounds 1 ?_
    rw [rounds_succ]
    go_wp2
    go_ret
    exact ⟨_, rfl, Or.inl ⟨rfl, _, _, rfl⟩, (Below.refl _ _).alloc (Nat.le_refl _) _⟩
  · subst hv
    clear h
    have HC := Lib.hid hc
    clear hc
    go_enter Try.func77, Try.ntmps77
    go_wp2
    clear hmk
    go_loopw [4] (fun i wr => ∃ (k : Nat) (f : Nat → Value), k ≤ xs.length ∧ i = .int .i64 k ∧ Fill w wr 2 xs.length k (.int .i64 0) IsI xs f) (fun i _ => xs.length - (intOf i).toNat)
    case atStart => exact ⟨0, _, Nat.zero_le _, rfl, Fill.start _ _ _ _ _ _⟩
    case round =>
      obtain ⟨k, f, hk, rfl, HF⟩ := hrel
      by_cases hlt2 : k < xs.length
      · obtain ⟨u, hu, hr⟩ := HC.out k hlt2
        have hu' : wr.cell? ⟨b, o + k, none⟩ = some (.int .i64 xs[k]) := by
          rw [HF.below.cell (p := ⟨b, o + k, none⟩) (cell_lt hu), hu, hr]
        have hc1 := HF.row.cell hlt2
        have hc2 := HF.row.frozen k
        have HS := HF.step (w1 := wr) (u := .int .i64 xs[k]) (stableI _) (Below.refl _ _) hlt2 rfl
        have HF' := Lib.hid HF
        have HS' := Lib.hid HS
        clear HF HS hu hr
        go_wp2
        go_roundw
        case rel => exact ⟨k + 1, _, by omega, by go_num, HS'.out⟩
        case measure => simp [intOf]; omega
      · obtain rfl : k = xs.length := by omega
        have HF' := Lib.hid HF
        clear HF
        go_wp2
        go_ret
        exact ⟨_, rfl, HF'.out.sl (Nat.le_refl _), HF'.out.below⟩

set_option maxHeartbeats 400000 in
theorem to2_any (v : Value) (xs : List (List Int)) (w : World) (h : L2 0 w v xs) (hm : Bd2 1048576 xs) :
    Calls Try.prog 43 #[v] w (ToR L2 xs w) := by
  have hml : xs.length ≤ 1048576 := hm.1
  have HM := Lib.hid hm
  clear hm
  have hmk := run_make_row' (P := Try.prog) 22 35 (.slice none 0 0) 24 Try.underlying22 Try.infoS rfl .i64 .i64 xs.length (by omega) (by omega)
  refine Sl.cases h (fun ad cap hx hv => ?_) (fun b o cap hv _ hpos hc => ?_)
  · subst hx hv
    have hmk0 : ∀ w, (Instr.makeSlice 22 (.int .i64 0) (.int .i64 0)).run Try.prog w = .ok (.slice (some ⟨w.heap.size, 0, none⟩) 0 0) (w.alloc (.cells #[] 35)) := fun _ => by kernel_rfl
    clear hmk
    go_enter Try.func43, Try.ntmps43
    go_wp2
    refine wp_loop_rounds 1 ?_
    rw [rounds_succ]
    go_wp2
    go_ret
    exact ⟨_, rfl, Or.inl ⟨rfl, _, _, rfl⟩, (Below.refl _ _).alloc (Nat.le_refl _) _⟩
  · subst hv
    clear h
    have HC := Lib.hid hc
    clear hc
    go_enter Try.func43, Try.ntmps43
    go_wp2
    clear hmk
    go_loopw [4] (fun i wr => ∃ (k : Nat) (f : Nat → Value), k ≤ xs.length ∧ i = .int .i64 k ∧ Fill w wr 35 xs.length k (.slice none 0 0) (L1 (w.heap.size + 1)) xs f) (fun i _ => xs.length - (intOf i).toNat)
    case atStart => exact ⟨0, _, Nat.zero_le _, rfl, Fill.start _ _ _ _ _ _⟩
    case round =>
      obtain ⟨k, f, hk, rfl, HF⟩ := hrel
      by_cases hlt2 : k < xs.length
      · obtain ⟨u, hu, hr⟩ := HC.out k hlt2
        have hu' : wr.cell? ⟨b, o + k, none⟩ = some u := by
          rw [HF.below.cell (p := ⟨b, o + k, none⟩) (cell_lt hu), hu]
        have hr' : L1 0 wr u xs[k] := hr.below HF.below
        have hmx : (xs[k]).length ≤ 1048576 := HM.out.2 _ (List.getElem_mem hlt2)
        have HF' := Lib.hid HF
        have HR' := Lib.hid hr'
        clear HF hu hr hr'
        go_wp2_with fail
        refine (to1_any u xs[k] _ HR'.out hmx).mono ?_
        rintro e w1 ⟨u1, rfl, hr1, hb1⟩
        obtain ⟨ad1, cap1, rfl⟩ := Sl.shape hr1
        have hlr := HF'.out.row.lt
        have hc1 : w1.cell? ⟨w.heap.size, k, none⟩ = some (f k) := (hb1.cell (p := ⟨w.heap.size, k, none⟩) hlr).trans (HF'.out.row.cell hlt2)
        have hc2 : w1.frozen? ⟨w.heap.size, k, none⟩ = false := (hb1.frozen (p := ⟨w.heap.size, k, none⟩) hlr).trans (HF'.out.row.frozen k)
        have HS := Lib.hid (HF'.out.step (w1 := w1) (u := _) (stable1 _) hb1 hlt2 (hr1.lower hlr))
        clear hr1 hb1 hlr
        go_wp2
        go_roundw
        case rel => exact ⟨k + 1, _, by omega, by go_num, HS.out⟩
        case measure => simp [intOf]; omega
      · obtain rfl : k = xs.length := by omega
        have HF' := Lib.hid HF
        clear HF
        go_wp2
        go_ret
        exact ⟨_, rfl, Sl.lower (Nat.le_refl _) (fun _ _ _ h => h.lower (Nat.le_succ _)) (HF'.out.sl (Nat.le_refl _)), HF'.out.below⟩

set_option maxHeartbeats 400000 in
theorem to3_any (v : Value) (xs : List (List (List Int))) (w : World) (h : L3 0 w v xs) (hm : Bd3 1048576 xs) :
    Calls Try.prog 78 #[v] w (ToR L3 xs w) := by
  have hml : xs.length ≤ 1048576 := hm.1
  have HM := Lib.hid hm
  clear hm
  have hmk := run_make_row' (P := Try.prog) 36 22 (.slice none 0 0) 24 Try.underlying36 Try.infoSS rfl .i64 .i64 xs.length (by omega) (by omega)
  refine Sl.cases h (fun ad cap hx hv => ?_) (fun b o cap hv _ hpos hc => ?_)
  · subst hx hv
    have hmk0 : ∀ w, (Instr.makeSlice 36 (.int .i64 0) (.int .i64 0)).run Try.prog w = .ok (.slice (some ⟨w.heap.size, 0, none⟩) 0 0) (w.alloc (.cells #[] 22)) := fun _ => by kernel_rfl
    clear hmk
    go_enter Try.func78, Try.ntmps78
    go_wp2
    refine wp_loop_rounds 1 ?_
    rw [rounds_succ]
    go_wp2
    go_ret
    exact ⟨_, rfl, Or.inl ⟨rfl, _, _, rfl⟩, (Below.refl _ _).alloc (Nat.le_refl _) _⟩
  · subst hv
    clear h
    have HC := Lib.hid hc
    clear hc
    go_enter Try.func78, Try.ntmps78
    go_wp2
    clear hmk
    go_loopw [4] (fun i wr => ∃ (k : Nat) (f : Nat → Value), k ≤ xs.length ∧ i = .int .i64 k ∧ Fill w wr 22 xs.length k (.slice none 0 0) (L2 (w.heap.size + 1)) xs f) (fun i _ => xs.length - (intOf i).toNat)
    case atStart => exact ⟨0, _, Nat.zero_le _, rfl, Fill.start _ _ _ _ _ _⟩
    case round =>
      obtain ⟨k, f, hk, rfl, HF⟩ := hrel
      by_cases hlt2 : k < xs.length
      · obtain ⟨u, hu, hr⟩ := HC.out k hlt2
        have hu' : wr.cell? ⟨b, o + k, none⟩ = some u := by
          rw [HF.below.cell (p := ⟨b, o + k, none⟩) (cell_lt hu), hu]
        have hr' : L2 0 wr u xs[k] := hr.below HF.below
        have hmx : Bd2 1048576 xs[k] := HM.out.2 _ (List.getElem_mem hlt2)
        have HF' := Lib.hid HF
        have HR' := Lib.hid hr'
        clear HF hu hr hr'
        go_wp2_with fail
        refine (to2_any u xs[k] _ HR'.out hmx).mono ?_
        rintro e w1 ⟨u1, rfl, hr1, hb1⟩
        obtain ⟨ad1, cap1, rfl⟩ := Sl.shape hr1
        have hlr := HF'.out.row.lt
        have hc1 : w1.cell? ⟨w.heap.size, k, none⟩ = some (f k) := (hb1.cell (p := ⟨w.heap.size, k, none⟩) hlr).trans (HF'.out.row.cell hlt2)
        have hc2 : w1.frozen? ⟨w.heap.size, k, none⟩ = false := (hb1.frozen (p := ⟨w.heap.size, k, none⟩) hlr).trans (HF'.out.row.frozen k)
        have HS := Lib.hid (HF'.out.step (w1 := w1) (u := _) (stable2 _) hb1 hlt2 (hr1.lower hlr))
        clear hr1 hb1 hlr
        go_wp2
        go_roundw
        case rel => exact ⟨k + 1, _, by omega, by go_num, HS.out⟩
        case measure => simp [intOf]; omega
      · obtain rfl : k = xs.length := by omega
        have HF' := Lib.hid HF
        clear HF
        go_wp2
        go_ret
        exact ⟨_, rfl, Sl.lower (Nat.le_refl _) (fun _ _ _ h => h.lower (Nat.le_succ _)) (HF'.out.sl (Nat.le_refl _)), HF'.out.below⟩

/-- A whole complex in three values. -/
structure Cx (lo : Nat) (w : World) (dv mv : Value) (ds : List Int) (ms : List (List (List Int))) : Prop where
  dims : L1 lo w dv ds
  maps : L3 lo w mv ms
theorem Cx.below {lo : Nat} {w w' : World} {dv mv : Value} {ds : List Int} {ms : List (List (List Int))} (h : Cx lo w dv mv ds ms) (hb : Below w.heap.size w w') : Cx lo w' dv mv ds ms := ⟨h.dims.below hb, h.maps.below hb⟩
theorem Cx.lower {lo lo' : Nat} (hl : lo' ≤ lo) {w : World} {dv mv : Value} {ds : List Int} {ms : List (List (List Int))} (h : Cx lo w dv mv ds ms) : Cx lo' w dv mv ds ms := ⟨h.dims.lower hl, h.maps.lower hl⟩

end Go.Proofs.Ytlopenephgabhaa

namespace Go.Proofs.Ytlopenephgabhaa
open Go.RowKit

/-- A call that only reads: its value, and a world that parts from the first in draws alone. -/
def QR (v : Value) (w : World) (e : Ending) (w' : World) : Prop := e = .returned v ∧ ∃ m, w' = w.drewN m

theorem list_eq_take {α : Type} {xs ys : List α} {k : Nat} (hl : ys.length = xs.length) (hk : k = xs.length) (h : ∀ j (h1 : j < xs.length) (h2 : j < ys.length), j < k → xs[j] = ys[j]) : xs = ys :=
  List.ext_getElem hl.symm fun j h1 h2 => h j h1 h2 (by omega)

set_option maxHeartbeats 800000 in
theorem eq1_any (va vb : Value) (xs ys : List Int) (w : World) (ha : L1 0 w va xs) (hb : L1 0 w vb ys) (hm : xs.length ≤ 1048576) (hn : ys.length ≤ 1048576) :
    Calls Try.prog 61 #[va, vb] w (QR (.bool (decide (xs = ys))) w) := by
  by_cases hl : ys.length = xs.length
  · refine Sl.cases ha (fun ad cap hx hv => ?_) (fun b o cap hv _ hpos hc => ?_)
    · subst hx hv
      obtain ⟨ad2, cap2, hv2⟩ := Sl.shape hb
      rw [hl] at hv2
      obtain rfl : ys = [] := List.eq_nil_of_length_eq_zero hl
      subst hv2
      clear ha hb hl
      go_enter Try.func61, Try.ntmps61
      go_wp2
      refine wp_loop_rounds 1 ?_
      rw [rounds_succ]
      go_wp2
      go_ret
      exact ⟨rfl, 0, rfl⟩
    · refine Sl.cases hb (fun ad cap hx hv => absurd hl (by subst hx; simp; omega)) (fun b2 o2 cap2 hv2 _ hpos2 hc2 => ?_)
      rw [hl] at hv2
      subst hv hv2
      clear ha hb
      have HL := Lib.hid hl
      have HC := Lib.hid hc
      have HC2 := Lib.hid hc2
      clear hl hc hc2
      go_enter Try.func61, Try.ntmps61
      go_wp2
      go_loopw [5] (fun i wr => ∃ (k m : Nat), k ≤ xs.length ∧ i = .int .i64 k ∧ wr = w.drewN m ∧ Hid (∀ j (h1 : j < xs.length) (h2 : j < ys.length), j < k → xs[j] = ys[j])) (fun i _ => xs.length - (intOf i).toNat)
      case atStart => exact ⟨0, 0, Nat.zero_le _, rfl, rfl, Lib.hid (fun _ _ _ h => absurd h (Nat.not_lt_zero _))⟩
      case round =>
        obtain ⟨k, m, hk, rfl, rfl, HD⟩ := hrel
        by_cases hlt2 : k < xs.length
        · have hlt3 : k < ys.length := by have := HL.out; omega
          obtain ⟨u, hu, hr⟩ := HC.out k hlt2
          obtain ⟨u2, hu2, hr2⟩ := HC2.out k hlt3
          obtain ⟨x, hx⟩ : ∃ x, x = xs[k] := ⟨_, rfl⟩
          obtain ⟨y, hy⟩ : ∃ y, y = ys[k] := ⟨_, rfl⟩
          rw [hr, ← hx] at hu
          rw [hr2, ← hy] at hu2
          have HX := Lib.hid hx
          have HY := Lib.hid hy
          clear hx hy hr hr2
          by_cases hxy : x = y
          · have HXY := Lib.hid hxy
            have hq : (x != y) = false := by simp [hxy]
            have hq2 : (x == y) = true := by simp [hxy]
            clear hxy
            go_wp2
            go_quiet (fail)
            go_wp2
            go_roundw
            case rel => exact ⟨k + 1, _, by omega, by go_num, rfl, Lib.hid (fun j h1 h2 hjk => by
              by_cases e : j = k
              · subst e; rw [← HX.out, ← HY.out, HXY.out]
              · exact HD.out j h1 h2 (by omega))⟩
            case measure => simp [intOf]; omega
          · have HXY := Lib.hid hxy
            have hq : (x != y) = true := by simp [hxy]
            have hq2 : (x == y) = false := by simp [hxy]
            clear hxy
            go_wp2
            go_quiet (fail)
            go_wp2
            go_ret
            refine ⟨ret_bool ?_, m + nq, by rw [World.drewN_drewN]⟩
            have hne : ¬ xs = ys := fun e => HXY.out (by rw [HX.out, HY.out]; subst e; rfl)
            simp [hne]
        · go_wp2
          go_ret
          refine ⟨ret_bool ?_, m, rfl⟩
          have := list_eq_take HL.out (by omega) HD.out
          simp [this]
  · obtain ⟨ad, cap, rfl⟩ := Sl.shape ha
    obtain ⟨ad2, cap2, rfl⟩ := Sl.shape hb
    clear ha hb
    have hq : ((xs.length : Int) != (ys.length : Int)) = true := by simp; omega
    have hq2 : ((xs.length : Int) == (ys.length : Int)) = false := by simp; omega
    have HL := Lib.hid hl
    clear hl
    go_enter Try.func61, Try.ntmps61
    go_wp2
    go_ret
    refine ⟨ret_bool ?_, 0, rfl⟩
    have hne : ¬ xs = ys := fun e => HL.out (by rw [e])
    simp [hne]

set_option maxHeartbeats 800000 in
theorem eq2_any (va vb : Value) (xs ys : List (List Int)) (w : World) (ha : L2 0 w va xs) (hb : L2 0 w vb ys) (hm : Bd2 1048576 xs) (hn : Bd2 1048576 ys) :
    Calls Try.prog 26 #[va, vb] w (QR (.bool (decide (xs = ys))) w) := by
  have hm0 : xs.length ≤ 1048576 := hm.1
  have hn0 : ys.length ≤ 1048576 := hn.1
  have HM := Lib.hid hm
  have HN := Lib.hid hn
  clear hm hn
  by_cases hl : ys.length = xs.length
  · refine Sl.cases ha (fun ad cap hx hv => ?_) (fun b o cap hv _ hpos hc => ?_)
    · subst hx hv
      obtain ⟨ad2, cap2, hv2⟩ := Sl.shape hb
      rw [hl] at hv2
      obtain rfl : ys = [] := List.eq_nil_of_length_eq_zero hl
      subst hv2
      clear ha hb hl
      go_enter Try.func26, Try.ntmps26
      go_wp2
      refine wp_loop_rounds 1 ?_
      rw [rounds_succ]
      go_wp2
      go_ret
      exact ⟨rfl, 0, rfl⟩
    · refine Sl.cases hb (fun ad cap hx hv => absurd hl (by subst hx; simp; omega)) (fun b2 o2 cap2 hv2 _ hpos2 hc2 => ?_)
      rw [hl] at hv2
      subst hv hv2
      clear ha hb
      have HL := Lib.hid hl
      have HC := Lib.hid hc
      have HC2 := Lib.hid hc2
      clear hl hc hc2
      go_enter Try.func26, Try.ntmps26
      go_wp2
      go_loopw [5] (fun i wr => ∃ (k m : Nat), k ≤ xs.length ∧ i = .int .i64 k ∧ wr = w.drewN m ∧ Hid (∀ j (h1 : j < xs.length) (h2 : j < ys.length), j < k → xs[j] = ys[j])) (fun i _ => xs.length - (intOf i).toNat)
      case atStart => exact ⟨0, 0, Nat.zero_le _, rfl, rfl, Lib.hid (fun _ _ _ h => absurd h (Nat.not_lt_zero _))⟩
      case round =>
        obtain ⟨k, m, hk, rfl, hw, HD⟩ := hrel
        have HW := Lib.hid hw
        clear hw
        by_cases hlt2 : k < xs.length
        · have hlt3 : k < ys.length := by have := HL.out; omega
          obtain ⟨u, hu, hr⟩ := HC.out k hlt2
          obtain ⟨u2, hu2, hr2⟩ := HC2.out k hlt3
          have hu' : wr.cell? ⟨b, o + k, none⟩ = some u := by rw [HW.out]; exact hu
          have hu2' : wr.cell? ⟨b2, o2 + k, none⟩ = some u2 := by rw [HW.out]; exact hu2
          have HE := Lib.hid (fun (m2 : Nat) => eq1_any u u2 xs[k] ys[k] (wr.drewN m2) (by rw [HW.out]; exact (hr.below (drewN_below w m)).below (drewN_below _ m2)) (by rw [HW.out]; exact (hr2.below (drewN_below w m)).below (drewN_below _ m2)) (HM.out.2 _ (List.getElem_mem hlt2)) (HN.out.2 _ (List.getElem_mem hlt3)))
          clear hr hr2 hu hu2
          by_cases hxy : xs[k] = ys[k]
          · have HXY := Lib.hid hxy
            have HE' : Hid (∀ m2 : Nat, Calls Try.prog 61 #[u, u2] (wr.drewN m2) (QR (.bool true) (wr.drewN m2))) := Lib.hid (fun m2 => by have := HE.out m2; rwa [decide_eq_true hxy] at this)
            clear hxy HE
            go_wp2
            go_quiet ((go_at_call 61; exact Calls.quiet_of (HE'.out _)))
            go_wp2
            go_roundw
            case rel => exact ⟨k + 1, m + nq, by omega, by go_num, by rw [HW.out, World.drewN_drewN], Lib.hid (fun j h1 h2 hjk => by
              by_cases e : j = k
              · subst e; exact HXY.out
              · exact HD.out j h1 h2 (by omega))⟩
            case measure => simp [intOf]; omega
          · have HXY := Lib.hid hxy
            have HE' : Hid (∀ m2 : Nat, Calls Try.prog 61 #[u, u2] (wr.drewN m2) (QR (.bool false) (wr.drewN m2))) := Lib.hid (fun m2 => by have := HE.out m2; rwa [decide_eq_false hxy] at this)
            clear hxy HE
            go_wp2
            go_quiet ((go_at_call 61; exact Calls.quiet_of (HE'.out _)))
            go_wp2
            go_ret
            refine ⟨ret_bool ?_, m + nq, by rw [HW.out, World.drewN_drewN]⟩
            have hne : ¬ xs = ys := fun e => HXY.out (by subst e; rfl)
            simp [hne]
        · go_wp2
          go_ret
          refine ⟨ret_bool ?_, m, HW.out⟩
          have := list_eq_take HL.out (by omega) HD.out
          simp [this]
  · obtain ⟨ad, cap, rfl⟩ := Sl.shape ha
    obtain ⟨ad2, cap2, rfl⟩ := Sl.shape hb
    clear ha hb
    have hq : ((xs.length : Int) != (ys.length : Int)) = true := by simp; omega
    have hq2 : ((xs.length : Int) == (ys.length : Int)) = false := by simp; omega
    have HL := Lib.hid hl
    clear hl
    go_enter Try.func26, Try.ntmps26
    go_wp2
    go_ret
    refine ⟨ret_bool ?_, 0, rfl⟩
    have hne : ¬ xs = ys := fun e => HL.out (by rw [e])
    simp [hne]

set_option maxHeartbeats 800000 in
theorem eq3_any (va vb : Value) (xs ys : List (List (List Int))) (w : World) (ha : L3 0 w va xs) (hb : L3 0 w vb ys) (hm : Bd3 1048576 xs) (hn : Bd3 1048576 ys) :
    Calls Try.prog 62 #[va, vb] w (QR (.bool (decide (xs = ys))) w) := by
  have hm0 : xs.length ≤ 1048576 := hm.1
  have hn0 : ys.length ≤ 1048576 := hn.1
  have HM := Lib.hid hm
  have HN := Lib.hid hn
  clear hm hn
  by_cases hl : ys.length = xs.length
  · refine Sl.cases ha (fun ad cap hx hv => ?_) (fun b o cap hv _ hpos hc => ?_)
    · subst hx hv
      obtain ⟨ad2, cap2, hv2⟩ := Sl.shape hb
      rw [hl] at hv2
      obtain rfl : ys = [] := List.eq_nil_of_length_eq_zero hl
      subst hv2
      clear ha hb hl
      go_enter Try.func62, Try.ntmps62
      go_wp2
      refine wp_loop_rounds 1 ?_
      rw [rounds_succ]
      go_wp2
      go_ret
      exact ⟨rfl, 0, rfl⟩
    · refine Sl.cases hb (fun ad cap hx hv => absurd hl (by subst hx; simp; omega)) (fun b2 o2 cap2 hv2 _ hpos2 hc2 => ?_)
      rw [hl] at hv2
      subst hv hv2
      clear ha hb
      have HL := Lib.hid hl
      have HC := Lib.hid hc
      have HC2 := Lib.hid hc2
      clear hl hc hc2
      go_enter Try.func62, Try.ntmps62
      go_wp2
      go_loopw [5] (fun i wr => ∃ (k m : Nat), k ≤ xs.length ∧ i = .int .i64 k ∧ wr = w.drewN m ∧ Hid (∀ j (h1 : j < xs.length) (h2 : j < ys.length), j < k → xs[j] = ys[j])) (fun i _ => xs.length - (intOf i).toNat)
      case atStart => exact ⟨0, 0, Nat.zero_le _, rfl, rfl, Lib.hid (fun _ _ _ h => absurd h (Nat.not_lt_zero _))⟩
      case round =>
        obtain ⟨k, m, hk, rfl, hw, HD⟩ := hrel
        have HW := Lib.hid hw
        clear hw
        by_cases hlt2 : k < xs.length
        · have hlt3 : k < ys.length := by have := HL.out; omega
          obtain ⟨u, hu, hr⟩ := HC.out k hlt2
          obtain ⟨u2, hu2, hr2⟩ := HC2.out k hlt3
          have hu' : wr.cell? ⟨b, o + k, none⟩ = some u := by rw [HW.out]; exact hu
          have hu2' : wr.cell? ⟨b2, o2 + k, none⟩ = some u2 := by rw [HW.out]; exact hu2
          have HE := Lib.hid (fun (m2 : Nat) => eq2_any u u2 xs[k] ys[k] (wr.drewN m2) (by rw [HW.out]; exact (hr.below (drewN_below w m)).below (drewN_below _ m2)) (by rw [HW.out]; exact (hr2.below (drewN_below w m)).below (drewN_below _ m2)) (HM.out.2 _ (List.getElem_mem hlt2)) (HN.out.2 _ (List.getElem_mem hlt3)))
          clear hr hr2 hu hu2
          by_cases hxy : xs[k] = ys[k]
          · have HXY := Lib.hid hxy
            have HE' : Hid (∀ m2 : Nat, Calls Try.prog 26 #[u, u2] (wr.drewN m2) (QR (.bool true) (wr.drewN m2))) := Lib.hid (fun m2 => by have := HE.out m2; rwa [decide_eq_true hxy] at this)
            clear hxy HE
            go_wp2
            go_quiet ((go_at_call 26; exact Calls.quiet_of (HE'.out _)))
            go_wp2
            go_roundw
            case rel => exact ⟨k + 1, m + nq, by omega, by go_num, by rw [HW.out, World.drewN_drewN], Lib.hid (fun j h1 h2 hjk => by
              by_cases e : j = k
              · subst e; exact HXY.out
              · exact HD.out j h1 h2 (by omega))⟩
            case measure => simp [intOf]; omega
          · have HXY := Lib.hid hxy
            have HE' : Hid (∀ m2 : Nat, Calls Try.prog 26 #[u, u2] (wr.drewN m2) (QR (.bool false) (wr.drewN m2))) := Lib.hid (fun m2 => by have := HE.out m2; rwa [decide_eq_false hxy] at this)
            clear hxy HE
            go_wp2
            go_quiet ((go_at_call 26; exact Calls.quiet_of (HE'.out _)))
            go_wp2
            go_ret
            refine ⟨ret_bool ?_, m + nq, by rw [HW.out, World.drewN_drewN]⟩
            have hne : ¬ xs = ys := fun e => HXY.out (by subst e; rfl)
            simp [hne]
        · go_wp2
          go_ret
          refine ⟨ret_bool ?_, m, HW.out⟩
          have := list_eq_take HL.out (by omega) HD.out
          simp [this]
  · obtain ⟨ad, cap, rfl⟩ := Sl.shape ha
    obtain ⟨ad2, cap2, rfl⟩ := Sl.shape hb
    clear ha hb
    have hq : ((xs.length : Int) != (ys.length : Int)) = true := by simp; omega
    have hq2 : ((xs.length : Int) == (ys.length : Int)) = false := by simp; omega
    have HL := Lib.hid hl
    clear hl
    go_enter Try.func62, Try.ntmps62
    go_wp2
    go_ret
    refine ⟨ret_bool ?_, 0, rfl⟩
    have hne : ¬ xs = ys := fun e => HL.out (by rw [e])
    simp [hne]

/-- A call that answers a value and leaves what was there. -/
def BR (v : Value) (w : World) (e : Ending) (w' : World) : Prop := e = .returned v ∧ Below w.heap.size w w'

set_option maxHeartbeats 800000 in
/-- Two complexes that read alike are equal (all that the laws need of the comparison, in the case of success). -/
theorem eqComplex_true (p : Int) (dv mv dv2 mv2 : Value) (ds : List Int) (ms : List (List (List Int))) (w : World) (h : Cx 0 w dv mv ds ms) (h2 : Cx 0 w dv2 mv2 ds ms) (hd : ds.length ≤ 1048576) (hm : Bd3 1048576 ms) :
    Calls Try.prog 21 #[.agg #[.int .i64 p, dv, mv], .agg #[.int .i64 p, dv2, mv2]] w (BR (.bool true) w) := by
  have HM := Lib.hid hm
  have H := Lib.hid h
  have H2 := Lib.hid h2
  clear hm h h2
  go_enter Try.func21, Try.ntmps21
  go_wp2_with fail
  have hb0 : Below w.heap.size w ((w.alloc (.cells #[.int .i64 p, dv, mv] 38)).alloc (.cells #[.int .i64 p, dv2, mv2] 38)) :=
    ((Below.refl _ _).alloc (Nat.le_refl _) _).alloc (by simp) _
  have HB0 := Lib.hid hb0
  clear hb0
  have h1 := eq1_any dv dv2 ds ds _ (H.out.dims.below HB0.out) (H2.out.dims.below HB0.out) hd hd
  rw [decide_eq_true rfl] at h1
  refine h1.mono ?_
  clear h1
  rintro e w' ⟨rfl, m, rfl⟩
  go_wp2_with fail
  have h1 := eq3_any mv mv2 ms ms _ ((H.out.maps.below HB0.out).below (drewN_below _ m)) ((H2.out.maps.below HB0.out).below (drewN_below _ m)) HM.out HM.out
  rw [decide_eq_true rfl] at h1
  refine h1.mono ?_
  clear h1
  rintro e w' ⟨rfl, m2, rfl⟩
  go_wp2
  go_ret
  exact ⟨rfl, HB0.out.trans ((drewN_below _ (m + m2)).mono HB0.out.size)⟩
end Go.Proofs.Ytlopenephgabhaa

namespace Go.Proofs.Ytlopenephgabhaa
open Go.RowKit

def IsP (p : Int) : Prop := p = 2 ∨ p = 3 ∨ p = 5 ∨ p = 7
theorem IsP.lo {p : Int} (h : IsP p) : 2 ≤ p := by unfold IsP at h; omega
theorem IsP.hi {p : Int} (h : IsP p) : p ≤ 7 := by unfold IsP at h; omega
def RowOk (p n : Int) (xs : List Int) : Prop := (xs.length : Int) = n ∧ ∀ x ∈ xs, 0 ≤ x ∧ x ≤ p - 1
def TabOk (p r c : Int) (t : List (List Int)) : Prop := (t.length : Int) = r ∧ ∀ x ∈ t, RowOk p c x

/-- A call that answers a value and turns nothing. -/
def QW (v : Value) (w : World) (e : Ending) (w' : World) : Prop := e = .returned v ∧ w = w'
/-- .. a truth value that says whether P. -/
def BW (P : Prop) (w : World) (e : Ending) (w' : World) : Prop := ∃ b : Bool, e = .returned (.bool b) ∧ w = w' ∧ (b = true ↔ P)
theorem bw_true {P : Prop} {w : World} (h : P) : BW P w (.returned (.bool true)) w := ⟨true, rfl, rfl, by simp [h]⟩
theorem bw_false {P : Prop} {w : World} (h : ¬ P) : BW P w (.returned (.bool false)) w := ⟨false, rfl, rfl, by simp [h]⟩

theorem all_of_lt {α : Type} {xs : List α} {P : α → Prop} (h : ∀ j (hj : j < xs.length), P xs[j]) : ∀ x ∈ xs, P x := fun x hx => by
  obtain ⟨j, hj, rfl⟩ := List.getElem_of_mem hx
  exact h j hj

theorem in_any (n lo hi : Int) (w : World) : Calls Try.prog 57 #[.int .i64 n, .int .i64 lo, .int .i64 hi] w (QW (.bool (decide (lo ≤ n ∧ n ≤ hi))) w) := by
  by_cases h1 : lo ≤ n
  · by_cases h2 : n ≤ hi
    · rw [decide_eq_true ⟨h1, h2⟩]
      go_enter Try.func57, Try.ntmps57
      go_wp2
      go_ret
      exact ⟨rfl, rfl⟩
    · rw [decide_eq_false (fun h => h2 h.2)]
      go_enter Try.func57, Try.ntmps57
      go_wp2
      go_ret
      exact ⟨rfl, rfl⟩
  · rw [decide_eq_false (fun h => h1 h.1)]
    go_enter Try.func57, Try.ntmps57
    go_wp2
    go_ret
    exact ⟨rfl, rfl⟩

theorem spin_any (n lo hi : Int) (w : World) : Calls Try.prog 54 #[.int .i64 n, .int .i64 lo, .int .i64 hi] w (QW (.bool (decide (lo ≤ n ∧ n ≤ hi))) w) := by
  by_cases h1 : lo ≤ n
  · by_cases h2 : n ≤ hi
    · rw [decide_eq_true ⟨h1, h2⟩]
      go_enter Try.func54, Try.ntmps54
      go_wp2
      go_ret
      exact ⟨rfl, rfl⟩
    · rw [decide_eq_false (fun h => h2 h.2)]
      go_enter Try.func54, Try.ntmps54
      go_wp2
      go_ret
      exact ⟨rfl, rfl⟩
  · rw [decide_eq_false (fun h => h1 h.1)]
    go_enter Try.func54, Try.ntmps54
    go_wp2
    go_ret
    exact ⟨rfl, rfl⟩

theorem in_yes {n lo hi : Int} (h : lo ≤ n ∧ n ≤ hi) (w : World) : Calls Try.prog 57 #[.int .i64 n, .int .i64 lo, .int .i64 hi] w (QW (.bool true) w) := by
  have := in_any n lo hi w
  rwa [decide_eq_true h] at this
theorem in_no {n lo hi : Int} (h : ¬ (lo ≤ n ∧ n ≤ hi)) (w : World) : Calls Try.prog 57 #[.int .i64 n, .int .i64 lo, .int .i64 hi] w (QW (.bool false) w) := by
  have := in_any n lo hi w
  rwa [decide_eq_false h] at this
theorem spin_yes {n lo hi : Int} (h : lo ≤ n ∧ n ≤ hi) (w : World) : Calls Try.prog 54 #[.int .i64 n, .int .i64 lo, .int .i64 hi] w (QW (.bool true) w) := by
  have := spin_any n lo hi w
  rwa [decide_eq_true h] at this
theorem spin_no {n lo hi : Int} (h : ¬ (lo ≤ n ∧ n ≤ hi)) (w : World) : Calls Try.prog 54 #[.int .i64 n, .int .i64 lo, .int .i64 hi] w (QW (.bool false) w) := by
  have := spin_any n lo hi w
  rwa [decide_eq_false h] at this

theorem prime_yes {p : Int} (h : IsP p) (w : World) : Calls Try.prog 92 #[.int .i64 p] w (QW (.bool true) w) := by
  rcases h with rfl | rfl | rfl | rfl
  all_goals
    go_enter Try.func92, Try.ntmps92
    go_wp2
    go_ret
    exact ⟨rfl, rfl⟩
theorem prime_no {p : Int} (h : ¬ IsP p) (w : World) : Calls Try.prog 92 #[.int .i64 p] w (QW (.bool false) w) := by
  have h2 : (p == 2) = false := by simp; intro e; exact h (by simp [IsP, e])
  have h3 : (p == 3) = false := by simp; intro e; exact h (by simp [IsP, e])
  have h5 : (p == 5) = false := by simp; intro e; exact h (by simp [IsP, e])
  have h7 : (p == 7) = false := by simp; intro e; exact h (by simp [IsP, e])
  clear h
  go_enter Try.func92, Try.ntmps92
  go_wp2
  go_ret
  exact ⟨rfl, rfl⟩
theorem spprime_yes {p : Int} (h : IsP p) (w : World) : Calls Try.prog 88 #[.int .i64 p] w (QW (.bool true) w) := by
  rcases h with rfl | rfl | rfl | rfl
  all_goals
    go_enter Try.func88, Try.ntmps88
    go_wp2
    go_ret
    exact ⟨rfl, rfl⟩
theorem spprime_no {p : Int} (h : ¬ IsP p) (w : World) : Calls Try.prog 88 #[.int .i64 p] w (QW (.bool false) w) := by
  have h2 : (p == 2) = false := by simp; intro e; exact h (by simp [IsP, e])
  have h3 : (p == 3) = false := by simp; intro e; exact h (by simp [IsP, e])
  have h5 : (p == 5) = false := by simp; intro e; exact h (by simp [IsP, e])
  have h7 : (p == 7) = false := by simp; intro e; exact h (by simp [IsP, e])
  clear h
  go_enter Try.func88, Try.ntmps88
  go_wp2
  go_ret
  exact ⟨rfl, rfl⟩

/-- All numbers of a row are in lo..hi. -/
def AllIn (lo hi : Int) (xs : List Int) : Prop := ∀ x ∈ xs, lo ≤ x ∧ x ≤ hi
/-- A table of r rows of c numbers in lo..hi. -/
def TabIn (lo hi r c : Int) (t : List (List Int)) : Prop := (t.length : Int) = r ∧ ∀ x ∈ t, (x.length : Int) = c ∧ AllIn lo hi x

set_option maxHeartbeats 800000 in
theorem areWithin_any (lo hi : Int) (v : Value) (xs : List Int) (w : World) (h : L1 0 w v xs) (hm : xs.length ≤ 1048576) :
    Calls Try.prog 130 #[v, .int .i64 lo, .int .i64 hi] w (BW (AllIn lo hi xs) w) := by
  refine Sl.cases h (fun ad cap hx hv => ?_) (fun b o cap hv _ hpos hc => ?_)
  · subst hx hv
    go_enter Try.func130, Try.ntmps130
    go_wp2
    refine wp_loop_rounds 1 ?_
    rw [rounds_succ]
    go_wp2
    go_ret
    exact bw_true (by simp [AllIn])
  · subst hv
    clear h
    have HC := Lib.hid hc
    clear hc
    go_enter Try.func130, Try.ntmps130
    go_wp2
    go_loop [11] (fun i => ∃ (k : Nat), k ≤ xs.length ∧ i = .int .i64 k ∧ Hid (∀ j (h1 : j < xs.length), j < k → lo ≤ xs[j] ∧ xs[j] ≤ hi)) (fun i => xs.length - (intOf i).toNat)
    case atStart => exact ⟨0, Nat.zero_le _, rfl, Lib.hid (fun _ _ h => absurd h (Nat.not_lt_zero _))⟩
    case round =>
      obtain ⟨k, hk, rfl, HD⟩ := hrel
      by_cases hlt2 : k < xs.length
      · obtain ⟨u, hu, hr⟩ := HC.out k hlt2
        obtain ⟨x, hx⟩ : ∃ x, x = xs[k] := ⟨_, rfl⟩
        rw [hr, ← hx] at hu
        have HX := Lib.hid hx
        clear hx hr
        by_cases hxy : lo ≤ x ∧ x ≤ hi
        · have HXY := Lib.hid hxy
          clear hxy
          go_wp2_with fail
          refine (in_yes HXY.out _).mono ?_
          rintro e w' ⟨rfl, rfl⟩
          go_wp2
          go_round
          case rel => exact ⟨k + 1, by omega, by go_num, Lib.hid (fun j h1 hjk => by
            by_cases e : j = k
            · subst e; rw [← HX.out]; exact HXY.out
            · exact HD.out j h1 (by omega))⟩
          case measure => simp [intOf]; omega
        · have HXY := Lib.hid hxy
          clear hxy
          go_wp2_with fail
          refine (in_no HXY.out _).mono ?_
          rintro e w' ⟨rfl, rfl⟩
          go_wp2
          go_ret
          exact bw_false (fun h => HXY.out (by rw [HX.out]; exact h _ (List.getElem_mem hlt2)))
      · go_wp2
        go_ret
        exact bw_true (all_of_lt (fun j hj => HD.out j hj (by omega)))

set_option maxHeartbeats 800000 in
theorem isTableWithin_any (lo hi r c : Int) (v : Value) (xs : List (List Int)) (w : World) (h : L2 0 w v xs) (hm : Bd2 1048576 xs) :
    Calls Try.prog 119 #[v, .int .i64 r, .int .i64 c, .int .i64 lo, .int .i64 hi] w (BW (TabIn lo hi r c xs) w) := by
  have hm0 : xs.length ≤ 1048576 := hm.1
  have HM := Lib.hid hm
  clear hm
  by_cases hl : (xs.length : Int) = r
  · refine Sl.cases h (fun ad cap hx hv => ?_) (fun b o cap hv _ hpos hc => ?_)
    · subst hx hv
      subst hl
      go_enter Try.func119, Try.ntmps119
      go_wp2
      refine wp_loop_rounds 1 ?_
      rw [rounds_succ]
      go_wp2
      go_ret
      exact bw_true ⟨rfl, by simp⟩
    · subst hv
      subst hl
      clear h
      have HC := Lib.hid hc
      clear hc
      go_enter Try.func119, Try.ntmps119
      go_wp2
      go_loop [19] (fun i => ∃ (k : Nat), k ≤ xs.length ∧ i = .int .i64 k ∧ Hid (∀ j (h1 : j < xs.length), j < k → ((xs[j]).length : Int) = c ∧ AllIn lo hi xs[j])) (fun i => xs.length - (intOf i).toNat)
      case atStart => exact ⟨0, Nat.zero_le _, rfl, Lib.hid (fun _ _ h => absurd h (Nat.not_lt_zero _))⟩
      case round =>
        obtain ⟨k, hk, rfl, HD⟩ := hrel
        by_cases hlt2 : k < xs.length
        · obtain ⟨u, hu, hr⟩ := HC.out k hlt2
          have hml : (xs[k]).length ≤ 1048576 := HM.out.2 _ (List.getElem_mem hlt2)
          have HR := Lib.hid (fun W => areWithin_any lo hi u xs[k] W)
          obtain ⟨ys, hy⟩ : ∃ ys, ys = xs[k] := ⟨_, rfl⟩
          rw [← hy] at hr hml HR
          have HY := Lib.hid hy
          clear hy
          have HA := Lib.hid (HR.out _ hr hml)
          clear HR
          obtain ⟨ad, cap, rfl⟩ := Sl.shape hr
          clear hr
          by_cases hlc : (ys.length : Int) = c
          · have hq : ((ys.length : Int) != c) = false := by simp [hlc]
            have hq2 : ((ys.length : Int) == c) = true := by simp [hlc]
            have HLC := Lib.hid hlc
            clear hlc
            go_wp2_with fail
            refine HA.out.mono ?_
            rintro e w' ⟨bb, rfl, rfl, hbb⟩
            have HBB := Lib.hid hbb
            clear hbb
            cases bb with
            | true =>
              go_wp2
              go_round
              case rel => exact ⟨k + 1, by omega, by go_num, Lib.hid (fun j h1 hjk => by
                by_cases e : j = k
                · subst e; rw [← HY.out]; exact ⟨HLC.out, HBB.out.1 (by simp)⟩
                · exact HD.out j h1 (by omega))⟩
              case measure => simp [intOf]; omega
            | false =>
              go_wp2
              go_ret
              exact bw_false (fun h => absurd (HBB.out.2 (by rw [HY.out]; exact (h.2 _ (List.getElem_mem hlt2)).2)) (by simp))
          · have hq : ((ys.length : Int) != c) = true := by simp [hlc]
            have hq2 : ((ys.length : Int) == c) = false := by simp [hlc]
            have HLC := Lib.hid hlc
            clear hlc
            go_wp2
            go_ret
            exact bw_false (fun h => HLC.out (by rw [HY.out]; exact (h.2 _ (List.getElem_mem hlt2)).1))
        · go_wp2
          go_ret
          exact bw_true ⟨rfl, all_of_lt (fun j hj => HD.out j hj (by omega))⟩
  · obtain ⟨ad, cap, rfl⟩ := Sl.shape h
    clear h
    have hq : ((xs.length : Int) != r) = true := by simp [hl]
    have hq2 : ((xs.length : Int) == r) = false := by simp [hl]
    have HL := Lib.hid hl
    clear hl
    go_enter Try.func119, Try.ntmps119
    go_wp2
    go_ret
    exact bw_false (fun h => HL.out h.1)

theorem isTable_any (p r c : Int) (v : Value) (xs : List (List Int)) (w : World) (hp : IsP p) (h : L2 0 w v xs) (hm : Bd2 1048576 xs) :
    Calls Try.prog 96 #[.int .i64 p, v, .int .i64 r, .int .i64 c] w (BW (TabOk p r c xs) w) := by
  have hp0 := hp.lo
  have hp1 := hp.hi
  have HA := Lib.hid (isTableWithin_any 0 (p - 1) r c v xs w h hm)
  obtain ⟨ad, cap, rfl⟩ := Sl.shape h
  clear h hm
  go_enter Try.func96, Try.ntmps96
  go_wp2_with fail
  refine HA.out.mono ?_
  rintro e w' ⟨bb, rfl, rfl, hbb⟩
  have HBB := Lib.hid hbb
  clear hbb
  go_wp2
  go_ret
  exact ⟨bb, rfl, rfl, HBB.out⟩
end Go.Proofs.Ytlopenephgabhaa

namespace Go.Proofs.Ytlopenephgabhaa
open Go.RowKit

set_option maxHeartbeats 1600000 in
theorem l01Table_any (p r c : Int) (v : Value) (xs : List (List Int)) (w : World) (hp : IsP p) (h : L2 0 w v xs) (hm : Bd2 1048576 xs) :
    Calls Try.prog 89 #[.int .i64 p, v, .int .i64 r, .int .i64 c] w (BW (TabOk p r c xs) w) := by
  have hm0 : xs.length ≤ 1048576 := hm.1
  have HM := Lib.hid hm
  have hp0 := hp.lo
  have hp1 := hp.hi
  clear hm hp
  by_cases hl : (xs.length : Int) = r
  · refine Sl.cases h (fun ad cap hx hv => ?_) (fun b o cap hv _ hpos hc => ?_)
    · subst hx hv
      subst hl
      go_enter Try.func89, Try.ntmps89
      go_wp2
      refine wp_loop_rounds 1 ?_
      rw [rounds_succ]
      go_wp2
      go_ret
      exact bw_true ⟨rfl, by simp⟩
    · subst hv
      subst hl
      clear h
      have HC := Lib.hid hc
      clear hc
      go_enter Try.func89, Try.ntmps89
      go_wp2
      go_loop [9, 10] (fun i _ => ∃ (k : Nat), k ≤ xs.length ∧ i = .int .i64 k ∧ Hid (∀ j (h1 : j < xs.length), j < k → RowOk p c xs[j])) (fun i _ => xs.length - (intOf i).toNat)
      case atStart => exact ⟨0, Nat.zero_le _, rfl, Lib.hid (fun _ _ h => absurd h (Nat.not_lt_zero _))⟩
      case round =>
        obtain ⟨k, hk, rfl, HD⟩ := hrel
        by_cases hlt2 : k < xs.length
        · obtain ⟨u, hu, hr⟩ := HC.out k hlt2
          have hml : (xs[k]).length ≤ 1048576 := HM.out.2 _ (List.getElem_mem hlt2)
          obtain ⟨ys, hy⟩ : ∃ ys, ys = xs[k] := ⟨_, rfl⟩
          rw [← hy] at hr hml
          have HY := Lib.hid hy
          clear hy
          by_cases hlc : (ys.length : Int) = c
          · refine Sl.cases hr (fun ad2 cap2 hx hv => ?_) (fun b2 o2 cap2 hv _ hpos2 hc2 => ?_)
            · subst hv
              have hc0 : ((0 : Int) != c) = false := by rw [← hlc, hx]; rfl
              have hc1 : ((0 : Int) == c) = true := by rw [← hlc, hx]; rfl
              have HX := Lib.hid hx
              have HLC := Lib.hid hlc
              clear hx hlc hr
              go_wp2
              refine wp_loop_rounds 1 ?_
              rw [rounds_succ]
              go_wp2
              go_round
              case rel => exact ⟨k + 1, by omega, by go_num, Lib.hid (fun j h1 hjk => by
                by_cases e : j = k
                · subst e; rw [← HY.out]; exact ⟨HLC.out, by simp [HX.out]⟩
                · exact HD.out j h1 (by omega))⟩
              case measure => simp [intOf]; omega
            · subst hv
              have hc0 : ((ys.length : Int) != c) = false := by rw [hlc]; simp
              have hc1 : ((ys.length : Int) == c) = true := by rw [hlc]; simp
              have HLC := Lib.hid hlc
              have HC2 := Lib.hid hc2
              clear hlc hr hc2
              go_wp2
              go_loop [10] (fun i => ∃ (q : Nat), q ≤ ys.length ∧ i = .int .i64 q ∧ Hid (∀ j (h1 : j < ys.length), j < q → 0 ≤ ys[j] ∧ ys[j] ≤ p - 1)) (fun i => ys.length - (intOf i).toNat)
              case atStart => exact ⟨0, Nat.zero_le _, rfl, Lib.hid (fun _ _ h => absurd h (Nat.not_lt_zero _))⟩
              case round =>
                obtain ⟨q, hq, rfl, HD2⟩ := hrel
                by_cases hlt3 : q < ys.length
                · obtain ⟨u2, hu2, hr2⟩ := HC2.out q hlt3
                  obtain ⟨x, hx⟩ : ∃ x, x = ys[q] := ⟨_, rfl⟩
                  rw [hr2, ← hx] at hu2
                  have HX := Lib.hid hx
                  clear hx hr2
                  by_cases hxy : 0 ≤ x ∧ x ≤ p - 1
                  · have HXY := Lib.hid hxy
                    clear hxy
                    go_wp2_with fail
                    refine (spin_yes HXY.out _).mono ?_
                    rintro e w' ⟨rfl, rfl⟩
                    go_wp2
                    go_round
                    case rel => exact ⟨q + 1, by omega, by go_num, Lib.hid (fun j h1 hjk => by
                      by_cases e : j = q
                      · subst e; rw [← HX.out]; exact HXY.out
                      · exact HD2.out j h1 (by omega))⟩
                    case measure => simp [intOf]; omega
                  · have HXY := Lib.hid hxy
                    clear hxy
                    go_wp2_with fail
                    refine (spin_no HXY.out _).mono ?_
                    rintro e w' ⟨rfl, rfl⟩
                    go_wp2
                    go_ret
                    exact bw_false (fun h => HXY.out (by
                      rw [HX.out]
                      exact (h.2 ys (by rw [HY.out]; exact List.getElem_mem hlt2)).2 _ (List.getElem_mem hlt3)))
                · go_wp2
                  go_round
                  case rel => exact ⟨k + 1, by omega, by go_num, Lib.hid (fun j h1 hjk => by
                    by_cases e : j = k
                    · subst e; rw [← HY.out]; exact ⟨HLC.out, all_of_lt (fun j2 hj2 => HD2.out j2 hj2 (by omega))⟩
                    · exact HD.out j h1 (by omega))⟩
                  case measure => simp [intOf]; omega
          · obtain ⟨ad2, cap2, rfl⟩ := Sl.shape hr
            have hc0 : ((ys.length : Int) != c) = true := by simp [hlc]
            have hc1 : ((ys.length : Int) == c) = false := by simp [hlc]
            have HLC := Lib.hid hlc
            clear hlc hr
            go_wp2
            go_ret
            exact bw_false (fun h => HLC.out (h.2 ys (by rw [HY.out]; exact List.getElem_mem hlt2)).1)
        · go_wp2
          go_ret
          exact bw_true ⟨rfl, all_of_lt (fun j hj => HD.out j hj (by omega))⟩
  · obtain ⟨ad, cap, rfl⟩ := Sl.shape h
    clear h
    have hq : ((xs.length : Int) != r) = true := by simp [hl]
    have hq2 : ((xs.length : Int) == r) = false := by simp [hl]
    have HL := Lib.hid hl
    clear hl
    go_enter Try.func89, Try.ntmps89
    go_wp2
    go_ret
    exact bw_false (fun h => HL.out h.1)

/-- Where the first number other than 0 stands, or -1. -/
def leadOf : List Int → Int
  | [] => -1
  | x :: xs => if x = 0 then (let r := leadOf xs; if r < 0 then -1 else r + 1) else 0

theorem leadOf_zero {xs : List Int} (h : ∀ j (hj : j < xs.length), xs[j] = 0) : leadOf xs = -1 := by
  induction xs with
  | nil => rfl
  | cons x xs ih =>
    have h0 : x = 0 := h 0 (by simp)
    have ih' := ih (fun j hj => h (j + 1) (by simpa using hj))
    simp [leadOf, h0, ih']
theorem leadOf_at {xs : List Int} : ∀ {k : Nat} (hk : k < xs.length), (∀ j (hj : j < xs.length), j < k → xs[j] = 0) → xs[k] ≠ 0 → leadOf xs = k := by
  induction xs with
  | nil => intro k hk; simp at hk
  | cons x xs ih =>
    intro k hk h hne
    cases k with
    | zero => simp at hne; simp [leadOf, hne]
    | succ k =>
      have h0 : x = 0 := h 0 (by simp) (by omega)
      have := ih (k := k) (by simpa using hk) (fun j hj hjk => h (j + 1) (by simpa using hj) (by omega)) (by simpa using hne)
      simp only [leadOf, h0, if_true, this]
      rw [if_neg (by omega)]
      omega

set_option maxHeartbeats 800000 in
theorem l01Lead_any (v : Value) (xs : List Int) (w : World) (h : L1 0 w v xs) (hm : xs.length ≤ 1048576) :
    Calls Try.prog 108 #[v] w (QW (.int .i64 (leadOf xs)) w) := by
  refine Sl.cases h (fun ad cap hx hv => ?_) (fun b o cap hv _ hpos hc => ?_)
  · subst hx hv
    go_enter Try.func108, Try.ntmps108
    go_wp2
    refine wp_loop_rounds 1 ?_
    rw [rounds_succ]
    go_wp2
    go_ret
    exact ⟨rfl, rfl⟩
  · subst hv
    clear h
    have HC := Lib.hid hc
    clear hc
    go_enter Try.func108, Try.ntmps108
    go_wp2
    go_loop [3] (fun i => ∃ (k : Nat), k ≤ xs.length ∧ i = .int .i64 k ∧ Hid (∀ j (h1 : j < xs.length), j < k → xs[j] = 0)) (fun i => xs.length - (intOf i).toNat)
    case atStart => exact ⟨0, Nat.zero_le _, rfl, Lib.hid (fun _ _ h => absurd h (Nat.not_lt_zero _))⟩
    case round =>
      obtain ⟨k, hk, rfl, HD⟩ := hrel
      by_cases hlt2 : k < xs.length
      · obtain ⟨u, hu, hr⟩ := HC.out k hlt2
        obtain ⟨x, hx⟩ : ∃ x, x = xs[k] := ⟨_, rfl⟩
        rw [hr, ← hx] at hu
        have HX := Lib.hid hx
        clear hx hr
        by_cases hxy : x = 0
        · subst hxy
          go_wp2
          go_round
          case rel => exact ⟨k + 1, by omega, by go_num, Lib.hid (fun j h1 hjk => by
            by_cases e : j = k
            · subst e; exact HX.out.symm
            · exact HD.out j h1 (by omega))⟩
          case measure => simp [intOf]; omega
        · have hq : (x != 0) = true := by simp [hxy]
          have hq2 : (x == 0) = false := by simp [hxy]
          have HXY := Lib.hid hxy
          clear hxy
          go_wp2
          go_ret
          exact ⟨ret_int (leadOf_at hlt2 HD.out (by rw [← HX.out]; exact HXY.out)).symm, rfl⟩
      · go_wp2
        go_ret
        exact ⟨ret_int (leadOf_zero (fun j hj => HD.out j hj (by omega))).symm, rfl⟩
end Go.Proofs.Ytlopenephgabhaa

namespace Go.Proofs.Ytlopenephgabhaa
open Go.RowKit

def apRow (p f : Int) (acc row : List Int) : List Int := List.zipWith (fun a x => (a + f * x) % p) acc row
/-- The sum of the first k numbers of v times the first k rows of t, modulo p. -/
def apTo (p : Int) (c : Nat) (v : List Int) (t : List (List Int)) : Nat → List Int
  | 0 => List.replicate c 0
  | k + 1 => apRow p (v.getD k 0) (apTo p c v t k) (t.getD k [])
def apT (p : Int) (c : Nat) (v : List Int) (t : List (List Int)) : List Int := apTo p c v t v.length

/-- What a table has to be for a vector of numbers modulo p. -/
structure ApOk (p : Int) (c : Nat) (v : List Int) (t : List (List Int)) : Prop where
  prime : IsP p
  len : v.length ≤ t.length
  nums : ∀ x ∈ v, 0 ≤ x ∧ x ≤ p - 1
  rows : ∀ r ∈ t, RowOk p c r

theorem getD_of_lt {α : Type} {xs : List α} {k : Nat} (d : α) (h : k < xs.length) : xs.getD k d = xs[k] := by simp [List.getD, h]

theorem ApOk.row {p : Int} {c : Nat} {v : List Int} {t : List (List Int)} (h : ApOk p c v t) {k : Nat} (hk : k < v.length) : RowOk p c (t.getD k []) := by
  have hl := h.len
  rw [getD_of_lt _ (by omega)]
  exact h.rows _ (List.getElem_mem _)
theorem ApOk.num {p : Int} {c : Nat} {v : List Int} {t : List (List Int)} (h : ApOk p c v t) {k : Nat} (hk : k < v.length) : 0 ≤ v.getD k 0 ∧ v.getD k 0 ≤ p - 1 := by
  rw [getD_of_lt _ hk]
  exact h.nums _ (List.getElem_mem _)

theorem apTo_length {p : Int} {c : Nat} {v : List Int} {t : List (List Int)} (h : ApOk p c v t) : ∀ {k : Nat}, k ≤ v.length → (apTo p c v t k).length = c := by
  intro k
  induction k with
  | zero => intro _; simp [apTo]
  | succ k ih =>
    intro hk
    have hr := (h.row (k := k) (by omega)).1
    simp only [apTo, apRow, List.length_zipWith, ih (by omega)]
    omega
theorem apTo_at {p : Int} {c : Nat} {v : List Int} {t : List (List Int)} (h : ApOk p c v t) {k q : Nat} (hk : k < v.length) (hq : q < c) :
    (apTo p c v t (k + 1)).getD q 0 = ((apTo p c v t k).getD q 0 + v.getD k 0 * (t.getD k []).getD q 0) % p := by
  have hr := (h.row hk).1
  have hl := apTo_length h (Nat.le_of_lt hk)
  have hl2 := apTo_length h (k := k + 1) hk
  have q2 : q < (t.getD k []).length := by omega
  have q1 : q < (apTo p c v t (k + 1)).length := by omega
  have q3 : q < (apTo p c v t k).length := by omega
  rw [getD_of_lt _ q1, getD_of_lt _ q2, getD_of_lt _ q3]
  simp only [apTo, apRow, List.getElem_zipWith]
theorem apTo_mod {p : Int} {c : Nat} {v : List Int} {t : List (List Int)} (h : ApOk p c v t) : ∀ {k : Nat}, k ≤ v.length → ∀ q, 0 ≤ (apTo p c v t k).getD q 0 ∧ (apTo p c v t k).getD q 0 ≤ p - 1 := by
  intro k hk q
  have hp0 := h.prime.lo
  by_cases hq : q < c
  · cases k with
    | zero => simp [apTo, List.getD, hq]; omega
    | succ k =>
      rw [apTo_at h (by omega) hq]
      have h1 := Int.emod_nonneg ((apTo p c v t k).getD q 0 + v.getD k 0 * (t.getD k []).getD q 0) (show p ≠ 0 by omega)
      have h2 := Int.emod_lt_of_pos ((apTo p c v t k).getD q 0 + v.getD k 0 * (t.getD k []).getD q 0) (show 0 < p by omega)
      omega
  · have hl := apTo_length h hk
    have : (apTo p c v t k).getD q 0 = 0 := by simp [List.getD, show (apTo p c v t k).length ≤ q by omega]
    rw [this]
    omega

/-- The row of sums while it is being made: k numbers of v are done, and of the next one the first q places. -/
def apCell (p : Int) (c : Nat) (v : List Int) (t : List (List Int)) (k q : Nat) : Nat → Value := fun j => .int .i64 (if j < q then (apTo p c v t (k + 1)).getD j 0 else (apTo p c v t k).getD j 0)
structure Ap (w wr : World) (ty : TypeId) (p : Int) (c : Nat) (v : List Int) (t : List (List Int)) (k q : Nat) : Prop where
  below : Below w.heap.size w wr
  row : wr.rowIs w.heap.size ty c (apCell p c v t k q)

theorem Ap.start (w : World) (ty : TypeId) (p : Int) (c : Nat) (v : List Int) (t : List (List Int)) : Ap w (w.alloc (.cells (madeCells #[.int .i64 0] c) ty)) ty p c v t 0 0 :=
  ⟨(Below.refl _ _).alloc (Nat.le_refl _) _, (World.rowIs_made w (.int .i64 0) c ty).congr (fun j hj => by simp [apCell, apTo, List.getD, hj])⟩
theorem Ap.drew {w wr : World} {ty : TypeId} {p : Int} {c : Nat} {v : List Int} {t : List (List Int)} {k q : Nat} (h : Ap w wr ty p c v t k q) : Ap w wr.drew ty p c v t k q := ⟨h.below.drew, h.row.drew⟩
theorem Ap.step {w wr : World} {ty : TypeId} {p : Int} {c : Nat} {v : List Int} {t : List (List Int)} {k q : Nat} (ok : ApOk p c v t) (h : Ap w wr ty p c v t k q) (hk : k < v.length) (hq : q < c) {x : Int}
    (hx : x = ((apTo p c v t k).getD q 0 + v.getD k 0 * (t.getD k []).getD q 0) % p) : Ap w (wr.setCell ⟨w.heap.size, q, none⟩ (.int .i64 x)) ty p c v t k (q + 1) := by
  refine ⟨h.below.setCell (Nat.le_refl _) _, (h.row.set q _).congr (fun j hj => ?_)⟩
  by_cases e : j = q
  · subst e
    simp only [apCell, if_true]
    rw [if_pos (Nat.lt_succ_self _), apTo_at ok hk hq, hx]
  · rw [if_neg e]
    simp only [apCell]
    by_cases h2 : j < q
    · rw [if_pos h2, if_pos (by omega)]
    · rw [if_neg h2, if_neg (by omega)]
theorem Ap.next {w wr : World} {ty : TypeId} {p : Int} {c : Nat} {v : List Int} {t : List (List Int)} {k : Nat} (h : Ap w wr ty p c v t k c) : Ap w wr ty p c v t (k + 1) 0 :=
  ⟨h.below, h.row.congr (fun j hj => by simp [apCell, hj])⟩
theorem Ap.cell {w wr : World} {ty : TypeId} {p : Int} {c : Nat} {v : List Int} {t : List (List Int)} {k q : Nat} (h : Ap w wr ty p c v t k q) (hq : q < c) :
    wr.cell? ⟨w.heap.size, q, none⟩ = some (.int .i64 ((apTo p c v t k).getD q 0)) := by
  have := h.row.cell hq
  simpa [apCell] using this
theorem Ap.done {w wr : World} {ty : TypeId} {p : Int} {c : Nat} {v : List Int} {t : List (List Int)} (ok : ApOk p c v t) (h : Ap w wr ty p c v t v.length 0) : L1 w.heap.size wr (.slice (some ⟨w.heap.size, 0, none⟩) c c) (apT p c v t) := by
  have hl := apTo_length ok (Nat.le_refl _)
  by_cases h0 : c = 0
  · subst h0
    exact Or.inl ⟨List.eq_nil_of_length_eq_zero hl, _, _, rfl⟩
  · refine Or.inr ⟨w.heap.size, 0, c, by rw [apT, hl], Nat.le_refl _, by rw [apT, hl]; omega, fun j hj => ⟨_, h.row.cell (by rw [apT, hl] at hj; omega), ?_⟩⟩
    have hj' : j < (apTo p c v t v.length).length := hj
    simp only [apCell, IsI, Nat.not_lt_zero, if_false, apT, Nat.zero_add]
    rw [getD_of_lt _ hj']

def ApR (p : Int) (c : Nat) (v : List Int) (t : List (List Int)) (w : World) (e : Ending) (w' : World) : Prop := ∃ u, e = .returned u ∧ L1 w.heap.size w' u (apT p c v t) ∧ Below w.heap.size w w'

set_option maxHeartbeats 1600000 in
theorem applyTable_any (p : Int) (c : Nat) (va vt : Value) (v : List Int) (t : List (List Int)) (w : World) (ok : ApOk p c v t) (ha : L1 0 w va v) (ht : L2 0 w vt t) (hv : v.length ≤ 1048576) (hc : c ≤ 1048576) :
    Calls Try.prog 97 #[.int .i64 p, va, vt, .int .i64 c] w (ApR p c v t w) := by
  have hmk := run_make_row' (P := Try.prog) 35 2 (.int .i64 0) 8 Try.underlying35 Try.infoI rfl .i64 .i64 c (by omega) (by omega)
  have hp0 := ok.prime.lo
  have hp1 := ok.prime.hi
  have OK := Lib.hid ok
  clear ok
  refine Sl.cases ha (fun ad cap hx hv' => ?_) (fun b o cap hv' _ hpos hcl => ?_)
  · subst hx hv'
    clear ha ht
    go_enter Try.func97, Try.ntmps97
    go_wp2
    refine wp_loop_rounds 1 ?_
    rw [rounds_succ]
    go_wp2
    go_ret
    exact ⟨_, rfl, Ap.done OK.out (Ap.start _ _ _ _ _ _), (Below.refl _ _).alloc (Nat.le_refl _) _⟩
  · refine Sl.cases ht (fun ad2 cap2 hx2 hv2 => absurd OK.out.len (by subst hx2; simp only [List.length_nil]; omega)) (fun b2 o2 cap2 hv2 _ hpos2 hcl2 => ?_)
    subst hv' hv2
    clear ha ht
    have hlen := OK.out.len
    have HC := Lib.hid hcl
    have HC2 := Lib.hid hcl2
    clear hcl hcl2
    go_enter Try.func97, Try.ntmps97
    go_wp2
    clear hmk
    go_loopw [18] (fun i wr => ∃ (k : Nat), k ≤ v.length ∧ i = .int .i64 k ∧ Ap w wr 2 p c v t k 0) (fun i _ => v.length - (intOf i).toNat)
    case atStart => exact ⟨0, Nat.zero_le _, rfl, Ap.start _ _ _ _ _ _⟩
    case round =>
      obtain ⟨k, hk, rfl, HA⟩ := hrel
      by_cases hlt2 : k < v.length
      · have hlt3 : k < t.length := by omega
        obtain ⟨u, hu, hr⟩ := HC.out k hlt2
        obtain ⟨u2, hu2, hr2⟩ := HC2.out k hlt3
        have hnum := OK.out.num hlt2
        have hrow := OK.out.row hlt2
        rw [getD_of_lt _ hlt2] at hnum
        rw [getD_of_lt _ hlt3] at hrow
        obtain ⟨f, hf⟩ : ∃ f, f = v[k] := ⟨_, rfl⟩
        obtain ⟨ys, hy⟩ : ∃ ys, ys = t[k] := ⟨_, rfl⟩
        rw [← hf] at hnum
        rw [← hy] at hrow hr2
        obtain ⟨hf0, hf1⟩ := hnum
        have hu' : wr.cell? ⟨b, o + k, none⟩ = some (.int .i64 f) := by rw [HA.below.cell (p := ⟨b, o + k, none⟩) (cell_lt hu), hu, hr, hf]
        have hu2' : wr.cell? ⟨b2, o2 + k, none⟩ = some u2 := by rw [HA.below.cell (p := ⟨b2, o2 + k, none⟩) (cell_lt hu2), hu2]
        have HF := Lib.hid hf
        have HY := Lib.hid hy
        have HROW := Lib.hid hrow
        have HA' := Lib.hid HA
        clear hf hy hrow HA hu hr hu2
        refine Sl.cases hr2 (fun ad3 cap3 hx3 hv3 => ?_) (fun b3 o3 cap3 hv3 _ hpos3 hcl3 => ?_)
        · subst hv3
          have hc0 : Hid (c = 0) := Lib.hid (by have := HROW.out.1; rw [hx3] at this; simpa using this.symm)
          clear hx3 hr2
          go_wp2
          refine wp_loop_rounds 1 ?_
          rw [rounds_succ]
          go_wp2
          go_roundw
          case rel => exact ⟨k + 1, by omega, by go_num, Ap.next (by rw [hc0.out]; have := HA'.out; rwa [hc0.out] at this)⟩
          case measure => simp [intOf]; omega
        · subst hv3
          have hyc : ys.length = c := by have := HROW.out.1; omega
          have HYC := Lib.hid hyc
          have HC3 := Lib.hid hcl3
          clear hyc hr2 hcl3
          obtain ⟨wo, hwo⟩ : ∃ wo : World, wo = wr := ⟨_, rfl⟩
          have HWO := Lib.hid hwo
          clear hwo
          go_wp2
          go_loopw [28] (fun i wr => ∃ (q : Nat), q ≤ ys.length ∧ i = .int .i64 q ∧ Ap w wr 2 p c v t k q) (fun i _ => ys.length - (intOf i).toNat)
          case atStart => exact ⟨0, Nat.zero_le _, rfl, HA'.out⟩
          case round =>
            obtain ⟨q, hq, rfl, HB⟩ := hrel
            by_cases hlt4 : q < ys.length
            · have hqc : q < c := by have := HYC.out; omega
              obtain ⟨u3, hu3, hr3⟩ := HC3.out q hlt4
              have hx := HROW.out.2 _ (List.getElem_mem hlt4)
              obtain ⟨x, hxx⟩ : ∃ x, x = ys[q] := ⟨_, rfl⟩
              obtain ⟨a, haa⟩ : ∃ a, a = (apTo p c v t k).getD q 0 := ⟨_, rfl⟩
              have hab := apTo_mod OK.out (Nat.le_of_lt hlt2) q
              have hac := HB.cell hqc
              have hfz := HB.row.frozen q
              rw [← haa] at hab hac
              rw [← hxx] at hx
              obtain ⟨hx0, hx1⟩ := hx
              obtain ⟨ha0, ha1⟩ := hab
              have hu3' : wr.cell? ⟨b3, o3 + q, none⟩ = some (.int .i64 x) := by rw [HB.below.cell (p := ⟨b3, o3 + q, none⟩) (cell_lt hu3), hu3, hr3, hxx]
              have m0 : 0 ≤ f * x := Int.mul_nonneg hf0 hx0
              have m1 : f * x ≤ 36 := Int.le_trans (Int.mul_le_mul (show f ≤ 6 by omega) (show x ≤ 6 by omega) hx0 (by omega)) (by omega)
              have HS := Lib.hid (HB.step OK.out hlt2 hqc (x := (a + f * x) % p) (by rw [haa, HF.out, hxx, getD_of_lt _ hlt2, getD_of_lt _ hlt3, ← HY.out, getD_of_lt _ hlt4]))
              clear HB hu3 hr3 haa hxx
              go_wp2
              go_roundw
              case rel => exact ⟨q + 1, by omega, by go_num, HS.out⟩
              case measure => simp [intOf]; omega
            · have HB' := Lib.hid HB
              have hqc : Hid (q = c) := Lib.hid (by have := HYC.out; omega)
              clear HB
              go_wp2
              go_roundw
              case rel => exact ⟨k + 1, by omega, by go_num, Ap.next (by have := HB'.out; rwa [hqc.out] at this)⟩
              case measure => simp [intOf]; omega
      · have hkk : k = v.length := by omega
        subst hkk
        have HA' := Lib.hid HA
        clear HA
        go_wp2
        go_ret
        exact ⟨_, rfl, Ap.done OK.out HA'.out, HA'.out.below⟩
end Go.Proofs.Ytlopenephgabhaa

namespace Go.Proofs.Ytlopenephgabhaa
open Go.RowKit

set_option maxHeartbeats 3200000 in
theorem l01Apply_any (p : Int) (c : Nat) (va vt : Value) (v : List Int) (t : List (List Int)) (w : World) (ok : ApOk p c v t) (ha : L1 0 w va v) (ht : L2 0 w vt t) (hv : v.length ≤ 1048576) (hc : c ≤ 1048576) :
    Calls Try.prog 109 #[.int .i64 p, vt, va, .int .i64 c] w (ApR p c v t w) := by
  have hmk := run_make_row' (P := Try.prog) 35 2 (.int .i64 0) 8 Try.underlying35 Try.infoI rfl .i64 .i64 c (by omega) (by omega)
  have hp0 := ok.prime.lo
  have hp1 := ok.prime.hi
  have OK := Lib.hid ok
  clear ok
  refine Sl.cases ha (fun ad cap hx hv' => ?_) (fun b o cap hv' _ hpos hcl => ?_)
  · subst hx hv'
    clear ha ht
    go_enter Try.func109, Try.ntmps109
    go_wp2
    refine wp_loop_rounds 1 ?_
    rw [rounds_succ]
    go_wp2
    go_ret
    exact ⟨_, rfl, Ap.done OK.out (Ap.start _ _ _ _ _ _), (Below.refl _ _).alloc (Nat.le_refl _) _⟩
  · refine Sl.cases ht (fun ad2 cap2 hx2 hv2 => absurd OK.out.len (by subst hx2; simp only [List.length_nil]; omega)) (fun b2 o2 cap2 hv2 _ hpos2 hcl2 => ?_)
    subst hv' hv2
    clear ha ht
    have hlen := OK.out.len
    have HC := Lib.hid hcl
    have HC2 := Lib.hid hcl2
    clear hcl hcl2
    go_enter Try.func109, Try.ntmps109
    go_wp2
    clear hmk
    go_loopw [10, 11] (fun i _ wr => ∃ (k : Nat), k ≤ v.length ∧ i = .int .i64 k ∧ Ap w wr 2 p c v t k 0) (fun i _ _ => v.length - (intOf i).toNat)
    case atStart => exact ⟨0, Nat.zero_le _, rfl, Ap.start _ _ _ _ _ _⟩
    case round =>
      obtain ⟨k, hk, rfl, HA⟩ := hrel
      by_cases hlt2 : k < v.length
      · have hlt3 : k < t.length := by omega
        obtain ⟨u, hu, hr⟩ := HC.out k hlt2
        obtain ⟨u2, hu2, hr2⟩ := HC2.out k hlt3
        have hnum := OK.out.num hlt2
        have hrow := OK.out.row hlt2
        rw [getD_of_lt _ hlt2] at hnum
        rw [getD_of_lt _ hlt3] at hrow
        obtain ⟨f, hf⟩ : ∃ f, f = v[k] := ⟨_, rfl⟩
        obtain ⟨ys, hy⟩ : ∃ ys, ys = t[k] := ⟨_, rfl⟩
        rw [← hf] at hnum
        rw [← hy] at hrow hr2
        obtain ⟨hf0, hf1⟩ := hnum
        have HU : Hid (w.cell? ⟨b, o + k, none⟩ = some (.int .i64 f)) := Lib.hid (by rw [hu, hr, hf])
        have HU2 := Lib.hid hu2
        have HF := Lib.hid hf
        have HY := Lib.hid hy
        have HROW := Lib.hid hrow
        have HR2 := Lib.hid hr2
        have HA' := Lib.hid HA
        clear hf hy hrow HA hu hr hu2 hr2
        obtain ⟨wo, hwo⟩ : ∃ wo : World, wo = wr := ⟨_, rfl⟩
        have HWO := Lib.hid hwo
        clear hwo
        go_wp2
        go_loopw [11] (fun i wr => ∃ (q : Nat), q ≤ c ∧ i = .int .i64 q ∧ Ap w wr 2 p c v t k q) (fun i _ => c - (intOf i).toNat)
        case atStart => exact ⟨0, Nat.zero_le _, rfl, HA'.out⟩
        case round =>
          obtain ⟨q, hq, rfl, HB⟩ := hrel
          by_cases hlt4 : q < c
          · have hl5 : q < ys.length := by have := HROW.out.1; omega
            refine Sl.cases HR2.out (fun ad3 cap3 hx3 hv3 => absurd hl5 (by subst hx3; simp)) (fun b3 o3 cap3 hv3 _ hpos3 hcl3 => ?_)
            obtain ⟨u3, hu3, hr3⟩ := hcl3 q hl5
            have hx := HROW.out.2 _ (List.getElem_mem hl5)
            obtain ⟨x, hxx⟩ : ∃ x, x = ys[q] := ⟨_, rfl⟩
            obtain ⟨a, haa⟩ : ∃ a, a = (apTo p c v t k).getD q 0 := ⟨_, rfl⟩
            have hab := apTo_mod OK.out (Nat.le_of_lt hlt2) q
            have hac := HB.cell hlt4
            have hfz := HB.row.frozen q
            rw [← haa] at hab hac
            rw [← hxx] at hx
            obtain ⟨hx0, hx1⟩ := hx
            obtain ⟨ha0, ha1⟩ := hab
            have hu' : wr.cell? ⟨b, o + k, none⟩ = some (.int .i64 f) := by rw [HB.below.cell (p := ⟨b, o + k, none⟩) (cell_lt HU.out)]; exact HU.out
            have hu2' : wr.cell? ⟨b2, o2 + k, none⟩ = some (.slice (some ⟨b3, o3, none⟩) ys.length cap3) := by rw [HB.below.cell (p := ⟨b2, o2 + k, none⟩) (cell_lt HU2.out)]; rw [HU2.out, hv3]
            have hu3' : wr.cell? ⟨b3, o3 + q, none⟩ = some (.int .i64 x) := by rw [HB.below.cell (p := ⟨b3, o3 + q, none⟩) (cell_lt hu3), hu3, hr3, hxx]
            have m0 : 0 ≤ f * x := Int.mul_nonneg hf0 hx0
            have m1 : f * x ≤ 36 := Int.le_trans (Int.mul_le_mul (show f ≤ 6 by omega) (show x ≤ 6 by omega) hx0 (by omega)) (by omega)
            have HS := Lib.hid (HB.step OK.out hlt2 hlt4 (x := (a + f * x) % p) (by rw [haa, HF.out, hxx, getD_of_lt _ hlt2, getD_of_lt _ hlt3, ← HY.out, getD_of_lt _ hl5]))
            clear HB hu3 hr3 haa hxx hv3 hcl3
            go_wp2
            go_region
            all_goals go_wp2
            all_goals go_roundw
            case rel => exact ⟨q + 1, by omega, by go_num, HS.out.drew⟩
            case measure => simp [intOf]; omega
          · have HB' := Lib.hid HB
            have hqc : Hid (q = c) := Lib.hid (by omega)
            clear HB
            go_wp2
            go_roundw
            case rel => exact ⟨k + 1, by omega, by go_num, Ap.next (by have := HB'.out; rwa [hqc.out] at this)⟩
            case measure => simp [intOf]; omega
      · have hkk : k = v.length := by omega
        subst hkk
        have HA' := Lib.hid HA
        clear HA
        go_wp2
        go_ret
        exact ⟨_, rfl, Ap.done OK.out HA'.out, HA'.out.below⟩
end Go.Proofs.Ytlopenephgabhaa

namespace Go.Proofs.Ytlopenephgabhaa
open Go.RowKit

def ints (zs : List Int) : Array Value := (zs.map (Value.int .i64)).toArray
theorem ints_size (zs : List Int) : (ints zs).size = zs.length := by simp [ints]
theorem ints_at {zs : List Int} {i : Nat} (h : i < zs.length) : (ints zs)[i]? = some (.int .i64 zs[i]) := by simp [ints, h]

section
variable {P : Program}
theorem run_part_int (w : World) {e : TypeId} (he : P.underlying e = some (.int .i64)) (cs : Array Value) (i : Nat) (v : Value) (h : cs[i]? = some v) : (part e cs i).run P w = .ok v w := by
  simp [part, isAgg, run_underlying he, h]

/-- Equality place by place is equality of lists. -/
theorem ints_agree {zs ys : List Int} (h : zs.length = ys.length) : (∀ i ∈ List.range' 0 zs.length 1, zs.getD i 0 = ys.getD i 0) ↔ zs = ys := by
  constructor
  · intro hall
    refine List.ext_getElem h fun i h1 h2 => ?_
    have := hall i (by simpa using h1)
    simpa [List.getD, h1, h2] using this
  · intro e i _
    rw [e]

theorem run_equalIn_ints (w : World) (d : Nat) {t e : TypeId} {n : Nat} (zs ys : List Int) (ht : P.underlying t = some (.array n e)) (he : P.underlying e = some (.int .i64)) (hz : (P.info? e).map (·.size) = some 1)
    (h1 : zs.length = n) (h2 : ys.length = n) : (Op.equalIn (d + 2) t (.agg (ints zs)) (.agg (ints ys))).run P w = .ok (decide (zs = ys)) w := by
  obtain ⟨inf, hi, hs⟩ := Option.map_eq_some_iff.1 hz
  have hsz : (sizeOf e).run P w = .ok 1 w := by simp [sizeOf, typeInfo, hi, hs]
  have key := ints_agree (h1.trans h2.symm)
  rw [h1] at key
  have hd : decide (zs = ys) = decide (∀ i ∈ List.range' 0 n 1, zs.getD i 0 = ys.getD i 0) := by
    by_cases hq : zs = ys
    · rw [decide_eq_true hq, decide_eq_true (key.2 hq)]
    · rw [decide_eq_false hq, decide_eq_false (fun hh => hq (key.1 hh))]
  have hr : ∀ i ∈ List.range' 0 n 1, i < zs.length ∧ i < ys.length := fun i hm => by
    have := (List.mem_range'_1.1 hm).2
    omega
  rw [hd, Op.equalIn]
  simp only [Sem.run_bind, run_underlying ht, Result.andThen_ok, hsz, Std.Legacy.Range.forIn_eq_forIn_range', Std.Legacy.Range.size, Nat.sub_zero, Nat.add_sub_cancel, Nat.div_one, Nat.mul_one]
  clear hd key
  generalize List.range' 0 n 1 = l at hr ⊢
  induction l with
  | nil => simp
  | cons i l ih =>
    obtain ⟨hi1, hi2⟩ := hr i (List.mem_cons_self ..)
    have hh : (Op.equalIn (d + 1) e (.int .i64 (zs.getD i 0)) (.int .i64 (ys.getD i 0))).run P w = .ok (zs.getD i 0 == ys.getD i 0) w := run_equalIn_int w d e .i64 .i64 _ _ he
    have ha := run_part_int w he (ints zs) i (.int .i64 (zs.getD i 0)) (by rw [ints_at hi1]; simp [List.getD, hi1])
    have hb := run_part_int w he (ints ys) i (.int .i64 (ys.getD i 0)) (by rw [ints_at hi2]; simp [List.getD, hi2])
    have hnext := ih (fun j hj => hr j (List.mem_cons_of_mem _ hj))
    simp only [List.forIn_cons, Sem.run_bind, ha, hb, hh, Result.andThen_ok]
    by_cases hq : zs.getD i 0 = ys.getD i 0
    · rw [beq_iff_eq.2 hq]
      simp only [Bool.not_true, Bool.false_eq_true, if_false, Sem.run_pure, Result.andThen_ok]
      rw [hnext]
      simp only [List.forall_mem_cons, hq, true_and]
    · rw [beq_eq_false_iff_ne.2 hq]
      simp only [Bool.not_false, if_true, Sem.run_pure, Result.andThen_ok, List.forall_mem_cons, hq, false_and, decide_false]

theorem run_neq_ints (w : World) {t e : TypeId} {n : Nat} (zs ys : List Int) (ht : P.underlying t = some (.array n e)) (he : P.underlying e = some (.int .i64)) (hz : (P.info? e).map (·.size) = some 1)
    (h1 : zs.length = n) (h2 : ys.length = n) : (binOp .neq t (.agg (ints zs)) (.agg (ints ys))).run P w = .ok (.bool (!decide (zs = ys))) w := by
  rw [run_neq_struct, run_equalIn_ints w 9998 zs ys ht he hz h1 h2]
  rfl
end
end Go.Proofs.Ytlopenephgabhaa

namespace Go.Proofs.Ytlopenephgabhaa
open Go.RowKit

def zl : List Value := List.replicate 40 (.int .i64 0)
theorem zl_length : zl.length = 40 := by simp [zl]
/-- A row with zeros behind it, MaxRows numbers in all. -/
def pad (v : List Int) : List Int := v ++ List.replicate (40 - v.length) 0
theorem pad_length {v : List Int} (h : v.length ≤ 40) : (pad v).length = 40 := by simp [pad]; omega
theorem pad_splice (v : List Int) : (splice zl 0 (v.map (Value.int .i64))).toArray = ints (pad v) := by
  have e : zl = (List.replicate 40 (0 : Int)).map (Value.int .i64) := by simp [zl]
  have h2 : List.drop v.length (List.replicate 40 (0 : Int)) = List.replicate (40 - v.length) 0 := List.drop_replicate ..
  rw [e]
  simp only [splice, ints, pad, List.take_zero, List.nil_append, Nat.zero_add, List.length_map, ← List.map_drop, h2, List.map_append]
theorem pad_zero {v : List Int} (h : v.length ≤ 40) : pad v = List.replicate 40 0 ↔ ∀ x ∈ v, x = 0 := by
  constructor
  · intro e x hx
    have : x ∈ pad v := by simp [pad, hx]
    rw [e] at this
    exact List.eq_of_mem_replicate this
  · intro hall
    refine List.eq_replicate_iff.2 ⟨pad_length h, fun x hx => ?_⟩
    rcases List.mem_append.1 hx with h1 | h1
    · exact hall x h1
    · exact List.eq_of_mem_replicate h1

theorem Try.underlyingV : Try.prog.underlying 104 = some (.array 40 2) := by kernel_rfl
theorem Try.infoV : (Try.prog.info? 104).map (·.size) = some 40 := by kernel_rfl
theorem Try.infoI1 : (Try.prog.info? 2).map (·.size) = some 1 := by kernel_rfl

set_option maxRecDepth 100000 in
theorem hmk40 : ∀ w, (Instr.makeSlice 35 (.int .i64 40) (.int .i64 40)).run Try.prog w = .ok (.slice (some ⟨w.heap.size, 0, none⟩) 40 40) (w.alloc (.cells zl.toArray 2)) := fun w => by
  have h := run_make_row' (P := Try.prog) 35 2 (.int .i64 0) 8 Try.underlying35 Try.infoI rfl .i64 .i64 40 (by omega) (by omega) w
  have e : madeCells #[.int .i64 0] 40 = zl.toArray := by kernel_rfl
  rw [e] at h
  exact h

theorem below_two (w : World) (A B : Obj) : Below w.heap.size w ((w.alloc A).alloc B) := ((Below.refl _ _).alloc (Nat.le_refl _) _).alloc (by simp) _
theorem below_second (w : World) (A B : Obj) : Below (w.heap.size + 1) (w.alloc A) ((w.alloc A).alloc B) := (Below.refl _ _).alloc (by simp) _
def AR (a : Array Value) (w : World) (e : Ending) (w' : World) : Prop := e = .returned (.agg a) ∧ Below w.heap.size w w'

set_option maxHeartbeats 3200000 in
set_option maxRecDepth 100000 in
theorem vectorOf_any (va : Value) (v : List Int) (w : World) (ha : L1 0 w va v) (hv : v.length ≤ 40) :
    Calls Try.prog 98 #[va] w (AR (ints (pad v)) w) := by
  have hmk := hmk40
  have hat : ∀ (g : Nat) w, (Instr.arrayAt 104 (.slice (some ⟨g, 0, none⟩) 40 40)).run Try.prog w = .ok (.pointer (some ⟨g, 0, none⟩)) w := fun g w => run_arrayAt w _ _ 40 _ 40 40 Try.underlyingV (Nat.le_refl _)
  have hres : Try.f98.results = #[.cell 2 104] := by kernel_rfl
  have HRES := Lib.hid hres
  clear hres
  obtain ⟨cs, hcs⟩ : ∃ cs, cs = v.map (Value.int .i64) := ⟨_, rfl⟩
  have hcl : cs.length = v.length := by rw [hcs]; simp
  have hsp : (splice zl 0 cs).toArray = ints (pad v) := by rw [hcs]; exact pad_splice v
  have hone : ∀ u ∈ cs, u.oneCell' = true := by rw [hcs]; exact ints_oneCell _ _
  have hsrc : ∃ ad cap, va = .slice ad v.length cap ∧ (0 < cs.length → ∃ a, ad = some a ∧ ∀ j u, cs[j]? = some u → w.cell? (a.add j) = some u) := by
    refine Sl.cases ha (fun ad cap hx hv' => ⟨ad, cap, by subst hx; exact hv', fun h0 => by rw [hcl, hx] at h0; simp at h0⟩) (fun b o cap hv' _ hpos hc => ⟨_, cap, hv', fun _ => ⟨_, rfl, fun j u hu => ?_⟩⟩)
    have hj : j < v.length := by rw [← hcl]; exact (List.getElem?_eq_some_iff.1 hu).1
    obtain ⟨u2, h2, h3⟩ := hc j hj
    rw [Addr.add_lit, h2, h3]
    rw [hcs] at hu
    simp [hj] at hu
    rw [hu]
  obtain ⟨ad, cap, rfl, hpos⟩ := hsrc
  have HN : Hid (cs.length = Nat.min v.length 40) := Lib.hid (by rw [hcl]; exact (Nat.min_eq_left hv).symm)
  have HFIT : Hid (0 + cs.length ≤ zl.length) := Lib.hid (by rw [zl_length]; omega)
  have HPOS : Hid (∀ W, Below w.heap.size w W → 0 < cs.length → some (⟨w.heap.size + 1, 0, none⟩ : Addr) = some ⟨w.heap.size + 1, 0, none⟩ ∧ ∃ a, ad = some a ∧ ∀ j u, cs[j]? = some u → W.cell? (a.add j) = some u) := Lib.hid (fun W hb h0 => by
    obtain ⟨a, h1, h2⟩ := hpos h0
    refine ⟨rfl, a, h1, fun j u hu => ?_⟩
    have h3 := h2 j u hu
    rw [hb.cell (World.block_lt_of_cell? _ _ h3), h3])
  have HSP := Lib.hid hsp
  have HONE := Lib.hid hone
  have HPAD : Hid ((Try.prog.info? 104).map (·.size) = some (ints (pad v)).size) := Lib.hid (by rw [ints_size, pad_length hv]; exact Try.infoV)
  have HALL : Hid ((ints (pad v)).all (·.oneCell') = true) := Lib.hid (by simp [ints, Value.oneCell'])
  clear hcl hsp hone hpos hcs ha
  go_enter Try.func98, Try.ntmps98
  go_wp2_with (with_reducible refine wpList_copy_splice rfl (.tmp 5) (.tmp 6) 35 35 rfl 2 Try.underlying35 Try.infoI1 (some ⟨w.heap.size + 1, 0, none⟩) ad 40 40 v.length cap rfl rfl (w.heap.size + 1) 0 zl 2 (heap_alloc2_new _ _ _) cs HN.out (HPOS.out _ (below_two _ _ _)) HFIT.out HONE.out (w.heap.size + 1) _ (below_second _ _ _) (Nat.le_refl _) ?_)
  intro w2 HG2 hB2
  have hzz : ∃ old : Array Value, old.size = 40 ∧ w2.heap[w.heap.size]? = some (.cells old 104 (0, 0)) := by
    refine ⟨_, ?_, (hB2.block _ (Nat.lt_succ_self _)).trans (heap_alloc_new _ _)⟩
    rfl
  obtain ⟨old, hold, hz⟩ := hzz
  have hbel : Below w.heap.size w w2 := ((Below.refl _ _).alloc (Nat.le_refl _) _).trans (hB2.mono (Nat.le_succ _))
  have hg2 : w2.heap[w.heap.size + 1]? = some (.cells (ints (pad v)) 2 (0, 0)) := by rw [← HSP.out]; exact HG2.out
  have HZ := Lib.hid hz
  have HB := Lib.hid hbel
  have HOLD := Lib.hid hold
  have HG := Lib.hid hg2
  have HOS : Hid (old.size = (ints (pad v)).size) := Lib.hid (by rw [hold, ints_size, pad_length hv])
  clear hz hbel hold hg2 HG2 hB2
  go_wp2_with (first | (with_reducible refine wpList_load_row rfl 104 (.tmp 9) rfl (w.heap.size + 1) rfl 2 (ints (pad v)) (0, 0) _ HG.out Try.underlyingV rfl HPAD.out ?_) | (with_reducible refine wpList_store_row rfl 104 (.tmp 2) (.tmp 10) rfl w.heap.size (ints (pad v)) rfl rfl 104 old HZ.out HPAD.out HOS.out HALL.out ?_))
  exact bodyPost_ret (v := .agg (ints (pad v))) (results_cell_row HRES.out _ _ w.heap.size 104 (ints (pad v)) (0, 0) _ rfl (setRow_heap _ _ _ _ _ _ HZ.out) Try.underlyingV rfl HPAD.out) rfl ⟨rfl, below_setRow HB.out (Nat.le_refl _) _⟩
end Go.Proofs.Ytlopenephgabhaa

namespace Go.Proofs.Ytlopenephgabhaa
open Go.RowKit

section
variable {P : Program} {ops : Array Oper} {Q : Exit → Act → World → Prop} {md : Region.Mode} {S : World → Prop} {n : Nat}

/-- The last operation, taken out: it waits as it did and does nothing. -/
def calmOp (o : Oper) : Oper := { o with op := .move (.const (.bool false)), dst := none }
/-- What is owed where all others have come up: the last one. -/
def lastQ (P : Program) (ops : Array Oper) (n : Nat) (Q : Exit → Act → World → Prop) : Exit → Act → World → Prop
  | .normal, a, w => wpOp P ops Q n (fun a' w' => Q .normal a' w') a w
  | e, a, w => Q e a w
structure LastOk (md : Region.Mode) (ops : Array Oper) (n : Nat) (on : Oper) : Prop where
  at' : ops[n]? = some on
  size : n + 1 = ops.size
  guard : ∀ (j : Nat) (oj : Oper), ops[j]? = some oj → oj.guard = none
  ord : ∀ (j : Nat) (oj : Oper), ops[j]? = some oj → ∀ e : Edge, e ∈ oj.after → e.on < j
  last : ∀ j, j < n → ∃ e : Edge, e ∈ on.after ∧ Region.binds md e = true ∧ e.on = j

theorem calm_get {on : Oper} (h : LastOk md ops n on) (i : Nat) : (ops.setIfInBounds n (calmOp on))[i]? = if i = n then some (calmOp on) else ops[i]? := by
  have := h.size
  by_cases e : i = n
  · subst e
    rw [if_pos rfl, Array.getElem?_setIfInBounds_self_of_lt (by omega)]
  · rw [if_neg e, Array.getElem?_setIfInBounds_ne (fun h => e h.symm)]
theorem calm_ready {on : Oper} (h : LastOk md ops n on) (listed : Array Bool) : Region.ready md (ops.setIfInBounds n (calmOp on)) listed = Region.ready md ops listed := by
  unfold Region.ready
  rw [Array.size_setIfInBounds]
  refine List.filter_congr fun i _ => ?_
  rw [calm_get h]
  by_cases e : i = n
  · subst e
    rw [if_pos rfl, h.at']
    rfl
  · rw [if_neg e]
theorem getD_same {listed : Array Bool} {i : Nat} (h : i < listed.size) (x y : Bool) : listed.getD i x = listed.getD i y := by simp [h]
theorem least_unlisted {listed : Array Bool} : ∀ k, listed.getD k true = false → ∃ m, m ≤ k ∧ listed.getD m true = false ∧ ∀ j, j < m → listed.getD j true = true := by
  intro k
  induction k using Nat.strongRecOn with
  | ind k ih =>
    intro hk
    by_cases hx : ∃ j, j < k ∧ listed.getD j true = false
    · obtain ⟨j, hj, h0⟩ := hx
      obtain ⟨m, h1, h2⟩ := ih j hj h0
      exact ⟨m, by omega, h2⟩
    · exact ⟨k, Nat.le_refl _, hk, fun j hj => by
        cases hb : listed.getD j true with
        | true => rfl
        | false => exact absurd ⟨j, hj, hb⟩ hx⟩
theorem ready_some {on : Oper} (h : LastOk md ops n on) {listed : Array Bool} (hs : listed.size = ops.size) (hn : listed.getD n true = false) : Region.ready md ops listed ≠ [] := by
  obtain ⟨m, hm, h0, h1⟩ := least_unlisted n hn
  have hlt : m < ops.size := by have := h.size; omega
  intro e
  have : m ∈ Region.ready md ops listed := mem_ready.2 ⟨h0, ops[m], Array.getElem?_eq_getElem hlt, fun x hx _ => by
    have hx2 := h.ord m ops[m] (Array.getElem?_eq_getElem hlt) x hx
    rw [getD_same (by omega) false true]
    exact h1 _ hx2⟩
  rw [e] at this
  cases this
theorem last_ready {on : Oper} (h : LastOk md ops n on) {listed : Array Bool} (hs : listed.size = ops.size) (hr : n ∈ Region.ready md ops listed) : ∀ j, j < ops.size → (listed.setIfInBounds n true).getD j true = true := by
  intro j hj
  by_cases e : j = n
  · subst e
    simp [hs, hj]
  · obtain ⟨x, hx, hb, he⟩ := h.last j (by have := h.size; omega)
    obtain ⟨_, oj, hoj, hall⟩ := mem_ready.1 hr
    rw [h.at'] at hoj
    injection hoj with hoj
    subst hoj
    have h2 := hall x hx hb
    rw [he] at h2
    rw [getD_set_ne true (fun h => e h.symm), getD_same (by omega) true false]
    exact h2
theorem ready_none {listed : Array Bool} (hall : ∀ j, j < ops.size → listed.getD j true = true) : Region.ready md ops listed = [] := by
  refine List.eq_nil_iff_forall_not_mem.2 fun i hi => ?_
  obtain ⟨h0, oj, hoj, _⟩ := mem_ready.1 hi
  have := hall i (Array.getElem?_eq_some_iff.1 hoj).1
  rw [this] at h0
  cases h0
theorem wp_of_last {o : Oper} {a : Act} {w : World} {K K' : Act → World → Prop} (h : ∀ a w, K a w → K' a w) (hh : o.wp P a w K (lastQ P ops n Q)) : o.wp P a w K' Q := by
  unfold Oper.wp at *
  generalize (execOp a.eval o).run P w = r at *
  cases r with
  | ok x w' =>
    cases x <;> simp only [Oper.upon] at hh ⊢ <;>
      first
        | exact h _ _ hh
        | exact Calls.mono hh (fun e w'' he => by cases e <;> first | exact h _ _ he | exact he)
        | exact Rows.mono hh (fun _ _ he => h _ _ he)
  | halt x w' => cases x <;> simp only [Oper.upon] at hh ⊢ <;> exact hh
theorem held_normal {Q' : Exit → Act → World → Prop} {ops' : Array Oper} {listed : Array Bool} {a : Act} {w : World} (hr : Region.ready md ops' listed = []) : ∀ fuel, wpAnyH P md ops' Q' S fuel listed a w → Q' .normal a w
  | 0, h => h.2
  | _ + 1, h => h.1 hr

theorem any_of_calm {on : Oper} (h : LastOk md ops n on) : ∀ (fuel : Nat) (listed : Array Bool) (a : Act) (w : World), listed.size = ops.size → listed.getD n true = false →
    wpAnyH P md (ops.setIfInBounds n (calmOp on)) (lastQ P ops n Q) S fuel listed a w → wpAny P md ops Q fuel listed a w := by
  intro fuel
  induction fuel with
  | zero =>
    intro listed a w hs hn hh
    have h0 := hh.1
    rw [calm_ready h] at h0
    exact absurd h0 (ready_some h hs hn)
  | succ fuel ih =>
    intro listed a w hs hn hh
    have hne := ready_some h hs hn
    refine ⟨fun e => absurd e hne, fun i hi => ?_⟩
    have h1 := hh.2 i (by rw [calm_ready h]; exact hi)
    obtain ⟨hi0, oi, hoi, _⟩ := mem_ready.1 hi
    have hw : ∀ (o : Oper) (f : Nat → Option Bool), o.guard = none → Region.wanted o f = true := fun o f hg => by unfold Region.wanted; rw [hg]
    by_cases e : i = n
    · subst e
      have hall := last_ready h hs hi
      unfold wpOp at h1
      rw [calm_get h, if_pos rfl] at h1
      have hg : (calmOp on).guard = none := h.guard i on h.at'
      simp only [hw _ _ hg, if_true] at h1
      have h2 : S w ∧ wpAnyH P md (ops.setIfInBounds i (calmOp on)) (lastQ P ops i Q) S fuel (listed.setIfInBounds i true) a w := by
        rcases h1 with h1 | h1
        · exact h1
        · exact absurd h1.1.1 (by
            have : (execOp a.eval (calmOp on)).runT P w #[] = (.ok (.value (.bool false)) w, #[]) := rfl
            rw [this]
            exact Array.not_mem_empty _)
      have h3 := held_normal (by rw [calm_ready h]; exact ready_none hall) _ h2.2
      exact wpOp_mono (fun a' w' hq => wpAny_done (ready_none hall) hq _) h3
    · unfold wpOp at h1 ⊢
      rw [calm_get h, if_neg e, hoi] at h1
      rw [hoi]
      have hg := h.guard _ _ hoi
      simp only [hw _ _ hg, if_true] at h1 ⊢
      refine h1.imp (wp_of_last fun a' w' hk => ih _ _ _ (by simpa using hs) ?_ hk.2) (fun hx => ⟨hx.1, hx.2⟩)
      rw [getD_set_ne true e]
      exact hn

/-- The conditions as one Bool. -/
def lastB (md : Region.Mode) (ops : Array Oper) (n : Nat) : Bool :=
  decide (n + 1 = ops.size) && (List.range ops.size).all (fun j => match ops[j]? with | some o => o.guard.isNone && o.after.all (fun e => decide (e.on < j)) | none => true) &&
  (match ops[n]? with | some o => (List.range n).all (fun j => o.after.any fun e => Region.binds md e && decide (e.on = j)) | none => false)
theorem lastB_ok {on : Oper} (hn : ops[n]? = some on) (h : lastB md ops n = true) : LastOk md ops n on := by
  unfold lastB at h
  rw [hn] at h
  simp only [Bool.and_eq_true, decide_eq_true_eq, List.all_eq_true, List.mem_range] at h
  obtain ⟨⟨h1, h2⟩, h3⟩ := h
  have key : ∀ (j : Nat) (oj : Oper), ops[j]? = some oj → oj.guard = none ∧ ∀ e : Edge, e ∈ oj.after → e.on < j := fun j oj hj => by
    have := h2 j (Array.getElem?_eq_some_iff.1 hj).1
    rw [hj] at this
    simp only [Bool.and_eq_true] at this
    refine ⟨Option.isNone_iff_eq_none.1 this.1, fun e he => ?_⟩
    have h5 := Array.all_eq_true_iff_forall_mem.1 this.2 e he
    exact of_decide_eq_true h5
  refine ⟨hn, h1, fun j oj hj => (key j oj hj).1, fun j oj hj => (key j oj hj).2, fun j hj => ?_⟩
  obtain ⟨i, hi, h6⟩ := Array.any_eq_true.1 (h3 j hj)
  obtain ⟨e, he⟩ : ∃ e, e = on.after[i] := ⟨_, rfl⟩
  rw [← he] at h6
  have he : e ∈ on.after := he ▸ Array.getElem_mem hi
  rw [Bool.and_eq_true] at h6
  exact ⟨e, he, h6.1, of_decide_eq_true h6.2⟩
/-- The region: all but the last in whatever order under S, then the last. -/
theorem wp_region_last {id : Nat} {a : Act} {w : World} {on : Oper} (S : World → Prop) (n : Nat) (hm : P.follows .mixedOrders = true) (hn : ops[n]? = some on) (hB : lastB .any ops n = true)
    (h : wpAnyH P .any (ops.setIfInBounds n (calmOp on)) (lastQ P ops n Q) S ops.size (Array.replicate ops.size false) a w.drew) : (Code.region id ops true).wp P Q a w := by
  have hl := lastB_ok hn hB
  refine wp_region_any hm (any_of_calm (S := S) hl _ _ _ _ (by simp) ?_ h)
  have := hl.size
  have hlt : n < ops.size := by omega
  simp [hlt]

/-- One call alone may come up. -/
theorem held_call {i : Nat} {oi : Oper} {fuel : Nat} {listed : Array Bool} {a : Act} {w : World} (hr : Region.ready md ops listed = [i]) (hi : ops[i]? = some oi) (hg : oi.guard = none)
    (h : oi.wp P a w (fun a' w' => S w' ∧ wpAnyH P md ops Q S fuel (listed.setIfInBounds i true) a' w') Q) : wpAnyH P md ops Q S (fuel + 1) listed a w :=
  wpAnyH_all hr (by simp) (fun j hj => by
    obtain rfl := List.mem_singleton.1 hj
    unfold wpOp
    rw [hi]
    have hw : Region.wanted oi (yielded ops a.tmps) = true := by unfold Region.wanted; rw [hg]
    simp only [hw, if_true]
    exact Or.inl h)
theorem wp_enter {o : Oper} {a : Act} {w : World} {K : Act → World → Prop} {f : FuncId} {args : Array Value} (h : (execOp a.eval o).run P w = .ok (.enter f args) w) {R : Ending → World → Prop} (hc : Calls P f args w R) (hR : ∀ v w', R (.returned v) w' → K (a.put o.dst v) w') (h2 : ∀ c w', ¬ R (.panicked c) w') (h3 : ∀ w', ¬ R .outgrown w') : o.wp P a w K Q := by
  unfold Oper.wp
  rw [h]
  refine hc.mono fun e w' he => ?_
  cases e with
  | returned v => exact hR v w' he
  | panicked c => exact absurd he (h2 c w')
  | outgrown => exact absurd he (h3 w')
theorem held_take {i : Nat} {oi : Oper} {v : Value} {fuel : Nat} {listed : Array Bool} {a : Act} {w : World} (d : Option Tmp) (hi : ops[i]? = some oi) (hd : oi.dst = d)
    (hs : Region.noSelect ops = true) (hf : Region.free md ops listed i = true) (hr : (Region.ready md ops listed).contains i = true)
    (hQ : ∀ c a w, Q (.panic c) (a.put oi.dst v) w → Q (.panic c) a w) (hy : YieldsIf P ops S oi v a) (hS : S w)
    (h : wpAnyH P md ops Q S fuel (listed.setIfInBounds i true) (a.put d v) w) : wpAnyH P md ops Q S (fuel + 1) listed a w :=
  wpAnyH_take hi hs hf hr hQ hy hS (by rw [hd]; exact h)
theorem held_enter {i : Nat} {oi : Oper} {fuel : Nat} {listed : Array Bool} {a : Act} {w : World} (d : Option Tmp) {f : FuncId} {args : Array Value} (hr : Region.ready md ops listed = [i]) (hi : ops[i]? = some oi) (hg : oi.guard = none) (hd : oi.dst = d)
    (h : (execOp a.eval oi).run P w = .ok (.enter f args) w) {R : Ending → World → Prop} (hc : Calls P f args w R) (hR : ∀ v w', R (.returned v) w' → S w' ∧ wpAnyH P md ops Q S fuel (listed.setIfInBounds i true) (a.put d v) w') (h2 : ∀ c w', ¬ R (.panicked c) w') (h3 : ∀ w', ¬ R .outgrown w') : wpAnyH P md ops Q S (fuel + 1) listed a w :=
  held_call hr hi hg (wp_enter h hc (fun v w' hv => by rw [hd]; exact hR v w' hv) h2 h3)
/-- The end: the last operation itself. -/
theorem lastQ_of {on : Oper} {a : Act} {w : World} (hn : ops[n]? = some on) (hg : on.guard = none) (h : on.wp P a w (fun a' w' => Q .normal a' w') Q) : lastQ P ops n Q .normal a w := by
  show wpOp P ops Q n _ a w
  unfold wpOp
  rw [hn]
  have hw : Region.wanted on (yielded ops a.tmps) = true := by unfold Region.wanted; rw [hg]
  simp only [hw, if_true]
  exact Or.inl h
theorem held_none {i : Nat} {oi : Oper} {fuel : Nat} {listed : Array Bool} {a : Act} {w : World} {v : Value} (hi : ops[i]? = some oi) (hd : oi.dst = none)
    (hs : Region.noSelect ops = true) (hf : Region.free md ops listed i = true) (hr : (Region.ready md ops listed).contains i = true)
    (hQ : ∀ c a w, Q (.panic c) (a.put oi.dst v) w → Q (.panic c) a w) (hy : YieldsIf P ops S oi v a) (hS : S w)
    (h : wpAnyH P md ops Q S fuel (listed.setIfInBounds i true) a w) : wpAnyH P md ops Q S (fuel + 1) listed a w :=
  held_take none hi hd hs hf hr hQ hy hS h
theorem yieldsIf_move {o : Oper} {a : Act} {x : Operand} {v : Value} (hg : o.guard = none) (ho : o.op = .move x) (hx : a.eval x = v) : YieldsIf P ops S o v a :=
  Or.inl ⟨by unfold Region.wanted; rw [hg], fun w _ => by
    unfold execOp
    simp only [ho, hx]
    rfl⟩
theorem yieldsIf_cell {o : Oper} {a : Act} {x : Operand} {v : Value} {t : TypeId} {b off : Nat} (hg : o.guard = none) (ho : o.op = .load t x) (hx : a.eval x = .pointer (some ⟨b, off, none⟩)) (hrun : ∀ w, S w → (Instr.loadAt t (.pointer (some ⟨b, off, none⟩))).run P w = .ok v w) : YieldsIf P ops S o v a :=
  Or.inl ⟨by unfold Region.wanted; rw [hg], fun w hw => by
    unfold execOp
    simp only [ho, hx, Sem.run_bind, hrun w hw, Result.andThen_ok]
    rfl⟩
theorem yieldsIf_index {o : Oper} {a : Act} {x y : Operand} {v u i : Value} {t : TypeId} (hg : o.guard = none) (ho : o.op = .indexAddr t x y) (hx : a.eval x = u) (hy : a.eval y = i) (hrun : ∀ w, (Instr.indexAt t u i).run P w = .ok v w) : YieldsIf P ops S o v a :=
  Or.inl ⟨by unfold Region.wanted; rw [hg], fun w _ => by
    unfold execOp
    simp only [ho, hx, hy, Sem.run_bind, hrun w, Result.andThen_ok]
    rfl⟩
/-- A guarded operation that is not wanted. -/
theorem held_skip0 {i : Nat} {oi : Oper} {fuel : Nat} {listed : Array Bool} {a : Act} {w : World} (d : Option Tmp) (hi : ops[i]? = some oi) (hd : oi.dst = d)
    (hs : Region.noSelect ops = true) (hf : Region.free md ops listed i = true) (hr : (Region.ready md ops listed).contains i = true)
    (hQ : ∀ c a w, Q (.panic c) (a.put oi.dst undef) w → Q (.panic c) a w) (hw : Region.wanted oi (yielded ops a.tmps) = false) (hS : S w)
    (h : wpAnyH P md ops Q S fuel (listed.setIfInBounds i true) (a.put d undef) w) : wpAnyH P md ops Q S (fuel + 1) listed a w :=
  held_take d hi hd hs hf hr hQ (Or.inr ⟨hw, rfl⟩) hS h
/-- A guarded call that is wanted, alone to come up. -/
theorem held_enterG {i : Nat} {oi : Oper} {fuel : Nat} {listed : Array Bool} {a : Act} {w : World} (d : Option Tmp) {f : FuncId} {args : Array Value} (hr : Region.ready md ops listed = [i]) (hi : ops[i]? = some oi) (hw : Region.wanted oi (yielded ops a.tmps) = true) (hd : oi.dst = d)
    (h : (execOp a.eval oi).run P w = .ok (.enter f args) w) {R : Ending → World → Prop} (hc : Calls P f args w R) (hR : ∀ v w', R (.returned v) w' → S w' ∧ wpAnyH P md ops Q S fuel (listed.setIfInBounds i true) (a.put d v) w') (h2 : ∀ c w', ¬ R (.panicked c) w') (h3 : ∀ w', ¬ R .outgrown w') : wpAnyH P md ops Q S (fuel + 1) listed a w :=
  wpAnyH_all hr (by simp) (fun j hj => by
    obtain rfl := List.mem_singleton.1 hj
    unfold wpOp
    rw [hi]
    simp only [hw, if_true]
    exact Or.inl (wp_enter h hc (fun v w' hv => by rw [hd]; exact hR v w' hv) h2 h3))
theorem yieldsIf_runG {o : Oper} {a : Act} {v : Value} (hw : Region.wanted o (yielded ops a.tmps) = true) (hrun : ∀ w, S w → (execOp a.eval o).run P w = .ok (.value v) w) : YieldsIf P ops S o v a :=
  Or.inl ⟨hw, hrun⟩
theorem yieldsIf_cellG {o : Oper} {a : Act} {x : Operand} {v : Value} {t : TypeId} {b off : Nat} (hw : Region.wanted o (yielded ops a.tmps) = true) (ho : o.op = .load t x) (hx : a.eval x = .pointer (some ⟨b, off, none⟩)) (hrun : ∀ w, S w → (Instr.loadAt t (.pointer (some ⟨b, off, none⟩))).run P w = .ok v w) : YieldsIf P ops S o v a :=
  Or.inl ⟨hw, fun w hw => by
    unfold execOp
    simp only [ho, hx, Sem.run_bind, hrun w hw, Result.andThen_ok]
    rfl⟩
end
end Go.Proofs.Ytlopenephgabhaa


namespace Go.Proofs.Ytlopenephgabhaa
open Go.RowKit

/-- Differentials of differentials are 0. -/
def SqOk (p : Int) (ds : List Int) (ms : List (List (List Int))) : Prop :=
  ∀ q, q + 1 < ms.length → ∀ r ∈ ms.getD (q + 1) [], ∀ x ∈ apT p (ds.getD q 0).toNat r (ms.getD q []), x = 0
/-- All that a complex is asked besides. -/
structure PreOk (p : Int) (ds : List Int) (ms : List (List (List Int))) : Prop where
  prime : IsP p
  len0 : 1 ≤ ds.length
  len1 : ds.length ≤ 6
  mlen : ms.length + 1 = ds.length
  dims : ∀ d ∈ ds, 0 ≤ d ∧ d ≤ 8
  tabs : ∀ k, k < ms.length → TabOk p (ds.getD (k + 1) 0) (ds.getD k 0) (ms.getD k [])

theorem PreOk.dim {p : Int} {ds : List Int} {ms : List (List (List Int))} (h : PreOk p ds ms) (k : Nat) : 0 ≤ ds.getD k 0 ∧ ds.getD k 0 ≤ 8 := by
  by_cases hk : k < ds.length
  · rw [getD_of_lt _ hk]; exact h.dims _ (List.getElem_mem _)
  · simp [List.getD, show ds.length ≤ k by omega]
theorem PreOk.ap {p : Int} {ds : List Int} {ms : List (List (List Int))} (h : PreOk p ds ms) {q : Nat} (hq : q + 1 < ms.length) {r : List Int} (hr : r ∈ ms.getD (q + 1) []) : ApOk p (ds.getD q 0).toNat r (ms.getD q []) := by
  have h1 := h.tabs (q + 1) hq
  have h0 := h.tabs q (by omega)
  have hd := h.dim q
  refine ⟨h.prime, ?_, (h1.2 r hr).2, fun r2 hr2 => ⟨?_, (h0.2 r2 hr2).2⟩⟩
  · have e1 := (h1.2 r hr).1
    have e2 := h0.1
    omega
  · have e1 := (h0.2 r2 hr2).1
    omega
theorem apT_length {p : Int} {c : Nat} {v : List Int} {t : List (List Int)} (h : ApOk p c v t) : (apT p c v t).length = c := apTo_length h (Nat.le_refl _)

/-- A call that says whether P, and leaves what was there. -/
def BB (P : Prop) (w : World) (e : Ending) (w' : World) : Prop := ∃ b : Bool, e = .returned (.bool b) ∧ Below w.heap.size w w' ∧ (b = true ↔ P)
theorem bb_true {P : Prop} {w w' : World} (hb : Below w.heap.size w w') (h : P) : BB P w (.returned (.bool true)) w' := ⟨true, rfl, hb, by simp [h]⟩
theorem bb_false {P : Prop} {w w' : World} (hb : Below w.heap.size w w') (h : ¬ P) : BB P w (.returned (.bool false)) w' := ⟨false, rfl, hb, by simp [h]⟩

theorem neq_zero {v : List Int} (hv : v.length ≤ 40) (w : World) : (binOp .neq 104 (.agg (ints (pad v))) (.agg #[.int .i64 0, .int .i64 0, .int .i64 0, .int .i64 0, .int .i64 0, .int .i64 0, .int .i64 0, .int .i64 0, .int .i64 0, .int .i64 0, .int .i64 0, .int .i64 0, .int .i64 0, .int .i64 0, .int .i64 0, .int .i64 0, .int .i64 0, .int .i64 0, .int .i64 0, .int .i64 0, .int .i64 0, .int .i64 0, .int .i64 0, .int .i64 0, .int .i64 0, .int .i64 0, .int .i64 0, .int .i64 0, .int .i64 0, .int .i64 0, .int .i64 0, .int .i64 0, .int .i64 0, .int .i64 0, .int .i64 0, .int .i64 0, .int .i64 0, .int .i64 0, .int .i64 0, .int .i64 0])).run Try.prog w = .ok (.bool (!decide (∀ x ∈ v, x = 0))) w := by
  have h := run_neq_ints (P := Try.prog) w (pad v) (List.replicate 40 0) Try.underlyingV Try.underlying2 Try.infoI1 (pad_length hv) (by simp)
  rw [show (#[.int .i64 0, .int .i64 0, .int .i64 0, .int .i64 0, .int .i64 0, .int .i64 0, .int .i64 0, .int .i64 0, .int .i64 0, .int .i64 0, .int .i64 0, .int .i64 0, .int .i64 0, .int .i64 0, .int .i64 0, .int .i64 0, .int .i64 0, .int .i64 0, .int .i64 0, .int .i64 0, .int .i64 0, .int .i64 0, .int .i64 0, .int .i64 0, .int .i64 0, .int .i64 0, .int .i64 0, .int .i64 0, .int .i64 0, .int .i64 0, .int .i64 0, .int .i64 0, .int .i64 0, .int .i64 0, .int .i64 0, .int .i64 0, .int .i64 0, .int .i64 0, .int .i64 0, .int .i64 0] : Array Value) = ints (List.replicate 40 0) from by kernel_rfl, h]
  have e := pad_zero hv
  by_cases hh : ∀ x ∈ v, x = 0
  · rw [decide_eq_true hh, decide_eq_true (e.2 hh)]
  · rw [decide_eq_false hh, decide_eq_false (fun h2 => hh (e.1 h2))]

/-- A cell of what was there, read in a later world. -/
theorem later {w w' : World} {b o : Nat} {u : Value} {B : Nat} (hb : Below B w w') (hB : w.heap.size ≤ B) (h : w.cell? ⟨b, o, none⟩ = some u) : w'.cell? ⟨b, o, none⟩ = some u := by
  rw [hb.cell (p := ⟨b, o, none⟩) (Nat.lt_of_lt_of_le (cell_lt h) hB), h]

end Go.Proofs.Ytlopenephgabhaa

namespace Go.Proofs.Ytlopenephgabhaa
open Go.RowKit

def IsCx (p : Int) (ds : List Int) (ms : List (List (List Int))) : Prop := PreOk p ds ms ∧ SqOk p ds ms

theorem topOf_any (p : Int) (dv mv : Value) (n : Nat) (ad : Option Addr) (cap : Nat) (w : World) (hd : dv = .slice ad n cap) (hn : n ≤ 1048576) :
    Calls Try.prog 81 #[.agg #[.int .i64 p, dv, mv]] w (BR (.int .i64 ((n : Int) - 1)) w) := by
  subst hd
  have hb0 : Below w.heap.size w (w.alloc (.cells #[.int .i64 p, .slice ad n cap, mv] 38)) := (Below.refl _ _).alloc (Nat.le_refl _) _
  have HB0 := Lib.hid hb0
  clear hb0
  go_enter Try.func81, Try.ntmps81
  go_wp2
  go_ret
  exact ⟨rfl, HB0.out⟩

/-- What stands in the boxes of a call over a complex, in whatever later world. -/
structure Bx (w wr : World) (b : Nat) (p : Int) (dv mv : Value) (ds : List Int) (ms : List (List (List Int))) : Prop where
  below : Below w.heap.size w wr
  c0 : wr.cell? ⟨b, 0, none⟩ = some (.int .i64 p)
  c1 : wr.cell? ⟨b, 1, none⟩ = some dv
  c2 : wr.cell? ⟨b, 2, none⟩ = some mv
  lt : b < wr.heap.size
  cx : Cx 0 wr dv mv ds ms
theorem Bx.next {w wr w' : World} {b : Nat} {p : Int} {dv mv : Value} {ds : List Int} {ms : List (List (List Int))} (h : Bx w wr b p dv mv ds ms) (hb : Below wr.heap.size wr w') : Bx w w' b p dv mv ds ms :=
  ⟨h.below.trans (hb.mono h.below.size), later hb (Nat.le_refl _) h.c0, later hb (Nat.le_refl _) h.c1, later hb (Nat.le_refl _) h.c2, Nat.lt_of_lt_of_le h.lt hb.size, h.cx.below hb⟩
section
variable {P : Program} {md : Region.Mode} {ops : Array Oper} {Q : Exit → Act → World → Prop} {S : World → Prop}
theorem yieldsIf_run0 {o : Oper} {a : Act} {v : Value} (hg : o.guard = none) (hrun : ∀ w, S w → (execOp a.eval o).run P w = .ok (.value v) w) : YieldsIf P ops S o v a :=
  Or.inl ⟨by unfold Region.wanted; rw [hg], hrun⟩
theorem yieldsIf_binG {o : Oper} {a : Act} {x y : Operand} {v u i : Value} {b : BinOp} {t t' : TypeId} (hw : Region.wanted o (yielded ops a.tmps) = true) (ho : o.op = .binOp b t x y t') (hx : a.eval x = u) (hy : a.eval y = i) (hge : ∀ w, (eqGuard b t x y u i).run P w = .ok () w) (hrun : ∀ w, (binOp b t u i).run P w = .ok v w) : YieldsIf P ops S o v a :=
  Or.inl ⟨hw, fun w _ => by
    unfold execOp
    simp only [ho, hx, hy, Sem.run_bind, hge w, hrun w, Result.andThen_ok]
    rfl⟩
end

end Go.Proofs.Ytlopenephgabhaa

namespace Go.Proofs.Ytlopenephgabhaa
open Go.RowKit

theorem Sl.at {α : Type} {lo : Nat} {R : World → Value → α → Prop} {w : World} {b o n cap : Nat} {xs : List α} (h : Sl lo R w (.slice (some ⟨b, o, none⟩) n cap) xs) {k : Nat} (hk : k < xs.length) :
    ∃ u, w.cell? ⟨b, o + k, none⟩ = some u ∧ R w u xs[k] := by
  refine Sl.cases h (fun _ _ hx _ => absurd hk (by simp [hx])) (fun b2 o2 cap2 hv _ _ hc => ?_)
  injection hv with e1 _ _
  injection e1 with e1
  injection e1 with e1 e2
  subst e1 e2
  exact hc k hk

theorem below_alloc1 (w : World) (A : Obj) : Below w.heap.size w (w.alloc A) := (Below.refl _ _).alloc (Nat.le_refl _) _
theorem Cx.zero {lo : Nat} {w : World} {dv mv : Value} {ds : List Int} {ms : List (List (List Int))} (h : Cx lo w dv mv ds ms) : Cx 0 w dv mv ds ms := h.lower (Nat.zero_le _)
end Go.Proofs.Ytlopenephgabhaa


namespace Go.Proofs.Ytlopenephgabhaa
open Go.RowKit

/-- Blocks from lo up to hi are as they were. -/
def Same (lo hi : Nat) (w w' : World) : Prop := ∀ b, lo ≤ b → b < hi → w'.heap[b]? = w.heap[b]?
theorem Same.of_below {lo hi : Nat} {w w' : World} {B : Nat} (h : Below B w w') (hh : hi ≤ B) : Same lo hi w w' := fun b _ hb => h.block b (Nat.lt_of_lt_of_le hb hh)
theorem Same.trans {lo hi : Nat} {a b c : World} (h : Same lo hi a b) (k : Same lo hi b c) : Same lo hi a c := fun i hl hi => (k i hl hi).trans (h i hl hi)
theorem Same.set {lo hi g o : Nat} {w : World} (u : Value) (h : g < lo ∨ hi ≤ g) : Same lo hi w (w.setCell ⟨g, o, none⟩ u) := fun b hl hb => Below.heap_setCell w ⟨g, o, none⟩ u b (by show b ≠ g; omega)
theorem Same.narrow {lo hi lo' hi' : Nat} {w w' : World} (h : Same lo hi w w') (h1 : lo ≤ lo') (h2 : hi' ≤ hi) : Same lo' hi' w w' := fun b hl hb => h b (by omega) (by omega)

/-- The slice v reads as xs; its cells lie in blocks from lo up to hi, and may be written. -/
def Sw {α : Type} (lo hi : Nat) (R : World → Value → α → Prop) (w : World) (v : Value) (xs : List α) : Prop :=
  (xs = [] ∧ ∃ ad cap, v = .slice ad 0 cap) ∨
  ∃ b o cap, v = .slice (some ⟨b, o, none⟩) xs.length cap ∧ lo ≤ b ∧ b < hi ∧ 0 < xs.length ∧ (∀ k (h : k < xs.length), ∃ u, w.cell? ⟨b, o + k, none⟩ = some u ∧ R w u xs[k]) ∧ ∀ k, k < xs.length → w.frozen? ⟨b, o + k, none⟩ = false
def W1 (lo hi : Nat) := Sw lo hi IsI
def W2 (lo hi : Nat) := Sw lo hi (W1 lo hi)
def W3 (lo hi : Nat) := Sw lo hi (W2 lo hi)

def Steady {α : Type} (lo hi : Nat) (R : World → Value → α → Prop) : Prop := ∀ w w' v x, Same lo hi w w' → R w v x → R w' v x
theorem steadyI (lo hi : Nat) : Steady lo hi IsI := fun _ _ _ _ _ h => h
theorem Steady.sw {α : Type} {lo hi : Nat} {R : World → Value → α → Prop} (hR : Steady lo hi R) : Steady lo hi (Sw lo hi R) := by
  intro w w' v xs hk h
  rcases h with h | ⟨b, o, cap, hv, hlo, hhi, hpos, hc, hf⟩
  · exact Or.inl h
  · refine Or.inr ⟨b, o, cap, hv, hlo, hhi, hpos, fun k hk' => ?_, fun k hk' => ?_⟩
    · obtain ⟨u, hu, hr⟩ := hc k hk'
      exact ⟨u, (World.cell?_of_block (w := w) (a := ⟨b, o + k, none⟩) (hk b hlo hhi)).trans hu, hR _ _ _ _ hk hr⟩
    · exact (World.frozen?_of_block (w := w) (a := ⟨b, o + k, none⟩) (hk b hlo hhi)).trans (hf k hk')
theorem steady1 (lo hi : Nat) : Steady lo hi (W1 lo hi) := (steadyI lo hi).sw
theorem steady2 (lo hi : Nat) : Steady lo hi (W2 lo hi) := (steady1 lo hi).sw
theorem steady3 (lo hi : Nat) : Steady lo hi (W3 lo hi) := (steady2 lo hi).sw

theorem Sw.wider {α : Type} {lo hi lo' hi' : Nat} {R R' : World → Value → α → Prop} (hl : lo' ≤ lo) (hh : hi ≤ hi') (hR : ∀ w v x, R w v x → R' w v x) {w : World} {v : Value} {xs : List α} (h : Sw lo hi R w v xs) : Sw lo' hi' R' w v xs := by
  rcases h with h | ⟨b, o, cap, hv, hlo, hhi, hpos, hc, hf⟩
  · exact Or.inl h
  · refine Or.inr ⟨b, o, cap, hv, by omega, by omega, hpos, fun k hk' => ?_, hf⟩
    obtain ⟨u, hu, hr⟩ := hc k hk'
    exact ⟨u, hu, hR _ _ _ hr⟩
theorem W1.wider {lo hi lo' hi' : Nat} (hl : lo' ≤ lo) (hh : hi ≤ hi') {w : World} {v : Value} {xs : List Int} (h : W1 lo hi w v xs) : W1 lo' hi' w v xs := Sw.wider hl hh (fun _ _ _ h => h) h
theorem W2.wider {lo hi lo' hi' : Nat} (hl : lo' ≤ lo) (hh : hi ≤ hi') {w : World} {v : Value} {xs : List (List Int)} (h : W2 lo hi w v xs) : W2 lo' hi' w v xs := Sw.wider hl hh (fun _ _ _ h => h.wider hl hh) h
theorem W3.wider {lo hi lo' hi' : Nat} (hl : lo' ≤ lo) (hh : hi ≤ hi') {w : World} {v : Value} {xs : List (List (List Int))} (h : W3 lo hi w v xs) : W3 lo' hi' w v xs := Sw.wider hl hh (fun _ _ _ h => h.wider hl hh) h

theorem Sw.sl {α : Type} {lo hi : Nat} {R R' : World → Value → α → Prop} (hR : ∀ w v x, R w v x → R' w v x) {w : World} {v : Value} {xs : List α} (h : Sw lo hi R w v xs) : Sl lo R' w v xs := by
  rcases h with h | ⟨b, o, cap, hv, hlo, _, hpos, hc, _⟩
  · exact Or.inl h
  · refine Or.inr ⟨b, o, cap, hv, hlo, hpos, fun k hk' => ?_⟩
    obtain ⟨u, hu, hr⟩ := hc k hk'
    exact ⟨u, hu, hR _ _ _ hr⟩
theorem W1.l1 {lo hi : Nat} {w : World} {v : Value} {xs : List Int} (h : W1 lo hi w v xs) : L1 lo w v xs := Sw.sl (fun _ _ _ h => h) h
theorem W2.l2 {lo hi : Nat} {w : World} {v : Value} {xs : List (List Int)} (h : W2 lo hi w v xs) : L2 lo w v xs := Sw.sl (fun _ _ _ h => h.l1) h
theorem W3.l3 {lo hi : Nat} {w : World} {v : Value} {xs : List (List (List Int))} (h : W3 lo hi w v xs) : L3 lo w v xs := Sw.sl (fun _ _ _ h => h.l2) h
theorem W1.same {lo hi : Nat} {w w' : World} {v : Value} {xs : List Int} (h : W1 lo hi w v xs) (hs : Same lo hi w w') : W1 lo hi w' v xs := steady1 lo hi _ _ _ _ hs h
theorem W2.same {lo hi : Nat} {w w' : World} {v : Value} {xs : List (List Int)} (h : W2 lo hi w v xs) (hs : Same lo hi w w') : W2 lo hi w' v xs := steady2 lo hi _ _ _ _ hs h
theorem W3.same {lo hi : Nat} {w w' : World} {v : Value} {xs : List (List (List Int))} (h : W3 lo hi w v xs) (hs : Same lo hi w w') : W3 lo hi w' v xs := steady3 lo hi _ _ _ _ hs h
theorem Sw.cases {α : Type} {lo hi : Nat} {R : World → Value → α → Prop} {w : World} {v : Value} {xs : List α} (h : Sw lo hi R w v xs) {P : Prop}
    (h0 : ∀ ad cap, xs = [] → v = .slice ad 0 cap → P)
    (h1 : ∀ b o cap, v = .slice (some ⟨b, o, none⟩) xs.length cap → lo ≤ b → b < hi → 0 < xs.length → (∀ k (h : k < xs.length), ∃ u, w.cell? ⟨b, o + k, none⟩ = some u ∧ R w u xs[k]) → (∀ k, k < xs.length → w.frozen? ⟨b, o + k, none⟩ = false) → P) : P := by
  rcases h with ⟨h, ad, cap, hv⟩ | ⟨b, o, cap, hv, hlo, hhi, hpos, hc, hf⟩
  · exact h0 ad cap h hv
  · exact h1 b o cap hv hlo hhi hpos hc hf
theorem Sw.shape {α : Type} {lo hi : Nat} {R : World → Value → α → Prop} {w : World} {v : Value} {xs : List α} (h : Sw lo hi R w v xs) : ∃ ad cap, v = .slice ad xs.length cap :=
  h.cases (fun ad cap hx hv => ⟨ad, cap, by subst hx; exact hv⟩) (fun b o cap hv _ _ _ _ _ => ⟨some ⟨b, o, none⟩, cap, hv⟩)

/-- The filling of a slice, the elements in a span of blocks of their own. -/
structure FillW {α : Type} (w wr : World) (t : TypeId) (n k : Nat) (z : Value) (R : Nat → Nat → World → Value → α → Prop) (xs : List α) (f : Nat → Value) : Prop where
  below : Below w.heap.size w wr
  row : wr.rowIs w.heap.size t n f
  done : ∀ j (h : j < xs.length), j < k → R (w.heap.size + 1) wr.heap.size wr (f j) (xs[j]'h)

theorem FillW.start {α : Type} (w : World) (t : TypeId) (n : Nat) (z : Value) (R : Nat → Nat → World → Value → α → Prop) (xs : List α) : FillW w (w.alloc (.cells (madeCells #[z] n) t)) t n 0 z R xs (fun _ => z) :=
  ⟨(Below.refl _ _).alloc (Nat.le_refl _) _, World.rowIs_made w z n t, fun _ _ h => absurd h (Nat.not_lt_zero _)⟩
theorem FillW.step {α : Type} {w wr w1 : World} {t : TypeId} {n k : Nat} {z u : Value} {R : Nat → Nat → World → Value → α → Prop} {xs : List α} {f : Nat → Value} (hR : ∀ lo hi, Steady lo hi (R lo hi))
    (hW : ∀ lo hi lo' hi' w v x, lo' ≤ lo → hi ≤ hi' → R lo hi w v x → R lo' hi' w v x) (h : FillW w wr t n k z R xs f)
    (hb : Below wr.heap.size wr w1) (hk : k < xs.length) (hu : R wr.heap.size w1.heap.size w1 u xs[k]) :
    FillW w (w1.setCell ⟨w.heap.size, k, none⟩ u) t n (k + 1) z R xs (fun j => if j = k then u else f j) := by
  have hlt := h.row.lt
  have hrow1 : w1.rowIs w.heap.size t n f := h.row.of_block (hb.block _ hlt)
  have hsz : (w1.setCell ⟨w.heap.size, k, none⟩ u).heap.size = w1.heap.size := by simp [World.setCell]
  refine ⟨(h.below.trans (hb.mono (Nat.le_of_lt hlt))).setCell (Nat.le_refl _) _, hrow1.set k u, fun j hj hjk => ?_⟩
  rw [hsz]
  by_cases e : j = k
  · subst e
    simp only [if_true]
    refine hW _ _ _ _ _ _ _ hlt (Nat.le_refl _) (hR _ _ _ _ _ _ (Same.set u (Or.inl ?_)) hu)
    exact hlt
  · rw [if_neg e]
    have hd := h.done j hj (by omega)
    refine hW _ _ _ _ _ _ _ (Nat.le_refl _) hb.size (hR _ _ _ _ _ _ ((Same.of_below hb (Nat.le_refl _)).trans (Same.set u (Or.inl (Nat.lt_succ_self _)))) hd)
theorem FillW.sw {α : Type} {w wr : World} {t : TypeId} {z : Value} {R : Nat → Nat → World → Value → α → Prop} {xs : List α} {f : Nat → Value}
    (hW : ∀ lo hi lo' hi' w v x, lo' ≤ lo → hi ≤ hi' → R lo hi w v x → R lo' hi' w v x) (h : FillW w wr t xs.length xs.length z R xs f) :
    Sw w.heap.size wr.heap.size (R w.heap.size wr.heap.size) wr (.slice (some ⟨w.heap.size, 0, none⟩) xs.length xs.length) xs := by
  by_cases h0 : xs.length = 0
  · exact Or.inl ⟨List.eq_nil_of_length_eq_zero h0, _, _, by rw [h0]⟩
  · exact Or.inr ⟨w.heap.size, 0, xs.length, rfl, Nat.le_refl _, h.row.lt, by omega, fun k hk => ⟨f k, by rw [Nat.zero_add]; exact h.row.cell hk, hW _ _ _ _ _ _ _ (Nat.le_succ _) (Nat.le_refl _) (h.done k hk hk)⟩, fun k _ => h.row.frozen _⟩

def ToW {α : Type} (R : Nat → Nat → World → Value → α → Prop) (x : α) (w : World) (e : Ending) (w' : World) : Prop := ∃ v, e = .returned v ∧ R w.heap.size w'.heap.size w' v x ∧ Below w.heap.size w w'

set_option maxHeartbeats 400000 in
theorem to1w_any (v : Value) (xs : List Int) (w : World) (h : L1 0 w v xs) (hm : xs.length ≤ 1048576) :
    Calls Try.prog 77 #[v] w (ToW W1 xs w) := by
  have hmk := run_make_row' (P := Try.prog) 35 2 (.int .i64 0) 8 Try.underlying35 Try.infoI rfl .i64 .i64 xs.length (by omega) (by omega)
  refine Sl.cases h (fun ad cap hx hv => ?_) (fun b o cap hv _ hpos hc => ?_)
  · subst hx hv
    have hmk0 : ∀ w, (Instr.makeSlice 35 (.int .i64 0) (.int .i64 0)).run Try.prog w = .ok (.slice (some ⟨w.heap.size, 0, none⟩) 0 0) (w.alloc (.cells #[] 2)) := fun _ => by kernel_rfl
    clear hmk
    go_enter Try.func77, Try.ntmps77
    go_wp2
    refine wp_loop_rounds 1 ?_
    rw [rounds_succ]
    go_wp2
    go_ret
    exact ⟨_, rfl, Or.inl ⟨rfl, _, _, rfl⟩, (Below.refl _ _).alloc (Nat.le_refl _) _⟩
  · subst hv
    clear h
    have HC := Lib.hid hc
    clear hc
    go_enter Try.func77, Try.ntmps77
    go_wp2
    clear hmk
    go_loopw [4] (fun i wr => ∃ (k : Nat) (f : Nat → Value), k ≤ xs.length ∧ i = .int .i64 k ∧ FillW w wr 2 xs.length k (.int .i64 0) (fun _ _ => IsI) xs f) (fun i _ => xs.length - (intOf i).toNat)
    case atStart => exact ⟨0, _, Nat.zero_le _, rfl, FillW.start _ _ _ _ _ _⟩
    case round =>
      obtain ⟨k, f, hk, rfl, HF⟩ := hrel
      by_cases hlt2 : k < xs.length
      · obtain ⟨u, hu, hr⟩ := HC.out k hlt2
        have hu' : wr.cell? ⟨b, o + k, none⟩ = some (.int .i64 xs[k]) := by
          rw [HF.below.cell (p := ⟨b, o + k, none⟩) (cell_lt hu), hu, hr]
        have hc1 := HF.row.cell hlt2
        have hc2 := HF.row.frozen k
        have HS := HF.step (w1 := wr) (u := .int .i64 xs[k]) (fun _ _ => steadyI _ _) (fun _ _ _ _ _ _ _ _ _ h => h) (Below.refl _ _) hlt2 rfl
        have HF' := Lib.hid HF
        have HS' := Lib.hid HS
        clear HF HS hu hr
        go_wp2
        go_roundw
        case rel => exact ⟨k + 1, _, by omega, by go_num, HS'.out⟩
        case measure => simp [intOf]; omega
      · obtain rfl : k = xs.length := by omega
        have HF' := Lib.hid HF
        clear HF
        go_wp2
        go_ret
        exact ⟨_, rfl, HF'.out.sw (fun _ _ _ _ _ _ _ _ _ h => h), HF'.out.below⟩

set_option maxHeartbeats 400000 in
theorem to2w_any (v : Value) (xs : List (List Int)) (w : World) (h : L2 0 w v xs) (hm : Bd2 1048576 xs) :
    Calls Try.prog 43 #[v] w (ToW W2 xs w) := by
  have hml : xs.length ≤ 1048576 := hm.1
  have HM := Lib.hid hm
  clear hm
  have hmk := run_make_row' (P := Try.prog) 22 35 (.slice none 0 0) 24 Try.underlying22 Try.infoS rfl .i64 .i64 xs.length (by omega) (by omega)
  refine Sl.cases h (fun ad cap hx hv => ?_) (fun b o cap hv _ hpos hc => ?_)
  · subst hx hv
    have hmk0 : ∀ w, (Instr.makeSlice 22 (.int .i64 0) (.int .i64 0)).run Try.prog w = .ok (.slice (some ⟨w.heap.size, 0, none⟩) 0 0) (w.alloc (.cells #[] 35)) := fun _ => by kernel_rfl
    clear hmk
    go_enter Try.func43, Try.ntmps43
    go_wp2
    refine wp_loop_rounds 1 ?_
    rw [rounds_succ]
    go_wp2
    go_ret
    exact ⟨_, rfl, Or.inl ⟨rfl, _, _, rfl⟩, (Below.refl _ _).alloc (Nat.le_refl _) _⟩
  · subst hv
    clear h
    have HC := Lib.hid hc
    clear hc
    go_enter Try.func43, Try.ntmps43
    go_wp2
    clear hmk
    go_loopw [4] (fun i wr => ∃ (k : Nat) (f : Nat → Value), k ≤ xs.length ∧ i = .int .i64 k ∧ FillW w wr 35 xs.length k (.slice none 0 0) W1 xs f) (fun i _ => xs.length - (intOf i).toNat)
    case atStart => exact ⟨0, _, Nat.zero_le _, rfl, FillW.start _ _ _ _ _ _⟩
    case round =>
      obtain ⟨k, f, hk, rfl, HF⟩ := hrel
      by_cases hlt2 : k < xs.length
      · obtain ⟨u, hu, hr⟩ := HC.out k hlt2
        have hu' : wr.cell? ⟨b, o + k, none⟩ = some u := by
          rw [HF.below.cell (p := ⟨b, o + k, none⟩) (cell_lt hu), hu]
        have hr' : L1 0 wr u xs[k] := hr.below HF.below
        have hmx : (xs[k]).length ≤ 1048576 := HM.out.2 _ (List.getElem_mem hlt2)
        have HF' := Lib.hid HF
        have HR' := Lib.hid hr'
        clear HF hu hr hr'
        go_wp2_with fail
        refine (to1w_any u xs[k] _ HR'.out hmx).mono ?_
        rintro e w1 ⟨u1, rfl, hr1, hb1⟩
        obtain ⟨ad1, cap1, rfl⟩ := Sw.shape hr1
        have hlr := HF'.out.row.lt
        have hc1 : w1.cell? ⟨w.heap.size, k, none⟩ = some (f k) := (hb1.cell (p := ⟨w.heap.size, k, none⟩) hlr).trans (HF'.out.row.cell hlt2)
        have hc2 : w1.frozen? ⟨w.heap.size, k, none⟩ = false := (hb1.frozen (p := ⟨w.heap.size, k, none⟩) hlr).trans (HF'.out.row.frozen k)
        have HS := Lib.hid (HF'.out.step (w1 := w1) (u := _) steady1 (fun _ _ _ _ _ _ _ h1 h2 h => W1.wider h1 h2 h) hb1 hlt2 hr1)
        clear hr1 hb1 hlr
        go_wp2
        go_roundw
        case rel => exact ⟨k + 1, _, by omega, by go_num, HS.out⟩
        case measure => simp [intOf]; omega
      · obtain rfl : k = xs.length := by omega
        have HF' := Lib.hid HF
        clear HF
        go_wp2
        go_ret
        exact ⟨_, rfl, HF'.out.sw (fun _ _ _ _ _ _ _ h1 h2 h => W1.wider h1 h2 h), HF'.out.below⟩

set_option maxHeartbeats 400000 in
theorem to3w_any (v : Value) (xs : List (List (List Int))) (w : World) (h : L3 0 w v xs) (hm : Bd3 1048576 xs) :
    Calls Try.prog 78 #[v] w (ToW W3 xs w) := by
  have hml : xs.length ≤ 1048576 := hm.1
  have HM := Lib.hid hm
  clear hm
  have hmk := run_make_row' (P := Try.prog) 36 22 (.slice none 0 0) 24 Try.underlying36 Try.infoSS rfl .i64 .i64 xs.length (by omega) (by omega)
  refine Sl.cases h (fun ad cap hx hv => ?_) (fun b o cap hv _ hpos hc => ?_)
  · subst hx hv
    have hmk0 : ∀ w, (Instr.makeSlice 36 (.int .i64 0) (.int .i64 0)).run Try.prog w = .ok (.slice (some ⟨w.heap.size, 0, none⟩) 0 0) (w.alloc (.cells #[] 22)) := fun _ => by kernel_rfl
    clear hmk
    go_enter Try.func78, Try.ntmps78
    go_wp2
    refine wp_loop_rounds 1 ?_
    rw [rounds_succ]
    go_wp2
    go_ret
    exact ⟨_, rfl, Or.inl ⟨rfl, _, _, rfl⟩, (Below.refl _ _).alloc (Nat.le_refl _) _⟩
  · subst hv
    clear h
    have HC := Lib.hid hc
    clear hc
    go_enter Try.func78, Try.ntmps78
    go_wp2
    clear hmk
    go_loopw [4] (fun i wr => ∃ (k : Nat) (f : Nat → Value), k ≤ xs.length ∧ i = .int .i64 k ∧ FillW w wr 22 xs.length k (.slice none 0 0) W2 xs f) (fun i _ => xs.length - (intOf i).toNat)
    case atStart => exact ⟨0, _, Nat.zero_le _, rfl, FillW.start _ _ _ _ _ _⟩
    case round =>
      obtain ⟨k, f, hk, rfl, HF⟩ := hrel
      by_cases hlt2 : k < xs.length
      · obtain ⟨u, hu, hr⟩ := HC.out k hlt2
        have hu' : wr.cell? ⟨b, o + k, none⟩ = some u := by
          rw [HF.below.cell (p := ⟨b, o + k, none⟩) (cell_lt hu), hu]
        have hr' : L2 0 wr u xs[k] := hr.below HF.below
        have hmx : Bd2 1048576 xs[k] := HM.out.2 _ (List.getElem_mem hlt2)
        have HF' := Lib.hid HF
        have HR' := Lib.hid hr'
        clear HF hu hr hr'
        go_wp2_with fail
        refine (to2w_any u xs[k] _ HR'.out hmx).mono ?_
        rintro e w1 ⟨u1, rfl, hr1, hb1⟩
        obtain ⟨ad1, cap1, rfl⟩ := Sw.shape hr1
        have hlr := HF'.out.row.lt
        have hc1 : w1.cell? ⟨w.heap.size, k, none⟩ = some (f k) := (hb1.cell (p := ⟨w.heap.size, k, none⟩) hlr).trans (HF'.out.row.cell hlt2)
        have hc2 : w1.frozen? ⟨w.heap.size, k, none⟩ = false := (hb1.frozen (p := ⟨w.heap.size, k, none⟩) hlr).trans (HF'.out.row.frozen k)
        have HS := Lib.hid (HF'.out.step (w1 := w1) (u := _) steady2 (fun _ _ _ _ _ _ _ h1 h2 h => W2.wider h1 h2 h) hb1 hlt2 hr1)
        clear hr1 hb1 hlr
        go_wp2
        go_roundw
        case rel => exact ⟨k + 1, _, by omega, by go_num, HS.out⟩
        case measure => simp [intOf]; omega
      · obtain rfl : k = xs.length := by omega
        have HF' := Lib.hid HF
        clear HF
        go_wp2
        go_ret
        exact ⟨_, rfl, HF'.out.sw (fun _ _ _ _ _ _ _ h1 h2 h => W2.wider h1 h2 h), HF'.out.below⟩

end Go.Proofs.Ytlopenephgabhaa

namespace Go.Proofs.Ytlopenephgabhaa
open Go.RowKit

structure CxW (lo hi : Nat) (w : World) (dv mv : Value) (ds : List Int) (ms : List (List (List Int))) : Prop where
  dims : W1 lo hi w dv ds
  maps : W3 lo hi w mv ms
theorem CxW.same {lo hi : Nat} {w w' : World} {dv mv : Value} {ds : List Int} {ms : List (List (List Int))} (h : CxW lo hi w dv mv ds ms) (hs : Same lo hi w w') : CxW lo hi w' dv mv ds ms := ⟨h.dims.same hs, h.maps.same hs⟩
theorem CxW.cx {lo hi : Nat} {w : World} {dv mv : Value} {ds : List Int} {ms : List (List (List Int))} (h : CxW lo hi w dv mv ds ms) : Cx lo w dv mv ds ms := ⟨h.dims.l1, h.maps.l3⟩
/-- Only blocks from lo up to hi may have been written. -/
structure Only (lo hi : Nat) (w w' : World) : Prop where
  os : w'.os = w.os
  tape : w'.tape = w.tape
  output : w'.output = w.output
  size : w'.heap.size = w.heap.size
  block : ∀ b, (b < lo ∨ hi ≤ b) → w'.heap[b]? = w.heap[b]?
theorem Only.refl (lo hi : Nat) (w : World) : Only lo hi w w := ⟨rfl, rfl, rfl, rfl, fun _ _ => rfl⟩
theorem Only.trans {lo hi : Nat} {a b c : World} (h : Only lo hi a b) (k : Only lo hi b c) : Only lo hi a c := ⟨k.os.trans h.os, k.tape.trans h.tape, k.output.trans h.output, k.size.trans h.size, fun i hi => (k.block i hi).trans (h.block i hi)⟩
theorem Only.wider {lo hi lo' hi' : Nat} {a b : World} (h : Only lo hi a b) (h1 : lo' ≤ lo) (h2 : hi ≤ hi') : Only lo' hi' a b := ⟨h.os, h.tape, h.output, h.size, fun i hi => h.block i (by omega)⟩
theorem Only.set {lo hi g o : Nat} {w : World} (u : Value) (h1 : lo ≤ g) (h2 : g < hi) : Only lo hi w (w.setCell ⟨g, o, none⟩ u) := ⟨rfl, rfl, rfl, by simp, fun b hb => Below.heap_setCell w ⟨g, o, none⟩ u b (by show b ≠ g; omega)⟩
theorem Only.below {lo hi B : Nat} {w w' : World} (h : Only lo hi w w') (hB : B ≤ lo) : Below B w w' := ⟨h.os, h.tape, h.output, Nat.le_of_eq h.size.symm, fun k hk => h.block k (Or.inl (by omega))⟩
theorem Only.same {lo hi lo' hi' : Nat} {w w' : World} (h : Only lo hi w w') (hd : hi' ≤ lo ∨ hi ≤ lo') : Same lo' hi' w w' := fun b hl hh => h.block b (by omega)
theorem Only.cell {lo hi : Nat} {w w' : World} (h : Only lo hi w w') {b o : Nat} (hb : b < lo ∨ hi ≤ b) : w'.cell? ⟨b, o, none⟩ = w.cell? ⟨b, o, none⟩ := World.cell?_of_block (w := w) (a := ⟨b, o, none⟩) (h.block b hb)
theorem Only.frozen {lo hi : Nat} {w w' : World} (h : Only lo hi w w') {b o : Nat} (hb : b < lo ∨ hi ≤ b) : w'.frozen? ⟨b, o, none⟩ = w.frozen? ⟨b, o, none⟩ := World.frozen?_of_block (w := w) (a := ⟨b, o, none⟩) (h.block b hb)

/-- The numbers from k on, n of them. -/
def upFrom (k : Int) (n : Nat) : List Int := (List.range n).map (fun (i : Nat) => k + (i : Int))
theorem upFrom_length (k : Int) (n : Nat) : (upFrom k n).length = n := by simp [upFrom]

/-- Numbers have been written over numbers, nothing else. -/
structure Tame (w w' : World) : Prop where
  slices : ∀ b o a n c, w.cell? ⟨b, o, none⟩ = some (.slice a n c) → w'.cell? ⟨b, o, none⟩ = some (.slice a n c)
  nums : ∀ b o x, w.cell? ⟨b, o, none⟩ = some (.int .i64 x) → ∃ y, w'.cell? ⟨b, o, none⟩ = some (.int .i64 y)
  frozen : ∀ b o, w'.frozen? ⟨b, o, none⟩ = w.frozen? ⟨b, o, none⟩
theorem Tame.refl (w : World) : Tame w w := ⟨fun _ _ _ _ _ h => h, fun _ _ x h => ⟨x, h⟩, fun _ _ => rfl⟩
theorem Tame.trans {a b c : World} (h : Tame a b) (k : Tame b c) : Tame a c :=
  ⟨fun i o x n m hh => k.slices i o x n m (h.slices i o x n m hh), fun i o x hh => by obtain ⟨y, hy⟩ := h.nums i o x hh; exact k.nums i o y hy, fun i o => (k.frozen i o).trans (h.frozen i o)⟩
theorem Tame.set {w : World} {b o : Nat} {x y : Int} (h : w.cell? ⟨b, o, none⟩ = some (.int .i64 x)) : Tame w (w.setCell ⟨b, o, none⟩ (.int .i64 y)) := by
  refine ⟨fun b2 o2 a n c hh => ?_, fun b2 o2 z hh => ?_, fun _ _ => World.frozen?_setCell _ _ _ _⟩
  · by_cases e : (⟨b, o, none⟩ : Addr) = ⟨b2, o2, none⟩
    · rw [← e, h] at hh
      cases hh
    · rw [World.cell?_setCell_other _ _ _ _ e]
      exact hh
  · by_cases e : (⟨b, o, none⟩ : Addr) = ⟨b2, o2, none⟩
    · rw [← e]
      exact ⟨y, World.cell?_setCell_same _ _ _ h⟩
    · rw [World.cell?_setCell_other _ _ _ _ e]
      exact ⟨z, hh⟩

/-- Some number. -/
def AnyI (_ : World) (v : Value) (_ : Int) : Prop := ∃ x : Int, v = .int .i64 x
def T1 (lo hi : Nat) := Sw lo hi AnyI
def T2 (lo hi : Nat) := Sw lo hi (T1 lo hi)
def T3 (lo hi : Nat) := Sw lo hi (T2 lo hi)
theorem W1.t1 {lo hi : Nat} {w : World} {v : Value} {xs : List Int} (h : W1 lo hi w v xs) : T1 lo hi w v xs := Sw.wider (Nat.le_refl _) (Nat.le_refl _) (fun _ _ x h => ⟨x, h⟩) h
theorem W2.t2 {lo hi : Nat} {w : World} {v : Value} {xs : List (List Int)} (h : W2 lo hi w v xs) : T2 lo hi w v xs := Sw.wider (Nat.le_refl _) (Nat.le_refl _) (fun _ _ _ h => h.t1) h
theorem W3.t3 {lo hi : Nat} {w : World} {v : Value} {xs : List (List (List Int))} (h : W3 lo hi w v xs) : T3 lo hi w v xs := Sw.wider (Nat.le_refl _) (Nat.le_refl _) (fun _ _ _ h => h.t2) h
theorem T1.tame {lo hi : Nat} {w w' : World} {v : Value} {xs : List Int} (h : T1 lo hi w v xs) (ht : Tame w w') : T1 lo hi w' v xs := by
  rcases h with h | ⟨b, o, cap, hv, hlo, hhi, hpos, hc, hf⟩
  · exact Or.inl h
  · refine Or.inr ⟨b, o, cap, hv, hlo, hhi, hpos, fun k hk' => ?_, fun k hk' => (ht.frozen _ _).trans (hf k hk')⟩
    obtain ⟨u, hu, x, rfl⟩ := hc k hk'
    obtain ⟨y, hy⟩ := ht.nums _ _ _ hu
    exact ⟨_, hy, y, rfl⟩
theorem tame_sw {α : Type} {lo hi : Nat} {R : World → Value → List α → Prop} (hs : ∀ w v x, R w v x → ∃ a n c, v = .slice a n c) {w w' : World} (hR : ∀ v x, R w v x → R w' v x) {v : Value} {xs : List (List α)} (h : Sw lo hi R w v xs) (ht : Tame w w') : Sw lo hi R w' v xs := by
  rcases h with h | ⟨b, o, cap, hv, hlo, hhi, hpos, hc, hf⟩
  · exact Or.inl h
  · refine Or.inr ⟨b, o, cap, hv, hlo, hhi, hpos, fun k hk' => ?_, fun k hk' => (ht.frozen _ _).trans (hf k hk')⟩
    obtain ⟨u, hu, hr⟩ := hc k hk'
    obtain ⟨a, n, c, rfl⟩ := hs _ _ _ hr
    exact ⟨_, ht.slices _ _ _ _ _ hu, hR _ _ hr⟩
theorem T2.tame {lo hi : Nat} {w w' : World} {v : Value} {xs : List (List Int)} (h : T2 lo hi w v xs) (ht : Tame w w') : T2 lo hi w' v xs :=
  tame_sw (fun _ _ x h => by obtain ⟨a, c, e⟩ := Sw.shape h; exact ⟨a, _, c, e⟩) (fun _ _ h => T1.tame h ht) h ht
theorem T3.tame {lo hi : Nat} {w w' : World} {v : Value} {xs : List (List (List Int))} (h : T3 lo hi w v xs) (ht : Tame w w') : T3 lo hi w' v xs :=
  tame_sw (fun _ _ x h => by obtain ⟨a, c, e⟩ := Sw.shape h; exact ⟨a, _, c, e⟩) (fun _ _ h => T2.tame h ht) h ht

def MarkR (lo hi : Nat) (v : Value) (k : Int) (n : Nat) (w : World) (e : Ending) (w' : World) : Prop := e = .returned (.int .i64 (k + n)) ∧ Only lo hi w w' ∧ Tame w w' ∧ W1 lo hi w' v (upFrom k n)

set_option maxHeartbeats 800000 in
theorem mark1_any {lo hi : Nat} (v : Value) (xs : List Int) (k : Int) (w : World) (h : T1 lo hi w v xs) (hm : xs.length ≤ 1048576) (hk0 : 0 ≤ k) (hk1 : k ≤ 9223372036852678656) :
    Calls Try.prog 63 #[v, .int .i64 k] w (MarkR lo hi v k xs.length w) := by
  refine Sw.cases h (fun ad cap hx hv => ?_) (fun b o cap hv hlo hhi hpos hc hf => ?_)
  · subst hx hv
    go_enter Try.func63, Try.ntmps63
    go_wp2
    refine wp_loop_rounds 1 ?_
    rw [rounds_succ]
    go_wp2
    go_ret
    exact ⟨ret_int (by simp), Only.refl _ _ _, Tame.refl _, Or.inl ⟨rfl, _, _, rfl⟩⟩
  · subst hv
    clear h
    have HC := Lib.hid hc
    have HF := Lib.hid hf
    clear hc hf
    go_enter Try.func63, Try.ntmps63
    go_wp2
    go_loopw [1, 5] (fun kk i wr => ∃ (j : Nat), j ≤ xs.length ∧ i = .int .i64 j ∧ kk = .int .i64 (k + (j : Int)) ∧ Hid (Only lo hi w wr ∧ Tame w wr) ∧ Hid (∀ q, q < xs.length → ∃ x, wr.cell? ⟨b, o + q, none⟩ = some (.int .i64 x) ∧ (q < j → x = k + (q : Int))) ∧ Hid (∀ q, q < xs.length → wr.frozen? ⟨b, o + q, none⟩ = false)) (fun _ i _ => xs.length - (intOf i).toNat)
    case atStart => exact ⟨0, Nat.zero_le _, rfl, by simp, Lib.hid ⟨Only.refl _ _ _, Tame.refl _⟩, Lib.hid (fun q hq => by
      obtain ⟨u, hu, x, hr⟩ := HC.out q hq
      exact ⟨x, by rw [hu, hr], fun h => absurd h (Nat.not_lt_zero _)⟩), HF⟩
    case round =>
      obtain ⟨j, hj, rfl, rfl, HO, HX, HZ⟩ := hrel
      by_cases hlt : j < xs.length
      · obtain ⟨x, hx, _⟩ := HX.out j hlt
        have hz := HZ.out j hlt
        have HN : Hid (∀ q, q < xs.length → ∃ x, (wr.setCell ⟨b, o + j, none⟩ (.int .i64 (k + (j : Int)))).cell? ⟨b, o + q, none⟩ = some (.int .i64 x) ∧ (q < j + 1 → x = k + (q : Int))) := Lib.hid (fun q hq => by
          obtain ⟨y, hy, hy2⟩ := HX.out q hq
          by_cases e : q = j
          · subst e
            exact ⟨k + (q : Int), World.cell?_setCell_same _ _ _ hy, fun _ => rfl⟩
          · refine ⟨y, ?_, fun h => hy2 (by omega)⟩
            rw [World.cell?_setCell_other _ _ _ _ (fun hh => e (by have h2 := congrArg Addr.off hh; exact (Nat.add_left_cancel h2).symm))]
            exact hy)
        have HZ2 : Hid (∀ q, q < xs.length → (wr.setCell ⟨b, o + j, none⟩ (.int .i64 (k + (j : Int)))).frozen? ⟨b, o + q, none⟩ = false) := Lib.hid (fun q hq => by rw [World.frozen?_setCell]; exact HZ.out q hq)
        have HO2 : Hid (Only lo hi w (wr.setCell ⟨b, o + j, none⟩ (.int .i64 (k + (j : Int)))) ∧ Tame w (wr.setCell ⟨b, o + j, none⟩ (.int .i64 (k + (j : Int))))) := Lib.hid ⟨HO.out.1.trans (Only.set _ hlo hhi), HO.out.2.trans (Tame.set hx)⟩
        go_wp2
        go_roundw
        case rel => exact ⟨j + 1, by omega, by go_num, by go_num, HO2, HN, HZ2⟩
        case measure => simp [intOf]; omega
      · have hjj : Hid (j = xs.length) := Lib.hid (by omega)
        go_wp2
        go_ret
        refine ⟨ret_int (by rw [hjj.out]), HO.out.1, HO.out.2, Or.inr ⟨b, o, cap, by rw [upFrom_length], hlo, hhi, by rw [upFrom_length]; exact hpos, fun q hq => ?_, fun q hq => HZ.out q (by rw [upFrom_length] at hq; exact hq)⟩⟩
        rw [upFrom_length] at hq
        obtain ⟨x, hx, hx2⟩ := HX.out q hq
        refine ⟨_, hx, ?_⟩
        simp only [IsI, upFrom, List.getElem_map, List.getElem_range]
        rw [hx2 (by have := hjj.out; omega)]

set_option maxHeartbeats 800000 in
theorem held1_any {lo : Nat} (v : Value) (n : Nat) (k : Int) (w : World) (h : L1 lo w v (upFrom k n)) (hm : n ≤ 1048576) (hk0 : 0 ≤ k) (hk1 : k ≤ 4611686018427387904) :
    Calls Try.prog 65 #[v, .int .i64 k] w (QW (.int .i64 (k + n)) w) := by
  refine Sl.cases h (fun ad cap hx hv => ?_) (fun b o cap hv _ hpos hc => ?_)
  · have hn : n = 0 := by have := upFrom_length k n; rw [hx] at this; simpa using this.symm
    subst hn hv
    clear hx h
    go_enter Try.func65, Try.ntmps65
    go_wp2
    refine wp_loop_rounds 1 ?_
    rw [rounds_succ]
    go_wp2
    go_ret
    exact ⟨ret_int (by simp), rfl⟩
  · rw [upFrom_length] at hv hpos
    subst hv
    clear h
    have HC := Lib.hid hc
    clear hc
    go_enter Try.func65, Try.ntmps65
    go_wp2
    go_loop [1, 5] (fun kk i => ∃ (j : Nat), j ≤ n ∧ i = .int .i64 j ∧ kk = .int .i64 (k + (j : Int))) (fun _ i => n - (intOf i).toNat)
    case atStart => exact ⟨0, Nat.zero_le _, rfl, by simp⟩
    case round =>
      obtain ⟨j, hj, rfl, rfl⟩ := hrel
      by_cases hlt : j < n
      · obtain ⟨u, hu, hr⟩ := HC.out j (by rw [upFrom_length]; exact hlt)
        have hu2 : w.cell? ⟨b, o + j, none⟩ = some (.int .i64 (k + (j : Int))) := by
          rw [hu, hr]
          simp only [upFrom, List.getElem_map, List.getElem_range]
        clear hu hr
        have hq : ((k + (j : Int)) != (k + (j : Int))) = false := by simp
        go_wp2
        go_round
        case rel => exact ⟨j + 1, by omega, by go_num, by go_num⟩
        case measure => simp [intOf]; omega
      · have hjj : Hid (j = n) := Lib.hid (by omega)
        go_wp2
        go_ret
        exact ⟨ret_int (by rw [hjj.out]), rfl⟩

/-- A mark of something deep: a number not less and not much greater; only numbers in the span were written. -/
def MarkD (lo hi : Nat) (k top : Int) (w : World) (e : Ending) (w' : World) : Prop := ∃ r : Int, e = .returned (.int .i64 r) ∧ k ≤ r ∧ r ≤ top ∧ Only lo hi w w' ∧ Tame w w'

structure CxT (lo hi : Nat) (w : World) (dv mv : Value) (ds : List Int) (ms : List (List (List Int))) : Prop where
  dims : T1 lo hi w dv ds
  maps : T3 lo hi w mv ms
theorem CxW.t {lo hi : Nat} {w : World} {dv mv : Value} {ds : List Int} {ms : List (List (List Int))} (h : CxW lo hi w dv mv ds ms) : CxT lo hi w dv mv ds ms := ⟨h.dims.t1, h.maps.t3⟩

/-- What markComplex leaves: new blocks, and numbers written in the span alone. -/
def MarkC (lo hi : Nat) (k : Int) (w : World) (e : Ending) (w' : World) : Prop :=
  ∃ (r : Int) (w1 : World), e = .returned (.int .i64 r) ∧ k ≤ r ∧ r ≤ k + 1152921504607895552 ∧ Below w.heap.size w w1 ∧ Only lo hi w1 w' ∧ Tame w1 w'

end Go.Proofs.Ytlopenephgabhaa

namespace Go.Proofs.Ytlopenephgabhaa
open Go.RowKit

/-- A table that a call has made: its own row of rows at block g, row j at block g + 1 + j, number i of it Z j i. -/
structure Mat (w w' : World) (r c : Nat) (Z : Nat → Nat → Int) : Prop where
  below : Below w.heap.size w w'
  size : w'.heap.size = w.heap.size + 1 + r
  top : w'.rowIs w.heap.size 35 r (fun j => .slice (some ⟨w.heap.size + 1 + j, 0, none⟩) c c)
  rows : ∀ j, j < r → w'.rowIs (w.heap.size + 1 + j) 2 c (fun i => .int .i64 (Z j i))
def tableOf (r c : Nat) (Z : Nat → Nat → Int) : List (List Int) := (List.range r).map fun j => (List.range c).map fun i => Z j i
theorem Mat.set {w w' : World} {r c : Nat} {Z : Nat → Nat → Int} (h : Mat w w' r c Z) {j i : Nat} (hj : j < r) (x : Int) :
    Mat w (w'.setCell ⟨w.heap.size + 1 + j, i, none⟩ (.int .i64 x)) r c (fun j2 i2 => if j2 = j ∧ i2 = i then x else Z j2 i2) := by
  refine ⟨h.below.setCell (by show w.heap.size ≤ w.heap.size + 1 + j; omega) _, by simp [h.size], h.top.setOther (by show w.heap.size ≠ w.heap.size + 1 + j; omega) _, fun j2 hj2 => ?_⟩
  by_cases e : j2 = j
  · subst e
    exact ((h.rows j2 hj2).set i _).congr (fun i2 _ => by by_cases e2 : i2 = i <;> simp [e2])
  · exact ((h.rows j2 hj2).setOther (by show w.heap.size + 1 + j2 ≠ w.heap.size + 1 + j; omega) _).congr (fun i2 _ => by simp [e])
theorem Mat.congr {w w' : World} {r c : Nat} {Z Z' : Nat → Nat → Int} (h : Mat w w' r c Z) (e : ∀ j, j < r → ∀ i, i < c → Z j i = Z' j i) : Mat w w' r c Z' :=
  ⟨h.below, h.size, h.top, fun j hj => (h.rows j hj).congr (fun i hi => by rw [e j hj i hi])⟩

/-- While the rows are being made: k of them are there. -/
structure MatTo (w w' : World) (r c k : Nat) : Prop where
  below : Below w.heap.size w w'
  size : w'.heap.size = w.heap.size + 1 + k
  top : w'.rowIs w.heap.size 35 r (fun j => if j < k then .slice (some ⟨w.heap.size + 1 + j, 0, none⟩) c c else .slice none 0 0)
  rows : ∀ j, j < k → w'.rowIs (w.heap.size + 1 + j) 2 c (fun _ => .int .i64 0)
theorem MatTo.step {w w' : World} {r c k : Nat} (h : MatTo w w' r c k) : MatTo w ((w'.alloc (.cells (madeCells #[.int .i64 0] c) 2)).setCell ⟨w.heap.size, k, none⟩ (.slice (some ⟨w'.heap.size, 0, none⟩) c c)) r c (k + 1) := by
  have hnew := World.rowIs_made w' (.int .i64 0) c 2
  have hs := h.size
  refine ⟨(h.below.alloc (by omega) _).setCell (Nat.le_refl _) _, by simp [h.size]; omega, ((h.top.alloc _).set k _).congr (fun j _ => ?_), fun j hj => ?_⟩
  · by_cases e : j = k
    · subst e
      rw [if_pos rfl, if_pos (Nat.lt_succ_self _), hs]
    · rw [if_neg e]
      by_cases h2 : j < k
      · rw [if_pos h2, if_pos (by omega)]
      · rw [if_neg h2, if_neg (by omega)]
  · by_cases e : j = k
    · subst e
      rw [← hs]
      exact hnew.setOther (by show w'.heap.size ≠ w.heap.size; omega) _
    · exact ((h.rows j (by omega)).alloc _).setOther (by show w.heap.size + 1 + j ≠ w.heap.size; omega) _
theorem MatTo.done {w w' : World} {r c : Nat} (h : MatTo w w' r c r) : Mat w w' r c (fun _ _ => 0) :=
  ⟨h.below, h.size, h.top.congr (fun j hj => by rw [if_pos hj]), h.rows⟩

end Go.Proofs.Ytlopenephgabhaa

namespace Go.Proofs.Ytlopenephgabhaa
open Go.RowKit

end Go.Proofs.Ytlopenephgabhaa

namespace Go.Proofs.Ytlopenephgabhaa
open Go.RowKit

/-- A row of numbers, gathered: its cells lie in a block of numbers. -/
def G1 (w : World) (u : Value) (xs : List Int) : Prop := w.ownsRow 0 2 1 u xs.length (xs.map (Value.int .i64))
theorem G1.below {w w' : World} {u : Value} {xs : List Int} (h : G1 w u xs) (hb : Below w.heap.size w w') : G1 w' u xs := owns_below h hb
theorem G1.l1 {w : World} {u : Value} {xs : List Int} (h : G1 w u xs) : L1 0 w u xs := sl_of_owns h (Nat.le_refl _) rfl (fun k h1 h2 => by simp [IsI])
theorem owns_mono {w : World} {base base' : Nat} {e : TypeId} {size n : Nat} {v : Value} {xs : List Value} (h : w.ownsRow base e size v n xs) (hb : base' ≤ base) : w.ownsRow base' e size v n xs := by
  refine ⟨h.1, ?_⟩
  rcases h.2 with h2 | ⟨g, cap, cur, hu, hg, r⟩
  · exact Or.inl h2
  · exact Or.inr ⟨g, cap, cur, hu, Nat.le_trans hb hg, r⟩
/-- A row of another kind may grow beside it. -/
theorem owns_grown {w w' : World} {base base' : Nat} {e e' : TypeId} {size size' n n' : Nat} {u v : Value} {xs vs : List Value} (h : w.ownsRow base e size u n xs) (hv : w.ownsRow base' e' size' v n' vs) (he : e ≠ e') (hg : w.grownBy w' v.ownBlock) : w'.ownsRow base e size u n xs := by
  refine ⟨h.1, ?_⟩
  rcases h.2 with h2 | ⟨g, cap, cur, hu, hb, hh, r⟩
  · exact Or.inl h2
  · refine Or.inr ⟨g, cap, cur, hu, hb, ?_, r⟩
    rw [hg.block g (Array.getElem?_eq_some_iff.1 hh).1]
    · exact hh
    · intro e2
      rcases hv.2 with ⟨rfl, _⟩ | ⟨g2, cap2, cur2, rfl, _, hh2, _⟩
      · simp [Value.ownBlock] at e2
      · simp [Value.ownBlock] at e2
        subst e2
        rw [hh] at hh2
        simp at hh2
        exact he hh2.2
/-- A table gathered row by row. -/
def G2 (w : World) (u : Value) (t : List (List Int)) : Prop := ∃ vs, w.ownsRow 0 35 1 u t.length vs ∧ ∀ k (h1 : k < vs.length) (h2 : k < t.length), G1 w vs[k] t[k]
theorem G2.below {w w' : World} {u : Value} {t : List (List Int)} (h : G2 w u t) (hb : Below w.heap.size w w') : G2 w' u t := by
  obtain ⟨vs, ho, hr⟩ := h
  exact ⟨vs, owns_below ho hb, fun k h1 h2 => (hr k h1 h2).below hb⟩
theorem G2.l2 {w : World} {u : Value} {t : List (List Int)} (h : G2 w u t) : L2 0 w u t := by
  obtain ⟨vs, ho, hr⟩ := h
  exact sl_of_owns ho (Nat.le_refl _) rfl (fun k h1 h2 => (hr k h2 h1).l1)

end Go.Proofs.Ytlopenephgabhaa


namespace Go.Proofs.Ytlopenephgabhaa
open Go.RowKit

/-- The dimension of a degree, 0 beyond the top. -/
def dimZ (ds : List Int) (n : Int) : Int := if 0 ≤ n ∧ n ≤ (ds.length : Int) - 1 then ds.getD n.toNat 0 else 0

/-- The rows of the differential of a degree; for the degree 0, and beyond the top, rows without numbers. -/
def mapZ (ds : List Int) (ms : List (List (List Int))) (n : Int) : List (List Int) := if 1 ≤ n ∧ n ≤ (ds.length : Int) - 1 then ms.getD (n.toNat - 1) [] else List.replicate (dimZ ds n).toNat []
end Go.Proofs.Ytlopenephgabhaa

namespace Go.Proofs.Ytlopenephgabhaa
open Go.RowKit

end Go.Proofs.Ytlopenephgabhaa

namespace Go.Proofs.Ytlopenephgabhaa
open Go.RowKit

end Go.Proofs.Ytlopenephgabhaa


namespace Go.Proofs.Ytlopenephgabhaa
open Go.RowKit

end Go.Proofs.Ytlopenephgabhaa

namespace Go.Proofs.Ytlopenephgabhaa
open Go.RowKit

structure Fi (lo : Nat) (w : World) (dv mv lv : Value) (ds : List Int) (ms : List (List (List Int))) (ls : List (List Int)) : Prop where
  cx : Cx lo w dv mv ds ms
  lv : L2 lo w lv ls
theorem Fi.below {lo : Nat} {w w' : World} {dv mv lv : Value} {ds : List Int} {ms : List (List (List Int))} {ls : List (List Int)} (h : Fi lo w dv mv lv ds ms ls) (hb : Below w.heap.size w w') : Fi lo w' dv mv lv ds ms ls := ⟨h.cx.below hb, h.lv.below hb⟩
theorem Fi.zero {lo : Nat} {w : World} {dv mv lv : Value} {ds : List Int} {ms : List (List (List Int))} {ls : List (List Int)} (h : Fi lo w dv mv lv ds ms ls) : Fi 0 w dv mv lv ds ms ls := ⟨h.cx.zero, h.lv.lower (Nat.zero_le _)⟩
/-- What stands in the box of a filtered complex, in whatever later world. -/
structure Fx (w wr : World) (b : Nat) (p : Int) (dv mv lv : Value) (ds : List Int) (ms : List (List (List Int))) (ls : List (List Int)) : Prop where
  below : Below w.heap.size w wr
  c0 : wr.cell? ⟨b, 0, none⟩ = some (.int .i64 p)
  c1 : wr.cell? ⟨b, 1, none⟩ = some dv
  c2 : wr.cell? ⟨b, 2, none⟩ = some mv
  c3 : wr.cell? ⟨b, 3, none⟩ = some lv
  lt : b < wr.heap.size
  fi : Fi 0 wr dv mv lv ds ms ls
theorem Fx.next {w wr w' : World} {b : Nat} {p : Int} {dv mv lv : Value} {ds : List Int} {ms : List (List (List Int))} {ls : List (List Int)} (h : Fx w wr b p dv mv lv ds ms ls) (hb : Below wr.heap.size wr w') : Fx w w' b p dv mv lv ds ms ls :=
  ⟨h.below.trans (hb.mono h.below.size), later hb (Nat.le_refl _) h.c0, later hb (Nat.le_refl _) h.c1, later hb (Nat.le_refl _) h.c2, later hb (Nat.le_refl _) h.c3, Nat.lt_of_lt_of_le h.lt hb.size, h.fi.below hb⟩
theorem Fx.start {w : World} {p : Int} {dv mv lv : Value} {ds : List Int} {ms : List (List (List Int))} {ls : List (List Int)} (t : TypeId) (h : Fi 0 w dv mv lv ds ms ls) : Fx w (w.alloc (.cells #[.int .i64 p, dv, mv, lv] t)) w.heap.size p dv mv lv ds ms ls :=
  ⟨(Below.refl _ _).alloc (Nat.le_refl _) _, by simp, by simp, by simp, by simp, by simp, h.below ((Below.refl _ _).alloc (Nat.le_refl _) _)⟩

set_option maxHeartbeats 800000 in
theorem eqFiltered_true (p : Int) (dv mv lv dv2 mv2 lv2 : Value) (ds : List Int) (ms : List (List (List Int))) (ls : List (List Int)) (w : World) (h : Fi 0 w dv mv lv ds ms ls) (h2 : Fi 0 w dv2 mv2 lv2 ds ms ls) (hd : ds.length ≤ 1048576) (hm : Bd3 1048576 ms) (hl : Bd2 1048576 ls) :
    Calls Try.prog 33 #[.agg #[.int .i64 p, dv, mv, lv], .agg #[.int .i64 p, dv2, mv2, lv2]] w (BR (.bool true) w) := by
  have HM := Lib.hid hm
  have HL := Lib.hid hl
  have hb0 : Below w.heap.size w ((w.alloc (.cells #[.int .i64 p, dv, mv, lv] 50)).alloc (.cells #[.int .i64 p, dv2, mv2, lv2] 50)) :=
    ((Below.refl _ _).alloc (Nat.le_refl _) _).alloc (by simp) _
  have HB0 := Lib.hid hb0
  have H := Lib.hid (h.below hb0)
  have H2 := Lib.hid (h2.below hb0)
  clear hm hl h h2 hb0
  go_enter Try.func33, Try.ntmps33
  go_wp2_with fail
  generalize hW : ((w.alloc (.cells #[.int .i64 p, dv, mv, lv] 50)).alloc (.cells #[.int .i64 p, dv2, mv2, lv2] 50)) = W at *
  have d3 : W.cell? ⟨w.heap.size, 3, none⟩ = some lv := by subst hW; go_simp
  have d7 : W.cell? ⟨w.heap.size + 1, 3, none⟩ = some lv2 := by subst hW; go_simp
  clear hW
  refine (eqComplex_true p dv mv dv2 mv2 ds ms _ H.out.cx H2.out.cx hd HM.out).mono ?_
  rintro e w' ⟨rfl, hb1⟩
  have d3 := later hb1 (Nat.le_refl _) d3
  have d7 := later hb1 (Nat.le_refl _) d7
  have HB1 := Lib.hid (HB0.out.trans (hb1.mono HB0.out.size))
  have HX := Lib.hid (H.out.lv.below hb1)
  have HX2 := Lib.hid (H2.out.lv.below hb1)
  clear hb1
  go_wp2_with fail
  have h1 := eq2_any lv lv2 ls ls _ HX.out HX2.out HL.out HL.out
  rw [decide_eq_true rfl] at h1
  refine h1.mono ?_
  clear h1
  rintro e w' ⟨rfl, m2, rfl⟩
  go_wp2
  go_ret
  exact ⟨rfl, HB1.out.trans ((drewN_below _ m2).mono HB1.out.size)⟩
end Go.Proofs.Ytlopenephgabhaa

namespace Go.Proofs.Ytlopenephgabhaa
open Go.RowKit

end Go.Proofs.Ytlopenephgabhaa

namespace Go.Proofs.Ytlopenephgabhaa
open Go.RowKit

theorem Fx.all {w wr : World} {b : Nat} {p : Int} {dv mv lv : Value} {ds : List Int} {ms : List (List (List Int))} {ls : List (List Int)} (h : Hid (Fx w wr b p dv mv lv ds ms ls)) :
    wr.cell? ⟨b, 0, none⟩ = some (.int .i64 p) ∧ wr.cell? ⟨b, 1, none⟩ = some dv ∧ wr.cell? ⟨b, 2, none⟩ = some mv ∧ wr.cell? ⟨b, 3, none⟩ = some lv ∧ Hid (Fx w wr b p dv mv lv ds ms ls) := ⟨h.out.c0, h.out.c1, h.out.c2, h.out.c3, h⟩

end Go.Proofs.Ytlopenephgabhaa

namespace Go.Proofs.Ytlopenephgabhaa
open Go.RowKit

theorem CxW.wider {lo hi lo' hi' : Nat} {w : World} {dv mv : Value} {ds : List Int} {ms : List (List (List Int))} (hl : lo' ≤ lo) (hh : hi ≤ hi') (h : CxW lo hi w dv mv ds ms) : CxW lo' hi' w dv mv ds ms := ⟨h.dims.wider hl hh, h.maps.wider hl hh⟩
structure FiW (lo hi : Nat) (w : World) (dv mv lv : Value) (ds : List Int) (ms : List (List (List Int))) (ls : List (List Int)) : Prop where
  cx : CxW lo hi w dv mv ds ms
  lv : W2 lo hi w lv ls
theorem FiW.same {lo hi : Nat} {w w' : World} {dv mv lv : Value} {ds : List Int} {ms : List (List (List Int))} {ls : List (List Int)} (h : FiW lo hi w dv mv lv ds ms ls) (hs : Same lo hi w w') : FiW lo hi w' dv mv lv ds ms ls := ⟨h.cx.same hs, h.lv.same hs⟩
theorem FiW.fi {lo hi : Nat} {w : World} {dv mv lv : Value} {ds : List Int} {ms : List (List (List Int))} {ls : List (List Int)} (h : FiW lo hi w dv mv lv ds ms ls) : Fi lo w dv mv lv ds ms ls := ⟨h.cx.cx, h.lv.l2⟩
end Go.Proofs.Ytlopenephgabhaa

namespace Go.Proofs.Ytlopenephgabhaa
open Go.RowKit

end Go.Proofs.Ytlopenephgabhaa


namespace Go.Proofs.Ytlopenephgabhaa
open Go.ChangeShapes Go.WideShapes Go.ChangeAt Go.RowKit Go.Deep

theorem Try.own : ownKnob Try.prog.godebug = none := by kernel_rfl
theorem Try.laidOut : laidOutB Try.prog = true := by kernel_rfl
theorem Try.cellsI : Try.prog.cellsOf 2 = 1 := by kernel_rfl
theorem Try.cellsS : Try.prog.cellsOf 35 = 1 := by kernel_rfl
theorem Try.cellsSS : Try.prog.cellsOf 22 = 1 := by kernel_rfl
section
variable {H : Type} {enc : TypeId × Value → H} {P : Program} {w : World} {base : Nat} {held : Bool}

theorem sl_of_trod {α : Type} [Inhabited α] {t e : TypeId} (ht : P.underlying t = some (.slice e)) (hc : P.cellsOf e = 1) {R : World → Value → α → Prop} {B : α → Prop}
    (hR : ∀ fuel v x, DataW.trod enc P w base (fun _ => true) held fuel e [v] = some x → ∃ a, R w v a ∧ B a) {fuel : Nat} {v : Value} {x : DataW H × List MemPlace}
    (h : DataW.trod enc P w base (fun _ => true) held fuel t [v] = some x) : ∃ xs : List α, Sl 0 R w v xs ∧ xs.length ≤ 9223372036854775807 ∧ ∀ a ∈ xs, B a := by
  rcases open_slice1 ht hc h with ⟨hcs, _⟩ | ⟨a, len, cap, m, n, V, D, Pl, hcs, _, hl, hm, hmm, _, hx⟩
  · obtain rfl : v = .slice none 0 0 := by simpa using hcs
    exact ⟨[], Or.inl ⟨rfl, _, _, rfl⟩, by simp, by simp⟩
  · obtain rfl : v = .slice (some a) len cap := by simpa using hcs
    simp only [if_true] at hmm
    have each : ∀ i, i < len → ∃ y : α, R w (V i) y ∧ B y := fun i hi => hR n _ _ (hx i (by omega)).2
    obtain ⟨f, hf⟩ := choose_lt each
    refine ⟨(List.range len).map f, ?_, by simpa [maxLen] using Nat.le_trans hl hm, fun y hy => ?_⟩
    · by_cases h0 : len = 0
      · subst h0
        exact Or.inl ⟨rfl, _, _, rfl⟩
      · obtain ⟨b, off, spot⟩ := a
        have hspot : spot = none := by simpa [Addr.add] using World.cell?_spot (hx 0 (by omega)).1
        subst hspot
        refine Or.inr ⟨b, off, cap, by simp, Nat.zero_le _, by simp; omega, fun k hk => ?_⟩
        have hk' : k < len := by simpa using hk
        refine ⟨V k, by rw [← Go.WideShapes.add_plain]; exact (hx k (by omega)).1, ?_⟩
        simp only [List.getElem_map, List.getElem_range]
        exact (hf k hk').1
    · obtain ⟨i, hi, rfl⟩ := List.mem_map.1 hy
      exact (hf i (by simpa using hi)).2
end

section
variable {H : Type} {enc : TypeId × Value → H} {w : World} {base : Nat} {held : Bool}
theorem l1_of_trod {fuel : Nat} {v : Value} {x : DataW H × List MemPlace} (h : DataW.trod enc Try.prog w base (fun _ => true) held fuel 35 [v] = some x) : ∃ xs, L1 0 w v xs ∧ Bd1 9223372036854775807 xs := by
  obtain ⟨xs, h1, h2, _⟩ := sl_of_trod (R := IsI) (B := fun _ => True) Try.underlying35 Try.cellsI (fun fuel v x hh => by
    obtain ⟨a, e0, _, _⟩ := DataW.trod_int Try.underlying2 hh
    exact ⟨a, by simpa [IsI] using e0, trivial⟩) h
  exact ⟨xs, h1, h2⟩
theorem l2_of_trod {fuel : Nat} {v : Value} {x : DataW H × List MemPlace} (h : DataW.trod enc Try.prog w base (fun _ => true) held fuel 22 [v] = some x) : ∃ xs, L2 0 w v xs ∧ Bd2 9223372036854775807 xs := by
  obtain ⟨xs, h1, h2, h3⟩ := sl_of_trod (R := L1 0) (B := Bd1 9223372036854775807) Try.underlying22 Try.cellsS (fun fuel v x hh => l1_of_trod hh) h
  exact ⟨xs, h1, h2, h3⟩
theorem l3_of_trod {fuel : Nat} {v : Value} {x : DataW H × List MemPlace} (h : DataW.trod enc Try.prog w base (fun _ => true) held fuel 36 [v] = some x) : ∃ xs, L3 0 w v xs ∧ Bd3 9223372036854775807 xs := by
  obtain ⟨xs, h1, h2, h3⟩ := sl_of_trod (R := L2 0) (B := Bd2 9223372036854775807) Try.underlying36 Try.cellsSS (fun fuel v x hh => l2_of_trod hh) h
  exact ⟨xs, h1, h2, h3⟩

end
end Go.Proofs.Ytlopenephgabhaa

namespace Go.Proofs.Ytlopenephgabhaa
open Go.ChangeShapes Go.WideShapes Go.ChangeAt Go.RowKit Go.Deep

section
variable {H : Type} {enc : TypeId × Value → H} {w : World} {base : Nat} {held : Bool}
end
end Go.Proofs.Ytlopenephgabhaa

namespace Go.Proofs.Ytlopenephgabhaa

section
variable {P : Program} {rk : Nat → Nat}
end
/-! The program's head, a line of words: parted once. -/
def sp32 : Char := Char.ofNat 32
theorem ws_sp (r : List Char) : wordsSigns (sp32 :: r) = [] :: wordsSigns r := rfl
theorem ws_cons {c : Char} (h : c ≠ sp32) {r w : List Char} {ws : List (List Char)} (e : wordsSigns r = w :: ws) : wordsSigns (c :: r) = (c :: w) :: ws := by
  rw [wordsSigns.eq_def]
  split
  · rename_i h1; cases h1
  · rename_i h1; injection h1 with h1 _; exact absurd h1 h
  · rename_i h1; injection h1 with h1 h2; subst h1 h2; rw [e]
theorem ws_word (r : List Char) : ∀ w : List Char, (∀ c ∈ w, c ≠ sp32) → wordsSigns (w ++ sp32 :: r) = w :: wordsSigns r := by
  intro w
  induction w with
  | nil => intro _; exact ws_sp r
  | cons c w ih => intro h; exact ws_cons (h c (List.mem_cons_self ..)) (ih fun x hx => h x (List.mem_cons_of_mem _ hx))
theorem ws_last : ∀ w : List Char, (∀ c ∈ w, c ≠ sp32) → wordsSigns w = [w] := by
  intro w
  induction w with
  | nil => intro _; rfl
  | cons c w ih => intro h; exact ws_cons (h c (List.mem_cons_self ..)) (ih fun x hx => h x (List.mem_cons_of_mem _ hx))
def joinWords : List Char → List (List Char) → List Char
  | w, [] => w
  | w, v :: ws => w ++ sp32 :: joinWords v ws
theorem ws_join : ∀ (ws : List (List Char)) (w : List Char), (∀ v ∈ w :: ws, ∀ c ∈ v, c ≠ sp32) → wordsSigns (joinWords w ws) = w :: ws := by
  intro ws
  induction ws with
  | nil => intro w h; exact ws_last w (h w (List.mem_cons_self ..))
  | cons v ws ih => intro w h; rw [joinWords, ws_word _ _ (h w (List.mem_cons_self ..)), ih v (fun x hx => h x (List.mem_cons_of_mem _ hx))]
def Try.doorRows : List (List UInt8) := ([] : List (List Nat)).map fun w => w.map UInt8.ofNat
def Try.headWords : List (List Char) := ([[102, 100, 99, 53, 51, 52, 49, 56, 54, 57, 49, 48, 97, 54, 55, 97, 50, 50, 100, 53, 54, 52, 101, 50, 57, 51, 51, 97, 98, 98, 49, 49, 99, 54, 54, 99, 57, 49, 50, 98, 97, 57, 50, 57, 48, 54, 56, 55, 97, 48, 57, 57, 49, 52, 53, 98, 97, 54, 57, 51, 49, 55, 51, 97], [99, 117, 116], [97, 116], [108, 111, 111, 112, 46, 101, 120, 97, 109, 112, 108, 101, 47, 103, 48, 49, 50, 55, 51, 47, 108, 97, 119, 115, 46, 70, 110, 69, 120, 97, 99, 116, 73, 115, 68, 111, 117, 98, 108, 101], [108, 111, 111, 112, 46, 101, 120, 97, 109, 112, 108, 101, 47, 103, 48, 49, 50, 55, 51, 47, 108, 97, 119, 115, 46, 70, 110, 69, 120, 97, 99, 116, 84, 114, 97, 110, 115, 112, 111, 115, 101, 68, 111, 117, 98, 108, 101], [108, 111, 111, 112, 46, 101, 120, 97, 109, 112, 108, 101, 47, 103, 48, 49, 50, 55, 51, 47, 108, 97, 119, 115, 46, 70, 110, 69, 120, 97, 99, 116, 67, 111, 108, 117, 109, 110, 79, 102], [108, 111, 111, 112, 46, 101, 120, 97, 109, 112, 108, 101, 47, 103, 48, 49, 50, 55, 51, 47, 108, 97, 119, 115, 46, 70, 110, 69, 120, 97, 99, 116, 67, 111, 108, 117, 109, 110, 72, 111, 109, 111, 108, 111, 103, 121], [108, 111, 111, 112, 46, 101, 120, 97, 109, 112, 108, 101, 47, 103, 48, 49, 50, 55, 51, 47, 108, 97, 119, 115, 46, 70, 110, 69, 120, 97, 99, 116, 84, 111, 116, 97, 108, 79, 102], [108, 111, 111, 112, 46, 101, 120, 97, 109, 112, 108, 101, 47, 103, 48, 49, 50, 55, 51, 47, 108, 97, 119, 115, 46, 70, 110, 69, 120, 97, 99, 116, 70, 105, 108, 116, 101, 114, 101, 100, 84, 111, 116, 97, 108], [108, 111, 111, 112, 46, 101, 120, 97, 109, 112, 108, 101, 47, 103, 48, 49, 50, 55, 51, 47, 108, 97, 119, 115, 46, 70, 110, 69, 120, 97, 99, 116, 80, 114, 111, 100, 117, 99, 116, 68, 111, 117, 98, 108, 101]] : List (List Nat)).map fun w => w.map Char.ofNat
def Try.headWord : List Char := ([104, 97, 114, 110, 101, 115, 115] : List Nat).map Char.ofNat
set_option maxRecDepth 100000 in
theorem Try.head_eq : Try.checked.prog.initOrder = String.ofList (joinWords Try.headWord Try.headWords) := by kernel_rfl
set_option maxRecDepth 100000 in
theorem Try.head_ok : ((Try.headWord :: Try.headWords).all fun w => w.all fun c => decide (c ≠ sp32)) = true := by kernel_rfl
theorem Try.head_words : wordsSigns Try.checked.prog.initOrder.toList = Try.headWord :: Try.headWords := by
  rw [Try.head_eq, String.toList_ofList, ws_join]
  intro v hv c hc
  exact of_decide_eq_true (List.all_eq_true.1 (List.all_eq_true.1 Try.head_ok v hv) c hc)
/-! For whatever program with such a head: so the kernel does not run this one's. -/
section
variable {Q : Program} (h : wordsSigns Q.initOrder.toList = Try.headWord :: Try.headWords)
include h
set_option maxRecDepth 100000 in
theorem Try.headLifts_of : Q.headLifts = [] := by
  unfold Program.headLifts
  rw [h]
  kernel_rfl
set_option maxRecDepth 100000 in
theorem Try.liftsFinal_of : Q.liftsFinal = false := by
  unfold Program.liftsFinal
  rw [h, Try.headLifts_of h]
  kernel_rfl
set_option maxRecDepth 100000 in
theorem Try.make_of : Q.make = some .cut := by
  unfold Program.make
  rw [h, Try.headLifts_of h]
  show _ = some Make.cut
  kernel_rfl
set_option maxRecDepth 100000 in
theorem Try.mayEnter_of (h1 : Q.laysLater = false) (h2 : Q.bearsReflect = false) (h3 : Q.doorRows = Try.doorRows) : Q.mayEnter = true := by
  unfold Program.mayEnter
  simp only [h, h1, h2, Program.doorFits, h3]
  show _ = true
  kernel_rfl
end
theorem Try.mayEnter : Try.checked.prog.mayEnter = true := Try.mayEnter_of Try.head_words (by kernel_rfl) (by kernel_rfl) (by kernel_rfl)
theorem Try.liftsFinal : Try.checked.prog.liftsFinal = false := Try.liftsFinal_of Try.head_words
theorem Try.make : Try.checked.prog.make = some .cut := Try.make_of Try.head_words
end Go.Proofs.Ytlopenephgabhaa


namespace Go.Proofs.Ytlopenephgabhaa
open Go.ChangeShapes Go.WideShapes Go.ChangeAt Go.RowKit Go.Deep

structure Wh (lo : Nat) (w : World) (dv mv : Value) (dl : List Int) (ml : List (List (List Int))) : Prop where
  fd : L1 lo w dv dl
  fm : L3 lo w mv ml
theorem Wh.below {lo : Nat} {w w' : World} {dv mv : Value} {dl : List Int} {ml : List (List (List Int))} (h : Wh lo w dv mv dl ml) (hb : Below w.heap.size w w') : Wh lo w' dv mv dl ml := ⟨h.fd.below hb, h.fm.below hb⟩
theorem Wh.lower {lo lo' : Nat} (hl : lo' ≤ lo) {w : World} {dv mv : Value} {dl : List Int} {ml : List (List (List Int))} (h : Wh lo w dv mv dl ml) : Wh lo' w dv mv dl ml := ⟨h.fd.lower hl, h.fm.lower hl⟩
theorem Wh.zero {lo : Nat} {w : World} {dv mv : Value} {dl : List Int} {ml : List (List (List Int))} (h : Wh lo w dv mv dl ml) : Wh 0 w dv mv dl ml := h.lower (Nat.zero_le _)
structure WhW (lo hi : Nat) (w : World) (dv mv : Value) (dl : List Int) (ml : List (List (List Int))) : Prop where
  fd : W1 lo hi w dv dl
  fm : W3 lo hi w mv ml
theorem WhW.same {lo hi : Nat} {w w' : World} {dv mv : Value} {dl : List Int} {ml : List (List (List Int))} (h : WhW lo hi w dv mv dl ml) (s : Same lo hi w w') : WhW lo hi w' dv mv dl ml := ⟨h.fd.same s, h.fm.same s⟩
theorem WhW.cx {lo hi : Nat} {w : World} {dv mv : Value} {dl : List Int} {ml : List (List (List Int))} (h : WhW lo hi w dv mv dl ml) : Wh lo w dv mv dl ml := ⟨h.fd.l1, h.fm.l3⟩
/-- The box of one, in whatever later world. -/
structure BxWh (w wr : World) (b : Nat)  (dv mv : Value) (dl : List Int) (ml : List (List (List Int))) : Prop where
  below : Below w.heap.size w wr
  c0 : wr.cell? ⟨b, 0, none⟩ = some (dv)
  c1 : wr.cell? ⟨b, 1, none⟩ = some (mv)
  lt : b < wr.heap.size
  cx : Wh 0 wr dv mv dl ml
theorem BxWh.next {w wr w' : World} {b : Nat}  {dv mv : Value} {dl : List Int} {ml : List (List (List Int))} (h : BxWh w wr b  dv mv dl ml) (hb : Below wr.heap.size wr w') : BxWh w w' b  dv mv dl ml :=
  ⟨h.below.trans (hb.mono h.below.size), later hb (Nat.le_refl _) h.c0, later hb (Nat.le_refl _) h.c1, Nat.lt_of_lt_of_le h.lt hb.size, h.cx.below hb⟩
structure BqWh (wr : World) (b : Nat)  (dv mv : Value) (dl : List Int) (ml : List (List (List Int))) : Prop where
  c0 : wr.cell? ⟨b, 0, none⟩ = some (dv)
  c1 : wr.cell? ⟨b, 1, none⟩ = some (mv)
  lt : b < wr.heap.size
  cx : Wh 0 wr dv mv dl ml
theorem BqWh.next {wr w' : World} {b : Nat}  {dv mv : Value} {dl : List Int} {ml : List (List (List Int))} (h : BqWh wr b  dv mv dl ml) (hb : Below wr.heap.size wr w') : BqWh w' b  dv mv dl ml :=
  ⟨later hb (Nat.le_refl _) h.c0, later hb (Nat.le_refl _) h.c1, Nat.lt_of_lt_of_le h.lt hb.size, h.cx.below hb⟩
theorem BqWh.only {wr w' : World} {b lo hi : Nat}  {dv mv : Value} {dl : List Int} {ml : List (List (List Int))} (h : BqWh wr b  dv mv dl ml) (ho : Only lo hi wr w') (hc : Wh 0 w' dv mv dl ml) (hb : b < lo ∨ hi ≤ b) : BqWh w' b  dv mv dl ml :=
  ⟨(ho.cell hb).trans h.c0, (ho.cell hb).trans h.c1, by have := ho.size; have := h.lt; omega, hc⟩
structure WhT (lo hi : Nat) (w : World) (dv mv : Value) (dl : List Int) (ml : List (List (List Int))) : Prop where
  fd : T1 lo hi w dv dl
  fm : T3 lo hi w mv ml
theorem WhW.t {lo hi : Nat} {w : World} {dv mv : Value} {dl : List Int} {ml : List (List (List Int))} (h : WhW lo hi w dv mv dl ml) : WhT lo hi w dv mv dl ml := ⟨h.fd.t1, h.fm.t3⟩

section
variable {H : Type} {enc : TypeId × Value → H} {P : Program} {w : World} {base : Nat} {held : Bool} {spare : Nat → Bool}
end
end Go.Proofs.Ytlopenephgabhaa


namespace Go.Proofs.Ytlopenephgabhaa
open Go.RowKit

/-- The first n numbers. -/
def toL (n : Nat) (v : Lin.V) : List Int := (List.range n).map v
/-- The cells of a vector. -/
def vl (v : Lin.V) : List Value := (toL 40 v).map (Value.int .i64)
def vv (v : Lin.V) : Value := .agg (vl v).toArray
theorem toL_length (n : Nat) (v : Lin.V) : (toL n v).length = n := by simp [toL]
theorem toL_get {n k : Nat} (v : Lin.V) (h : k < (toL n v).length) : (toL n v)[k] = v k := by simp [toL]
theorem vl_length (v : Lin.V) : (vl v).length = 40 := by simp [vl, toL_length]
theorem vl_get (v : Lin.V) {k : Nat} (h : k < 40) : (vl v)[k]? = some (.int .i64 (v k)) := by
  have : k < (toL 40 v).length := by rw [toL_length]; exact h
  simp [vl, this, toL_get]
theorem vl_congr {v w : Lin.V} (h : ∀ i, i < 40 → v i = w i) : vl v = vl w := by
  unfold vl toL
  rw [List.map_congr_left (fun i hi => h i (List.mem_range.1 hi))]
/-- Where a vector lies. -/
def At (w : World) (b o : Nat) (v : Lin.V) : Prop := w.rangeAt b o (vl v)
theorem At.range {w : World} {b o : Nat} {v : Lin.V} (h : At w b o v) : w.rangeAt b o (vl v) := h
theorem At.cell {w : World} {b o : Nat} {v : Lin.V} (h : At w b o v) {k : Nat} (hk : k < 40) : w.cell? ⟨b, o + k, none⟩ = some (.int .i64 (v k)) := h k _ (vl_get v hk)
theorem At.lt {w : World} {b o : Nat} {v : Lin.V} (h : At w b o v) : b < w.heap.size := cell_lt (h.cell (k := 0) (by omega))
theorem At.below {w w' : World} {b o B : Nat} {v : Lin.V} (h : At w b o v) (hb : Below B w w') (hB : b < B) : At w' b o v := fun j u hu => by
  rw [hb.cell (p := ⟨b, o + j, none⟩) hB]
  exact h j u hu
theorem At.later {w w' : World} {b o : Nat} {v : Lin.V} (h : At w b o v) (hb : Below w.heap.size w w') : At w' b o v := h.below hb h.lt
end Go.Proofs.Ytlopenephgabhaa

namespace Go.Proofs.Ytlopenephgabhaa
open Go.RowKit

theorem mul_bd {p a b : Int} (hp : IsP p) (ha0 : 0 ≤ a) (ha : a < p) (hb0 : 0 ≤ b) (hb : b ≤ p) : 0 ≤ a * b ∧ a * b ≤ 42 := by
  have hp7 : p ≤ 7 := by rcases hp with rfl | rfl | rfl | rfl <;> decide
  refine ⟨Int.mul_nonneg ha0 hb0, ?_⟩
  have h1 : a * b ≤ 6 * b := Int.mul_le_mul_of_nonneg_right (by omega) hb0
  omega
theorem IsP.lo1 {p : Int} (hp : IsP p) : 1 < p := by rcases hp with rfl | rfl | rfl | rfl <;> decide
theorem IsP.hi7 {p : Int} (hp : IsP p) : p ≤ 7 := by rcases hp with rfl | rfl | rfl | rfl <;> decide

theorem there_set {w : World} {b o n : Nat} (h : w.there b o n) (a : Addr) (u : Value) : (w.setCell a u).there b o n := fun j hj => by
  obtain ⟨h1, h2⟩ := h j hj
  refine ⟨?_, by rw [World.frozen?_setCell]; exact h2⟩
  obtain ⟨x, hx⟩ := Option.isSome_iff_exists.1 h1
  by_cases e : a = ⟨b, o + j, none⟩
  · rw [e, World.cell?_setCell_same _ _ _ hx]; rfl
  · rw [World.cell?_setCell_other _ _ _ _ e, hx]; rfl
theorem there_below {w w' : World} {b o n B : Nat} (h : w.there b o n) (hb : Below B w w') (hB : b < B) : w'.there b o n := fun j hj => by
  rw [hb.cell (p := ⟨b, o + j, none⟩) hB, hb.frozen (p := ⟨b, o + j, none⟩) hB]
  exact h j hj
theorem below_setCells {B : Nat} {w : World} (b : Nat) (hB : B ≤ b) : ∀ (vs : List Value) (o : Nat) (w' : World), Below B w w' → Below B w (w'.setCells b o vs) := by
  intro vs
  induction vs with
  | nil => intro o w' h; exact h
  | cons v vs ih => intro o w' h; exact ih (o + 1) _ (h.setCell hB v)
theorem addr_ne {b o o' : Nat} (h : o ≠ o') : (⟨b, o, none⟩ : Addr) ≠ ⟨b, o', none⟩ := fun e => h (by injection e)
theorem At.set {w : World} {b o : Nat} {v : Lin.V} (h : At w b o v) {k : Nat} (hk : k < 40) (x : Int) : At (w.setCell ⟨b, o + k, none⟩ (.int .i64 x)) b o (fun i => if i = k then x else v i) := fun j u hu => by
  have hj : j < 40 := by have := (List.getElem?_eq_some_iff.1 hu).1; rwa [vl_length] at this
  rw [vl_get _ hj] at hu
  by_cases e : j = k
  · subst e
    rw [World.cell?_setCell_same _ _ _ (h.cell hj)]
    simpa using hu
  · rw [World.cell?_setCell_other _ _ _ _ (addr_ne (by omega)), h.cell hj]
    simpa [e] using hu
theorem At.setOther {w : World} {b o : Nat} {v : Lin.V} (h : At w b o v) {a : Addr} (ha : a.block ≠ b) (u : Value) : At (w.setCell a u) b o v := fun j x hx => by
  rw [World.cell?_setCell_other _ _ _ _ (by intro e; exact ha (by rw [e]))]
  exact h j x hx
theorem At.congr {w : World} {b o : Nat} {v v' : Lin.V} (h : At w b o v) (e : ∀ i, i < 40 → v i = v' i) : At w b o v' := by
  unfold At
  rw [← vl_congr e]
  exact h
theorem at_setCells (w : World) (b o : Nat) (v : Lin.V) (ht : w.there b o 40) : At (w.setCells b o (vl v)) b o v := World.rangeAt_setCells_same w b o (vl v) (by rw [vl_length]; exact ht)
theorem At.apart {w : World} {b o b' o' : Nat} {v : Lin.V} (h : At w b o v) (v' : Lin.V) (ha : b ≠ b' ∨ o + 40 ≤ o' ∨ o' + 40 ≤ o) : At (w.setCells b' o' (vl v')) b o v := World.rangeAt_setCells_apart h b' o' (vl v') (by rw [vl_length, vl_length]; exact ha)
/-- A vector in a box, and a place for a vector. -/
structure Boxed (w W : World) (b g : Nat) (v : Lin.V) : Prop where
  below : Below w.heap.size w W
  lo : w.heap.size ≤ b ∧ w.heap.size ≤ g
  ne : b ≠ g
  at' : At W b 0 v
  there : W.there b 0 40
  res : W.there g 0 40
theorem Boxed.next {w W W' : World} {b g : Nat} {v : Lin.V} (h : Boxed w W b g v) (hb : Below W.heap.size W W') : Boxed w W' b g v := by
  have hg : g < W.heap.size := by
    obtain ⟨x, hx⟩ := Option.isSome_iff_exists.1 (h.res 0 (by omega)).1
    exact cell_lt hx
  exact ⟨h.below.trans (hb.mono h.below.size), h.lo, h.ne, h.at'.later hb, there_below h.there hb h.at'.lt, there_below h.res hb hg⟩
theorem Boxed.set {w W : World} {b g : Nat} {v : Lin.V} (h : Boxed w W b g v) {k : Nat} (hk : k < 40) (x : Int) : Boxed w (W.setCell ⟨b, k, none⟩ (.int .i64 x)) b g (fun i => if i = k then x else v i) := by
  have := h.at'.set hk x
  rw [Nat.zero_add] at this
  exact ⟨h.below.setCell h.lo.1 _, h.lo, h.ne, this, there_set h.there _ _, there_set h.res _ _⟩
theorem Boxed.congr {w W : World} {b g : Nat} {v v' : Lin.V} (h : Boxed w W b g v) (e : ∀ i, i < 40 → v i = v' i) : Boxed w W b g v' := ⟨h.below, h.lo, h.ne, h.at'.congr e, h.there, h.res⟩
end Go.Proofs.Ytlopenephgabhaa

namespace Go.Proofs.Ytlopenephgabhaa
open Go.RowKit

/-- The slice s reads as the vectors L, its cells in blocks from lo on. -/
def Vs (lo : Nat) (w : World) (s : Value) (L : List Lin.V) : Prop :=
  (L = [] ∧ ∃ ad cap, s = .slice ad 0 cap) ∨
  ∃ b o cap, s = .slice (some ⟨b, o, none⟩) L.length cap ∧ lo ≤ b ∧ 0 < L.length ∧ ∀ k (h : k < L.length), At w b (o + k * 40) L[k]
theorem Vs.keep {lo : Nat} {w w' : World} {s : Value} {L : List Lin.V} (h : Vs lo w s L) (hk : Keep lo w w') : Vs lo w' s L := by
  rcases h with h | ⟨b, o, cap, hs, hlo, hpos, hc⟩
  · exact Or.inl h
  · refine Or.inr ⟨b, o, cap, hs, hlo, hpos, fun k h j u hu => ?_⟩
    have h1 := hc k h j u hu
    rw [hk.2 b _ hlo (cell_lt h1)]
    exact h1
theorem Vs.below {lo : Nat} {w w' : World} {s : Value} {L : List Lin.V} (h : Vs lo w s L) (hb : Below w.heap.size w w') : Vs lo w' s L := h.keep (Keep.of_below hb)
theorem Vs.lower {lo lo' : Nat} (hl : lo' ≤ lo) {w : World} {s : Value} {L : List Lin.V} (h : Vs lo w s L) : Vs lo' w s L := by
  rcases h with h | ⟨b, o, cap, hs, hlo, hpos, hc⟩
  · exact Or.inl h
  · exact Or.inr ⟨b, o, cap, hs, by omega, hpos, hc⟩
theorem Vs.cases {lo : Nat} {w : World} {s : Value} {L : List Lin.V} (h : Vs lo w s L) {C : Prop} (h0 : ∀ ad cap, L = [] → s = .slice ad 0 cap → C)
    (h1 : ∀ b o cap, s = .slice (some ⟨b, o, none⟩) L.length cap → lo ≤ b → 0 < L.length → (∀ k (h : k < L.length), At w b (o + k * 40) L[k]) → C) : C := by
  rcases h with ⟨h, ad, cap, hs⟩ | ⟨b, o, cap, hs, hlo, hpos, hc⟩
  · exact h0 ad cap h hs
  · exact h1 b o cap hs hlo hpos hc

/-- The making of a vector's box. -/
structure NewV (w W : World) : Prop where
  below : Below w.heap.size w W
  size : W.heap.size = w.heap.size + 1
  there : W.there w.heap.size 0 40
theorem Boxed.put {w W : World} {b g : Nat} {v : Lin.V} (h : Boxed w W b g v) (u : Lin.V) : Boxed w (W.setCells b 0 (vl u)) b g u :=
  ⟨below_setCells _ h.lo.1 _ _ _ h.below, h.lo, h.ne, at_setCells _ _ _ _ h.there, World.there_setCells h.there _ _ _, World.there_setCells h.res _ _ _⟩
theorem hload (w : World) {b o : Nat} {x : Int} (h : w.cell? ⟨b, o, none⟩ = some (.int .i64 x)) : (Instr.loadAt 2 (.pointer (some ⟨b, o, none⟩))).run Try.prog w = .ok (.int .i64 x) w := by go_simp
end Go.Proofs.Ytlopenephgabhaa

namespace Go.Proofs.Ytlopenephgabhaa
open Go.RowKit

/-- The key's datum. -/
def keyLit (v : Lin.V) : Lit := .string (keyBytes ((List.range 40).map fun i => .int .i64 (v i)))
/-- The map in block b bears true at vectors of M alone. -/
def Seen (w : World) (b n : Nat) (M : List Lin.V) : Prop := ∃ D : DataW Unit, w.ownsMap Try.prog 104 (plainElem Try.prog 4) b n D ∧ Maps.IsMap D ∧
  ∀ v : Lin.V, (∀ i, 0 ≤ v i ∧ v i ≤ 7) → D.atKey (keyLit v) (.lit (.bool false)) = .lit (.bool true) → ∃ u ∈ M, vv u = vv v
theorem Seen.made (w : World) : Seen (w.alloc (.map #[] 0)) w.heap.size 0 [] := ⟨.map [], World.ownsMap_made _ _ _ _, ⟨[], rfl⟩, fun v _ h => by
  have : (DataW.map [] : DataW Unit).atKey (keyLit v) (.lit (.bool false)) = .lit (.bool false) := rfl
  rw [this] at h
  cases h⟩
theorem Seen.lt {w : World} {b n : Nat} {M : List Lin.V} (h : Seen w b n M) : b < w.heap.size := by obtain ⟨D, hd, _⟩ := h; exact hd.lt
theorem Seen.block {w w' : World} {b n : Nat} {M : List Lin.V} (h : Seen w b n M) (hb : w'.heap[b]? = w.heap[b]?) : Seen w' b n M := by
  obtain ⟨D, ⟨es, clock, h1, F, h2, h3⟩, r⟩ := h
  exact ⟨D, ⟨es, clock, hb.trans h1, F, h2, h3⟩, r⟩
theorem Seen.below {w w' : World} {b n : Nat} {M : List Lin.V} (h : Seen w b n M) (hb : Below w.heap.size w w') : Seen w' b n M := h.block (hb.block b h.lt)
theorem Seen.more {w : World} {b n n' : Nat} {M M' : List Lin.V} (h : Seen w b n M) (hn : n ≤ n') (hM : ∀ u ∈ M, u ∈ M') : Seen w b n' M' := by
  obtain ⟨D, h1, h2, h3⟩ := h
  exact ⟨D, h1.mono hn, h2, fun v hv h => by obtain ⟨u, hu, e⟩ := h3 v hv h; exact ⟨u, hM u hu, e⟩⟩

section
variable {ops : Array Oper} {rest : List Oper} {o : Oper} {a : Act} {w : World} {Q : Exit → Act → World → Prop}
end
end Go.Proofs.Ytlopenephgabhaa

namespace Go.Proofs.Ytlopenephgabhaa
open Go.RowKit

/-- The cells of a list of vectors, one behind the other. -/
def cellsOf (L : List Lin.V) : List Value := L.flatMap vl
theorem cellsOf_length (L : List Lin.V) : (cellsOf L).length = L.length * 40 := by
  induction L with
  | nil => rfl
  | cons v L ih => rw [cellsOf, List.flatMap_cons, List.length_append, vl_length]; unfold cellsOf at ih; rw [ih, List.length_cons]; omega
theorem cellsOf_at {L : List Lin.V} : ∀ {k : Nat} (h : k < L.length) {j : Nat}, j < 40 → (cellsOf L)[k * 40 + j]? = some (.int .i64 (L[k] j)) := by
  induction L with
  | nil => intro k h; simp at h
  | cons v L ih =>
    intro k h j hj
    rw [cellsOf, List.flatMap_cons]
    cases k with
    | zero =>
      rw [List.getElem?_append_left (by rw [vl_length]; omega)]
      simp only [Nat.zero_mul, Nat.zero_add, List.getElem_cons_zero]
      exact vl_get v hj
    | succ k =>
      rw [List.getElem?_append_right (by rw [vl_length]; omega), vl_length, show (k + 1) * 40 + j - 40 = k * 40 + j by omega]
      simp only [List.getElem_cons_succ]
      exact ih (by simpa using h) hj
theorem cellsOf_append (L M : List Lin.V) : cellsOf (L ++ M) = cellsOf L ++ cellsOf M := by simp [cellsOf]
/-- A slice of vectors that the call has made, in blocks from base on. -/
def Ow (base : Nat) (w : World) (s : Value) (L : List Lin.V) : Prop := w.ownsRow base 104 40 s L.length (cellsOf L)
theorem Ow.nil (base : Nat) (w : World) : Ow base w (.slice none 0 0) [] := ⟨rfl, Or.inl ⟨rfl, rfl⟩⟩
theorem Ow.below {base : Nat} {w w' : World} {s : Value} {L : List Lin.V} (h : Ow base w s L) (hb : Below w.heap.size w w') : Ow base w' s L := owns_below h hb
theorem Ow.vs {base : Nat} {w : World} {s : Value} {L : List Lin.V} (h : Ow base w s L) : Vs base w s L := by
  obtain ⟨_, h2⟩ := h
  rcases h2 with ⟨hs, h0⟩ | ⟨g, cap, cur, hs, hg, hb, hn, _, hcur, ht⟩
  · exact Or.inl ⟨List.eq_nil_of_length_eq_zero h0, none, 0, by rw [hs]⟩
  · by_cases h0 : L.length = 0
    · exact Or.inl ⟨List.eq_nil_of_length_eq_zero h0, _, cap, by rw [hs, h0]⟩
    · refine Or.inr ⟨g, 0, cap, hs, hg, by omega, fun k hk j u hu => ?_⟩
      have hj : j < 40 := by have := (List.getElem?_eq_some_iff.1 hu).1; rwa [vl_length] at this
      rw [vl_get _ hj] at hu
      rw [cell_of_row _ _ _ _ _ _ hb, Nat.zero_add]
      have h1 := cellsOf_at hk hj
      rw [← ht, List.getElem?_take] at h1
      have h2 : k * 40 + j < L.length * 40 := by
        have : (k + 1) * 40 ≤ L.length * 40 := Nat.mul_le_mul_right 40 hk
        omega
      rw [if_pos h2] at h1
      rw [← hu, ← h1]
      simp
section
variable {ops : Array Oper} {rest : List Oper} {o : Oper} {a : Act} {w : World} {Q : Exit → Act → World → Prop}
end
end Go.Proofs.Ytlopenephgabhaa

namespace Go.Proofs.Ytlopenephgabhaa
open Go.RowKit

theorem NewV.put {w W : World} (h : NewV w W) (v : Lin.V) : Below w.heap.size w (W.setCells w.heap.size 0 (vl v)) ∧ At (W.setCells w.heap.size 0 (vl v)) w.heap.size 0 v ∧ (W.setCells w.heap.size 0 (vl v)).heap.size = w.heap.size + 1 := by
  refine ⟨below_setCells _ (Nat.le_refl _) _ _ _ h.below, at_setCells _ _ _ _ h.there, ?_⟩
  have key : ∀ (vs : List Value) (o : Nat) (W : World), (W.setCells w.heap.size o vs).heap.size = W.heap.size := by
    intro vs
    induction vs with
    | nil => intro o W; rfl
    | cons x vs ih => intro o W; rw [World.setCells, ih]; simp
  rw [key, h.size]
theorem At.grown {w w' : World} {b o : Nat} {v : Lin.V} {row : Option Nat} (h : At w b o v) (hg : w.grownBy w' row) (hne : some b ≠ row) : At w' b o v := fun j u hu => by
  rw [World.cell?_of_block (w := w) (a := ⟨b, o + j, none⟩) (hg.block b h.lt hne)]
  exact h j u hu
theorem Ow.grown {base : Nat} {w w' : World} {s : Value} {L : List Lin.V} {row : Option Nat} (h : Ow base w s L) (hg : w.grownBy w' row) (hne : s.ownBlock = none ∨ s.ownBlock ≠ row) : Ow base w' s L := by
  refine ⟨h.1, ?_⟩
  rcases h.2 with h2 | ⟨g, cap, cur, hv, hgb, hh, r⟩
  · exact Or.inl h2
  · refine Or.inr ⟨g, cap, cur, hv, hgb, ?_, r⟩
    rw [hg.block g (Array.getElem?_eq_some_iff.1 hh).1 (by
      rw [hv] at hne
      simpa [Value.ownBlock] using hne)]
    exact hh
end Go.Proofs.Ytlopenephgabhaa

namespace Go.Proofs.Ytlopenephgabhaa
open Go.RowKit

theorem cellsOf_cons (v : Lin.V) (L : List Lin.V) : cellsOf (v :: L) = vl v ++ cellsOf L := by simp [cellsOf]
theorem cellsOf_take (L : List Lin.V) : ∀ i, cellsOf (L.take i) = (cellsOf L).take (i * 40) := by
  induction L with
  | nil => intro i; simp [cellsOf]
  | cons v L ih =>
    intro i
    cases i with
    | zero => simp [cellsOf]
    | succ i =>
      rw [List.take_succ_cons, cellsOf_cons, cellsOf_cons, ih, List.take_append, vl_length, List.take_of_length_le (l := vl v) (by rw [vl_length]; omega), show (i + 1) * 40 - 40 = i * 40 by omega]
theorem cellsOf_drop (L : List Lin.V) : ∀ i, cellsOf (L.drop i) = (cellsOf L).drop (i * 40) := by
  induction L with
  | nil => intro i; simp [cellsOf]
  | cons v L ih =>
    intro i
    cases i with
    | zero => simp
    | succ i =>
      rw [List.drop_succ_cons, cellsOf_cons, ih, List.drop_append, vl_length, List.drop_of_length_le (l := vl v) (by rw [vl_length]; omega), show (i + 1) * 40 - 40 = i * 40 by omega, List.nil_append]
end Go.Proofs.Ytlopenephgabhaa

namespace Go.Proofs.Ytlopenephgabhaa
open Go.RowKit

theorem block_setCell' {w : World} {g i : Nat} {cs : Array Value} {t : TypeId} {fr : Nat × Nat} (h : w.heap[g]? = some (.cells cs t fr)) (v : Value) : (w.setCell ⟨g, i, none⟩ v).heap[g]? = some (.cells (cs.setIfInBounds i v) t fr) := by
  rw [setCell_eq_setRow w g i cs t fr v h]
  exact setRow_heap w g _ _ t _ h
theorem setCells_row (g : Nat) (t : TypeId) (fr : Nat × Nat) : ∀ (vs : List Value) (o : Nat) (cur : Array Value) (w : World), w.heap[g]? = some (.cells cur t fr) → o + vs.length ≤ cur.size →
    (w.setCells g o vs).heap[g]? = some (.cells (cur.toList.take o ++ vs ++ cur.toList.drop (o + vs.length)).toArray t fr)
  | [], o, cur, w, h, _ => by simpa [World.setCells] using h
  | v :: rest, o, cur, w, h, hl => by
    have ih := setCells_row g t fr rest (o + 1) (cur.setIfInBounds o v) (w.setCell ⟨g, o, none⟩ v) (block_setCell' h v) (by simp at hl ⊢; omega)
    rw [World.setCells, ih]
    congr 3
    have e := list_seg_step cur.toList o v rest (by simp at hl ⊢; omega)
    simpa [Array.toList_setIfInBounds] using e
theorem setCells_other (g k : Nat) (h : k ≠ g) : ∀ (vs : List Value) (o : Nat) (w : World), (w.setCells g o vs).heap[k]? = w.heap[k]?
  | [], _, _ => rfl
  | v :: rest, o, w => by
    rw [World.setCells, setCells_other g k h rest (o + 1)]
    exact Below.heap_setCell w ⟨g, o, none⟩ v k h
theorem setCells_rest (g : Nat) : ∀ (vs : List Value) (o : Nat) (w : World), (w.setCells g o vs).os = w.os ∧ (w.setCells g o vs).tape = w.tape ∧ (w.setCells g o vs).output = w.output ∧ (w.setCells g o vs).heap.size = w.heap.size
  | [], _, _ => ⟨rfl, rfl, rfl, rfl⟩
  | v :: rest, o, w => by
    rw [World.setCells]
    obtain ⟨h1, h2, h3, h4⟩ := setCells_rest g rest (o + 1) (w.setCell ⟨g, o, none⟩ v)
    exact ⟨h1, h2, h3, h4.trans (by simp [World.setCell])⟩
theorem grown_setCells (w : World) (g o : Nat) (vs : List Value) : w.grownBy (w.setCells g o vs) (some g) := by
  obtain ⟨h1, h2, h3, h4⟩ := setCells_rest g vs o w
  exact ⟨h1, h2, h3, by omega, fun k _ hne => setCells_other g k (fun e => hne (by rw [e])) vs o w⟩
/-- An owned slice of vectors that is not empty. -/
structure Ox (base : Nat) (w : World) (g cap : Nat) (L : List Lin.V) : Prop where
  lo : base ≤ g
  own : Ow base w (.slice (some ⟨g, 0, none⟩) L.length cap) L
theorem Ox.lt {base : Nat} {w : World} {g cap : Nat} {L : List Lin.V} (h : Ox base w g cap L) : g < w.heap.size := by
  rcases h.own.2 with ⟨h0, _⟩ | ⟨g', c', cur, hv, _, hh, _⟩
  · cases h0
  · injection hv with e1 _ _
    injection e1 with e1
    injection e1 with e1
    subst e1
    exact (Array.getElem?_eq_some_iff.1 hh).1
theorem Ox.at' {base : Nat} {w : World} {g cap : Nat} {L : List Lin.V} (h : Ox base w g cap L) {k : Nat} (hk : k < L.length) : At w g (k * 40) L[k] := by
  rcases h.own.vs with ⟨h0, _⟩ | ⟨b, o, c, hv, _, _, hc⟩
  · rw [h0] at hk; exact absurd hk (Nat.not_lt_zero _)
  · injection hv with e1 _ _
    injection e1 with e1
    injection e1 with e1 e2
    subst e1 e2
    have := hc k hk
    rwa [Nat.zero_add] at this
theorem Ox.below {base : Nat} {w w' : World} {g cap : Nat} {L : List Lin.V} (h : Ox base w g cap L) (hb : Below w.heap.size w w') : Ox base w' g cap L := ⟨h.lo, h.own.below hb⟩
theorem cellsOf_set {L : List Lin.V} {k : Nat} (hk : k < L.length) (x : Lin.V) : cellsOf (L.set k x) = (cellsOf L).take (k * 40) ++ vl x ++ (cellsOf L).drop (k * 40 + 40) := by
  rw [List.set_eq_take_append_cons_drop, if_pos hk, cellsOf_append, cellsOf_cons, cellsOf_take, cellsOf_drop, show (k + 1) * 40 = k * 40 + 40 by omega, List.append_assoc]
theorem Ox.put {base : Nat} {w : World} {g cap : Nat} {L : List Lin.V} (h : Ox base w g cap L) {k : Nat} (hk : k < L.length) (x : Lin.V) : Ox base (w.setCells g (k * 40) (vl x)) g cap (L.set k x) ∧ w.there g (k * 40) 40 := by
  rcases h.own.2 with ⟨h0, _⟩ | ⟨g', c', cur, hv, hlo, hh, hnc, hcm, hcs, htk⟩
  · cases h0
  · injection hv with e1 _ e3
    injection e1 with e1
    injection e1 with e1
    subst e1 e3
    have hkc : k * 40 + 40 ≤ cap * 40 := by
      have : (k + 1) * 40 ≤ cap * 40 := Nat.mul_le_mul_right 40 (by omega)
      omega
    have hb := setCells_row g 104 (0, 0) (vl x) (k * 40) cur w hh (by rw [vl_length, hcs]; exact hkc)
    refine ⟨⟨h.lo, ⟨cellsOf_length _, Or.inr ⟨g, cap, _, rfl, hlo, hb, by simpa using hnc, hcm, ?_, ?_⟩⟩⟩, fun j hj => ⟨?_, by simp [World.frozen?, hh]⟩⟩
    · have hsz : cur.toList.length = cap * 40 := by simpa using hcs
      simp only [List.size_toArray, List.length_append, List.length_take, List.length_drop, vl_length, hsz]
      omega
    · rw [cellsOf_set hk, ← htk]
      have hkn : k * 40 + 40 ≤ L.length * 40 := by
        have : (k + 1) * 40 ≤ L.length * 40 := Nat.mul_le_mul_right 40 hk
        omega
      have hnc' : L.length * 40 ≤ cap * 40 := Nat.mul_le_mul_right 40 hnc
      have hsz : cur.toList.length = cap * 40 := by simpa using hcs
      rw [List.length_set, vl_length, List.take_take, Nat.min_eq_left (by omega), List.drop_take]
      simp only [List.append_assoc]
      rw [List.take_append, List.take_append, List.length_take, vl_length, hsz, Nat.min_eq_left (by omega), List.take_of_length_le (l := cur.toList.take (k * 40)) (by rw [List.length_take]; omega), List.take_of_length_le (l := vl x) (by rw [vl_length]; omega),
        show L.length * 40 - k * 40 - 40 = L.length * 40 - (k * 40 + 40) by omega]
    · rw [cell_of_row _ _ _ _ _ _ hh, Array.getElem?_eq_getElem (by rw [hcs]; omega)]
      rfl
theorem Ow.cases {base : Nat} {w : World} {s : Value} {L : List Lin.V} (h : Ow base w s L) {C : Prop} (h0 : s = .slice none 0 0 → L = [] → C) (h1 : ∀ g cap, s = .slice (some ⟨g, 0, none⟩) L.length cap → Ox base w g cap L → C) : C := by
  rcases h.2 with ⟨hs, hl⟩ | ⟨g, cap, cur, hs, hlo, r⟩
  · exact h0 hs (List.eq_nil_of_length_eq_zero hl)
  · exact h1 g cap hs ⟨hlo, by rw [← hs]; exact h⟩
/-- The rows, the first k of them cleared at the new row's lead. -/
noncomputable def clr (p : Int) (u : Lin.V) (x : Lin.V) : Lin.V := Lin.add p x (-(x (Lin.ld u))) u
noncomputable def part (p : Int) (u : Lin.V) (L : List Lin.V) (k : Nat) : List Lin.V := (L.take k).map (clr p u) ++ L.drop k
end Go.Proofs.Ytlopenephgabhaa

namespace Go.Proofs.Ytlopenephgabhaa
open Go.RowKit

/-- A reduced list that a call is gathering, a vector in a box of its own. -/
structure Inn (w1 W : World) (sv : Value) (R : List Lin.V) (vb : Nat) (r : Lin.V) : Prop where
  below : Below w1.heap.size w1 W
  own : Ow w1.heap.size W sv R
  lo : w1.heap.size ≤ vb
  at' : At W vb 0 r
  there : W.there vb 0 40
  ne : some vb ≠ sv.ownBlock
theorem Inn.next {w1 W W' : World} {sv : Value} {R : List Lin.V} {vb : Nat} {r : Lin.V} (h : Inn w1 W sv R vb r) (hb : Below W.heap.size W W') : Inn w1 W' sv R vb r :=
  ⟨h.below.trans (hb.mono h.below.size), h.own.below hb, h.lo, h.at'.later hb, there_below h.there hb h.at'.lt, h.ne⟩
theorem Inn.put {w1 W : World} {sv : Value} {R : List Lin.V} {vb : Nat} {r : Lin.V} (h : Inn w1 W sv R vb r) (x : Lin.V) : Inn w1 (W.setCells vb 0 (vl x)) sv R vb x :=
  ⟨below_setCells _ h.lo _ _ _ h.below, h.own.grown (grown_setCells W vb 0 (vl x)) (Or.inr h.ne.symm), h.lo, at_setCells _ _ _ _ h.there, World.there_setCells h.there _ _ _, h.ne⟩
theorem Ow.apart {base : Nat} {w : World} {s : Value} {L : List Lin.V} (h : Ow base w s L) {b : Nat} (hb : w.heap.size ≤ b) : some b ≠ s.ownBlock := fun e => by
  have := ((World.ownsRow.lt h) b e.symm).1
  have := ((World.ownsRow.lt h) b e.symm).2
  omega

/-- What a reduced list has to do with a list. -/
structure RedOf (p : Int) (R T : List Lin.V) : Prop where
  red : Lin.Red p R
  wd : ∀ u ∈ R, Lin.Wd 40 u
  eqv : Lin.Eqv p R T
theorem RedOf.nil (p : Int) : RedOf p [] [] := ⟨Lin.Red.nil p, by simp, Lin.Eqv.refl _ _⟩
theorem RedOf.put {p : Int} (hp : 1 < p) {R T : List Lin.V} (h : RedOf p R T) {v r u : Lin.V} {k : Nat} (hT : ∀ w ∈ T, Lin.Md p w) (hv : Lin.Md p v) (hr : Lin.Rest p R v R.length r) (hne : r ≠ Lin.zv) (hu : Lin.Unit p r u) (huw : Lin.Wd 40 u) (hk : k ≤ R.length)
    (hlo : ∀ w ∈ R.take k, Lin.ld w < Lin.ld u) (hhi : ∀ w ∈ R.drop k, ¬ Lin.ld w < Lin.ld u) : RedOf p (Lin.put p R k u) (T ++ [v]) := by
  have hf := Lin.fits_of hr hne hu hk hlo hhi
  refine ⟨hf.red hp h.red, fun x hx => ?_, Lin.put_eqv hp h.red hT hv h.eqv hr hu hf⟩
  rcases Lin.put_mem.1 hx with rfl | ⟨y, hy, rfl⟩
  · exact huw
  · exact Lin.add_wd _ (h.wd y hy) huw
theorem put_length (p : Int) (R : List Lin.V) (k : Nat) (u : Lin.V) (hk : k ≤ R.length) : (Lin.put p R k u).length = R.length + 1 := by simp [Lin.put]; omega

end Go.Proofs.Ytlopenephgabhaa


namespace Go.Proofs.Ytlopenephgabhaa
open Go.RowKit

/-- A row as a vector. -/
def ofL (xs : List Int) : Lin.V := fun i => xs.getD i 0
theorem ofL_at {xs : List Int} {i : Nat} (h : i < xs.length) : ofL xs i = xs[i] := getD_of_lt _ h
theorem ofL_wd {xs : List Int} {n : Nat} (h : xs.length ≤ n) : Lin.Wd n (ofL xs) := fun i hi => by simp [ofL, List.getD, show xs.length ≤ i by omega]
theorem toL_ofL {xs : List Int} {n : Nat} (h : xs.length = n) : toL n (ofL xs) = xs := by
  subst h
  refine List.ext_getElem (toL_length _ _) fun i h1 h2 => ?_
  rw [toL_get _ h1, ofL_at h2]
theorem ofL_md {p n : Int} {xs : List Int} (hp : 0 < p) (h : RowOk p n xs) : Lin.Md p (ofL xs) := fun i => by
  by_cases hi : i < xs.length
  · rw [ofL_at hi]
    have := h.2 _ (List.getElem_mem hi)
    omega
  · have : ofL xs i = 0 := by simp [ofL, List.getD, show xs.length ≤ i by omega]
    omega
/-- The vectors, the first k of them filled. -/
def filled (L : List Lin.V) (k : Nat) : List Lin.V := L.take k ++ List.replicate (L.length - k) Lin.zv
end Go.Proofs.Ytlopenephgabhaa

namespace Go.Proofs.Ytlopenephgabhaa
open Go.RowKit

def rowZ (c : Nat) (Z : Nat → Nat → Int) (j : Nat) : List Int := (List.range c).map fun i => Z j i
/-- A table at block g, its rows behind it, each in a block of its own. -/
structure TabW (W : World) (g r c : Nat) (Z : Nat → Nat → Int) : Prop where
  top : ∀ j, j < r → W.cell? ⟨g, j, none⟩ = some (.slice (some ⟨g + 1 + j, 0, none⟩) c c)
  rows : ∀ j, j < r → W1 (g + 1 + j) (g + 1 + j + 1) W (.slice (some ⟨g + 1 + j, 0, none⟩) c c) (rowZ c Z j)
theorem TabW.same {W W' : World} {g r c : Nat} {Z : Nat → Nat → Int} (h : TabW W g r c Z) (hs : Same g (g + 1 + r) W W') : TabW W' g r c Z :=
  ⟨fun j hj => (World.cell?_of_block (w := W) (w' := W') (a := ⟨g, j, none⟩) (hs g (Nat.le_refl _) (by omega))).trans (h.top j hj), fun j hj => (h.rows j hj).same (hs.narrow (by omega) (by omega))⟩
theorem TabW.congr {W : World} {g r c : Nat} {Z Z' : Nat → Nat → Int} (h : TabW W g r c Z) (e : ∀ j, j < r → rowZ c Z j = rowZ c Z' j) : TabW W g r c Z' :=
  ⟨h.top, fun j hj => by rw [← e j hj]; exact h.rows j hj⟩
theorem TabW.l2 {W : World} {g r c : Nat} {Z : Nat → Nat → Int} (h : TabW W g r c Z) : L2 g W (.slice (some ⟨g, 0, none⟩) r r) (tableOf r c Z) := by
  by_cases h0 : r = 0
  · subst h0
    exact Or.inl ⟨rfl, _, _, rfl⟩
  · refine Or.inr ⟨g, 0, r, by simp [tableOf], Nat.le_refl _, by simp [tableOf]; omega, fun k hk => ?_⟩
    have hk' : k < r := by simpa [tableOf] using hk
    refine ⟨_, by rw [Nat.zero_add]; exact h.top k hk', ?_⟩
    have := (h.rows k hk').l1.lower (lo' := g) (by omega)
    simpa [tableOf, rowZ] using this

/-- A table of a result: none, or one in blocks of its own. -/
def TW (lo hi : Nat) (W : World) (u : Value) (R : List (List Int)) : Prop :=
  (u = .slice none 0 0 ∧ R = []) ∨ ∃ (g r c : Nat) (Z : Nat → Nat → Int), lo ≤ g ∧ g + 1 + r ≤ hi ∧ r ≤ 1048576 ∧ c ≤ 1048576 ∧ u = .slice (some ⟨g, 0, none⟩) r r ∧ R = tableOf r c Z ∧ TabW W g r c Z
/-- The same with the marks from k to m in it. -/
def HW (lo hi : Nat) (W : World) (u : Value) (k m : Int) : Prop :=
  (u = .slice none 0 0 ∧ m = k) ∨ ∃ (g r c : Nat), lo ≤ g ∧ g + 1 + r ≤ hi ∧ r ≤ 1048576 ∧ c ≤ 1048576 ∧ u = .slice (some ⟨g, 0, none⟩) r r ∧ m = k + ((r * c : Nat) : Int) ∧ TabW W g r c (fun j i => k + ((j * c : Nat) : Int) + (i : Int))
theorem TW.nil (lo hi : Nat) (W : World) : TW lo hi W (.slice none 0 0) [] := Or.inl ⟨rfl, rfl⟩
theorem TW.same {lo hi : Nat} {W W' : World} {u : Value} {R : List (List Int)} (h : TW lo hi W u R) (hs : Same lo hi W W') : TW lo hi W' u R := by
  rcases h with h | ⟨g, r, c, Z, h1, h2, h3, h4, h5, h6, h7⟩
  · exact Or.inl h
  · exact Or.inr ⟨g, r, c, Z, h1, h2, h3, h4, h5, h6, h7.same (hs.narrow h1 h2)⟩
theorem TW.l2 {lo hi : Nat} {W : World} {u : Value} {R : List (List Int)} (h : TW lo hi W u R) : L2 0 W u R := by
  rcases h with ⟨rfl, rfl⟩ | ⟨g, r, c, Z, h1, h2, h3, h4, rfl, rfl, h7⟩
  · exact Or.inl ⟨rfl, _, _, rfl⟩
  · exact h7.l2.lower (Nat.zero_le _)
theorem HW.same {lo hi : Nat} {W W' : World} {u : Value} {k m : Int} (h : HW lo hi W u k m) (hs : Same lo hi W W') : HW lo hi W' u k m := by
  rcases h with h | ⟨g, r, c, h1, h2, h3, h4, h5, h6, h7⟩
  · exact Or.inl h
  · exact Or.inr ⟨g, r, c, h1, h2, h3, h4, h5, h6, h7.same (hs.narrow h1 h2)⟩

end Go.Proofs.Ytlopenephgabhaa

namespace Go.Proofs.Ytlopenephgabhaa
open Go.RowKit

/-- A table in blocks of its own, block for block. -/
structure TabI (W : World) (g r c : Nat) (Z : Nat → Nat → Int) : Prop where
  top : W.rowIs g 35 r (fun j => .slice (some ⟨g + 1 + j, 0, none⟩) c c)
  rows : ∀ j, j < r → W.rowIs (g + 1 + j) 2 c (fun i => .int .i64 (Z j i))
theorem rowIs_below {W W' : World} {b : Nat} {t : TypeId} {n : Nat} {f : Nat → Value} (h : W.rowIs b t n f) (hb : Below W.heap.size W W') : W'.rowIs b t n f := h.of_block (hb.block b h.lt)
theorem TabI.below {W W' : World} {g r c : Nat} {Z : Nat → Nat → Int} (h : TabI W g r c Z) (hb : Below W.heap.size W W') : TabI W' g r c Z :=
  ⟨rowIs_below h.top hb, fun j hj => rowIs_below (h.rows j hj) hb⟩
end Go.Proofs.Ytlopenephgabhaa


namespace Go.Proofs.Ytlopenephgabhaa
open Go.RowKit

/-- An interval of cells: block, offset, length. -/
abbrev Iv := Nat × Nat × Nat
def ivSize (I : List Iv) : Nat := (I.map (·.2.2)).sum
theorem ivSize_append (A B : List Iv) : ivSize (A ++ B) = ivSize A + ivSize B := by simp [ivSize]
def Apart (x y : Iv) : Prop := x.1 ≠ y.1 ∨ x.2.1 + x.2.2 ≤ y.2.1 ∨ y.2.1 + y.2.2 ≤ x.2.1
def Disj (I : List Iv) : Prop := I.Pairwise Apart
def InIv (I : List Iv) (b o : Nat) : Prop := ∃ x ∈ I, x.1 = b ∧ x.2.1 ≤ o ∧ o < x.2.1 + x.2.2
/-- Numbers stand there that may be written. -/
def Nums (lo hi : Nat) (w : World) (I : List Iv) : Prop := ∀ x ∈ I, lo ≤ x.1 ∧ x.1 < hi ∧ ∀ i, i < x.2.2 → (∃ z : Int, w.cell? ⟨x.1, x.2.1 + i, none⟩ = some (.int .i64 z)) ∧ w.frozen? ⟨x.1, x.2.1 + i, none⟩ = false
/-- Outside of the intervals all cells are as they were. -/
def OutC (I : List Iv) (w w' : World) : Prop := ∀ b o, ¬ InIv I b o → w'.cell? ⟨b, o, none⟩ = w.cell? ⟨b, o, none⟩
/-- The numbers from k on stand there. -/
def Marked (w : World) : List Iv → Int → Prop
  | [], _ => True
  | x :: I, k => (∀ i, i < x.2.2 → w.cell? ⟨x.1, x.2.1 + i, none⟩ = some (.int .i64 (k + (i : Int)))) ∧ Marked w I (k + (x.2.2 : Int))
theorem Nums.tame {lo hi : Nat} {w w' : World} {I : List Iv} (h : Nums lo hi w I) (t : Tame w w') : Nums lo hi w' I := fun x hx => ⟨(h x hx).1, (h x hx).2.1, fun i hi => by
  obtain ⟨⟨z, hz⟩, hf⟩ := (h x hx).2.2 i hi
  exact ⟨t.nums _ _ _ hz, (t.frozen _ _).trans hf⟩⟩
theorem Nums.same {lo hi : Nat} {w w' : World} {I : List Iv} (h : Nums lo hi w I) (s : Same lo hi w w') : Nums lo hi w' I := fun x hx => ⟨(h x hx).1, (h x hx).2.1, fun i hi => by
  obtain ⟨⟨z, hz⟩, hf⟩ := (h x hx).2.2 i hi
  have hb := s x.1 (h x hx).1 (h x hx).2.1
  exact ⟨⟨z, (World.cell?_of_block (w := w) (a := ⟨x.1, x.2.1 + i, none⟩) hb).trans hz⟩, (World.frozen?_of_block (w := w) (a := ⟨x.1, x.2.1 + i, none⟩) hb).trans hf⟩⟩
theorem Nums.sub {lo hi : Nat} {w : World} {I J : List Iv} (h : Nums lo hi w I) (s : ∀ x ∈ J, x ∈ I) : Nums lo hi w J := fun x hx => h x (s x hx)
theorem Nums.append {lo hi : Nat} {w : World} {I J : List Iv} (h : Nums lo hi w I) (k : Nums lo hi w J) : Nums lo hi w (I ++ J) := fun x hx => (List.mem_append.1 hx).elim (h x) (k x)
theorem Nums.wider {lo hi lo' hi' : Nat} {w : World} {I : List Iv} (h : Nums lo hi w I) (h1 : lo' ≤ lo) (h2 : hi ≤ hi') : Nums lo' hi' w I := fun x hx => ⟨by have := (h x hx).1; omega, by have := (h x hx).2.1; omega, (h x hx).2.2⟩
theorem OutC.refl (I : List Iv) (w : World) : OutC I w w := fun _ _ _ => rfl
theorem OutC.trans {A B : List Iv} {a b c : World} (h : OutC A a b) (k : OutC B b c) : OutC (A ++ B) a c := fun x o hn => by
  rw [k x o (fun ⟨y, hy, e⟩ => hn ⟨y, List.mem_append_right _ hy, e⟩), h x o (fun ⟨y, hy, e⟩ => hn ⟨y, List.mem_append_left _ hy, e⟩)]
theorem Marked.append {w : World} {A B : List Iv} {k : Int} (h : Marked w A k) (h2 : Marked w B (k + (ivSize A : Int))) : Marked w (A ++ B) k := by
  induction A generalizing k with
  | nil => simpa [ivSize] using h2
  | cons x A ih =>
    refine ⟨h.1, ih h.2 ?_⟩
    have : k + (x.2.2 : Int) + (ivSize A : Int) = k + (ivSize (x :: A) : Int) := by simp [ivSize]; omega
    rw [this]
    exact h2
theorem Marked.parts {w : World} {A B : List Iv} {k : Int} (h : Marked w (A ++ B) k) : Marked w A k ∧ Marked w B (k + (ivSize A : Int)) := by
  induction A generalizing k with
  | nil => exact ⟨trivial, by simpa [ivSize] using h⟩
  | cons x A ih =>
    obtain ⟨h1, h2⟩ := ih h.2
    refine ⟨⟨h.1, h1⟩, ?_⟩
    have : k + (x.2.2 : Int) + (ivSize A : Int) = k + (ivSize (x :: A) : Int) := by simp [ivSize]; omega
    rw [← this]
    exact h2
theorem Marked.keep {w w' : World} {A B : List Iv} {k : Int} (h : Marked w A k) (o : OutC B w w') (d : ∀ x ∈ A, ∀ y ∈ B, Apart x y) : Marked w' A k := by
  induction A generalizing k with
  | nil => trivial
  | cons x A ih =>
    refine ⟨fun i hi => ?_, ih h.2 (fun y hy => d y (List.mem_cons_of_mem _ hy))⟩
    rw [o x.1 (x.2.1 + i) (fun ⟨y, hy, e1, e2, e3⟩ => by have := d x List.mem_cons_self y hy; unfold Apart at this; omega)]
    exact h.1 i hi
theorem Marked.same {lo hi : Nat} {w w' : World} {I : List Iv} {k : Int} (h : Marked w I k) (hI : ∀ x ∈ I, lo ≤ x.1 ∧ x.1 < hi) (s : Same lo hi w w') : Marked w' I k := by
  induction I generalizing k with
  | nil => trivial
  | cons x A ih =>
    refine ⟨fun i hi => ?_, ih h.2 (fun y hy => hI y (List.mem_cons_of_mem _ hy))⟩
    have hb := s x.1 (hI x List.mem_cons_self).1 (hI x List.mem_cons_self).2
    exact (World.cell?_of_block (w := w) (a := ⟨x.1, x.2.1 + i, none⟩) hb).trans (h.1 i hi)

/-- The slice v is an interval, or empty. -/
def S1 (lo hi : Nat) (_ : World) (v : Value) (I : List Iv) : Prop :=
  (I = [] ∧ ∃ ad cap, v = .slice ad 0 cap) ∨ ∃ b o n cap, I = [(b, o, n)] ∧ 0 < n ∧ n ≤ 1048576 ∧ lo ≤ b ∧ b < hi ∧ v = .slice (some ⟨b, o, none⟩) n cap
def flat (J : Nat → List Iv) (m : Nat) : List Iv := (List.range m).flatMap J
theorem flat_succ (J : Nat → List Iv) (m : Nat) : flat J (m + 1) = flat J m ++ J m := by simp [flat, List.range_succ]
theorem flat_part (J : Nat → List Iv) {j m : Nat} (h : j ≤ m) : ∃ r, flat J m = flat J j ++ r := by
  induction m with
  | zero => exact ⟨[], by rw [show j = 0 by omega]; simp⟩
  | succ m ih =>
    by_cases e : j = m + 1
    · exact ⟨[], by rw [e]; simp⟩
    · obtain ⟨r, hr⟩ := ih (by omega)
      exact ⟨r ++ J m, by rw [flat_succ, hr, List.append_assoc]⟩
theorem flat_mem {J : Nat → List Iv} {j m : Nat} (h : j < m) : ∀ x ∈ J j, x ∈ flat J m := fun _ hx => List.mem_flatMap.2 ⟨j, List.mem_range.2 h, hx⟩
theorem flat_apart {J : Nat → List Iv} {j m : Nat} (h : j < m) (d : Disj (flat J m)) : ∀ x ∈ flat J j, ∀ y ∈ J j, Apart x y := by
  obtain ⟨r, hr⟩ := flat_part J (show j + 1 ≤ m by omega)
  have d2 : (flat J j ++ J j).Pairwise Apart := by
    have : Disj ((flat J j ++ J j) ++ r) := by rw [← flat_succ, ← hr]; exact d
    exact (List.pairwise_append.1 this).1
  exact (List.pairwise_append.1 d2).2.2
theorem flat_disj {J : Nat → List Iv} {j m : Nat} (h : j < m) (d : Disj (flat J m)) : Disj (J j) := by
  obtain ⟨r, hr⟩ := flat_part J (show j + 1 ≤ m by omega)
  have d2 : (flat J j ++ J j).Pairwise Apart := by
    have : Disj ((flat J j ++ J j) ++ r) := by rw [← flat_succ, ← hr]; exact d
    exact (List.pairwise_append.1 this).1
  exact (List.pairwise_append.1 d2).2.1
theorem flat_size {J : Nat → List Iv} {j m : Nat} (h : j < m) : ivSize (flat J j) + ivSize (J j) ≤ ivSize (flat J m) := by
  obtain ⟨r, hr⟩ := flat_part J (show j + 1 ≤ m by omega)
  rw [hr, flat_succ, ivSize_append, ivSize_append]
  omega
/-- A slice of such slices. -/
def SS (S : World → Value → List Iv → Prop) (lo hi : Nat) (w : World) (v : Value) (I : List Iv) : Prop :=
  ∃ (ad : Option Addr) (m cap : Nat) (f : Nat → Value) (J : Nat → List Iv), v = .slice ad m cap ∧ m ≤ 1048576 ∧ I = flat J m ∧ (∀ j, j < m → S w (f j) (J j)) ∧ (0 < m → ∃ b o, ad = some ⟨b, o, none⟩ ∧ lo ≤ b ∧ b < hi ∧ ∀ j, j < m → w.cell? ⟨b, o + j, none⟩ = some (f j))
def S2 (lo hi : Nat) := SS (S1 lo hi) lo hi
def S3 (lo hi : Nat) := SS (S2 lo hi) lo hi
theorem S1.shape {lo hi : Nat} {w : World} {v : Value} {I : List Iv} (h : S1 lo hi w v I) : ∃ a n c, v = .slice a n c := by
  rcases h with ⟨_, ad, cap, h⟩ | ⟨b, o, n, cap, _, _, _, _, _, h⟩
  · exact ⟨ad, 0, cap, h⟩
  · exact ⟨_, n, cap, h⟩
theorem SS.shape {S : World → Value → List Iv → Prop} {lo hi : Nat} {w : World} {v : Value} {I : List Iv} (h : SS S lo hi w v I) : ∃ a n c, v = .slice a n c := by
  obtain ⟨ad, m, cap, _, _, h, _⟩ := h
  exact ⟨ad, m, cap, h⟩
theorem SS.keep {S : World → Value → List Iv → Prop} {lo hi : Nat} {w w' : World} {v : Value} {I : List Iv} (h : SS S lo hi w v I) (hS : ∀ v I, S w v I → S w' v I) (hc : ∀ b o v, lo ≤ b → b < hi → (∃ a n c, v = .slice a n c) → w.cell? ⟨b, o, none⟩ = some v → w'.cell? ⟨b, o, none⟩ = some v)
    (hs : ∀ v I, S w v I → ∃ a n c, v = .slice a n c) : SS S lo hi w' v I := by
  obtain ⟨ad, m, cap, f, J, h1, h2, h3, h4, h5⟩ := h
  refine ⟨ad, m, cap, f, J, h1, h2, h3, fun j hj => hS _ _ (h4 j hj), fun hm => ?_⟩
  obtain ⟨b, o, e, hb, hb2, hcl⟩ := h5 hm
  exact ⟨b, o, e, hb, hb2, fun j hj => hc _ _ _ hb hb2 (hs _ _ (h4 j hj)) (hcl j hj)⟩
theorem S1.keep {lo hi : Nat} {w w' : World} {v : Value} {I : List Iv} (h : S1 lo hi w v I) : S1 lo hi w' v I := h
theorem S2.tame {lo hi : Nat} {w w' : World} {v : Value} {I : List Iv} (h : S2 lo hi w v I) (t : Tame w w') : S2 lo hi w' v I :=
  SS.keep h (fun _ _ h => h) (fun b o v _ _ ⟨a, n, c, e⟩ hc => by subst e; exact t.slices _ _ _ _ _ hc) (fun _ _ h => S1.shape h)
theorem S3.tame {lo hi : Nat} {w w' : World} {v : Value} {I : List Iv} (h : S3 lo hi w v I) (t : Tame w w') : S3 lo hi w' v I :=
  SS.keep h (fun _ _ h => S2.tame h t) (fun b o v _ _ ⟨a, n, c, e⟩ hc => by subst e; exact t.slices _ _ _ _ _ hc) (fun _ _ h => SS.shape h)
theorem S2.same {lo hi : Nat} {w w' : World} {v : Value} {I : List Iv} (h : S2 lo hi w v I) (s : Same lo hi w w') : S2 lo hi w' v I :=
  SS.keep h (fun _ _ h => h) (fun b o _ hb hb2 _ hc => (World.cell?_of_block (w := w) (a := ⟨b, o, none⟩) (s b hb hb2)).trans hc) (fun _ _ h => S1.shape h)
theorem S3.same {lo hi : Nat} {w w' : World} {v : Value} {I : List Iv} (h : S3 lo hi w v I) (s : Same lo hi w w') : S3 lo hi w' v I :=
  SS.keep h (fun _ _ h => S2.same h s) (fun b o _ hb hb2 _ hc => (World.cell?_of_block (w := w) (a := ⟨b, o, none⟩) (s b hb hb2)).trans hc) (fun _ _ h => SS.shape h)

def MarkS (lo hi : Nat) (I : List Iv) (k : Int) (w : World) (e : Ending) (w' : World) : Prop := e = .returned (.int .i64 (k + (ivSize I : Int))) ∧ Only lo hi w w' ∧ Tame w w' ∧ OutC I w w' ∧ Marked w' I k

set_option maxHeartbeats 800000 in
theorem mark1s_any {lo hi : Nat} (v : Value) (I : List Iv) (k : Int) (w : World) (h : S1 lo hi w v I) (hn : Nums lo hi w I) (hk0 : 0 ≤ k) (hk1 : k ≤ 4611686018427387904) :
    Calls Try.prog 63 #[v, .int .i64 k] w (MarkS lo hi I k w) := by
  rcases h with ⟨rfl, ad, cap, rfl⟩ | ⟨b, o, n, cap, rfl, hpos, hm, hlo, hhi, rfl⟩
  · go_enter Try.func63, Try.ntmps63
    go_wp2
    refine wp_loop_rounds 1 ?_
    rw [rounds_succ]
    go_wp2
    go_ret
    exact ⟨ret_int (by simp [ivSize]), Only.refl _ _ _, Tame.refl _, OutC.refl _ _, trivial⟩
  · have HN := Lib.hid (hn (b, o, n) (by simp)).2.2
    clear hn
    go_enter Try.func63, Try.ntmps63
    go_wp2
    go_loopw [1, 5] (fun kk i wr => ∃ (j : Nat), j ≤ n ∧ i = .int .i64 j ∧ kk = .int .i64 (k + (j : Int)) ∧ Hid (Only lo hi w wr ∧ Tame w wr ∧ OutC [(b, o, n)] w wr) ∧ Hid (∀ q, q < n → ∃ x, wr.cell? ⟨b, o + q, none⟩ = some (.int .i64 x) ∧ (q < j → x = k + (q : Int))) ∧ Hid (∀ q, q < n → wr.frozen? ⟨b, o + q, none⟩ = false)) (fun _ i _ => n - (intOf i).toNat)
    case atStart => exact ⟨0, Nat.zero_le _, rfl, by simp, Lib.hid ⟨Only.refl _ _ _, Tame.refl _, OutC.refl _ _⟩, Lib.hid (fun q hq => by
      obtain ⟨⟨x, hx⟩, _⟩ := HN.out q hq
      exact ⟨x, hx, fun h => absurd h (Nat.not_lt_zero _)⟩), Lib.hid (fun q hq => (HN.out q hq).2)⟩
    case round =>
      clear HN
      obtain ⟨j, hj, rfl, rfl, HO, HX, HZ⟩ := hrel
      by_cases hlt : j < n
      · obtain ⟨x, hx, _⟩ := HX.out j hlt
        have hz := HZ.out j hlt
        have HN : Hid (∀ q, q < n → ∃ x, (wr.setCell ⟨b, o + j, none⟩ (.int .i64 (k + (j : Int)))).cell? ⟨b, o + q, none⟩ = some (.int .i64 x) ∧ (q < j + 1 → x = k + (q : Int))) := Lib.hid (fun q hq => by
          obtain ⟨y, hy, hy2⟩ := HX.out q hq
          by_cases e : q = j
          · subst e
            exact ⟨k + (q : Int), World.cell?_setCell_same _ _ _ hy, fun _ => rfl⟩
          · refine ⟨y, ?_, fun h => hy2 (by omega)⟩
            rw [World.cell?_setCell_other _ _ _ _ (fun hh => e (by have h2 := congrArg Addr.off hh; exact (Nat.add_left_cancel h2).symm))]
            exact hy)
        have HZ2 : Hid (∀ q, q < n → (wr.setCell ⟨b, o + j, none⟩ (.int .i64 (k + (j : Int)))).frozen? ⟨b, o + q, none⟩ = false) := Lib.hid (fun q hq => by rw [World.frozen?_setCell]; exact HZ.out q hq)
        have HO2 : Hid (Only lo hi w (wr.setCell ⟨b, o + j, none⟩ (.int .i64 (k + (j : Int)))) ∧ Tame w (wr.setCell ⟨b, o + j, none⟩ (.int .i64 (k + (j : Int)))) ∧ OutC [(b, o, n)] w (wr.setCell ⟨b, o + j, none⟩ (.int .i64 (k + (j : Int))))) := Lib.hid ⟨HO.out.1.trans (Only.set _ hlo hhi), HO.out.2.1.trans (Tame.set hx), fun b2 o2 hn2 => by
          rw [World.cell?_setCell_other _ _ _ _ (fun hh => hn2 (by
            have h1 := congrArg Addr.block hh
            have h2 := congrArg Addr.off hh
            simp only at h1 h2
            exact ⟨(b, o, n), by simp, h1, by show o ≤ o2; omega, by show o2 < o + n; omega⟩))]
          exact HO.out.2.2 b2 o2 hn2⟩
        go_wp2
        go_roundw
        case rel => exact ⟨j + 1, by omega, by go_num, by go_num, HO2, HN, HZ2⟩
        case measure => simp [intOf]; omega
      · have hjj : Hid (j = n) := Lib.hid (by omega)
        go_wp2
        go_ret
        refine ⟨ret_int (by rw [hjj.out]; simp [ivSize]), HO.out.1, HO.out.2.1, HO.out.2.2, fun q hq => ?_, trivial⟩
        obtain ⟨x, hx, hx2⟩ := HX.out q hq
        rw [hx, hx2 (by have := hjj.out; simp only at hq; omega)]

set_option maxHeartbeats 800000 in
theorem held1s_any {lo hi : Nat} (v : Value) (I : List Iv) (k : Int) (w : World) (h : S1 lo hi w v I) (hm : Marked w I k) (hk0 : 0 ≤ k) (hk1 : k ≤ 4611686018427387904) :
    Calls Try.prog 65 #[v, .int .i64 k] w (QW (.int .i64 (k + (ivSize I : Int))) w) := by
  rcases h with ⟨rfl, ad, cap, rfl⟩ | ⟨b, o, n, cap, rfl, hpos, hn, hlo, hhi, rfl⟩
  · have := held1_any (lo := 0) (.slice ad 0 cap) 0 k w (Or.inl ⟨rfl, _, _, rfl⟩) (by omega) hk0 hk1
    simpa [ivSize] using this
  · have := held1_any (lo := 0) (.slice (some ⟨b, o, none⟩) n cap) n k w (Or.inr ⟨b, o, cap, by rw [upFrom_length], Nat.zero_le _, by rw [upFrom_length]; exact hpos, fun q hq => by
      rw [upFrom_length] at hq
      refine ⟨_, hm.1 q hq, ?_⟩
      simp only [IsI, upFrom, List.getElem_map, List.getElem_range]⟩) hn hk0 hk1
    simpa [ivSize] using this

set_option maxHeartbeats 1600000 in
theorem mark2s_any {lo hi : Nat} (v : Value) (I : List Iv) (k : Int) (w : World) (h : S2 lo hi w v I) (hn : Nums lo hi w I) (hd : Disj I) (hk0 : 0 ≤ k) (hk1 : k + (ivSize I : Int) ≤ 4611686018427387904) :
    Calls Try.prog 27 #[v, .int .i64 k] w (MarkS lo hi I k w) := by
  obtain ⟨ad, m, cap, f, J, rfl, hm, rfl, hs, hc⟩ := h
  have HS := Lib.hid hs
  have HN := Lib.hid hn
  have HD := Lib.hid hd
  clear hs hn hd
  by_cases h0 : m = 0
  · subst h0
    clear hc
    go_enter Try.func27, Try.ntmps27
    go_wp2
    refine wp_loop_rounds 1 ?_
    rw [rounds_succ]
    go_wp2
    go_ret
    exact ⟨ret_int (by simp [ivSize, flat]), Only.refl _ _ _, Tame.refl _, OutC.refl _ _, trivial⟩
  · obtain ⟨b, o, rfl, hlo, hhi, hcl⟩ := hc (by omega)
    have HC := Lib.hid hcl
    have HK := Lib.hid hk1
    clear hcl hc hk1
    go_enter Try.func27, Try.ntmps27
    go_wp2
    go_loopw [1, 5] (fun kk i wr => ∃ (j : Nat) (s : Int), j ≤ m ∧ i = .int .i64 j ∧ kk = .int .i64 s ∧ Hid (s = k + (ivSize (flat J j) : Int)) ∧ Hid (Only lo hi w wr ∧ Tame w wr ∧ OutC (flat J j) w wr ∧ Marked wr (flat J j) k)) (fun _ i _ => m - (intOf i).toNat)
    case atStart => exact ⟨0, k, Nat.zero_le _, rfl, rfl, Lib.hid (by simp [flat, ivSize]), Lib.hid ⟨Only.refl _ _ _, Tame.refl _, OutC.refl _ _, trivial⟩⟩
    case round =>
      obtain ⟨j, s, hj, rfl, rfl, HSU, HO⟩ := hrel
      by_cases hlt : j < m
      · obtain ⟨a1, n1, c1, hu1⟩ := S1.shape (HS.out j hlt)
        have hu := HC.out j hlt
        rw [hu1] at hu
        have hu' := HO.out.2.1.slices _ _ _ _ _ hu
        have hs := HS.out
        have hsz := flat_size (J := J) hlt
        have hs0 : 0 ≤ s ∧ s ≤ 4611686018427387904 := by have := HSU.out; have := HK.out; omega
        have HM1 := Lib.hid (mark1s_any (f j) (J j) s wr (hs j hlt) ((HN.out.sub (flat_mem hlt)).tame HO.out.2.1) (by omega) (by omega))
        rw [hu1] at HM1
        have HS2 : Hid (s + (ivSize (J j) : Int) = k + (ivSize (flat J (j + 1)) : Int)) := Lib.hid (by have := HSU.out; rw [flat_succ, ivSize_append]; omega)
        clear hu hu1 hs hsz
        go_wp2_with fail
        refine HM1.out.mono ?_
        rintro e w2 ⟨rfl, ho, ht, hout, hmk⟩
        have HO2 : Hid (Only lo hi w w2 ∧ Tame w w2 ∧ OutC (flat J (j + 1)) w w2 ∧ Marked w2 (flat J (j + 1)) k) := Lib.hid ⟨HO.out.1.trans ho, HO.out.2.1.trans ht, by rw [flat_succ]; exact HO.out.2.2.1.trans hout, by
          rw [flat_succ]
          exact (HO.out.2.2.2.keep hout (flat_apart hlt HD.out)).append (by rw [← HSU.out]; exact hmk)⟩
        have hs1 : 0 ≤ s + (ivSize (J j) : Int) ∧ s + (ivSize (J j) : Int) ≤ 4611686018427387904 := by
          have h1 := HS2.out
          have h2 := HK.out
          have h3 : ivSize (flat J (j + 1)) ≤ ivSize (flat J m) := by
            obtain ⟨r, hr⟩ := flat_part J (show j + 1 ≤ m by omega)
            rw [hr, ivSize_append]; omega
          omega
        clear ho ht hout hmk HM1
        go_wp2
        go_roundw
        case rel => exact ⟨j + 1, s + (ivSize (J j) : Int), by omega, by go_num, rfl, HS2, HO2⟩
        case measure => simp [intOf]; omega
      · have hjj : Hid (j = m) := Lib.hid (by omega)
        go_wp2
        go_ret
        have h := HO.out
        have h2 := HSU.out
        rw [hjj.out] at h h2
        exact ⟨ret_int h2, h.1, h.2.1, h.2.2.1, h.2.2.2⟩

set_option maxHeartbeats 1600000 in
theorem held2s_any {lo hi : Nat} (v : Value) (I : List Iv) (k : Int) (w : World) (h : S2 lo hi w v I) (hn : Marked w I k) (hk0 : 0 ≤ k) (hk1 : k + (ivSize I : Int) ≤ 4611686018427387904) :
    Calls Try.prog 28 #[v, .int .i64 k] w (QW (.int .i64 (k + (ivSize I : Int))) w) := by
  obtain ⟨ad, m, cap, f, J, rfl, hm, rfl, hs, hc⟩ := h
  have HS := Lib.hid hs
  have HN := Lib.hid hn
  clear hs hn
  by_cases h0 : m = 0
  · subst h0
    clear hc
    go_enter Try.func28, Try.ntmps28
    go_wp2
    refine wp_loop_rounds 1 ?_
    rw [rounds_succ]
    go_wp2
    go_ret
    exact ⟨ret_int (by simp [ivSize, flat]), rfl⟩
  · obtain ⟨b, o, rfl, hlo, hhi, hcl⟩ := hc (by omega)
    have HC := Lib.hid hcl
    have HK := Lib.hid hk1
    clear hcl hc hk1
    go_enter Try.func28, Try.ntmps28
    go_wp2
    go_loop [1, 5] (fun kk i => ∃ (j : Nat) (s : Int), j ≤ m ∧ i = .int .i64 j ∧ kk = .int .i64 s ∧ Hid (s = k + (ivSize (flat J j) : Int))) (fun _ i => m - (intOf i).toNat)
    case atStart => exact ⟨0, k, Nat.zero_le _, rfl, rfl, Lib.hid (by simp [flat, ivSize])⟩
    case round =>
      obtain ⟨j, s, hj, rfl, rfl, HSU⟩ := hrel
      by_cases hlt : j < m
      · obtain ⟨a1, n1, c1, hu1⟩ := S1.shape (HS.out j hlt)
        have hu' := HC.out j hlt
        rw [hu1] at hu'
        have hs := HS.out
        have hsz := flat_size (J := J) hlt
        have hs0 : 0 ≤ s ∧ s ≤ 4611686018427387904 := by have := HSU.out; have := HK.out; omega
        have hmk : Marked w (J j) s := by
          obtain ⟨r, hr⟩ := flat_part J (show j + 1 ≤ m by omega)
          have h := HN.out
          rw [hr, flat_succ] at h
          have h2 := h.parts.1.parts.2
          rw [← HSU.out] at h2
          exact h2
        have HM1 := Lib.hid (held1s_any (f j) (J j) s w (hs j hlt) hmk (by omega) (by omega))
        rw [hu1] at HM1
        have HS2 : Hid (s + (ivSize (J j) : Int) = k + (ivSize (flat J (j + 1)) : Int)) := Lib.hid (by have := HSU.out; rw [flat_succ, ivSize_append]; omega)
        clear hu1 hs hsz hmk
        go_wp2_with fail
        refine HM1.out.mono ?_
        rintro e w2 ⟨rfl, rfl⟩
        have hneg : ¬ (s + (ivSize (J j) : Int) < 0) := by omega
        have hs1 : 0 ≤ s + (ivSize (J j) : Int) ∧ s + (ivSize (J j) : Int) ≤ 4611686018427387904 := by
          have h1 := HS2.out
          have h2 := HK.out
          have h3 : ivSize (flat J (j + 1)) ≤ ivSize (flat J m) := by
            obtain ⟨r, hr⟩ := flat_part J (show j + 1 ≤ m by omega)
            rw [hr, ivSize_append]; omega
          omega
        clear hu' HM1
        go_wp2
        go_round
        case rel => exact ⟨j + 1, s + (ivSize (J j) : Int), by omega, by go_num, rfl, HS2⟩
        case measure => simp [intOf]; omega
      · have hjj : Hid (j = m) := Lib.hid (by omega)
        go_wp2
        go_ret
        have h2 := HSU.out
        rw [hjj.out] at h2
        exact ⟨ret_int h2, rfl⟩

set_option maxHeartbeats 1600000 in
theorem mark3s_any {lo hi : Nat} (v : Value) (I : List Iv) (k : Int) (w : World) (h : S3 lo hi w v I) (hn : Nums lo hi w I) (hd : Disj I) (hk0 : 0 ≤ k) (hk1 : k + (ivSize I : Int) ≤ 4611686018427387904) :
    Calls Try.prog 64 #[v, .int .i64 k] w (MarkS lo hi I k w) := by
  obtain ⟨ad, m, cap, f, J, rfl, hm, rfl, hs, hc⟩ := h
  have HS := Lib.hid hs
  have HN := Lib.hid hn
  have HD := Lib.hid hd
  clear hs hn hd
  by_cases h0 : m = 0
  · subst h0
    clear hc
    go_enter Try.func64, Try.ntmps64
    go_wp2
    refine wp_loop_rounds 1 ?_
    rw [rounds_succ]
    go_wp2
    go_ret
    exact ⟨ret_int (by simp [ivSize, flat]), Only.refl _ _ _, Tame.refl _, OutC.refl _ _, trivial⟩
  · obtain ⟨b, o, rfl, hlo, hhi, hcl⟩ := hc (by omega)
    have HC := Lib.hid hcl
    have HK := Lib.hid hk1
    clear hcl hc hk1
    go_enter Try.func64, Try.ntmps64
    go_wp2
    go_loopw [1, 5] (fun kk i wr => ∃ (j : Nat) (s : Int), j ≤ m ∧ i = .int .i64 j ∧ kk = .int .i64 s ∧ Hid (s = k + (ivSize (flat J j) : Int)) ∧ Hid (Only lo hi w wr ∧ Tame w wr ∧ OutC (flat J j) w wr ∧ Marked wr (flat J j) k)) (fun _ i _ => m - (intOf i).toNat)
    case atStart => exact ⟨0, k, Nat.zero_le _, rfl, rfl, Lib.hid (by simp [flat, ivSize]), Lib.hid ⟨Only.refl _ _ _, Tame.refl _, OutC.refl _ _, trivial⟩⟩
    case round =>
      obtain ⟨j, s, hj, rfl, rfl, HSU, HO⟩ := hrel
      by_cases hlt : j < m
      · obtain ⟨a1, n1, c1, hu1⟩ := SS.shape (HS.out j hlt)
        have hu := HC.out j hlt
        rw [hu1] at hu
        have hu' := HO.out.2.1.slices _ _ _ _ _ hu
        have hs := HS.out
        have hsz := flat_size (J := J) hlt
        have hs0 : 0 ≤ s ∧ s ≤ 4611686018427387904 := by have := HSU.out; have := HK.out; omega
        have HM1 := Lib.hid (mark2s_any (f j) (J j) s wr (S2.tame (hs j hlt) HO.out.2.1) ((HN.out.sub (flat_mem hlt)).tame HO.out.2.1) (flat_disj hlt HD.out) (by omega) (by have := HSU.out; have := HK.out; omega))
        rw [hu1] at HM1
        have HS2 : Hid (s + (ivSize (J j) : Int) = k + (ivSize (flat J (j + 1)) : Int)) := Lib.hid (by have := HSU.out; rw [flat_succ, ivSize_append]; omega)
        clear hu hu1 hs hsz
        go_wp2_with fail
        refine HM1.out.mono ?_
        rintro e w2 ⟨rfl, ho, ht, hout, hmk⟩
        have HO2 : Hid (Only lo hi w w2 ∧ Tame w w2 ∧ OutC (flat J (j + 1)) w w2 ∧ Marked w2 (flat J (j + 1)) k) := Lib.hid ⟨HO.out.1.trans ho, HO.out.2.1.trans ht, by rw [flat_succ]; exact HO.out.2.2.1.trans hout, by
          rw [flat_succ]
          exact (HO.out.2.2.2.keep hout (flat_apart hlt HD.out)).append (by rw [← HSU.out]; exact hmk)⟩
        have hs1 : 0 ≤ s + (ivSize (J j) : Int) ∧ s + (ivSize (J j) : Int) ≤ 4611686018427387904 := by
          have h1 := HS2.out
          have h2 := HK.out
          have h3 : ivSize (flat J (j + 1)) ≤ ivSize (flat J m) := by
            obtain ⟨r, hr⟩ := flat_part J (show j + 1 ≤ m by omega)
            rw [hr, ivSize_append]; omega
          omega
        clear ho ht hout hmk HM1
        go_wp2
        go_roundw
        case rel => exact ⟨j + 1, s + (ivSize (J j) : Int), by omega, by go_num, rfl, HS2, HO2⟩
        case measure => simp [intOf]; omega
      · have hjj : Hid (j = m) := Lib.hid (by omega)
        go_wp2
        go_ret
        have h := HO.out
        have h2 := HSU.out
        rw [hjj.out] at h h2
        exact ⟨ret_int h2, h.1, h.2.1, h.2.2.1, h.2.2.2⟩

set_option maxHeartbeats 1600000 in
theorem held3s_any {lo hi : Nat} (v : Value) (I : List Iv) (k : Int) (w : World) (h : S3 lo hi w v I) (hn : Marked w I k) (hk0 : 0 ≤ k) (hk1 : k + (ivSize I : Int) ≤ 4611686018427387904) :
    Calls Try.prog 66 #[v, .int .i64 k] w (QW (.int .i64 (k + (ivSize I : Int))) w) := by
  obtain ⟨ad, m, cap, f, J, rfl, hm, rfl, hs, hc⟩ := h
  have HS := Lib.hid hs
  have HN := Lib.hid hn
  clear hs hn
  by_cases h0 : m = 0
  · subst h0
    clear hc
    go_enter Try.func66, Try.ntmps66
    go_wp2
    refine wp_loop_rounds 1 ?_
    rw [rounds_succ]
    go_wp2
    go_ret
    exact ⟨ret_int (by simp [ivSize, flat]), rfl⟩
  · obtain ⟨b, o, rfl, hlo, hhi, hcl⟩ := hc (by omega)
    have HC := Lib.hid hcl
    have HK := Lib.hid hk1
    clear hcl hc hk1
    go_enter Try.func66, Try.ntmps66
    go_wp2
    go_loop [1, 5] (fun kk i => ∃ (j : Nat) (s : Int), j ≤ m ∧ i = .int .i64 j ∧ kk = .int .i64 s ∧ Hid (s = k + (ivSize (flat J j) : Int))) (fun _ i => m - (intOf i).toNat)
    case atStart => exact ⟨0, k, Nat.zero_le _, rfl, rfl, Lib.hid (by simp [flat, ivSize])⟩
    case round =>
      obtain ⟨j, s, hj, rfl, rfl, HSU⟩ := hrel
      by_cases hlt : j < m
      · obtain ⟨a1, n1, c1, hu1⟩ := SS.shape (HS.out j hlt)
        have hu' := HC.out j hlt
        rw [hu1] at hu'
        have hs := HS.out
        have hsz := flat_size (J := J) hlt
        have hs0 : 0 ≤ s ∧ s ≤ 4611686018427387904 := by have := HSU.out; have := HK.out; omega
        have hmk : Marked w (J j) s := by
          obtain ⟨r, hr⟩ := flat_part J (show j + 1 ≤ m by omega)
          have h := HN.out
          rw [hr, flat_succ] at h
          have h2 := h.parts.1.parts.2
          rw [← HSU.out] at h2
          exact h2
        have HM1 := Lib.hid (held2s_any (f j) (J j) s w (hs j hlt) hmk (by omega) (by have := HSU.out; have := HK.out; omega))
        rw [hu1] at HM1
        have HS2 : Hid (s + (ivSize (J j) : Int) = k + (ivSize (flat J (j + 1)) : Int)) := Lib.hid (by have := HSU.out; rw [flat_succ, ivSize_append]; omega)
        clear hu1 hs hsz hmk
        go_wp2_with fail
        refine HM1.out.mono ?_
        rintro e w2 ⟨rfl, rfl⟩
        have hneg : ¬ (s + (ivSize (J j) : Int) < 0) := by omega
        have hs1 : 0 ≤ s + (ivSize (J j) : Int) ∧ s + (ivSize (J j) : Int) ≤ 4611686018427387904 := by
          have h1 := HS2.out
          have h2 := HK.out
          have h3 : ivSize (flat J (j + 1)) ≤ ivSize (flat J m) := by
            obtain ⟨r, hr⟩ := flat_part J (show j + 1 ≤ m by omega)
            rw [hr, ivSize_append]; omega
          omega
        clear hu' HM1
        go_wp2
        go_round
        case rel => exact ⟨j + 1, s + (ivSize (J j) : Int), by omega, by go_num, rfl, HS2⟩
        case measure => simp [intOf]; omega
      · have hjj : Hid (j = m) := Lib.hid (by omega)
        go_wp2
        go_ret
        have h2 := HSU.out
        rw [hjj.out] at h2
        exact ⟨ret_int h2, rfl⟩
end Go.Proofs.Ytlopenephgabhaa


namespace Go.Proofs.Ytlopenephgabhaa
open Go.RowKit

/-- The table at block g: its row of rows there, row j at block g + 1 + j, number i of it Z j i. -/
structure Tb (W : World) (g r c : Nat) (Z : Nat → Nat → Int) : Prop where
  top : W.rowIs g 35 r (fun j => .slice (some ⟨g + 1 + j, 0, none⟩) c c)
  rows : ∀ j, j < r → W.rowIs (g + 1 + j) 2 c (fun i => .int .i64 (Z j i))
  lt : g + 1 + r ≤ W.heap.size
theorem Mat.tb {w w' : World} {r c : Nat} {Z : Nat → Nat → Int} (h : Mat w w' r c Z) : Tb w' w.heap.size r c Z := ⟨h.top, h.rows, by rw [h.size]; omega⟩
theorem Tb.below {W W' : World} {g r c : Nat} {Z : Nat → Nat → Int} (h : Tb W g r c Z) (hb : Below W.heap.size W W') : Tb W' g r c Z :=
  ⟨h.top.of_block (hb.block _ h.top.lt), fun j hj => (h.rows j hj).of_block (hb.block _ (h.rows j hj).lt), Nat.le_trans h.lt hb.size⟩
theorem Tb.out {W : World} {g r c : Nat} {Z : Nat → Nat → Int} (h : Tb W g r c Z) {a : Addr} (ha : a.block < g ∨ g + 1 + r ≤ a.block) (v : Value) : Tb (W.setCell a v) g r c Z :=
  ⟨h.top.setOther (by omega) v, fun j hj => (h.rows j hj).setOther (by omega) v, by simpa using h.lt⟩
theorem Tb.put {W : World} {g r c : Nat} {Z : Nat → Nat → Int} (h : Tb W g r c Z) {j i : Nat} (hj : j < r) (x : Int) :
    Tb (W.setCell ⟨g + 1 + j, i, none⟩ (.int .i64 x)) g r c (fun j2 i2 => if j2 = j ∧ i2 = i then x else Z j2 i2) := by
  refine ⟨h.top.setOther (by show g ≠ g + 1 + j; omega) _, fun j2 hj2 => ?_, by simpa using h.lt⟩
  by_cases e : j2 = j
  · subst e
    exact ((h.rows j2 hj2).set i _).congr (fun i2 _ => by by_cases e2 : i2 = i <;> simp [e2])
  · exact ((h.rows j2 hj2).setOther (by show g + 1 + j2 ≠ g + 1 + j; omega) _).congr (fun i2 _ => by simp [e])
theorem Tb.congr {W : World} {g r c : Nat} {Z Z' : Nat → Nat → Int} (h : Tb W g r c Z) (e : ∀ j, j < r → ∀ i, i < c → Z j i = Z' j i) : Tb W g r c Z' :=
  ⟨h.top, fun j hj => (h.rows j hj).congr (fun i hi => by rw [e j hj i hi]), h.lt⟩
end Go.Proofs.Ytlopenephgabhaa

