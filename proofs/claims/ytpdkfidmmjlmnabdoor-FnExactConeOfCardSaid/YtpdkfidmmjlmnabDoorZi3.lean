/-
  Texts that ProofCol needs, part 3.
-/
import Derived.Test.YtpdkfidmmjlmnabDoorZi2
import Derived.OwnWalk
import Derived.Deep.RegionHeld3
import Derived.BigRegion
import Derived.Deep.Cut
import Derived.Deep.CutRange
import Derived.StillTailTactics
import Derived.Deep.QuietTactic
import Derived.BigQuiet
import Derived.RegionTactic
import Derived.Great.BuildSlice
import Derived.Laws.AppendOwn
import Derived.Deep.AppendLies
import Derived.Lib.AppendZeros
namespace Go.Proofs.YtpdkfidmmjlmnabDoor
open Go.RowKit

/-- Blocks from lo up to hi are as they were. -/
def Same (lo hi : Nat) (w w' : World) : Prop := ∀ b, lo ≤ b → b < hi → w'.heap[b]? = w.heap[b]?
theorem Same.of_below {lo hi : Nat} {w w' : World} {B : Nat} (h : Below B w w') (hh : hi ≤ B) : Same lo hi w w' := fun b _ hb => h.block b (Nat.lt_of_lt_of_le hb hh)
theorem Same.trans {lo hi : Nat} {a b c : World} (h : Same lo hi a b) (k : Same lo hi b c) : Same lo hi a c := fun i hl hi => (k i hl hi).trans (h i hl hi)
theorem Same.set {lo hi g o : Nat} {w : World} (u : Value) (h : g < lo ∨ hi ≤ g) : Same lo hi w (w.setCell ⟨g, o, none⟩ u) := fun b hl hb => Below.heap_setCell w ⟨g, o, none⟩ u b (by show b ≠ g; omega)
theorem Same.narrow {lo hi lo' hi' : Nat} {w w' : World} (h : Same lo hi w w') (h1 : lo ≤ lo') (h2 : hi' ≤ hi) : Same lo' hi' w w' := fun b hl hb => h b (by omega) (by omega)

/-- The slice v reads as xs; its cells lie in blocks from lo up to hi, and may be written. -/
def Sw {α : Type} (lo hi : Nat) (R : World → Value → α → Prop) (w : World) (v : Value) (xs : List α) : Prop :=
  (xs = [] ∧ ∃ ad cap, v = .slice ad 0 cap) ∨
  ∃ b o cap, v = .slice (some ⟨b, o, none⟩) xs.length cap ∧ lo ≤ b ∧ b < hi ∧ 0 < xs.length ∧ (∀ k (h : k < xs.length), ∃ u, w.cell? ⟨b, o + k, none⟩ = some u ∧ R w u xs[k]) ∧ ∀ k, k < xs.length → w.frozen? ⟨b, o + k, none⟩ = false
def W1 (lo hi : Nat) := Sw lo hi IsI
def W2 (lo hi : Nat) := Sw lo hi (W1 lo hi)
def W3 (lo hi : Nat) := Sw lo hi (W2 lo hi)

def Steady {α : Type} (lo hi : Nat) (R : World → Value → α → Prop) : Prop := ∀ w w' v x, Same lo hi w w' → R w v x → R w' v x
theorem steadyI (lo hi : Nat) : Steady lo hi IsI := fun _ _ _ _ _ h => h
theorem Steady.sw {α : Type} {lo hi : Nat} {R : World → Value → α → Prop} (hR : Steady lo hi R) : Steady lo hi (Sw lo hi R) := by
  intro w w' v xs hk h
  rcases h with h | ⟨b, o, cap, hv, hlo, hhi, hpos, hc, hf⟩
  · exact Or.inl h
  · refine Or.inr ⟨b, o, cap, hv, hlo, hhi, hpos, fun k hk' => ?_, fun k hk' => ?_⟩
    · obtain ⟨u, hu, hr⟩ := hc k hk'
      exact ⟨u, (World.cell?_of_block (w := w) (a := ⟨b, o + k, none⟩) (hk b hlo hhi)).trans hu, hR _ _ _ _ hk hr⟩
    · exact (World.frozen?_of_block (w := w) (a := ⟨b, o + k, none⟩) (hk b hlo hhi)).trans (hf k hk')
theorem steady1 (lo hi : Nat) : Steady lo hi (W1 lo hi) := (steadyI lo hi).sw
theorem steady2 (lo hi : Nat) : Steady lo hi (W2 lo hi) := (steady1 lo hi).sw
theorem steady3 (lo hi : Nat) : Steady lo hi (W3 lo hi) := (steady2 lo hi).sw

theorem Sw.wider {α : Type} {lo hi lo' hi' : Nat} {R R' : World → Value → α → Prop} (hl : lo' ≤ lo) (hh : hi ≤ hi') (hR : ∀ w v x, R w v x → R' w v x) {w : World} {v : Value} {xs : List α} (h : Sw lo hi R w v xs) : Sw lo' hi' R' w v xs := by
  rcases h with h | ⟨b, o, cap, hv, hlo, hhi, hpos, hc, hf⟩
  · exact Or.inl h
  · refine Or.inr ⟨b, o, cap, hv, by omega, by omega, hpos, fun k hk' => ?_, hf⟩
    obtain ⟨u, hu, hr⟩ := hc k hk'
    exact ⟨u, hu, hR _ _ _ hr⟩
theorem W1.wider {lo hi lo' hi' : Nat} (hl : lo' ≤ lo) (hh : hi ≤ hi') {w : World} {v : Value} {xs : List Int} (h : W1 lo hi w v xs) : W1 lo' hi' w v xs := Sw.wider hl hh (fun _ _ _ h => h) h
theorem W2.wider {lo hi lo' hi' : Nat} (hl : lo' ≤ lo) (hh : hi ≤ hi') {w : World} {v : Value} {xs : List (List Int)} (h : W2 lo hi w v xs) : W2 lo' hi' w v xs := Sw.wider hl hh (fun _ _ _ h => h.wider hl hh) h
theorem W3.wider {lo hi lo' hi' : Nat} (hl : lo' ≤ lo) (hh : hi ≤ hi') {w : World} {v : Value} {xs : List (List (List Int))} (h : W3 lo hi w v xs) : W3 lo' hi' w v xs := Sw.wider hl hh (fun _ _ _ h => h.wider hl hh) h

theorem Sw.sl {α : Type} {lo hi : Nat} {R R' : World → Value → α → Prop} (hR : ∀ w v x, R w v x → R' w v x) {w : World} {v : Value} {xs : List α} (h : Sw lo hi R w v xs) : Sl lo R' w v xs := by
  rcases h with h | ⟨b, o, cap, hv, hlo, _, hpos, hc, _⟩
  · exact Or.inl h
  · refine Or.inr ⟨b, o, cap, hv, hlo, hpos, fun k hk' => ?_⟩
    obtain ⟨u, hu, hr⟩ := hc k hk'
    exact ⟨u, hu, hR _ _ _ hr⟩
theorem W1.l1 {lo hi : Nat} {w : World} {v : Value} {xs : List Int} (h : W1 lo hi w v xs) : L1 lo w v xs := Sw.sl (fun _ _ _ h => h) h
theorem W2.l2 {lo hi : Nat} {w : World} {v : Value} {xs : List (List Int)} (h : W2 lo hi w v xs) : L2 lo w v xs := Sw.sl (fun _ _ _ h => h.l1) h
theorem W3.l3 {lo hi : Nat} {w : World} {v : Value} {xs : List (List (List Int))} (h : W3 lo hi w v xs) : L3 lo w v xs := Sw.sl (fun _ _ _ h => h.l2) h
theorem W1.same {lo hi : Nat} {w w' : World} {v : Value} {xs : List Int} (h : W1 lo hi w v xs) (hs : Same lo hi w w') : W1 lo hi w' v xs := steady1 lo hi _ _ _ _ hs h
theorem W2.same {lo hi : Nat} {w w' : World} {v : Value} {xs : List (List Int)} (h : W2 lo hi w v xs) (hs : Same lo hi w w') : W2 lo hi w' v xs := steady2 lo hi _ _ _ _ hs h
theorem W3.same {lo hi : Nat} {w w' : World} {v : Value} {xs : List (List (List Int))} (h : W3 lo hi w v xs) (hs : Same lo hi w w') : W3 lo hi w' v xs := steady3 lo hi _ _ _ _ hs h
theorem Sw.cases {α : Type} {lo hi : Nat} {R : World → Value → α → Prop} {w : World} {v : Value} {xs : List α} (h : Sw lo hi R w v xs) {P : Prop}
    (h0 : ∀ ad cap, xs = [] → v = .slice ad 0 cap → P)
    (h1 : ∀ b o cap, v = .slice (some ⟨b, o, none⟩) xs.length cap → lo ≤ b → b < hi → 0 < xs.length → (∀ k (h : k < xs.length), ∃ u, w.cell? ⟨b, o + k, none⟩ = some u ∧ R w u xs[k]) → (∀ k, k < xs.length → w.frozen? ⟨b, o + k, none⟩ = false) → P) : P := by
  rcases h with ⟨h, ad, cap, hv⟩ | ⟨b, o, cap, hv, hlo, hhi, hpos, hc, hf⟩
  · exact h0 ad cap h hv
  · exact h1 b o cap hv hlo hhi hpos hc hf
theorem Sw.shape {α : Type} {lo hi : Nat} {R : World → Value → α → Prop} {w : World} {v : Value} {xs : List α} (h : Sw lo hi R w v xs) : ∃ ad cap, v = .slice ad xs.length cap :=
  h.cases (fun ad cap hx hv => ⟨ad, cap, by subst hx; exact hv⟩) (fun b o cap hv _ _ _ _ _ => ⟨some ⟨b, o, none⟩, cap, hv⟩)

/-- The filling of a slice, the elements in a span of blocks of their own. -/
structure FillW {α : Type} (w wr : World) (t : TypeId) (n k : Nat) (z : Value) (R : Nat → Nat → World → Value → α → Prop) (xs : List α) (f : Nat → Value) : Prop where
  below : Below w.heap.size w wr
  row : wr.rowIs w.heap.size t n f
  done : ∀ j (h : j < xs.length), j < k → R (w.heap.size + 1) wr.heap.size wr (f j) (xs[j]'h)

theorem FillW.start {α : Type} (w : World) (t : TypeId) (n : Nat) (z : Value) (R : Nat → Nat → World → Value → α → Prop) (xs : List α) : FillW w (w.alloc (.cells (madeCells #[z] n) t)) t n 0 z R xs (fun _ => z) :=
  ⟨(Below.refl _ _).alloc (Nat.le_refl _) _, World.rowIs_made w z n t, fun _ _ h => absurd h (Nat.not_lt_zero _)⟩
theorem FillW.step {α : Type} {w wr w1 : World} {t : TypeId} {n k : Nat} {z u : Value} {R : Nat → Nat → World → Value → α → Prop} {xs : List α} {f : Nat → Value} (hR : ∀ lo hi, Steady lo hi (R lo hi))
    (hW : ∀ lo hi lo' hi' w v x, lo' ≤ lo → hi ≤ hi' → R lo hi w v x → R lo' hi' w v x) (h : FillW w wr t n k z R xs f)
    (hb : Below wr.heap.size wr w1) (hk : k < xs.length) (hu : R wr.heap.size w1.heap.size w1 u xs[k]) :
    FillW w (w1.setCell ⟨w.heap.size, k, none⟩ u) t n (k + 1) z R xs (fun j => if j = k then u else f j) := by
  have hlt := h.row.lt
  have hrow1 : w1.rowIs w.heap.size t n f := h.row.of_block (hb.block _ hlt)
  have hsz : (w1.setCell ⟨w.heap.size, k, none⟩ u).heap.size = w1.heap.size := by simp [World.setCell]
  refine ⟨(h.below.trans (hb.mono (Nat.le_of_lt hlt))).setCell (Nat.le_refl _) _, hrow1.set k u, fun j hj hjk => ?_⟩
  rw [hsz]
  by_cases e : j = k
  · subst e
    simp only [if_true]
    refine hW _ _ _ _ _ _ _ hlt (Nat.le_refl _) (hR _ _ _ _ _ _ (Same.set u (Or.inl ?_)) hu)
    exact hlt
  · rw [if_neg e]
    have hd := h.done j hj (by omega)
    refine hW _ _ _ _ _ _ _ (Nat.le_refl _) hb.size (hR _ _ _ _ _ _ ((Same.of_below hb (Nat.le_refl _)).trans (Same.set u (Or.inl (Nat.lt_succ_self _)))) hd)
theorem FillW.sw {α : Type} {w wr : World} {t : TypeId} {z : Value} {R : Nat → Nat → World → Value → α → Prop} {xs : List α} {f : Nat → Value}
    (hW : ∀ lo hi lo' hi' w v x, lo' ≤ lo → hi ≤ hi' → R lo hi w v x → R lo' hi' w v x) (h : FillW w wr t xs.length xs.length z R xs f) :
    Sw w.heap.size wr.heap.size (R w.heap.size wr.heap.size) wr (.slice (some ⟨w.heap.size, 0, none⟩) xs.length xs.length) xs := by
  by_cases h0 : xs.length = 0
  · exact Or.inl ⟨List.eq_nil_of_length_eq_zero h0, _, _, by rw [h0]⟩
  · exact Or.inr ⟨w.heap.size, 0, xs.length, rfl, Nat.le_refl _, h.row.lt, by omega, fun k hk => ⟨f k, by rw [Nat.zero_add]; exact h.row.cell hk, hW _ _ _ _ _ _ _ (Nat.le_succ _) (Nat.le_refl _) (h.done k hk hk)⟩, fun k _ => h.row.frozen _⟩

def ToW {α : Type} (R : Nat → Nat → World → Value → α → Prop) (x : α) (w : World) (e : Ending) (w' : World) : Prop := ∃ v, e = .returned v ∧ R w.heap.size w'.heap.size w' v x ∧ Below w.heap.size w w'

set_option maxHeartbeats 400000 in
theorem to1w_any (v : Value) (xs : List Int) (w : World) (h : L1 0 w v xs) (hm : xs.length ≤ 1048576) :
    Calls Tryd.prog 19 #[v] w (ToW W1 xs w) := by
  have hmk := run_make_row' (P := Tryd.prog) 22 2 (.int .i64 0) 8 Tryd.underlying22 Tryd.infoI rfl .i64 .i64 xs.length (by omega) (by omega)
  refine Sl.cases h (fun ad cap hx hv => ?_) (fun b o cap hv _ hpos hc => ?_)
  · subst hx hv
    have hmk0 : ∀ w, (Instr.makeSlice 22 (.int .i64 0) (.int .i64 0)).run Tryd.prog w = .ok (.slice (some ⟨w.heap.size, 0, none⟩) 0 0) (w.alloc (.cells #[] 2)) := fun _ => by kernel_rfl
    clear hmk
    go_enter Tryd.func19, Tryd.ntmps19
    go_wp2
    refine wp_loop_rounds 1 ?_
    rw [rounds_succ]
    go_wp2
    go_ret
    exact ⟨_, rfl, Or.inl ⟨rfl, _, _, rfl⟩, (Below.refl _ _).alloc (Nat.le_refl _) _⟩
  · subst hv
    clear h
    have HC := Lib.hid hc
    clear hc
    go_enter Tryd.func19, Tryd.ntmps19
    go_wp2
    clear hmk
    go_loopw [4] (fun i wr => ∃ (k : Nat) (f : Nat → Value), k ≤ xs.length ∧ i = .int .i64 k ∧ FillW w wr 2 xs.length k (.int .i64 0) (fun _ _ => IsI) xs f) (fun i _ => xs.length - (intOf i).toNat)
    case atStart => exact ⟨0, _, Nat.zero_le _, rfl, FillW.start _ _ _ _ _ _⟩
    case round =>
      obtain ⟨k, f, hk, rfl, HF⟩ := hrel
      by_cases hlt2 : k < xs.length
      · obtain ⟨u, hu, hr⟩ := HC.out k hlt2
        have hu' : wr.cell? ⟨b, o + k, none⟩ = some (.int .i64 xs[k]) := by
          rw [HF.below.cell (p := ⟨b, o + k, none⟩) (cell_lt hu), hu, hr]
        have hc1 := HF.row.cell hlt2
        have hc2 := HF.row.frozen k
        have HS := HF.step (w1 := wr) (u := .int .i64 xs[k]) (fun _ _ => steadyI _ _) (fun _ _ _ _ _ _ _ _ _ h => h) (Below.refl _ _) hlt2 rfl
        have HF' := Lib.hid HF
        have HS' := Lib.hid HS
        clear HF HS hu hr
        go_wp2
        go_roundw
        case rel => exact ⟨k + 1, _, by omega, by go_num, HS'.out⟩
        case measure => simp [intOf]; omega
      · obtain rfl : k = xs.length := by omega
        have HF' := Lib.hid HF
        clear HF
        go_wp2
        go_ret
        exact ⟨_, rfl, HF'.out.sw (fun _ _ _ _ _ _ _ _ _ h => h), HF'.out.below⟩

set_option maxHeartbeats 400000 in
theorem to2w_any (v : Value) (xs : List (List Int)) (w : World) (h : L2 0 w v xs) (hm : Bd2 1048576 xs) :
    Calls Tryd.prog 20 #[v] w (ToW W2 xs w) := by
  have hml : xs.length ≤ 1048576 := hm.1
  have HM := Lib.hid hm
  clear hm
  have hmk := run_make_row' (P := Tryd.prog) 39 22 (.slice none 0 0) 24 Tryd.underlying39 Tryd.infoS rfl .i64 .i64 xs.length (by omega) (by omega)
  refine Sl.cases h (fun ad cap hx hv => ?_) (fun b o cap hv _ hpos hc => ?_)
  · subst hx hv
    have hmk0 : ∀ w, (Instr.makeSlice 39 (.int .i64 0) (.int .i64 0)).run Tryd.prog w = .ok (.slice (some ⟨w.heap.size, 0, none⟩) 0 0) (w.alloc (.cells #[] 22)) := fun _ => by kernel_rfl
    clear hmk
    go_enter Tryd.func20, Tryd.ntmps20
    go_wp2
    refine wp_loop_rounds 1 ?_
    rw [rounds_succ]
    go_wp2
    go_ret
    exact ⟨_, rfl, Or.inl ⟨rfl, _, _, rfl⟩, (Below.refl _ _).alloc (Nat.le_refl _) _⟩
  · subst hv
    clear h
    have HC := Lib.hid hc
    clear hc
    go_enter Tryd.func20, Tryd.ntmps20
    go_wp2
    clear hmk
    go_loopw [4] (fun i wr => ∃ (k : Nat) (f : Nat → Value), k ≤ xs.length ∧ i = .int .i64 k ∧ FillW w wr 22 xs.length k (.slice none 0 0) W1 xs f) (fun i _ => xs.length - (intOf i).toNat)
    case atStart => exact ⟨0, _, Nat.zero_le _, rfl, FillW.start _ _ _ _ _ _⟩
    case round =>
      obtain ⟨k, f, hk, rfl, HF⟩ := hrel
      by_cases hlt2 : k < xs.length
      · obtain ⟨u, hu, hr⟩ := HC.out k hlt2
        have hu' : wr.cell? ⟨b, o + k, none⟩ = some u := by
          rw [HF.below.cell (p := ⟨b, o + k, none⟩) (cell_lt hu), hu]
        have hr' : L1 0 wr u xs[k] := hr.below HF.below
        have hmx : (xs[k]).length ≤ 1048576 := HM.out.2 _ (List.getElem_mem hlt2)
        have HF' := Lib.hid HF
        have HR' := Lib.hid hr'
        clear HF hu hr hr'
        go_wp2_with fail
        refine (to1w_any u xs[k] _ HR'.out hmx).mono ?_
        rintro e w1 ⟨u1, rfl, hr1, hb1⟩
        obtain ⟨ad1, cap1, rfl⟩ := Sw.shape hr1
        have hlr := HF'.out.row.lt
        have hc1 : w1.cell? ⟨w.heap.size, k, none⟩ = some (f k) := (hb1.cell (p := ⟨w.heap.size, k, none⟩) hlr).trans (HF'.out.row.cell hlt2)
        have hc2 : w1.frozen? ⟨w.heap.size, k, none⟩ = false := (hb1.frozen (p := ⟨w.heap.size, k, none⟩) hlr).trans (HF'.out.row.frozen k)
        have HS := Lib.hid (HF'.out.step (w1 := w1) (u := _) steady1 (fun _ _ _ _ _ _ _ h1 h2 h => W1.wider h1 h2 h) hb1 hlt2 hr1)
        clear hr1 hb1 hlr
        go_wp2
        go_roundw
        case rel => exact ⟨k + 1, _, by omega, by go_num, HS.out⟩
        case measure => simp [intOf]; omega
      · obtain rfl : k = xs.length := by omega
        have HF' := Lib.hid HF
        clear HF
        go_wp2
        go_ret
        exact ⟨_, rfl, HF'.out.sw (fun _ _ _ _ _ _ _ h1 h2 h => W1.wider h1 h2 h), HF'.out.below⟩

set_option maxHeartbeats 400000 in
theorem to3w_any (v : Value) (xs : List (List (List Int))) (w : World) (h : L3 0 w v xs) (hm : Bd3 1048576 xs) :
    Calls Tryd.prog 8 #[v] w (ToW W3 xs w) := by
  have hml : xs.length ≤ 1048576 := hm.1
  have HM := Lib.hid hm
  clear hm
  have hmk := run_make_row' (P := Tryd.prog) 23 39 (.slice none 0 0) 24 Tryd.underlying23 Tryd.infoSS rfl .i64 .i64 xs.length (by omega) (by omega)
  refine Sl.cases h (fun ad cap hx hv => ?_) (fun b o cap hv _ hpos hc => ?_)
  · subst hx hv
    have hmk0 : ∀ w, (Instr.makeSlice 23 (.int .i64 0) (.int .i64 0)).run Tryd.prog w = .ok (.slice (some ⟨w.heap.size, 0, none⟩) 0 0) (w.alloc (.cells #[] 39)) := fun _ => by kernel_rfl
    clear hmk
    go_enter Tryd.func8, Tryd.ntmps8
    go_wp2
    refine wp_loop_rounds 1 ?_
    rw [rounds_succ]
    go_wp2
    go_ret
    exact ⟨_, rfl, Or.inl ⟨rfl, _, _, rfl⟩, (Below.refl _ _).alloc (Nat.le_refl _) _⟩
  · subst hv
    clear h
    have HC := Lib.hid hc
    clear hc
    go_enter Tryd.func8, Tryd.ntmps8
    go_wp2
    clear hmk
    go_loopw [4] (fun i wr => ∃ (k : Nat) (f : Nat → Value), k ≤ xs.length ∧ i = .int .i64 k ∧ FillW w wr 39 xs.length k (.slice none 0 0) W2 xs f) (fun i _ => xs.length - (intOf i).toNat)
    case atStart => exact ⟨0, _, Nat.zero_le _, rfl, FillW.start _ _ _ _ _ _⟩
    case round =>
      obtain ⟨k, f, hk, rfl, HF⟩ := hrel
      by_cases hlt2 : k < xs.length
      · obtain ⟨u, hu, hr⟩ := HC.out k hlt2
        have hu' : wr.cell? ⟨b, o + k, none⟩ = some u := by
          rw [HF.below.cell (p := ⟨b, o + k, none⟩) (cell_lt hu), hu]
        have hr' : L2 0 wr u xs[k] := hr.below HF.below
        have hmx : Bd2 1048576 xs[k] := HM.out.2 _ (List.getElem_mem hlt2)
        have HF' := Lib.hid HF
        have HR' := Lib.hid hr'
        clear HF hu hr hr'
        go_wp2_with fail
        refine (to2w_any u xs[k] _ HR'.out hmx).mono ?_
        rintro e w1 ⟨u1, rfl, hr1, hb1⟩
        obtain ⟨ad1, cap1, rfl⟩ := Sw.shape hr1
        have hlr := HF'.out.row.lt
        have hc1 : w1.cell? ⟨w.heap.size, k, none⟩ = some (f k) := (hb1.cell (p := ⟨w.heap.size, k, none⟩) hlr).trans (HF'.out.row.cell hlt2)
        have hc2 : w1.frozen? ⟨w.heap.size, k, none⟩ = false := (hb1.frozen (p := ⟨w.heap.size, k, none⟩) hlr).trans (HF'.out.row.frozen k)
        have HS := Lib.hid (HF'.out.step (w1 := w1) (u := _) steady2 (fun _ _ _ _ _ _ _ h1 h2 h => W2.wider h1 h2 h) hb1 hlt2 hr1)
        clear hr1 hb1 hlr
        go_wp2
        go_roundw
        case rel => exact ⟨k + 1, _, by omega, by go_num, HS.out⟩
        case measure => simp [intOf]; omega
      · obtain rfl : k = xs.length := by omega
        have HF' := Lib.hid HF
        clear HF
        go_wp2
        go_ret
        exact ⟨_, rfl, HF'.out.sw (fun _ _ _ _ _ _ _ h1 h2 h => W2.wider h1 h2 h), HF'.out.below⟩

end Go.Proofs.YtpdkfidmmjlmnabDoor

namespace Go.Proofs.YtpdkfidmmjlmnabDoor
open Go.RowKit

structure CxW (lo hi : Nat) (w : World) (dv mv : Value) (ds : List Int) (ms : List (List (List Int))) : Prop where
  dims : W1 lo hi w dv ds
  maps : W3 lo hi w mv ms
theorem CxW.same {lo hi : Nat} {w w' : World} {dv mv : Value} {ds : List Int} {ms : List (List (List Int))} (h : CxW lo hi w dv mv ds ms) (hs : Same lo hi w w') : CxW lo hi w' dv mv ds ms := ⟨h.dims.same hs, h.maps.same hs⟩
theorem CxW.cx {lo hi : Nat} {w : World} {dv mv : Value} {ds : List Int} {ms : List (List (List Int))} (h : CxW lo hi w dv mv ds ms) : Cx lo w dv mv ds ms := ⟨h.dims.l1, h.maps.l3⟩
def ToCW (p : Int) (ds : List Int) (ms : List (List (List Int))) (w : World) (e : Ending) (w' : World) : Prop :=
  ∃ dv mv, e = .returned (.agg #[.int .i64 p, dv, mv]) ∧ CxW w.heap.size w'.heap.size w' dv mv ds ms ∧ Below w.heap.size w w'

set_option maxHeartbeats 800000 in
theorem toComplexw_any (p : Int) (dv mv : Value) (ds : List Int) (ms : List (List (List Int))) (w : World) (h : Cx 0 w dv mv ds ms) (hd : ds.length ≤ 1048576) (hm : Bd3 1048576 ms) :
    Calls Tryd.prog 7 #[.agg #[.int .i64 p, dv, mv]] w (ToCW p ds ms w) := by
  have HM := Lib.hid hm
  have H := Lib.hid h
  clear hm h
  have hres : Tryd.f7.results = #[.cell 2 28] := by kernel_rfl
  have HRES := Lib.hid hres
  clear hres
  go_enter Tryd.func7, Tryd.ntmps7
  go_wp2_with fail
  have hb0 : Below w.heap.size w (((w.alloc (.cells #[.int .i64 p, dv, mv] 25)).alloc (.cells #[.int .i64 0, .slice none 0 0, .slice none 0 0] 28)).alloc (.cells #[.int .i64 p, .slice none 0 0, .slice none 0 0] 28)) :=
    (((Below.refl _ _).alloc (Nat.le_refl _) _).alloc (by simp) _).alloc (by simp; omega) _
  have HB0 := Lib.hid hb0
  clear hb0
  refine (to1w_any dv ds _ (H.out.dims.below HB0.out) hd).mono ?_
  rintro e w1 ⟨u1, rfl, hr1, hb1⟩
  obtain ⟨ad1, cap1, rfl⟩ := Sw.shape hr1
  have hz : w.heap.size + 3 ≤ w1.heap.size := by have := hb1.size; simp at this; omega
  obtain ⟨hc, hf⟩ := bcell hb1
  have HR1 := Lib.hid hr1
  have HB1 := Lib.hid hb1
  clear hr1 hb1
  have hz1b : w.heap.size + 1 < w1.heap.size := by omega
  have hz1 : w.heap.size + 1 + 1 < w1.heap.size := by omega
  have HR1' : Hid (W1 (w.heap.size + 1 + 1 + 1) w1.heap.size (w1.setCell ⟨w.heap.size + 1 + 1, 1, none⟩ (.slice ad1 ds.length cap1)) (.slice ad1 ds.length cap1) ds) := Lib.hid ((HR1.out.wider (by simp) (Nat.le_refl _)).same (Same.set _ (Or.inl (Nat.lt_succ_self _))))
  clear HR1
  go_wp2_with fail
  have hb2 : Below w.heap.size w (w1.setCell ⟨w.heap.size + 1 + 1, 1, none⟩ (.slice ad1 ds.length cap1)) := (HB0.out.trans (HB1.out.mono (by simp; omega))).setCell (by show w.heap.size ≤ w.heap.size + 1 + 1; omega) _
  have HB2 := Lib.hid hb2
  clear hb2
  refine (to3w_any mv ms _ (H.out.maps.below HB2.out) HM.out).mono ?_
  rintro e w2 ⟨u2, rfl, hr2, hb3⟩
  obtain ⟨ad2, cap2, rfl⟩ := Sw.shape hr2
  have hz2 : w1.heap.size ≤ w2.heap.size := by have := hb3.size; simpa using this
  have HR1 : Hid (W1 (w.heap.size + 1 + 1 + 1) w1.heap.size w2 (.slice ad1 ds.length cap1) ds) := Lib.hid (HR1'.out.same (Same.of_below hb3 (by simp)))
  obtain ⟨hc2, hf2⟩ := bcell hb3
  have HR2 : Hid (W3 (w.heap.size + 1 + 1 + 1) w2.heap.size w2 (.slice ad2 ms.length cap2) ms) := Lib.hid (hr2.wider (by simp; omega) (Nat.le_refl _))
  have HB3 := Lib.hid hb3
  clear hr2 hb3 HR1'
  go_wp2
  refine bodyPost_ret (v := .agg #[.int .i64 p, .slice ad1 ds.length cap1, .slice ad2 ms.length cap2]) ?_ rfl ?_
  · simp only [results, HRES.out]
    go_simp
  · have hk : ∀ hi, Same (w.heap.size + 1 + 1 + 1) hi w2 ((((w2.setCell ⟨w.heap.size + 1 + 1, 2, none⟩ (.slice ad2 ms.length cap2)).setCell ⟨w.heap.size + 1, 0, none⟩ (.int .i64 p)).setCell ⟨w.heap.size + 1, 1, none⟩ (.slice ad1 ds.length cap1)).setCell ⟨w.heap.size + 1, 2, none⟩ (.slice ad2 ms.length cap2)) :=
      fun hi => (((Same.set _ (Or.inl (by omega))).trans (Same.set _ (Or.inl (by omega)))).trans (Same.set _ (Or.inl (by omega)))).trans (Same.set _ (Or.inl (by omega)))
    refine ⟨_, _, rfl, ⟨?_, ?_⟩, ?_⟩
    · exact (HR1.out.same (hk _)).wider (by omega) (by simp; omega)
    · exact (HR2.out.same (hk _)).wider (by omega) (by simp)
    · exact ((((HB2.out.trans (HB3.out.mono (by simp; omega))).setCell (by show w.heap.size ≤ w.heap.size + 1 + 1; omega) _).setCell (by show w.heap.size ≤ w.heap.size + 1; omega) _).setCell (by show w.heap.size ≤ w.heap.size + 1; omega) _).setCell (by show w.heap.size ≤ w.heap.size + 1; omega) _

/-- Only blocks from lo up to hi may have been written. -/
structure Only (lo hi : Nat) (w w' : World) : Prop where
  os : w'.os = w.os
  tape : w'.tape = w.tape
  output : w'.output = w.output
  size : w'.heap.size = w.heap.size
  block : ∀ b, (b < lo ∨ hi ≤ b) → w'.heap[b]? = w.heap[b]?
theorem Only.refl (lo hi : Nat) (w : World) : Only lo hi w w := ⟨rfl, rfl, rfl, rfl, fun _ _ => rfl⟩
theorem Only.trans {lo hi : Nat} {a b c : World} (h : Only lo hi a b) (k : Only lo hi b c) : Only lo hi a c := ⟨k.os.trans h.os, k.tape.trans h.tape, k.output.trans h.output, k.size.trans h.size, fun i hi => (k.block i hi).trans (h.block i hi)⟩
theorem Only.wider {lo hi lo' hi' : Nat} {a b : World} (h : Only lo hi a b) (h1 : lo' ≤ lo) (h2 : hi ≤ hi') : Only lo' hi' a b := ⟨h.os, h.tape, h.output, h.size, fun i hi => h.block i (by omega)⟩
theorem Only.set {lo hi g o : Nat} {w : World} (u : Value) (h1 : lo ≤ g) (h2 : g < hi) : Only lo hi w (w.setCell ⟨g, o, none⟩ u) := ⟨rfl, rfl, rfl, by simp, fun b hb => Below.heap_setCell w ⟨g, o, none⟩ u b (by show b ≠ g; omega)⟩
theorem Only.below {lo hi B : Nat} {w w' : World} (h : Only lo hi w w') (hB : B ≤ lo) : Below B w w' := ⟨h.os, h.tape, h.output, Nat.le_of_eq h.size.symm, fun k hk => h.block k (Or.inl (by omega))⟩
theorem Only.same {lo hi lo' hi' : Nat} {w w' : World} (h : Only lo hi w w') (hd : hi' ≤ lo ∨ hi ≤ lo') : Same lo' hi' w w' := fun b hl hh => h.block b (by omega)
theorem Only.cell {lo hi : Nat} {w w' : World} (h : Only lo hi w w') {b o : Nat} (hb : b < lo ∨ hi ≤ b) : w'.cell? ⟨b, o, none⟩ = w.cell? ⟨b, o, none⟩ := World.cell?_of_block (w := w) (a := ⟨b, o, none⟩) (h.block b hb)
theorem Only.frozen {lo hi : Nat} {w w' : World} (h : Only lo hi w w') {b o : Nat} (hb : b < lo ∨ hi ≤ b) : w'.frozen? ⟨b, o, none⟩ = w.frozen? ⟨b, o, none⟩ := World.frozen?_of_block (w := w) (a := ⟨b, o, none⟩) (h.block b hb)

/-- The numbers from k on, n of them. -/
def upFrom (k : Int) (n : Nat) : List Int := (List.range n).map (fun (i : Nat) => k + (i : Int))
theorem upFrom_length (k : Int) (n : Nat) : (upFrom k n).length = n := by simp [upFrom]

/-- Numbers have been written over numbers, nothing else. -/
structure Tame (w w' : World) : Prop where
  slices : ∀ b o a n c, w.cell? ⟨b, o, none⟩ = some (.slice a n c) → w'.cell? ⟨b, o, none⟩ = some (.slice a n c)
  nums : ∀ b o x, w.cell? ⟨b, o, none⟩ = some (.int .i64 x) → ∃ y, w'.cell? ⟨b, o, none⟩ = some (.int .i64 y)
  frozen : ∀ b o, w'.frozen? ⟨b, o, none⟩ = w.frozen? ⟨b, o, none⟩
theorem Tame.refl (w : World) : Tame w w := ⟨fun _ _ _ _ _ h => h, fun _ _ x h => ⟨x, h⟩, fun _ _ => rfl⟩
theorem Tame.trans {a b c : World} (h : Tame a b) (k : Tame b c) : Tame a c :=
  ⟨fun i o x n m hh => k.slices i o x n m (h.slices i o x n m hh), fun i o x hh => by obtain ⟨y, hy⟩ := h.nums i o x hh; exact k.nums i o y hy, fun i o => (k.frozen i o).trans (h.frozen i o)⟩
theorem Tame.set {w : World} {b o : Nat} {x y : Int} (h : w.cell? ⟨b, o, none⟩ = some (.int .i64 x)) : Tame w (w.setCell ⟨b, o, none⟩ (.int .i64 y)) := by
  refine ⟨fun b2 o2 a n c hh => ?_, fun b2 o2 z hh => ?_, fun _ _ => World.frozen?_setCell _ _ _ _⟩
  · by_cases e : (⟨b, o, none⟩ : Addr) = ⟨b2, o2, none⟩
    · rw [← e, h] at hh
      cases hh
    · rw [World.cell?_setCell_other _ _ _ _ e]
      exact hh
  · by_cases e : (⟨b, o, none⟩ : Addr) = ⟨b2, o2, none⟩
    · rw [← e]
      exact ⟨y, World.cell?_setCell_same _ _ _ h⟩
    · rw [World.cell?_setCell_other _ _ _ _ e]
      exact ⟨z, hh⟩

/-- Some number. -/
def AnyI (_ : World) (v : Value) (_ : Int) : Prop := ∃ x : Int, v = .int .i64 x
def T1 (lo hi : Nat) := Sw lo hi AnyI
def T2 (lo hi : Nat) := Sw lo hi (T1 lo hi)
def T3 (lo hi : Nat) := Sw lo hi (T2 lo hi)
theorem W1.t1 {lo hi : Nat} {w : World} {v : Value} {xs : List Int} (h : W1 lo hi w v xs) : T1 lo hi w v xs := Sw.wider (Nat.le_refl _) (Nat.le_refl _) (fun _ _ x h => ⟨x, h⟩) h
theorem W2.t2 {lo hi : Nat} {w : World} {v : Value} {xs : List (List Int)} (h : W2 lo hi w v xs) : T2 lo hi w v xs := Sw.wider (Nat.le_refl _) (Nat.le_refl _) (fun _ _ _ h => h.t1) h
theorem W3.t3 {lo hi : Nat} {w : World} {v : Value} {xs : List (List (List Int))} (h : W3 lo hi w v xs) : T3 lo hi w v xs := Sw.wider (Nat.le_refl _) (Nat.le_refl _) (fun _ _ _ h => h.t2) h
theorem T1.tame {lo hi : Nat} {w w' : World} {v : Value} {xs : List Int} (h : T1 lo hi w v xs) (ht : Tame w w') : T1 lo hi w' v xs := by
  rcases h with h | ⟨b, o, cap, hv, hlo, hhi, hpos, hc, hf⟩
  · exact Or.inl h
  · refine Or.inr ⟨b, o, cap, hv, hlo, hhi, hpos, fun k hk' => ?_, fun k hk' => (ht.frozen _ _).trans (hf k hk')⟩
    obtain ⟨u, hu, x, rfl⟩ := hc k hk'
    obtain ⟨y, hy⟩ := ht.nums _ _ _ hu
    exact ⟨_, hy, y, rfl⟩
theorem tame_sw {α : Type} {lo hi : Nat} {R : World → Value → List α → Prop} (hs : ∀ w v x, R w v x → ∃ a n c, v = .slice a n c) {w w' : World} (hR : ∀ v x, R w v x → R w' v x) {v : Value} {xs : List (List α)} (h : Sw lo hi R w v xs) (ht : Tame w w') : Sw lo hi R w' v xs := by
  rcases h with h | ⟨b, o, cap, hv, hlo, hhi, hpos, hc, hf⟩
  · exact Or.inl h
  · refine Or.inr ⟨b, o, cap, hv, hlo, hhi, hpos, fun k hk' => ?_, fun k hk' => (ht.frozen _ _).trans (hf k hk')⟩
    obtain ⟨u, hu, hr⟩ := hc k hk'
    obtain ⟨a, n, c, rfl⟩ := hs _ _ _ hr
    exact ⟨_, ht.slices _ _ _ _ _ hu, hR _ _ hr⟩
theorem T2.tame {lo hi : Nat} {w w' : World} {v : Value} {xs : List (List Int)} (h : T2 lo hi w v xs) (ht : Tame w w') : T2 lo hi w' v xs :=
  tame_sw (fun _ _ x h => by obtain ⟨a, c, e⟩ := Sw.shape h; exact ⟨a, _, c, e⟩) (fun _ _ h => T1.tame h ht) h ht
theorem T3.tame {lo hi : Nat} {w w' : World} {v : Value} {xs : List (List (List Int))} (h : T3 lo hi w v xs) (ht : Tame w w') : T3 lo hi w' v xs :=
  tame_sw (fun _ _ x h => by obtain ⟨a, c, e⟩ := Sw.shape h; exact ⟨a, _, c, e⟩) (fun _ _ h => T2.tame h ht) h ht

def MarkR (lo hi : Nat) (v : Value) (k : Int) (n : Nat) (w : World) (e : Ending) (w' : World) : Prop := e = .returned (.int .i64 (k + n)) ∧ Only lo hi w w' ∧ Tame w w' ∧ W1 lo hi w' v (upFrom k n)

set_option maxHeartbeats 800000 in
theorem mark1_any {lo hi : Nat} (v : Value) (xs : List Int) (k : Int) (w : World) (h : T1 lo hi w v xs) (hm : xs.length ≤ 1048576) (hk0 : 0 ≤ k) (hk1 : k ≤ 9223372036852678656) :
    Calls Tryd.prog 26 #[v, .int .i64 k] w (MarkR lo hi v k xs.length w) := by
  refine Sw.cases h (fun ad cap hx hv => ?_) (fun b o cap hv hlo hhi hpos hc hf => ?_)
  · subst hx hv
    go_enter Tryd.func26, Tryd.ntmps26
    go_wp2
    refine wp_loop_rounds 1 ?_
    rw [rounds_succ]
    go_wp2
    go_ret
    exact ⟨ret_int (by simp), Only.refl _ _ _, Tame.refl _, Or.inl ⟨rfl, _, _, rfl⟩⟩
  · subst hv
    clear h
    have HC := Lib.hid hc
    have HF := Lib.hid hf
    clear hc hf
    go_enter Tryd.func26, Tryd.ntmps26
    go_wp2
    go_loopw [1, 5] (fun kk i wr => ∃ (j : Nat), j ≤ xs.length ∧ i = .int .i64 j ∧ kk = .int .i64 (k + (j : Int)) ∧ Hid (Only lo hi w wr ∧ Tame w wr) ∧ Hid (∀ q, q < xs.length → ∃ x, wr.cell? ⟨b, o + q, none⟩ = some (.int .i64 x) ∧ (q < j → x = k + (q : Int))) ∧ Hid (∀ q, q < xs.length → wr.frozen? ⟨b, o + q, none⟩ = false)) (fun _ i _ => xs.length - (intOf i).toNat)
    case atStart => exact ⟨0, Nat.zero_le _, rfl, by simp, Lib.hid ⟨Only.refl _ _ _, Tame.refl _⟩, Lib.hid (fun q hq => by
      obtain ⟨u, hu, x, hr⟩ := HC.out q hq
      exact ⟨x, by rw [hu, hr], fun h => absurd h (Nat.not_lt_zero _)⟩), HF⟩
    case round =>
      obtain ⟨j, hj, rfl, rfl, HO, HX, HZ⟩ := hrel
      by_cases hlt : j < xs.length
      · obtain ⟨x, hx, _⟩ := HX.out j hlt
        have hz := HZ.out j hlt
        have HN : Hid (∀ q, q < xs.length → ∃ x, (wr.setCell ⟨b, o + j, none⟩ (.int .i64 (k + (j : Int)))).cell? ⟨b, o + q, none⟩ = some (.int .i64 x) ∧ (q < j + 1 → x = k + (q : Int))) := Lib.hid (fun q hq => by
          obtain ⟨y, hy, hy2⟩ := HX.out q hq
          by_cases e : q = j
          · subst e
            exact ⟨k + (q : Int), World.cell?_setCell_same _ _ _ hy, fun _ => rfl⟩
          · refine ⟨y, ?_, fun h => hy2 (by omega)⟩
            rw [World.cell?_setCell_other _ _ _ _ (fun hh => e (by have h2 := congrArg Addr.off hh; exact (Nat.add_left_cancel h2).symm))]
            exact hy)
        have HZ2 : Hid (∀ q, q < xs.length → (wr.setCell ⟨b, o + j, none⟩ (.int .i64 (k + (j : Int)))).frozen? ⟨b, o + q, none⟩ = false) := Lib.hid (fun q hq => by rw [World.frozen?_setCell]; exact HZ.out q hq)
        have HO2 : Hid (Only lo hi w (wr.setCell ⟨b, o + j, none⟩ (.int .i64 (k + (j : Int)))) ∧ Tame w (wr.setCell ⟨b, o + j, none⟩ (.int .i64 (k + (j : Int))))) := Lib.hid ⟨HO.out.1.trans (Only.set _ hlo hhi), HO.out.2.trans (Tame.set hx)⟩
        go_wp2
        go_roundw
        case rel => exact ⟨j + 1, by omega, by go_num, by go_num, HO2, HN, HZ2⟩
        case measure => simp [intOf]; omega
      · have hjj : Hid (j = xs.length) := Lib.hid (by omega)
        go_wp2
        go_ret
        refine ⟨ret_int (by rw [hjj.out]), HO.out.1, HO.out.2, Or.inr ⟨b, o, cap, by rw [upFrom_length], hlo, hhi, by rw [upFrom_length]; exact hpos, fun q hq => ?_, fun q hq => HZ.out q (by rw [upFrom_length] at hq; exact hq)⟩⟩
        rw [upFrom_length] at hq
        obtain ⟨x, hx, hx2⟩ := HX.out q hq
        refine ⟨_, hx, ?_⟩
        simp only [IsI, upFrom, List.getElem_map, List.getElem_range]
        rw [hx2 (by have := hjj.out; omega)]

set_option maxHeartbeats 800000 in
theorem held1_any {lo : Nat} (v : Value) (n : Nat) (k : Int) (w : World) (h : L1 lo w v (upFrom k n)) (hm : n ≤ 1048576) (hk0 : 0 ≤ k) (hk1 : k ≤ 4611686018427387904) :
    Calls Tryd.prog 28 #[v, .int .i64 k] w (QW (.int .i64 (k + n)) w) := by
  refine Sl.cases h (fun ad cap hx hv => ?_) (fun b o cap hv _ hpos hc => ?_)
  · have hn : n = 0 := by have := upFrom_length k n; rw [hx] at this; simpa using this.symm
    subst hn hv
    clear hx h
    go_enter Tryd.func28, Tryd.ntmps28
    go_wp2
    refine wp_loop_rounds 1 ?_
    rw [rounds_succ]
    go_wp2
    go_ret
    exact ⟨ret_int (by simp), rfl⟩
  · rw [upFrom_length] at hv hpos
    subst hv
    clear h
    have HC := Lib.hid hc
    clear hc
    go_enter Tryd.func28, Tryd.ntmps28
    go_wp2
    go_loop [1, 5] (fun kk i => ∃ (j : Nat), j ≤ n ∧ i = .int .i64 j ∧ kk = .int .i64 (k + (j : Int))) (fun _ i => n - (intOf i).toNat)
    case atStart => exact ⟨0, Nat.zero_le _, rfl, by simp⟩
    case round =>
      obtain ⟨j, hj, rfl, rfl⟩ := hrel
      by_cases hlt : j < n
      · obtain ⟨u, hu, hr⟩ := HC.out j (by rw [upFrom_length]; exact hlt)
        have hu2 : w.cell? ⟨b, o + j, none⟩ = some (.int .i64 (k + (j : Int))) := by
          rw [hu, hr]
          simp only [upFrom, List.getElem_map, List.getElem_range]
        clear hu hr
        have hq : ((k + (j : Int)) != (k + (j : Int))) = false := by simp
        go_wp2
        go_round
        case rel => exact ⟨j + 1, by omega, by go_num, by go_num⟩
        case measure => simp [intOf]; omega
      · have hjj : Hid (j = n) := Lib.hid (by omega)
        go_wp2
        go_ret
        exact ⟨ret_int (by rw [hjj.out]), rfl⟩

/-- A mark of something deep: a number not less and not much greater; only numbers in the span were written. -/
def MarkD (lo hi : Nat) (k top : Int) (w : World) (e : Ending) (w' : World) : Prop := ∃ r : Int, e = .returned (.int .i64 r) ∧ k ≤ r ∧ r ≤ top ∧ Only lo hi w w' ∧ Tame w w'

set_option maxHeartbeats 800000 in
theorem mark2_any {lo hi : Nat} (v : Value) (xs : List (List Int)) (k : Int) (w : World) (h : T2 lo hi w v xs) (hm : Bd2 1048576 xs) (hk0 : 0 ≤ k) (hk1 : k ≤ 9223367638808264704) :
    Calls Tryd.prog 27 #[v, .int .i64 k] w (MarkD lo hi k (k + 1048576 * (xs.length : Int)) w) := by
  have hml : xs.length ≤ 1048576 := hm.1
  have HM := Lib.hid hm
  have H := Lib.hid h
  clear hm
  refine Sw.cases h (fun ad cap hx hv => ?_) (fun b o cap hv hlo hhi hpos hc hf => ?_)
  · subst hx hv
    clear h
    go_enter Tryd.func27, Tryd.ntmps27
    go_wp2
    refine wp_loop_rounds 1 ?_
    rw [rounds_succ]
    go_wp2
    go_ret
    exact ⟨k, rfl, Int.le_refl _, by simp, Only.refl _ _ _, Tame.refl _⟩
  · subst hv
    clear h
    have HC := Lib.hid hc
    clear hc hf
    go_enter Tryd.func27, Tryd.ntmps27
    go_wp2
    go_loopw [1, 5] (fun kk i wr => ∃ (j : Nat) (r : Int), j ≤ xs.length ∧ i = .int .i64 j ∧ kk = .int .i64 r ∧ k ≤ r ∧ r ≤ k + 1048576 * (j : Int) ∧ Hid (Only lo hi w wr ∧ Tame w wr)) (fun _ i _ => xs.length - (intOf i).toNat)
    case atStart => exact ⟨0, k, Nat.zero_le _, rfl, rfl, Int.le_refl _, by simp, Lib.hid ⟨Only.refl _ _ _, Tame.refl _⟩⟩
    case round =>
      obtain ⟨j, r, hj, rfl, rfl, hr0, hr1, HO⟩ := hrel
      by_cases hlt : j < xs.length
      · obtain ⟨u, hu, hr⟩ := HC.out j hlt
        obtain ⟨a1, c1, hu1⟩ := Sw.shape hr
        rw [hu1] at hu hr
        have hu' := HO.out.2.slices _ _ _ _ _ hu
        have HR := Lib.hid (T1.tame hr HO.out.2)
        have hmx : (xs[j]).length ≤ 1048576 := HM.out.2 _ (List.getElem_mem hlt)
        clear hu hr hu1
        go_wp2_with fail
        refine (mark1_any _ xs[j] r _ HR.out hmx (by omega) (by omega)).mono ?_
        rintro e w2 ⟨rfl, ho, ht, _⟩
        have HO2 := Lib.hid (And.intro (HO.out.1.trans ho) (HO.out.2.trans ht))
        clear ho ht
        go_wp2
        go_roundw
        case rel => exact ⟨j + 1, r + ((xs[j]).length : Int), by omega, by go_num, rfl, by omega, by omega, HO2⟩
        case measure => simp [intOf]; omega
      · have hjj : Hid (j = xs.length) := Lib.hid (by omega)
        go_wp2
        go_ret
        exact ⟨r, rfl, hr0, by have := hjj.out; omega, HO.out.1, HO.out.2⟩

set_option maxHeartbeats 800000 in
theorem mark3_any {lo hi : Nat} (v : Value) (xs : List (List (List Int))) (k : Int) (w : World) (h : T3 lo hi w v xs) (hm : Bd3 1048576 xs) (hk0 : 0 ≤ k) (hk1 : k ≤ 6917529027641081856) :
    Calls Tryd.prog 13 #[v, .int .i64 k] w (MarkD lo hi k (k + 1099511627776 * (xs.length : Int)) w) := by
  have hml : xs.length ≤ 1048576 := hm.1
  have HM := Lib.hid hm
  refine Sw.cases h (fun ad cap hx hv => ?_) (fun b o cap hv hlo hhi hpos hc hf => ?_)
  · subst hx hv
    clear h hm
    go_enter Tryd.func13, Tryd.ntmps13
    go_wp2
    refine wp_loop_rounds 1 ?_
    rw [rounds_succ]
    go_wp2
    go_ret
    exact ⟨k, rfl, Int.le_refl _, by simp, Only.refl _ _ _, Tame.refl _⟩
  · subst hv
    clear h hm
    have HC := Lib.hid hc
    clear hc hf
    go_enter Tryd.func13, Tryd.ntmps13
    go_wp2
    go_loopw [1, 5] (fun kk i wr => ∃ (j : Nat) (r : Int), j ≤ xs.length ∧ i = .int .i64 j ∧ kk = .int .i64 r ∧ k ≤ r ∧ r ≤ k + 1099511627776 * (j : Int) ∧ Hid (Only lo hi w wr ∧ Tame w wr)) (fun _ i _ => xs.length - (intOf i).toNat)
    case atStart => exact ⟨0, k, Nat.zero_le _, rfl, rfl, Int.le_refl _, by simp, Lib.hid ⟨Only.refl _ _ _, Tame.refl _⟩⟩
    case round =>
      obtain ⟨j, r, hj, rfl, rfl, hr0, hr1, HO⟩ := hrel
      by_cases hlt : j < xs.length
      · obtain ⟨u, hu, hr⟩ := HC.out j hlt
        obtain ⟨a1, c1, hu1⟩ := Sw.shape hr
        rw [hu1] at hu hr
        have hu' := HO.out.2.slices _ _ _ _ _ hu
        have HR := Lib.hid (T2.tame hr HO.out.2)
        have hmy : (xs[j]).length ≤ 1048576 := (HM.out.2 _ (List.getElem_mem hlt)).1
        clear hu hr hu1
        go_wp2_with fail
        refine (mark2_any _ xs[j] r _ HR.out (HM.out.2 _ (List.getElem_mem hlt)) (by omega) (by omega)).mono ?_
        rintro e w2 ⟨r2, rfl, hs0, hs1, ho, ht⟩
        have HO2 := Lib.hid (And.intro (HO.out.1.trans ho) (HO.out.2.trans ht))
        clear ho ht
        go_wp2
        go_roundw
        case rel => exact ⟨j + 1, r2, by omega, by go_num, rfl, by omega, by omega, HO2⟩
        case measure => simp [intOf]; omega
      · have hjj : Hid (j = xs.length) := Lib.hid (by omega)
        go_wp2
        go_ret
        exact ⟨r, rfl, hr0, by have := hjj.out; omega, HO.out.1, HO.out.2⟩

structure CxT (lo hi : Nat) (w : World) (dv mv : Value) (ds : List Int) (ms : List (List (List Int))) : Prop where
  dims : T1 lo hi w dv ds
  maps : T3 lo hi w mv ms
theorem CxW.t {lo hi : Nat} {w : World} {dv mv : Value} {ds : List Int} {ms : List (List (List Int))} (h : CxW lo hi w dv mv ds ms) : CxT lo hi w dv mv ds ms := ⟨h.dims.t1, h.maps.t3⟩

/-- What markComplex leaves: new blocks, and numbers written in the span alone. -/
def MarkC (lo hi : Nat) (k : Int) (w : World) (e : Ending) (w' : World) : Prop :=
  ∃ (r : Int) (w1 : World), e = .returned (.int .i64 r) ∧ k ≤ r ∧ r ≤ k + 1152921504607895552 ∧ Below w.heap.size w w1 ∧ Only lo hi w1 w' ∧ Tame w1 w'

set_option maxHeartbeats 800000 in
theorem markComplexK_any {lo hi : Nat} (k p : Int) (dv mv : Value) (ds : List Int) (ms : List (List (List Int))) (w : World) (h : CxW lo hi w dv mv ds ms) (hh : hi ≤ w.heap.size) (hd : ds.length ≤ 1048576) (hm : Bd3 1048576 ms) (hk0 : 0 ≤ k) (hk1 : k ≤ 6917529027638984704) :
    Calls Tryd.prog 12 #[.agg #[.int .i64 p, dv, mv], .int .i64 k] w (MarkC lo hi k w) := by
  have HM := Lib.hid hm
  have hml : ms.length ≤ 1048576 := hm.1
  have hb0 : Below w.heap.size w (w.alloc (.cells #[.int .i64 p, dv, mv] 28)) := (Below.refl _ _).alloc (Nat.le_refl _) _
  have HC := Lib.hid (h.same (Same.of_below hb0 hh)).t
  have HB0 := Lib.hid hb0
  clear h hm hb0
  go_enter Tryd.func12, Tryd.ntmps12
  go_wp2_with fail
  refine (mark1_any dv ds k _ HC.out.dims hd (by omega) (by omega)).mono ?_
  rintro e w1 ⟨rfl, ho, ht, _⟩
  have c2 : w1.cell? ⟨w.heap.size, 2, none⟩ = some mv := (ho.cell (Or.inr hh)).trans (by simp)
  have HO := Lib.hid (And.intro ho ht)
  clear ho ht
  go_wp2_with fail
  refine (mark3_any mv ms _ _ (HC.out.maps.tame HO.out.2) HM.out (by omega) (by omega)).mono ?_
  rintro e w2 ⟨r2, rfl, hs0, hs1, ho, ht⟩
  have HO2 := Lib.hid (And.intro (HO.out.1.trans ho) (HO.out.2.trans ht))
  clear ho ht
  go_wp2
  go_ret
  exact ⟨r2, _, rfl, by omega, by omega, HB0.out, HO2.out.1, HO2.out.2⟩
end Go.Proofs.YtpdkfidmmjlmnabDoor

namespace Go.Proofs.YtpdkfidmmjlmnabDoor
open Go.RowKit

/-- A table that a call has made: its own row of rows at block g, row j at block g + 1 + j, number i of it Z j i. -/
structure Mat (w w' : World) (r c : Nat) (Z : Nat → Nat → Int) : Prop where
  below : Below w.heap.size w w'
  size : w'.heap.size = w.heap.size + 1 + r
  top : w'.rowIs w.heap.size 22 r (fun j => .slice (some ⟨w.heap.size + 1 + j, 0, none⟩) c c)
  rows : ∀ j, j < r → w'.rowIs (w.heap.size + 1 + j) 2 c (fun i => .int .i64 (Z j i))
def tableOf (r c : Nat) (Z : Nat → Nat → Int) : List (List Int) := (List.range r).map fun j => (List.range c).map fun i => Z j i
theorem Mat.w2 {w w' : World} {r c : Nat} {Z : Nat → Nat → Int} (h : Mat w w' r c Z) : W2 w.heap.size w'.heap.size w' (.slice (some ⟨w.heap.size, 0, none⟩) r r) (tableOf r c Z) := by
  by_cases h0 : r = 0
  · subst h0
    exact Or.inl ⟨rfl, _, _, rfl⟩
  · refine Or.inr ⟨w.heap.size, 0, r, by simp [tableOf], Nat.le_refl _, h.top.lt, by simp [tableOf]; omega, fun k hk => ?_, fun k _ => h.top.frozen _⟩
    have hk' : k < r := by simpa [tableOf] using hk
    refine ⟨_, by rw [Nat.zero_add]; exact h.top.cell hk', ?_⟩
    simp only [tableOf, List.getElem_map, List.getElem_range]
    by_cases hc : c = 0
    · subst hc
      exact Or.inl ⟨rfl, _, _, rfl⟩
    · refine Or.inr ⟨w.heap.size + 1 + k, 0, c, by simp, by omega, (h.rows k hk').lt, by simp; omega, fun i hi => ?_, fun i _ => (h.rows k hk').frozen _⟩
      have hi' : i < c := by simpa using hi
      refine ⟨_, by rw [Nat.zero_add]; exact (h.rows k hk').cell hi', ?_⟩
      simp only [IsI, List.getElem_map, List.getElem_range]
theorem Mat.set {w w' : World} {r c : Nat} {Z : Nat → Nat → Int} (h : Mat w w' r c Z) {j i : Nat} (hj : j < r) (x : Int) :
    Mat w (w'.setCell ⟨w.heap.size + 1 + j, i, none⟩ (.int .i64 x)) r c (fun j2 i2 => if j2 = j ∧ i2 = i then x else Z j2 i2) := by
  refine ⟨h.below.setCell (by show w.heap.size ≤ w.heap.size + 1 + j; omega) _, by simp [h.size], h.top.setOther (by show w.heap.size ≠ w.heap.size + 1 + j; omega) _, fun j2 hj2 => ?_⟩
  by_cases e : j2 = j
  · subst e
    exact ((h.rows j2 hj2).set i _).congr (fun i2 _ => by by_cases e2 : i2 = i <;> simp [e2])
  · exact ((h.rows j2 hj2).setOther (by show w.heap.size + 1 + j2 ≠ w.heap.size + 1 + j; omega) _).congr (fun i2 _ => by simp [e])
theorem Mat.congr {w w' : World} {r c : Nat} {Z Z' : Nat → Nat → Int} (h : Mat w w' r c Z) (e : ∀ j, j < r → ∀ i, i < c → Z j i = Z' j i) : Mat w w' r c Z' :=
  ⟨h.below, h.size, h.top, fun j hj => (h.rows j hj).congr (fun i hi => by rw [e j hj i hi])⟩

/-- While the rows are being made: k of them are there. -/
structure MatTo (w w' : World) (r c k : Nat) : Prop where
  below : Below w.heap.size w w'
  size : w'.heap.size = w.heap.size + 1 + k
  top : w'.rowIs w.heap.size 22 r (fun j => if j < k then .slice (some ⟨w.heap.size + 1 + j, 0, none⟩) c c else .slice none 0 0)
  rows : ∀ j, j < k → w'.rowIs (w.heap.size + 1 + j) 2 c (fun _ => .int .i64 0)
theorem MatTo.start (w : World) (r c : Nat) : MatTo w (w.alloc (.cells (madeCells #[.slice none 0 0] r) 22)) r c 0 :=
  ⟨(Below.refl _ _).alloc (Nat.le_refl _) _, by simp, (World.rowIs_made w _ r _).congr (fun j _ => by simp), fun j hj => absurd hj (Nat.not_lt_zero _)⟩
theorem MatTo.step {w w' : World} {r c k : Nat} (h : MatTo w w' r c k) : MatTo w ((w'.alloc (.cells (madeCells #[.int .i64 0] c) 2)).setCell ⟨w.heap.size, k, none⟩ (.slice (some ⟨w'.heap.size, 0, none⟩) c c)) r c (k + 1) := by
  have hnew := World.rowIs_made w' (.int .i64 0) c 2
  have hs := h.size
  refine ⟨(h.below.alloc (by omega) _).setCell (Nat.le_refl _) _, by simp [h.size]; omega, ((h.top.alloc _).set k _).congr (fun j _ => ?_), fun j hj => ?_⟩
  · by_cases e : j = k
    · subst e
      rw [if_pos rfl, if_pos (Nat.lt_succ_self _), hs]
    · rw [if_neg e]
      by_cases h2 : j < k
      · rw [if_pos h2, if_pos (by omega)]
      · rw [if_neg h2, if_neg (by omega)]
  · by_cases e : j = k
    · subst e
      rw [← hs]
      exact hnew.setOther (by show w'.heap.size ≠ w.heap.size; omega) _
    · exact ((h.rows j (by omega)).alloc _).setOther (by show w.heap.size + 1 + j ≠ w.heap.size; omega) _
theorem MatTo.done {w w' : World} {r c : Nat} (h : MatTo w w' r c r) : Mat w w' r c (fun _ _ => 0) :=
  ⟨h.below, h.size, h.top.congr (fun j hj => by rw [if_pos hj]), h.rows⟩

def MatR (r c : Nat) (Z : Nat → Nat → Int) (w : World) (e : Ending) (w' : World) : Prop := e = .returned (.slice (some ⟨w.heap.size, 0, none⟩) r r) ∧ Mat w w' r c Z

set_option maxHeartbeats 800000 in
theorem zeroTable_any (r c : Nat) (w : World) (hr : r ≤ 1048576) (hc : c ≤ 1048576) : Calls Tryd.prog 68 #[.int .i64 r, .int .i64 c] w (MatR r c (fun _ _ => 0) w) := by
  have hmk := run_make_row' (P := Tryd.prog) 39 22 (.slice none 0 0) 24 Tryd.underlying39 Tryd.infoS rfl .i64 .i64 r (by omega) (by omega)
  have hmk2 := run_make_row' (P := Tryd.prog) 22 2 (.int .i64 0) 8 Tryd.underlying22 Tryd.infoI rfl .i64 .i64 c (by omega) (by omega)
  go_enter Tryd.func68, Tryd.ntmps68
  go_wp2
  clear hmk
  go_loopw [6, 11] (fun _ i wr => ∃ (k : Nat), k ≤ r ∧ i = .int .i64 k ∧ MatTo w wr r c k) (fun _ i _ => r - (intOf i).toNat)
  case atStart => exact ⟨0, Nat.zero_le _, rfl, MatTo.start _ _ _⟩
  case round =>
    obtain ⟨k, hk, rfl, HM⟩ := hrel
    by_cases hlt : k < r
    · have hc1 : ∀ o, (wr.alloc o).cell? ⟨w.heap.size, k, none⟩ = some (if k < k then .slice (some ⟨w.heap.size + 1 + k, 0, none⟩) c c else .slice none 0 0) := fun o => (HM.top.alloc o).cell hlt
      have hc2 : ∀ o, (wr.alloc o).cell? ⟨w.heap.size, k, none⟩ = some (.slice none 0 0) := fun o => by rw [hc1 o, if_neg (Nat.lt_irrefl _)]
      have hf : ∀ o, (wr.alloc o).frozen? ⟨w.heap.size, k, none⟩ = false := fun o => (HM.top.alloc o).frozen k
      have HS := Lib.hid HM.step
      clear hc1 HM
      go_wp2
      go_roundw
      case rel => exact ⟨k + 1, by omega, by go_num, HS.out⟩
      case measure => simp [intOf]; omega
    · have hkk : k = r := by omega
      subst hkk
      have HM' := Lib.hid HM
      clear HM
      go_wp2
      go_ret
      exact ⟨rfl, HM'.out.done⟩
end Go.Proofs.YtpdkfidmmjlmnabDoor

namespace Go.Proofs.YtpdkfidmmjlmnabDoor
open Go.RowKit

end Go.Proofs.YtpdkfidmmjlmnabDoor

namespace Go.Proofs.YtpdkfidmmjlmnabDoor
open Go.RowKit

/-- A row of numbers, gathered: its cells lie in a block of numbers. -/
def G1 (w : World) (u : Value) (xs : List Int) : Prop := w.ownsRow 0 2 1 u xs.length (xs.map (Value.int .i64))
theorem G1.below {w w' : World} {u : Value} {xs : List Int} (h : G1 w u xs) (hb : Below w.heap.size w w') : G1 w' u xs := owns_below h hb
theorem G1.l1 {w : World} {u : Value} {xs : List Int} (h : G1 w u xs) : L1 0 w u xs := sl_of_owns h (Nat.le_refl _) rfl (fun k h1 h2 => by simp [IsI])
theorem owns_mono {w : World} {base base' : Nat} {e : TypeId} {size n : Nat} {v : Value} {xs : List Value} (h : w.ownsRow base e size v n xs) (hb : base' ≤ base) : w.ownsRow base' e size v n xs := by
  refine ⟨h.1, ?_⟩
  rcases h.2 with h2 | ⟨g, cap, cur, hu, hg, r⟩
  · exact Or.inl h2
  · exact Or.inr ⟨g, cap, cur, hu, Nat.le_trans hb hg, r⟩
/-- A row of another kind may grow beside it. -/
theorem owns_grown {w w' : World} {base base' : Nat} {e e' : TypeId} {size size' n n' : Nat} {u v : Value} {xs vs : List Value} (h : w.ownsRow base e size u n xs) (hv : w.ownsRow base' e' size' v n' vs) (he : e ≠ e') (hg : w.grownBy w' v.ownBlock) : w'.ownsRow base e size u n xs := by
  refine ⟨h.1, ?_⟩
  rcases h.2 with h2 | ⟨g, cap, cur, hu, hb, hh, r⟩
  · exact Or.inl h2
  · refine Or.inr ⟨g, cap, cur, hu, hb, ?_, r⟩
    rw [hg.block g (Array.getElem?_eq_some_iff.1 hh).1]
    · exact hh
    · intro e2
      rcases hv.2 with ⟨rfl, _⟩ | ⟨g2, cap2, cur2, rfl, _, hh2, _⟩
      · simp [Value.ownBlock] at e2
      · simp [Value.ownBlock] at e2
        subst e2
        rw [hh] at hh2
        simp at hh2
        exact he hh2.2
/-- A table gathered row by row. -/
def G2 (w : World) (u : Value) (t : List (List Int)) : Prop := ∃ vs, w.ownsRow 0 22 1 u t.length vs ∧ ∀ k (h1 : k < vs.length) (h2 : k < t.length), G1 w vs[k] t[k]
theorem G2.below {w w' : World} {u : Value} {t : List (List Int)} (h : G2 w u t) (hb : Below w.heap.size w w') : G2 w' u t := by
  obtain ⟨vs, ho, hr⟩ := h
  exact ⟨vs, owns_below ho hb, fun k h1 h2 => (hr k h1 h2).below hb⟩
theorem G2.l2 {w : World} {u : Value} {t : List (List Int)} (h : G2 w u t) : L2 0 w u t := by
  obtain ⟨vs, ho, hr⟩ := h
  exact sl_of_owns ho (Nat.le_refl _) rfl (fun k h1 h2 => (hr k h2 h1).l1)

end Go.Proofs.YtpdkfidmmjlmnabDoor


namespace Go.Proofs.YtpdkfidmmjlmnabDoor
open Go.RowKit

/-- A row as a vector. -/
def ofL (xs : List Int) : Lin.V := fun i => xs.getD i 0
theorem ofL_at {xs : List Int} {i : Nat} (h : i < xs.length) : ofL xs i = xs[i] := getD_of_lt _ h
theorem ofL_wd {xs : List Int} {n : Nat} (h : xs.length ≤ n) : Lin.Wd n (ofL xs) := fun i hi => by simp [ofL, List.getD, show xs.length ≤ i by omega]
theorem ofL_md {p n : Int} {xs : List Int} (hp : 0 < p) (h : RowOk p n xs) : Lin.Md p (ofL xs) := fun i => by
  by_cases hi : i < xs.length
  · rw [ofL_at hi]
    have := h.2 _ (List.getElem_mem hi)
    omega
  · have : ofL xs i = 0 := by simp [ofL, List.getD, show xs.length ≤ i by omega]
    omega
/-- The vectors, the first k of them filled. -/
def filled (L : List Lin.V) (k : Nat) : List Lin.V := L.take k ++ List.replicate (L.length - k) Lin.zv
end Go.Proofs.YtpdkfidmmjlmnabDoor

namespace Go.Proofs.YtpdkfidmmjlmnabDoor
open Go.RowKit

def rowZ (c : Nat) (Z : Nat → Nat → Int) (j : Nat) : List Int := (List.range c).map fun i => Z j i
theorem rowZ_length (c : Nat) (Z : Nat → Nat → Int) (j : Nat) : (rowZ c Z j).length = c := by simp [rowZ]
/-- A table at block g, its rows behind it, each in a block of its own. -/
structure TabW (W : World) (g r c : Nat) (Z : Nat → Nat → Int) : Prop where
  top : ∀ j, j < r → W.cell? ⟨g, j, none⟩ = some (.slice (some ⟨g + 1 + j, 0, none⟩) c c)
  rows : ∀ j, j < r → W1 (g + 1 + j) (g + 1 + j + 1) W (.slice (some ⟨g + 1 + j, 0, none⟩) c c) (rowZ c Z j)
theorem Mat.tab {w w' : World} {r c : Nat} {Z : Nat → Nat → Int} (h : Mat w w' r c Z) : TabW w' w.heap.size r c Z := by
  refine ⟨fun j hj => h.top.cell hj, fun j hj => ?_⟩
  by_cases hc : c = 0
  · subst hc
    exact Or.inl ⟨rfl, _, _, rfl⟩
  · refine Or.inr ⟨w.heap.size + 1 + j, 0, c, by rw [rowZ_length], Nat.le_refl _, by omega, by rw [rowZ_length]; omega, fun i hi => ?_, fun i _ => (h.rows j hj).frozen _⟩
    have hi' : i < c := by rwa [rowZ_length] at hi
    refine ⟨_, by rw [Nat.zero_add]; exact (h.rows j hj).cell hi', ?_⟩
    simp only [IsI, rowZ, List.getElem_map, List.getElem_range]
theorem TabW.same {W W' : World} {g r c : Nat} {Z : Nat → Nat → Int} (h : TabW W g r c Z) (hs : Same g (g + 1 + r) W W') : TabW W' g r c Z :=
  ⟨fun j hj => (World.cell?_of_block (w := W) (w' := W') (a := ⟨g, j, none⟩) (hs g (Nat.le_refl _) (by omega))).trans (h.top j hj), fun j hj => (h.rows j hj).same (hs.narrow (by omega) (by omega))⟩
theorem TabW.congr {W : World} {g r c : Nat} {Z Z' : Nat → Nat → Int} (h : TabW W g r c Z) (e : ∀ j, j < r → rowZ c Z j = rowZ c Z' j) : TabW W g r c Z' :=
  ⟨h.top, fun j hj => by rw [← e j hj]; exact h.rows j hj⟩
theorem TabW.l2 {W : World} {g r c : Nat} {Z : Nat → Nat → Int} (h : TabW W g r c Z) : L2 g W (.slice (some ⟨g, 0, none⟩) r r) (tableOf r c Z) := by
  by_cases h0 : r = 0
  · subst h0
    exact Or.inl ⟨rfl, _, _, rfl⟩
  · refine Or.inr ⟨g, 0, r, by simp [tableOf], Nat.le_refl _, by simp [tableOf]; omega, fun k hk => ?_⟩
    have hk' : k < r := by simpa [tableOf] using hk
    refine ⟨_, by rw [Nat.zero_add]; exact h.top k hk', ?_⟩
    have := (h.rows k hk').l1.lower (lo' := g) (by omega)
    simpa [tableOf, rowZ] using this

/-- A table of a result: none, or one in blocks of its own. -/
def TW (lo hi : Nat) (W : World) (u : Value) (R : List (List Int)) : Prop :=
  (u = .slice none 0 0 ∧ R = []) ∨ ∃ (g r c : Nat) (Z : Nat → Nat → Int), lo ≤ g ∧ g + 1 + r ≤ hi ∧ r ≤ 1048576 ∧ c ≤ 1048576 ∧ u = .slice (some ⟨g, 0, none⟩) r r ∧ R = tableOf r c Z ∧ TabW W g r c Z
/-- The same with the marks from k to m in it. -/
def HW (lo hi : Nat) (W : World) (u : Value) (k m : Int) : Prop :=
  (u = .slice none 0 0 ∧ m = k) ∨ ∃ (g r c : Nat), lo ≤ g ∧ g + 1 + r ≤ hi ∧ r ≤ 1048576 ∧ c ≤ 1048576 ∧ u = .slice (some ⟨g, 0, none⟩) r r ∧ m = k + ((r * c : Nat) : Int) ∧ TabW W g r c (fun j i => k + ((j * c : Nat) : Int) + (i : Int))
theorem TW.nil (lo hi : Nat) (W : World) : TW lo hi W (.slice none 0 0) [] := Or.inl ⟨rfl, rfl⟩
theorem TW.same {lo hi : Nat} {W W' : World} {u : Value} {R : List (List Int)} (h : TW lo hi W u R) (hs : Same lo hi W W') : TW lo hi W' u R := by
  rcases h with h | ⟨g, r, c, Z, h1, h2, h3, h4, h5, h6, h7⟩
  · exact Or.inl h
  · exact Or.inr ⟨g, r, c, Z, h1, h2, h3, h4, h5, h6, h7.same (hs.narrow h1 h2)⟩
theorem TW.l2 {lo hi : Nat} {W : World} {u : Value} {R : List (List Int)} (h : TW lo hi W u R) : L2 0 W u R := by
  rcases h with ⟨rfl, rfl⟩ | ⟨g, r, c, Z, h1, h2, h3, h4, rfl, rfl, h7⟩
  · exact Or.inl ⟨rfl, _, _, rfl⟩
  · exact h7.l2.lower (Nat.zero_le _)
theorem HW.same {lo hi : Nat} {W W' : World} {u : Value} {k m : Int} (h : HW lo hi W u k m) (hs : Same lo hi W W') : HW lo hi W' u k m := by
  rcases h with h | ⟨g, r, c, h1, h2, h3, h4, h5, h6, h7⟩
  · exact Or.inl h
  · exact Or.inr ⟨g, r, c, h1, h2, h3, h4, h5, h6, h7.same (hs.narrow h1 h2)⟩

end Go.Proofs.YtpdkfidmmjlmnabDoor

namespace Go.Proofs.YtpdkfidmmjlmnabDoor
open Go.RowKit

/-- A table in blocks of its own, block for block. -/
structure TabI (W : World) (g r c : Nat) (Z : Nat → Nat → Int) : Prop where
  top : W.rowIs g 22 r (fun j => .slice (some ⟨g + 1 + j, 0, none⟩) c c)
  rows : ∀ j, j < r → W.rowIs (g + 1 + j) 2 c (fun i => .int .i64 (Z j i))
theorem rowIs_below {W W' : World} {b : Nat} {t : TypeId} {n : Nat} {f : Nat → Value} (h : W.rowIs b t n f) (hb : Below W.heap.size W W') : W'.rowIs b t n f := h.of_block (hb.block b h.lt)
theorem TabI.below {W W' : World} {g r c : Nat} {Z : Nat → Nat → Int} (h : TabI W g r c Z) (hb : Below W.heap.size W W') : TabI W' g r c Z :=
  ⟨rowIs_below h.top hb, fun j hj => rowIs_below (h.rows j hj) hb⟩
theorem TabI.tab {W : World} {g r c : Nat} {Z : Nat → Nat → Int} (h : TabI W g r c Z) : TabW W g r c Z := by
  refine ⟨fun j hj => h.top.cell hj, fun j hj => ?_⟩
  by_cases hc : c = 0
  · subst hc
    exact Or.inl ⟨rfl, _, _, rfl⟩
  · refine Or.inr ⟨g + 1 + j, 0, c, by rw [rowZ_length], Nat.le_refl _, by omega, by rw [rowZ_length]; omega, fun i hi => ?_, fun i _ => (h.rows j hj).frozen _⟩
    have hi' : i < c := by rwa [rowZ_length] at hi
    refine ⟨_, by rw [Nat.zero_add]; exact (h.rows j hj).cell hi', ?_⟩
    simp only [IsI, rowZ, List.getElem_map, List.getElem_range]
end Go.Proofs.YtpdkfidmmjlmnabDoor


namespace Go.Proofs.YtpdkfidmmjlmnabDoor
open Go.RowKit

/-- An interval of cells: block, offset, length. -/
abbrev Iv := Nat × Nat × Nat
def ivSize (I : List Iv) : Nat := (I.map (·.2.2)).sum
theorem ivSize_append (A B : List Iv) : ivSize (A ++ B) = ivSize A + ivSize B := by simp [ivSize]
def Apart (x y : Iv) : Prop := x.1 ≠ y.1 ∨ x.2.1 + x.2.2 ≤ y.2.1 ∨ y.2.1 + y.2.2 ≤ x.2.1
def Disj (I : List Iv) : Prop := I.Pairwise Apart
def InIv (I : List Iv) (b o : Nat) : Prop := ∃ x ∈ I, x.1 = b ∧ x.2.1 ≤ o ∧ o < x.2.1 + x.2.2
/-- Numbers stand there that may be written. -/
def Nums (lo hi : Nat) (w : World) (I : List Iv) : Prop := ∀ x ∈ I, lo ≤ x.1 ∧ x.1 < hi ∧ ∀ i, i < x.2.2 → (∃ z : Int, w.cell? ⟨x.1, x.2.1 + i, none⟩ = some (.int .i64 z)) ∧ w.frozen? ⟨x.1, x.2.1 + i, none⟩ = false
/-- Outside of the intervals all cells are as they were. -/
def OutC (I : List Iv) (w w' : World) : Prop := ∀ b o, ¬ InIv I b o → w'.cell? ⟨b, o, none⟩ = w.cell? ⟨b, o, none⟩
/-- The numbers from k on stand there. -/
def Marked (w : World) : List Iv → Int → Prop
  | [], _ => True
  | x :: I, k => (∀ i, i < x.2.2 → w.cell? ⟨x.1, x.2.1 + i, none⟩ = some (.int .i64 (k + (i : Int)))) ∧ Marked w I (k + (x.2.2 : Int))
theorem Nums.tame {lo hi : Nat} {w w' : World} {I : List Iv} (h : Nums lo hi w I) (t : Tame w w') : Nums lo hi w' I := fun x hx => ⟨(h x hx).1, (h x hx).2.1, fun i hi => by
  obtain ⟨⟨z, hz⟩, hf⟩ := (h x hx).2.2 i hi
  exact ⟨t.nums _ _ _ hz, (t.frozen _ _).trans hf⟩⟩
theorem Nums.same {lo hi : Nat} {w w' : World} {I : List Iv} (h : Nums lo hi w I) (s : Same lo hi w w') : Nums lo hi w' I := fun x hx => ⟨(h x hx).1, (h x hx).2.1, fun i hi => by
  obtain ⟨⟨z, hz⟩, hf⟩ := (h x hx).2.2 i hi
  have hb := s x.1 (h x hx).1 (h x hx).2.1
  exact ⟨⟨z, (World.cell?_of_block (w := w) (a := ⟨x.1, x.2.1 + i, none⟩) hb).trans hz⟩, (World.frozen?_of_block (w := w) (a := ⟨x.1, x.2.1 + i, none⟩) hb).trans hf⟩⟩
theorem Nums.sub {lo hi : Nat} {w : World} {I J : List Iv} (h : Nums lo hi w I) (s : ∀ x ∈ J, x ∈ I) : Nums lo hi w J := fun x hx => h x (s x hx)
theorem Nums.append {lo hi : Nat} {w : World} {I J : List Iv} (h : Nums lo hi w I) (k : Nums lo hi w J) : Nums lo hi w (I ++ J) := fun x hx => (List.mem_append.1 hx).elim (h x) (k x)
theorem Nums.wider {lo hi lo' hi' : Nat} {w : World} {I : List Iv} (h : Nums lo hi w I) (h1 : lo' ≤ lo) (h2 : hi ≤ hi') : Nums lo' hi' w I := fun x hx => ⟨by have := (h x hx).1; omega, by have := (h x hx).2.1; omega, (h x hx).2.2⟩
theorem OutC.refl (I : List Iv) (w : World) : OutC I w w := fun _ _ _ => rfl
theorem OutC.trans {A B : List Iv} {a b c : World} (h : OutC A a b) (k : OutC B b c) : OutC (A ++ B) a c := fun x o hn => by
  rw [k x o (fun ⟨y, hy, e⟩ => hn ⟨y, List.mem_append_right _ hy, e⟩), h x o (fun ⟨y, hy, e⟩ => hn ⟨y, List.mem_append_left _ hy, e⟩)]
theorem Marked.append {w : World} {A B : List Iv} {k : Int} (h : Marked w A k) (h2 : Marked w B (k + (ivSize A : Int))) : Marked w (A ++ B) k := by
  induction A generalizing k with
  | nil => simpa [ivSize] using h2
  | cons x A ih =>
    refine ⟨h.1, ih h.2 ?_⟩
    have : k + (x.2.2 : Int) + (ivSize A : Int) = k + (ivSize (x :: A) : Int) := by simp [ivSize]; omega
    rw [this]
    exact h2
theorem Marked.parts {w : World} {A B : List Iv} {k : Int} (h : Marked w (A ++ B) k) : Marked w A k ∧ Marked w B (k + (ivSize A : Int)) := by
  induction A generalizing k with
  | nil => exact ⟨trivial, by simpa [ivSize] using h⟩
  | cons x A ih =>
    obtain ⟨h1, h2⟩ := ih h.2
    refine ⟨⟨h.1, h1⟩, ?_⟩
    have : k + (x.2.2 : Int) + (ivSize A : Int) = k + (ivSize (x :: A) : Int) := by simp [ivSize]; omega
    rw [← this]
    exact h2
theorem Marked.keep {w w' : World} {A B : List Iv} {k : Int} (h : Marked w A k) (o : OutC B w w') (d : ∀ x ∈ A, ∀ y ∈ B, Apart x y) : Marked w' A k := by
  induction A generalizing k with
  | nil => trivial
  | cons x A ih =>
    refine ⟨fun i hi => ?_, ih h.2 (fun y hy => d y (List.mem_cons_of_mem _ hy))⟩
    rw [o x.1 (x.2.1 + i) (fun ⟨y, hy, e1, e2, e3⟩ => by have := d x List.mem_cons_self y hy; unfold Apart at this; omega)]
    exact h.1 i hi
theorem Marked.same {lo hi : Nat} {w w' : World} {I : List Iv} {k : Int} (h : Marked w I k) (hI : ∀ x ∈ I, lo ≤ x.1 ∧ x.1 < hi) (s : Same lo hi w w') : Marked w' I k := by
  induction I generalizing k with
  | nil => trivial
  | cons x A ih =>
    refine ⟨fun i hi => ?_, ih h.2 (fun y hy => hI y (List.mem_cons_of_mem _ hy))⟩
    have hb := s x.1 (hI x List.mem_cons_self).1 (hI x List.mem_cons_self).2
    exact (World.cell?_of_block (w := w) (a := ⟨x.1, x.2.1 + i, none⟩) hb).trans (h.1 i hi)

/-- The slice v is an interval, or empty. -/
def S1 (lo hi : Nat) (_ : World) (v : Value) (I : List Iv) : Prop :=
  (I = [] ∧ ∃ ad cap, v = .slice ad 0 cap) ∨ ∃ b o n cap, I = [(b, o, n)] ∧ 0 < n ∧ n ≤ 1048576 ∧ lo ≤ b ∧ b < hi ∧ v = .slice (some ⟨b, o, none⟩) n cap
def flat (J : Nat → List Iv) (m : Nat) : List Iv := (List.range m).flatMap J
theorem flat_succ (J : Nat → List Iv) (m : Nat) : flat J (m + 1) = flat J m ++ J m := by simp [flat, List.range_succ]
theorem flat_part (J : Nat → List Iv) {j m : Nat} (h : j ≤ m) : ∃ r, flat J m = flat J j ++ r := by
  induction m with
  | zero => exact ⟨[], by rw [show j = 0 by omega]; simp⟩
  | succ m ih =>
    by_cases e : j = m + 1
    · exact ⟨[], by rw [e]; simp⟩
    · obtain ⟨r, hr⟩ := ih (by omega)
      exact ⟨r ++ J m, by rw [flat_succ, hr, List.append_assoc]⟩
theorem flat_mem {J : Nat → List Iv} {j m : Nat} (h : j < m) : ∀ x ∈ J j, x ∈ flat J m := fun _ hx => List.mem_flatMap.2 ⟨j, List.mem_range.2 h, hx⟩
theorem flat_apart {J : Nat → List Iv} {j m : Nat} (h : j < m) (d : Disj (flat J m)) : ∀ x ∈ flat J j, ∀ y ∈ J j, Apart x y := by
  obtain ⟨r, hr⟩ := flat_part J (show j + 1 ≤ m by omega)
  have d2 : (flat J j ++ J j).Pairwise Apart := by
    have : Disj ((flat J j ++ J j) ++ r) := by rw [← flat_succ, ← hr]; exact d
    exact (List.pairwise_append.1 this).1
  exact (List.pairwise_append.1 d2).2.2
theorem flat_disj {J : Nat → List Iv} {j m : Nat} (h : j < m) (d : Disj (flat J m)) : Disj (J j) := by
  obtain ⟨r, hr⟩ := flat_part J (show j + 1 ≤ m by omega)
  have d2 : (flat J j ++ J j).Pairwise Apart := by
    have : Disj ((flat J j ++ J j) ++ r) := by rw [← flat_succ, ← hr]; exact d
    exact (List.pairwise_append.1 this).1
  exact (List.pairwise_append.1 d2).2.1
theorem flat_size {J : Nat → List Iv} {j m : Nat} (h : j < m) : ivSize (flat J j) + ivSize (J j) ≤ ivSize (flat J m) := by
  obtain ⟨r, hr⟩ := flat_part J (show j + 1 ≤ m by omega)
  rw [hr, flat_succ, ivSize_append, ivSize_append]
  omega
/-- A slice of such slices. -/
def SS (S : World → Value → List Iv → Prop) (lo hi : Nat) (w : World) (v : Value) (I : List Iv) : Prop :=
  ∃ (ad : Option Addr) (m cap : Nat) (f : Nat → Value) (J : Nat → List Iv), v = .slice ad m cap ∧ m ≤ 1048576 ∧ I = flat J m ∧ (∀ j, j < m → S w (f j) (J j)) ∧ (0 < m → ∃ b o, ad = some ⟨b, o, none⟩ ∧ lo ≤ b ∧ b < hi ∧ ∀ j, j < m → w.cell? ⟨b, o + j, none⟩ = some (f j))
def S2 (lo hi : Nat) := SS (S1 lo hi) lo hi
def S3 (lo hi : Nat) := SS (S2 lo hi) lo hi
theorem S1.shape {lo hi : Nat} {w : World} {v : Value} {I : List Iv} (h : S1 lo hi w v I) : ∃ a n c, v = .slice a n c := by
  rcases h with ⟨_, ad, cap, h⟩ | ⟨b, o, n, cap, _, _, _, _, _, h⟩
  · exact ⟨ad, 0, cap, h⟩
  · exact ⟨_, n, cap, h⟩
theorem SS.shape {S : World → Value → List Iv → Prop} {lo hi : Nat} {w : World} {v : Value} {I : List Iv} (h : SS S lo hi w v I) : ∃ a n c, v = .slice a n c := by
  obtain ⟨ad, m, cap, _, _, h, _⟩ := h
  exact ⟨ad, m, cap, h⟩
theorem SS.keep {S : World → Value → List Iv → Prop} {lo hi : Nat} {w w' : World} {v : Value} {I : List Iv} (h : SS S lo hi w v I) (hS : ∀ v I, S w v I → S w' v I) (hc : ∀ b o v, lo ≤ b → b < hi → (∃ a n c, v = .slice a n c) → w.cell? ⟨b, o, none⟩ = some v → w'.cell? ⟨b, o, none⟩ = some v)
    (hs : ∀ v I, S w v I → ∃ a n c, v = .slice a n c) : SS S lo hi w' v I := by
  obtain ⟨ad, m, cap, f, J, h1, h2, h3, h4, h5⟩ := h
  refine ⟨ad, m, cap, f, J, h1, h2, h3, fun j hj => hS _ _ (h4 j hj), fun hm => ?_⟩
  obtain ⟨b, o, e, hb, hb2, hcl⟩ := h5 hm
  exact ⟨b, o, e, hb, hb2, fun j hj => hc _ _ _ hb hb2 (hs _ _ (h4 j hj)) (hcl j hj)⟩
theorem S1.keep {lo hi : Nat} {w w' : World} {v : Value} {I : List Iv} (h : S1 lo hi w v I) : S1 lo hi w' v I := h
theorem S2.tame {lo hi : Nat} {w w' : World} {v : Value} {I : List Iv} (h : S2 lo hi w v I) (t : Tame w w') : S2 lo hi w' v I :=
  SS.keep h (fun _ _ h => h) (fun b o v _ _ ⟨a, n, c, e⟩ hc => by subst e; exact t.slices _ _ _ _ _ hc) (fun _ _ h => S1.shape h)
theorem S3.tame {lo hi : Nat} {w w' : World} {v : Value} {I : List Iv} (h : S3 lo hi w v I) (t : Tame w w') : S3 lo hi w' v I :=
  SS.keep h (fun _ _ h => S2.tame h t) (fun b o v _ _ ⟨a, n, c, e⟩ hc => by subst e; exact t.slices _ _ _ _ _ hc) (fun _ _ h => SS.shape h)
theorem S2.same {lo hi : Nat} {w w' : World} {v : Value} {I : List Iv} (h : S2 lo hi w v I) (s : Same lo hi w w') : S2 lo hi w' v I :=
  SS.keep h (fun _ _ h => h) (fun b o _ hb hb2 _ hc => (World.cell?_of_block (w := w) (a := ⟨b, o, none⟩) (s b hb hb2)).trans hc) (fun _ _ h => S1.shape h)
theorem S3.same {lo hi : Nat} {w w' : World} {v : Value} {I : List Iv} (h : S3 lo hi w v I) (s : Same lo hi w w') : S3 lo hi w' v I :=
  SS.keep h (fun _ _ h => S2.same h s) (fun b o _ hb hb2 _ hc => (World.cell?_of_block (w := w) (a := ⟨b, o, none⟩) (s b hb hb2)).trans hc) (fun _ _ h => SS.shape h)

def MarkS (lo hi : Nat) (I : List Iv) (k : Int) (w : World) (e : Ending) (w' : World) : Prop := e = .returned (.int .i64 (k + (ivSize I : Int))) ∧ Only lo hi w w' ∧ Tame w w' ∧ OutC I w w' ∧ Marked w' I k

set_option maxHeartbeats 800000 in
theorem mark1s_any {lo hi : Nat} (v : Value) (I : List Iv) (k : Int) (w : World) (h : S1 lo hi w v I) (hn : Nums lo hi w I) (hk0 : 0 ≤ k) (hk1 : k ≤ 4611686018427387904) :
    Calls Tryd.prog 26 #[v, .int .i64 k] w (MarkS lo hi I k w) := by
  rcases h with ⟨rfl, ad, cap, rfl⟩ | ⟨b, o, n, cap, rfl, hpos, hm, hlo, hhi, rfl⟩
  · go_enter Tryd.func26, Tryd.ntmps26
    go_wp2
    refine wp_loop_rounds 1 ?_
    rw [rounds_succ]
    go_wp2
    go_ret
    exact ⟨ret_int (by simp [ivSize]), Only.refl _ _ _, Tame.refl _, OutC.refl _ _, trivial⟩
  · have HN := Lib.hid (hn (b, o, n) (by simp)).2.2
    clear hn
    go_enter Tryd.func26, Tryd.ntmps26
    go_wp2
    go_loopw [1, 5] (fun kk i wr => ∃ (j : Nat), j ≤ n ∧ i = .int .i64 j ∧ kk = .int .i64 (k + (j : Int)) ∧ Hid (Only lo hi w wr ∧ Tame w wr ∧ OutC [(b, o, n)] w wr) ∧ Hid (∀ q, q < n → ∃ x, wr.cell? ⟨b, o + q, none⟩ = some (.int .i64 x) ∧ (q < j → x = k + (q : Int))) ∧ Hid (∀ q, q < n → wr.frozen? ⟨b, o + q, none⟩ = false)) (fun _ i _ => n - (intOf i).toNat)
    case atStart => exact ⟨0, Nat.zero_le _, rfl, by simp, Lib.hid ⟨Only.refl _ _ _, Tame.refl _, OutC.refl _ _⟩, Lib.hid (fun q hq => by
      obtain ⟨⟨x, hx⟩, _⟩ := HN.out q hq
      exact ⟨x, hx, fun h => absurd h (Nat.not_lt_zero _)⟩), Lib.hid (fun q hq => (HN.out q hq).2)⟩
    case round =>
      clear HN
      obtain ⟨j, hj, rfl, rfl, HO, HX, HZ⟩ := hrel
      by_cases hlt : j < n
      · obtain ⟨x, hx, _⟩ := HX.out j hlt
        have hz := HZ.out j hlt
        have HN : Hid (∀ q, q < n → ∃ x, (wr.setCell ⟨b, o + j, none⟩ (.int .i64 (k + (j : Int)))).cell? ⟨b, o + q, none⟩ = some (.int .i64 x) ∧ (q < j + 1 → x = k + (q : Int))) := Lib.hid (fun q hq => by
          obtain ⟨y, hy, hy2⟩ := HX.out q hq
          by_cases e : q = j
          · subst e
            exact ⟨k + (q : Int), World.cell?_setCell_same _ _ _ hy, fun _ => rfl⟩
          · refine ⟨y, ?_, fun h => hy2 (by omega)⟩
            rw [World.cell?_setCell_other _ _ _ _ (fun hh => e (by have h2 := congrArg Addr.off hh; exact (Nat.add_left_cancel h2).symm))]
            exact hy)
        have HZ2 : Hid (∀ q, q < n → (wr.setCell ⟨b, o + j, none⟩ (.int .i64 (k + (j : Int)))).frozen? ⟨b, o + q, none⟩ = false) := Lib.hid (fun q hq => by rw [World.frozen?_setCell]; exact HZ.out q hq)
        have HO2 : Hid (Only lo hi w (wr.setCell ⟨b, o + j, none⟩ (.int .i64 (k + (j : Int)))) ∧ Tame w (wr.setCell ⟨b, o + j, none⟩ (.int .i64 (k + (j : Int)))) ∧ OutC [(b, o, n)] w (wr.setCell ⟨b, o + j, none⟩ (.int .i64 (k + (j : Int))))) := Lib.hid ⟨HO.out.1.trans (Only.set _ hlo hhi), HO.out.2.1.trans (Tame.set hx), fun b2 o2 hn2 => by
          rw [World.cell?_setCell_other _ _ _ _ (fun hh => hn2 (by
            have h1 := congrArg Addr.block hh
            have h2 := congrArg Addr.off hh
            simp only at h1 h2
            exact ⟨(b, o, n), by simp, h1, by show o ≤ o2; omega, by show o2 < o + n; omega⟩))]
          exact HO.out.2.2 b2 o2 hn2⟩
        go_wp2
        go_roundw
        case rel => exact ⟨j + 1, by omega, by go_num, by go_num, HO2, HN, HZ2⟩
        case measure => simp [intOf]; omega
      · have hjj : Hid (j = n) := Lib.hid (by omega)
        go_wp2
        go_ret
        refine ⟨ret_int (by rw [hjj.out]; simp [ivSize]), HO.out.1, HO.out.2.1, HO.out.2.2, fun q hq => ?_, trivial⟩
        obtain ⟨x, hx, hx2⟩ := HX.out q hq
        rw [hx, hx2 (by have := hjj.out; simp only at hq; omega)]

set_option maxHeartbeats 800000 in
theorem held1s_any {lo hi : Nat} (v : Value) (I : List Iv) (k : Int) (w : World) (h : S1 lo hi w v I) (hm : Marked w I k) (hk0 : 0 ≤ k) (hk1 : k ≤ 4611686018427387904) :
    Calls Tryd.prog 28 #[v, .int .i64 k] w (QW (.int .i64 (k + (ivSize I : Int))) w) := by
  rcases h with ⟨rfl, ad, cap, rfl⟩ | ⟨b, o, n, cap, rfl, hpos, hn, hlo, hhi, rfl⟩
  · have := held1_any (lo := 0) (.slice ad 0 cap) 0 k w (Or.inl ⟨rfl, _, _, rfl⟩) (by omega) hk0 hk1
    simpa [ivSize] using this
  · have := held1_any (lo := 0) (.slice (some ⟨b, o, none⟩) n cap) n k w (Or.inr ⟨b, o, cap, by rw [upFrom_length], Nat.zero_le _, by rw [upFrom_length]; exact hpos, fun q hq => by
      rw [upFrom_length] at hq
      refine ⟨_, hm.1 q hq, ?_⟩
      simp only [IsI, upFrom, List.getElem_map, List.getElem_range]⟩) hn hk0 hk1
    simpa [ivSize] using this

set_option maxHeartbeats 1600000 in
theorem mark2s_any {lo hi : Nat} (v : Value) (I : List Iv) (k : Int) (w : World) (h : S2 lo hi w v I) (hn : Nums lo hi w I) (hd : Disj I) (hk0 : 0 ≤ k) (hk1 : k + (ivSize I : Int) ≤ 4611686018427387904) :
    Calls Tryd.prog 27 #[v, .int .i64 k] w (MarkS lo hi I k w) := by
  obtain ⟨ad, m, cap, f, J, rfl, hm, rfl, hs, hc⟩ := h
  have HS := Lib.hid hs
  have HN := Lib.hid hn
  have HD := Lib.hid hd
  clear hs hn hd
  by_cases h0 : m = 0
  · subst h0
    clear hc
    go_enter Tryd.func27, Tryd.ntmps27
    go_wp2
    refine wp_loop_rounds 1 ?_
    rw [rounds_succ]
    go_wp2
    go_ret
    exact ⟨ret_int (by simp [ivSize, flat]), Only.refl _ _ _, Tame.refl _, OutC.refl _ _, trivial⟩
  · obtain ⟨b, o, rfl, hlo, hhi, hcl⟩ := hc (by omega)
    have HC := Lib.hid hcl
    have HK := Lib.hid hk1
    clear hcl hc hk1
    go_enter Tryd.func27, Tryd.ntmps27
    go_wp2
    go_loopw [1, 5] (fun kk i wr => ∃ (j : Nat) (s : Int), j ≤ m ∧ i = .int .i64 j ∧ kk = .int .i64 s ∧ Hid (s = k + (ivSize (flat J j) : Int)) ∧ Hid (Only lo hi w wr ∧ Tame w wr ∧ OutC (flat J j) w wr ∧ Marked wr (flat J j) k)) (fun _ i _ => m - (intOf i).toNat)
    case atStart => exact ⟨0, k, Nat.zero_le _, rfl, rfl, Lib.hid (by simp [flat, ivSize]), Lib.hid ⟨Only.refl _ _ _, Tame.refl _, OutC.refl _ _, trivial⟩⟩
    case round =>
      obtain ⟨j, s, hj, rfl, rfl, HSU, HO⟩ := hrel
      by_cases hlt : j < m
      · obtain ⟨a1, n1, c1, hu1⟩ := S1.shape (HS.out j hlt)
        have hu := HC.out j hlt
        rw [hu1] at hu
        have hu' := HO.out.2.1.slices _ _ _ _ _ hu
        have hs := HS.out
        have hsz := flat_size (J := J) hlt
        have hs0 : 0 ≤ s ∧ s ≤ 4611686018427387904 := by have := HSU.out; have := HK.out; omega
        have HM1 := Lib.hid (mark1s_any (f j) (J j) s wr (hs j hlt) ((HN.out.sub (flat_mem hlt)).tame HO.out.2.1) (by omega) (by omega))
        rw [hu1] at HM1
        have HS2 : Hid (s + (ivSize (J j) : Int) = k + (ivSize (flat J (j + 1)) : Int)) := Lib.hid (by have := HSU.out; rw [flat_succ, ivSize_append]; omega)
        clear hu hu1 hs hsz
        go_wp2_with fail
        refine HM1.out.mono ?_
        rintro e w2 ⟨rfl, ho, ht, hout, hmk⟩
        have HO2 : Hid (Only lo hi w w2 ∧ Tame w w2 ∧ OutC (flat J (j + 1)) w w2 ∧ Marked w2 (flat J (j + 1)) k) := Lib.hid ⟨HO.out.1.trans ho, HO.out.2.1.trans ht, by rw [flat_succ]; exact HO.out.2.2.1.trans hout, by
          rw [flat_succ]
          exact (HO.out.2.2.2.keep hout (flat_apart hlt HD.out)).append (by rw [← HSU.out]; exact hmk)⟩
        have hs1 : 0 ≤ s + (ivSize (J j) : Int) ∧ s + (ivSize (J j) : Int) ≤ 4611686018427387904 := by
          have h1 := HS2.out
          have h2 := HK.out
          have h3 : ivSize (flat J (j + 1)) ≤ ivSize (flat J m) := by
            obtain ⟨r, hr⟩ := flat_part J (show j + 1 ≤ m by omega)
            rw [hr, ivSize_append]; omega
          omega
        clear ho ht hout hmk HM1
        go_wp2
        go_roundw
        case rel => exact ⟨j + 1, s + (ivSize (J j) : Int), by omega, by go_num, rfl, HS2, HO2⟩
        case measure => simp [intOf]; omega
      · have hjj : Hid (j = m) := Lib.hid (by omega)
        go_wp2
        go_ret
        have h := HO.out
        have h2 := HSU.out
        rw [hjj.out] at h h2
        exact ⟨ret_int h2, h.1, h.2.1, h.2.2.1, h.2.2.2⟩

set_option maxHeartbeats 1600000 in
theorem held2s_any {lo hi : Nat} (v : Value) (I : List Iv) (k : Int) (w : World) (h : S2 lo hi w v I) (hn : Marked w I k) (hk0 : 0 ≤ k) (hk1 : k + (ivSize I : Int) ≤ 4611686018427387904) :
    Calls Tryd.prog 43 #[v, .int .i64 k] w (QW (.int .i64 (k + (ivSize I : Int))) w) := by
  obtain ⟨ad, m, cap, f, J, rfl, hm, rfl, hs, hc⟩ := h
  have HS := Lib.hid hs
  have HN := Lib.hid hn
  clear hs hn
  by_cases h0 : m = 0
  · subst h0
    clear hc
    go_enter Tryd.func43, Tryd.ntmps43
    go_wp2
    refine wp_loop_rounds 1 ?_
    rw [rounds_succ]
    go_wp2
    go_ret
    exact ⟨ret_int (by simp [ivSize, flat]), rfl⟩
  · obtain ⟨b, o, rfl, hlo, hhi, hcl⟩ := hc (by omega)
    have HC := Lib.hid hcl
    have HK := Lib.hid hk1
    clear hcl hc hk1
    go_enter Tryd.func43, Tryd.ntmps43
    go_wp2
    go_loop [1, 5] (fun kk i => ∃ (j : Nat) (s : Int), j ≤ m ∧ i = .int .i64 j ∧ kk = .int .i64 s ∧ Hid (s = k + (ivSize (flat J j) : Int))) (fun _ i => m - (intOf i).toNat)
    case atStart => exact ⟨0, k, Nat.zero_le _, rfl, rfl, Lib.hid (by simp [flat, ivSize])⟩
    case round =>
      obtain ⟨j, s, hj, rfl, rfl, HSU⟩ := hrel
      by_cases hlt : j < m
      · obtain ⟨a1, n1, c1, hu1⟩ := S1.shape (HS.out j hlt)
        have hu' := HC.out j hlt
        rw [hu1] at hu'
        have hs := HS.out
        have hsz := flat_size (J := J) hlt
        have hs0 : 0 ≤ s ∧ s ≤ 4611686018427387904 := by have := HSU.out; have := HK.out; omega
        have hmk : Marked w (J j) s := by
          obtain ⟨r, hr⟩ := flat_part J (show j + 1 ≤ m by omega)
          have h := HN.out
          rw [hr, flat_succ] at h
          have h2 := h.parts.1.parts.2
          rw [← HSU.out] at h2
          exact h2
        have HM1 := Lib.hid (held1s_any (f j) (J j) s w (hs j hlt) hmk (by omega) (by omega))
        rw [hu1] at HM1
        have HS2 : Hid (s + (ivSize (J j) : Int) = k + (ivSize (flat J (j + 1)) : Int)) := Lib.hid (by have := HSU.out; rw [flat_succ, ivSize_append]; omega)
        clear hu1 hs hsz hmk
        go_wp2_with fail
        refine HM1.out.mono ?_
        rintro e w2 ⟨rfl, rfl⟩
        have hneg : ¬ (s + (ivSize (J j) : Int) < 0) := by omega
        have hs1 : 0 ≤ s + (ivSize (J j) : Int) ∧ s + (ivSize (J j) : Int) ≤ 4611686018427387904 := by
          have h1 := HS2.out
          have h2 := HK.out
          have h3 : ivSize (flat J (j + 1)) ≤ ivSize (flat J m) := by
            obtain ⟨r, hr⟩ := flat_part J (show j + 1 ≤ m by omega)
            rw [hr, ivSize_append]; omega
          omega
        clear hu' HM1
        go_wp2
        go_round
        case rel => exact ⟨j + 1, s + (ivSize (J j) : Int), by omega, by go_num, rfl, HS2⟩
        case measure => simp [intOf]; omega
      · have hjj : Hid (j = m) := Lib.hid (by omega)
        go_wp2
        go_ret
        have h2 := HSU.out
        rw [hjj.out] at h2
        exact ⟨ret_int h2, rfl⟩

set_option maxHeartbeats 1600000 in
theorem mark3s_any {lo hi : Nat} (v : Value) (I : List Iv) (k : Int) (w : World) (h : S3 lo hi w v I) (hn : Nums lo hi w I) (hd : Disj I) (hk0 : 0 ≤ k) (hk1 : k + (ivSize I : Int) ≤ 4611686018427387904) :
    Calls Tryd.prog 13 #[v, .int .i64 k] w (MarkS lo hi I k w) := by
  obtain ⟨ad, m, cap, f, J, rfl, hm, rfl, hs, hc⟩ := h
  have HS := Lib.hid hs
  have HN := Lib.hid hn
  have HD := Lib.hid hd
  clear hs hn hd
  by_cases h0 : m = 0
  · subst h0
    clear hc
    go_enter Tryd.func13, Tryd.ntmps13
    go_wp2
    refine wp_loop_rounds 1 ?_
    rw [rounds_succ]
    go_wp2
    go_ret
    exact ⟨ret_int (by simp [ivSize, flat]), Only.refl _ _ _, Tame.refl _, OutC.refl _ _, trivial⟩
  · obtain ⟨b, o, rfl, hlo, hhi, hcl⟩ := hc (by omega)
    have HC := Lib.hid hcl
    have HK := Lib.hid hk1
    clear hcl hc hk1
    go_enter Tryd.func13, Tryd.ntmps13
    go_wp2
    go_loopw [1, 5] (fun kk i wr => ∃ (j : Nat) (s : Int), j ≤ m ∧ i = .int .i64 j ∧ kk = .int .i64 s ∧ Hid (s = k + (ivSize (flat J j) : Int)) ∧ Hid (Only lo hi w wr ∧ Tame w wr ∧ OutC (flat J j) w wr ∧ Marked wr (flat J j) k)) (fun _ i _ => m - (intOf i).toNat)
    case atStart => exact ⟨0, k, Nat.zero_le _, rfl, rfl, Lib.hid (by simp [flat, ivSize]), Lib.hid ⟨Only.refl _ _ _, Tame.refl _, OutC.refl _ _, trivial⟩⟩
    case round =>
      obtain ⟨j, s, hj, rfl, rfl, HSU, HO⟩ := hrel
      by_cases hlt : j < m
      · obtain ⟨a1, n1, c1, hu1⟩ := SS.shape (HS.out j hlt)
        have hu := HC.out j hlt
        rw [hu1] at hu
        have hu' := HO.out.2.1.slices _ _ _ _ _ hu
        have hs := HS.out
        have hsz := flat_size (J := J) hlt
        have hs0 : 0 ≤ s ∧ s ≤ 4611686018427387904 := by have := HSU.out; have := HK.out; omega
        have HM1 := Lib.hid (mark2s_any (f j) (J j) s wr (S2.tame (hs j hlt) HO.out.2.1) ((HN.out.sub (flat_mem hlt)).tame HO.out.2.1) (flat_disj hlt HD.out) (by omega) (by have := HSU.out; have := HK.out; omega))
        rw [hu1] at HM1
        have HS2 : Hid (s + (ivSize (J j) : Int) = k + (ivSize (flat J (j + 1)) : Int)) := Lib.hid (by have := HSU.out; rw [flat_succ, ivSize_append]; omega)
        clear hu hu1 hs hsz
        go_wp2_with fail
        refine HM1.out.mono ?_
        rintro e w2 ⟨rfl, ho, ht, hout, hmk⟩
        have HO2 : Hid (Only lo hi w w2 ∧ Tame w w2 ∧ OutC (flat J (j + 1)) w w2 ∧ Marked w2 (flat J (j + 1)) k) := Lib.hid ⟨HO.out.1.trans ho, HO.out.2.1.trans ht, by rw [flat_succ]; exact HO.out.2.2.1.trans hout, by
          rw [flat_succ]
          exact (HO.out.2.2.2.keep hout (flat_apart hlt HD.out)).append (by rw [← HSU.out]; exact hmk)⟩
        have hs1 : 0 ≤ s + (ivSize (J j) : Int) ∧ s + (ivSize (J j) : Int) ≤ 4611686018427387904 := by
          have h1 := HS2.out
          have h2 := HK.out
          have h3 : ivSize (flat J (j + 1)) ≤ ivSize (flat J m) := by
            obtain ⟨r, hr⟩ := flat_part J (show j + 1 ≤ m by omega)
            rw [hr, ivSize_append]; omega
          omega
        clear ho ht hout hmk HM1
        go_wp2
        go_roundw
        case rel => exact ⟨j + 1, s + (ivSize (J j) : Int), by omega, by go_num, rfl, HS2, HO2⟩
        case measure => simp [intOf]; omega
      · have hjj : Hid (j = m) := Lib.hid (by omega)
        go_wp2
        go_ret
        have h := HO.out
        have h2 := HSU.out
        rw [hjj.out] at h h2
        exact ⟨ret_int h2, h.1, h.2.1, h.2.2.1, h.2.2.2⟩

set_option maxHeartbeats 1600000 in
theorem held3s_any {lo hi : Nat} (v : Value) (I : List Iv) (k : Int) (w : World) (h : S3 lo hi w v I) (hn : Marked w I k) (hk0 : 0 ≤ k) (hk1 : k + (ivSize I : Int) ≤ 4611686018427387904) :
    Calls Tryd.prog 29 #[v, .int .i64 k] w (QW (.int .i64 (k + (ivSize I : Int))) w) := by
  obtain ⟨ad, m, cap, f, J, rfl, hm, rfl, hs, hc⟩ := h
  have HS := Lib.hid hs
  have HN := Lib.hid hn
  clear hs hn
  by_cases h0 : m = 0
  · subst h0
    clear hc
    go_enter Tryd.func29, Tryd.ntmps29
    go_wp2
    refine wp_loop_rounds 1 ?_
    rw [rounds_succ]
    go_wp2
    go_ret
    exact ⟨ret_int (by simp [ivSize, flat]), rfl⟩
  · obtain ⟨b, o, rfl, hlo, hhi, hcl⟩ := hc (by omega)
    have HC := Lib.hid hcl
    have HK := Lib.hid hk1
    clear hcl hc hk1
    go_enter Tryd.func29, Tryd.ntmps29
    go_wp2
    go_loop [1, 5] (fun kk i => ∃ (j : Nat) (s : Int), j ≤ m ∧ i = .int .i64 j ∧ kk = .int .i64 s ∧ Hid (s = k + (ivSize (flat J j) : Int))) (fun _ i => m - (intOf i).toNat)
    case atStart => exact ⟨0, k, Nat.zero_le _, rfl, rfl, Lib.hid (by simp [flat, ivSize])⟩
    case round =>
      obtain ⟨j, s, hj, rfl, rfl, HSU⟩ := hrel
      by_cases hlt : j < m
      · obtain ⟨a1, n1, c1, hu1⟩ := SS.shape (HS.out j hlt)
        have hu' := HC.out j hlt
        rw [hu1] at hu'
        have hs := HS.out
        have hsz := flat_size (J := J) hlt
        have hs0 : 0 ≤ s ∧ s ≤ 4611686018427387904 := by have := HSU.out; have := HK.out; omega
        have hmk : Marked w (J j) s := by
          obtain ⟨r, hr⟩ := flat_part J (show j + 1 ≤ m by omega)
          have h := HN.out
          rw [hr, flat_succ] at h
          have h2 := h.parts.1.parts.2
          rw [← HSU.out] at h2
          exact h2
        have HM1 := Lib.hid (held2s_any (f j) (J j) s w (hs j hlt) hmk (by omega) (by have := HSU.out; have := HK.out; omega))
        rw [hu1] at HM1
        have HS2 : Hid (s + (ivSize (J j) : Int) = k + (ivSize (flat J (j + 1)) : Int)) := Lib.hid (by have := HSU.out; rw [flat_succ, ivSize_append]; omega)
        clear hu1 hs hsz hmk
        go_wp2_with fail
        refine HM1.out.mono ?_
        rintro e w2 ⟨rfl, rfl⟩
        have hneg : ¬ (s + (ivSize (J j) : Int) < 0) := by omega
        have hs1 : 0 ≤ s + (ivSize (J j) : Int) ∧ s + (ivSize (J j) : Int) ≤ 4611686018427387904 := by
          have h1 := HS2.out
          have h2 := HK.out
          have h3 : ivSize (flat J (j + 1)) ≤ ivSize (flat J m) := by
            obtain ⟨r, hr⟩ := flat_part J (show j + 1 ≤ m by omega)
            rw [hr, ivSize_append]; omega
          omega
        clear hu' HM1
        go_wp2
        go_round
        case rel => exact ⟨j + 1, s + (ivSize (J j) : Int), by omega, by go_num, rfl, HS2⟩
        case measure => simp [intOf]; omega
      · have hjj : Hid (j = m) := Lib.hid (by omega)
        go_wp2
        go_ret
        have h2 := HSU.out
        rw [hjj.out] at h2
        exact ⟨ret_int h2, rfl⟩
end Go.Proofs.YtpdkfidmmjlmnabDoor


namespace Go.Proofs.YtpdkfidmmjlmnabDoor
open Go.RowKit

/-- The table at block g: its row of rows there, row j at block g + 1 + j, number i of it Z j i. -/
structure Tb (W : World) (g r c : Nat) (Z : Nat → Nat → Int) : Prop where
  top : W.rowIs g 22 r (fun j => .slice (some ⟨g + 1 + j, 0, none⟩) c c)
  rows : ∀ j, j < r → W.rowIs (g + 1 + j) 2 c (fun i => .int .i64 (Z j i))
  lt : g + 1 + r ≤ W.heap.size
theorem Mat.tb {w w' : World} {r c : Nat} {Z : Nat → Nat → Int} (h : Mat w w' r c Z) : Tb w' w.heap.size r c Z := ⟨h.top, h.rows, by rw [h.size]; omega⟩
theorem Tb.below {W W' : World} {g r c : Nat} {Z : Nat → Nat → Int} (h : Tb W g r c Z) (hb : Below W.heap.size W W') : Tb W' g r c Z :=
  ⟨h.top.of_block (hb.block _ h.top.lt), fun j hj => (h.rows j hj).of_block (hb.block _ (h.rows j hj).lt), Nat.le_trans h.lt hb.size⟩
theorem Tb.out {W : World} {g r c : Nat} {Z : Nat → Nat → Int} (h : Tb W g r c Z) {a : Addr} (ha : a.block < g ∨ g + 1 + r ≤ a.block) (v : Value) : Tb (W.setCell a v) g r c Z :=
  ⟨h.top.setOther (by omega) v, fun j hj => (h.rows j hj).setOther (by omega) v, by simpa using h.lt⟩
theorem Tb.put {W : World} {g r c : Nat} {Z : Nat → Nat → Int} (h : Tb W g r c Z) {j i : Nat} (hj : j < r) (x : Int) :
    Tb (W.setCell ⟨g + 1 + j, i, none⟩ (.int .i64 x)) g r c (fun j2 i2 => if j2 = j ∧ i2 = i then x else Z j2 i2) := by
  refine ⟨h.top.setOther (by show g ≠ g + 1 + j; omega) _, fun j2 hj2 => ?_, by simpa using h.lt⟩
  by_cases e : j2 = j
  · subst e
    exact ((h.rows j2 hj2).set i _).congr (fun i2 _ => by by_cases e2 : i2 = i <;> simp [e2])
  · exact ((h.rows j2 hj2).setOther (by show g + 1 + j2 ≠ g + 1 + j; omega) _).congr (fun i2 _ => by simp [e])
theorem Tb.congr {W : World} {g r c : Nat} {Z Z' : Nat → Nat → Int} (h : Tb W g r c Z) (e : ∀ j, j < r → ∀ i, i < c → Z j i = Z' j i) : Tb W g r c Z' :=
  ⟨h.top, fun j hj => (h.rows j hj).congr (fun i hi => by rw [e j hj i hi]), h.lt⟩
theorem Tb.tab {W : World} {g r c : Nat} {Z : Nat → Nat → Int} (h : Tb W g r c Z) : TabW W g r c Z := by
  refine ⟨fun j hj => h.top.cell hj, fun j hj => ?_⟩
  by_cases hc : c = 0
  · subst hc
    exact Or.inl ⟨rfl, _, _, rfl⟩
  · refine Or.inr ⟨g + 1 + j, 0, c, by rw [rowZ_length], Nat.le_refl _, by omega, by rw [rowZ_length]; omega, fun i hi => ?_, fun i _ => (h.rows j hj).frozen _⟩
    have hi' : i < c := by rwa [rowZ_length] at hi
    refine ⟨_, by rw [Nat.zero_add]; exact (h.rows j hj).cell hi', ?_⟩
    simp only [IsI, rowZ, List.getElem_map, List.getElem_range]
theorem Tb.tw {lo : Nat} {W : World} {g r c : Nat} {Z : Nat → Nat → Int} (h : Tb W g r c Z) (hl : lo ≤ g) (hr : r ≤ 1048576) (hc : c ≤ 1048576) : TW lo W.heap.size W (.slice (some ⟨g, 0, none⟩) r r) (tableOf r c Z) :=
  Or.inr ⟨g, r, c, Z, hl, h.lt, hr, hc, rfl, rfl, h.tab⟩
end Go.Proofs.YtpdkfidmmjlmnabDoor


namespace Go.Proofs.YtpdkfidmmjlmnabDoor
open Go.RowKit

theorem S1.wider {lo hi lo' hi' : Nat} {W : World} {u : Value} {I : List Iv} (h : S1 lo hi W u I) (h1 : lo' ≤ lo) (h2 : hi ≤ hi') : S1 lo' hi' W u I := by
  rcases h with h | ⟨b, o, n, cap, e, a, b1, c, d, f⟩
  · exact Or.inl h
  · exact Or.inr ⟨b, o, n, cap, e, a, b1, by omega, by omega, f⟩
theorem SS.wider {S S' : World → Value → List Iv → Prop} {lo hi lo' hi' : Nat} {W : World} {u : Value} {I : List Iv} (h : SS S lo hi W u I) (hS : ∀ v I, S W v I → S' W v I) (h1 : lo' ≤ lo) (h2 : hi ≤ hi') : SS S' lo' hi' W u I := by
  obtain ⟨ad, m, cap, f, J, a, b, c, d, e⟩ := h
  refine ⟨ad, m, cap, f, J, a, b, c, fun j hj => hS _ _ (d j hj), fun hm => ?_⟩
  obtain ⟨b, o, x1, x2, x3, x4⟩ := e hm
  exact ⟨b, o, x1, by omega, by omega, x4⟩
theorem S2.wider {lo hi lo' hi' : Nat} {W : World} {u : Value} {I : List Iv} (h : S2 lo hi W u I) (h1 : lo' ≤ lo) (h2 : hi ≤ hi') : S2 lo' hi' W u I := SS.wider h (fun _ _ k => S1.wider k h1 h2) h1 h2
theorem S3.wider {lo hi lo' hi' : Nat} {W : World} {u : Value} {I : List Iv} (h : S3 lo hi W u I) (h1 : lo' ≤ lo) (h2 : hi ≤ hi') : S3 lo' hi' W u I := SS.wider h (fun _ _ k => S2.wider k h1 h2) h1 h2

/-- A result of 1 level(s) in blocks from lo up to hi, its numbers apart from each other. -/
def Rw1 (lo hi : Nat) (W : World) (u : Value) (out : List Int) : Prop := W1 lo hi W u out ∧ ∃ I, S1 lo hi W u I ∧ Nums lo hi W I ∧ Disj I ∧ ivSize I ≤ 1048576
theorem Rw1.same {lo hi : Nat} {W W' : World} {u : Value} {out : List Int} (h : Rw1 lo hi W u out) (s : Same lo hi W W') : Rw1 lo hi W' u out := by
  obtain ⟨h1, I, h2, h3, h4, h5⟩ := h
  exact ⟨h1.same s, I, h2, h3.same s, h4, h5⟩
theorem Rw1.next {lo hi : Nat} {W W' : World} {u : Value} {out : List Int} (h : Rw1 lo hi W u out) (hb : Below W.heap.size W W') (hh : hi ≤ W.heap.size) : Rw1 lo hi W' u out := h.same (Same.of_below hb hh)
theorem Rw1.wider {lo hi lo' hi' : Nat} {W : World} {u : Value} {out : List Int} (h : Rw1 lo hi W u out) (h1 : lo' ≤ lo) (h2 : hi ≤ hi') : Rw1 lo' hi' W u out := by
  obtain ⟨a, I, b, c, d, e⟩ := h
  exact ⟨a.wider h1 h2, I, b.wider h1 h2, c.wider h1 h2, d, e⟩
theorem Rw1.l {lo hi : Nat} {W : World} {u : Value} {out : List Int} (h : Rw1 lo hi W u out) : L1 0 W u out := h.1.l1.lower (Nat.zero_le _)
theorem Rw1.shape {lo hi : Nat} {W : World} {u : Value} {out : List Int} (h : Rw1 lo hi W u out) : ∃ ad cap, u = .slice ad out.length cap := Sw.shape h.1
theorem Rw1.nil (lo hi : Nat) (W : World) : Rw1 lo hi W (.slice none 0 0) [] := ⟨Or.inl ⟨rfl, _, _, rfl⟩, [], Or.inl ⟨rfl, _, _, rfl⟩, fun _ h => absurd h (by simp), List.Pairwise.nil, by simp [ivSize]⟩
/-- The same with the marks from 1 on in it. -/
def Hw1 (lo hi : Nat) (W : World) (u : Value) (m : Int) : Prop := ∃ I, S1 lo hi W u I ∧ Marked W I 1 ∧ (∀ x ∈ I, lo ≤ x.1 ∧ x.1 < hi) ∧ m = 1 + (ivSize I : Int) ∧ ivSize I ≤ 1048576
theorem Hw1.same {lo hi : Nat} {W W' : World} {u : Value} {m : Int} (h : Hw1 lo hi W u m) (s : Same lo hi W W') : Hw1 lo hi W' u m := by
  obtain ⟨I, h2, h3, h4, h5⟩ := h
  exact ⟨I, h2, h3.same h4 s, h4, h5⟩
theorem Hw1.next {lo hi : Nat} {W W' : World} {u : Value} {m : Int} (h : Hw1 lo hi W u m) (hb : Below W.heap.size W W') (hh : hi ≤ W.heap.size) : Hw1 lo hi W' u m := h.same (Same.of_below hb hh)
/-- A result of 2 level(s) in blocks from lo up to hi, its numbers apart from each other. -/
def Rw2 (lo hi : Nat) (W : World) (u : Value) (out : List (List Int)) : Prop := W2 lo hi W u out ∧ ∃ I, S2 lo hi W u I ∧ Nums lo hi W I ∧ Disj I ∧ ivSize I ≤ 1099511627776
theorem Rw2.same {lo hi : Nat} {W W' : World} {u : Value} {out : List (List Int)} (h : Rw2 lo hi W u out) (s : Same lo hi W W') : Rw2 lo hi W' u out := by
  obtain ⟨h1, I, h2, h3, h4, h5⟩ := h
  exact ⟨h1.same s, I, h2.same s, h3.same s, h4, h5⟩
theorem Rw2.next {lo hi : Nat} {W W' : World} {u : Value} {out : List (List Int)} (h : Rw2 lo hi W u out) (hb : Below W.heap.size W W') (hh : hi ≤ W.heap.size) : Rw2 lo hi W' u out := h.same (Same.of_below hb hh)
theorem Rw2.wider {lo hi lo' hi' : Nat} {W : World} {u : Value} {out : List (List Int)} (h : Rw2 lo hi W u out) (h1 : lo' ≤ lo) (h2 : hi ≤ hi') : Rw2 lo' hi' W u out := by
  obtain ⟨a, I, b, c, d, e⟩ := h
  exact ⟨a.wider h1 h2, I, b.wider h1 h2, c.wider h1 h2, d, e⟩
theorem Rw2.l {lo hi : Nat} {W : World} {u : Value} {out : List (List Int)} (h : Rw2 lo hi W u out) : L2 0 W u out := h.1.l2.lower (Nat.zero_le _)
theorem Rw2.shape {lo hi : Nat} {W : World} {u : Value} {out : List (List Int)} (h : Rw2 lo hi W u out) : ∃ ad cap, u = .slice ad out.length cap := Sw.shape h.1
theorem Rw2.nil (lo hi : Nat) (W : World) : Rw2 lo hi W (.slice none 0 0) [] := ⟨Or.inl ⟨rfl, _, _, rfl⟩, [], ⟨none, 0, 0, fun _ => .slice none 0 0, fun _ => [], rfl, by omega, rfl, fun _ h => absurd h (Nat.not_lt_zero _), fun h => absurd h (Nat.lt_irrefl _)⟩, fun _ h => absurd h (by simp), List.Pairwise.nil, by simp [ivSize]⟩
/-- The same with the marks from 1 on in it. -/
def Hw2 (lo hi : Nat) (W : World) (u : Value) (m : Int) : Prop := ∃ I, S2 lo hi W u I ∧ Marked W I 1 ∧ (∀ x ∈ I, lo ≤ x.1 ∧ x.1 < hi) ∧ m = 1 + (ivSize I : Int) ∧ ivSize I ≤ 1099511627776
theorem Hw2.same {lo hi : Nat} {W W' : World} {u : Value} {m : Int} (h : Hw2 lo hi W u m) (s : Same lo hi W W') : Hw2 lo hi W' u m := by
  obtain ⟨I, h2, h3, h4, h5⟩ := h
  exact ⟨I, h2.same s, h3.same h4 s, h4, h5⟩
theorem Hw2.next {lo hi : Nat} {W W' : World} {u : Value} {m : Int} (h : Hw2 lo hi W u m) (hb : Below W.heap.size W W') (hh : hi ≤ W.heap.size) : Hw2 lo hi W' u m := h.same (Same.of_below hb hh)
/-- A result of 3 level(s) in blocks from lo up to hi, its numbers apart from each other. -/
def Rw3 (lo hi : Nat) (W : World) (u : Value) (out : List (List (List Int))) : Prop := W3 lo hi W u out ∧ ∃ I, S3 lo hi W u I ∧ Nums lo hi W I ∧ Disj I ∧ ivSize I ≤ 1152921504606846976
theorem Rw3.same {lo hi : Nat} {W W' : World} {u : Value} {out : List (List (List Int))} (h : Rw3 lo hi W u out) (s : Same lo hi W W') : Rw3 lo hi W' u out := by
  obtain ⟨h1, I, h2, h3, h4, h5⟩ := h
  exact ⟨h1.same s, I, h2.same s, h3.same s, h4, h5⟩
theorem Rw3.next {lo hi : Nat} {W W' : World} {u : Value} {out : List (List (List Int))} (h : Rw3 lo hi W u out) (hb : Below W.heap.size W W') (hh : hi ≤ W.heap.size) : Rw3 lo hi W' u out := h.same (Same.of_below hb hh)
theorem Rw3.wider {lo hi lo' hi' : Nat} {W : World} {u : Value} {out : List (List (List Int))} (h : Rw3 lo hi W u out) (h1 : lo' ≤ lo) (h2 : hi ≤ hi') : Rw3 lo' hi' W u out := by
  obtain ⟨a, I, b, c, d, e⟩ := h
  exact ⟨a.wider h1 h2, I, b.wider h1 h2, c.wider h1 h2, d, e⟩
theorem Rw3.l {lo hi : Nat} {W : World} {u : Value} {out : List (List (List Int))} (h : Rw3 lo hi W u out) : L3 0 W u out := h.1.l3.lower (Nat.zero_le _)
theorem Rw3.shape {lo hi : Nat} {W : World} {u : Value} {out : List (List (List Int))} (h : Rw3 lo hi W u out) : ∃ ad cap, u = .slice ad out.length cap := Sw.shape h.1
theorem Rw3.nil (lo hi : Nat) (W : World) : Rw3 lo hi W (.slice none 0 0) [] := ⟨Or.inl ⟨rfl, _, _, rfl⟩, [], ⟨none, 0, 0, fun _ => .slice none 0 0, fun _ => [], rfl, by omega, rfl, fun _ h => absurd h (Nat.not_lt_zero _), fun h => absurd h (Nat.lt_irrefl _)⟩, fun _ h => absurd h (by simp), List.Pairwise.nil, by simp [ivSize]⟩
/-- The same with the marks from 1 on in it. -/
def Hw3 (lo hi : Nat) (W : World) (u : Value) (m : Int) : Prop := ∃ I, S3 lo hi W u I ∧ Marked W I 1 ∧ (∀ x ∈ I, lo ≤ x.1 ∧ x.1 < hi) ∧ m = 1 + (ivSize I : Int) ∧ ivSize I ≤ 1152921504606846976
theorem Hw3.same {lo hi : Nat} {W W' : World} {u : Value} {m : Int} (h : Hw3 lo hi W u m) (s : Same lo hi W W') : Hw3 lo hi W' u m := by
  obtain ⟨I, h2, h3, h4, h5⟩ := h
  exact ⟨I, h2.same s, h3.same h4 s, h4, h5⟩
theorem Hw3.next {lo hi : Nat} {W W' : World} {u : Value} {m : Int} (h : Hw3 lo hi W u m) (hb : Below W.heap.size W W') (hh : hi ≤ W.heap.size) : Hw3 lo hi W' u m := h.same (Same.of_below hb hh)
/-- Lists of intervals in spans of blocks one behind the other are apart. -/
theorem disj_spans {J : Nat → List Iv} {b : Nat → Nat} {n : Nat} (hi : ∀ j, j < n → b j ≤ b (j + 1)) (hJ : ∀ j, j < n → ∀ x ∈ J j, b j ≤ x.1 ∧ x.1 < b (j + 1)) (hd : ∀ j, j < n → Disj (J j)) : Disj (flat J n) ∧ ∀ x ∈ flat J n, x.1 < b n := by
  induction n with
  | zero => exact ⟨List.Pairwise.nil, fun x hx => absurd hx (by simp [flat])⟩
  | succ n ih =>
    obtain ⟨h1, h2⟩ := ih (fun j hj => hi j (by omega)) (fun j hj => hJ j (by omega)) (fun j hj => hd j (by omega))
    rw [flat_succ]
    refine ⟨List.pairwise_append.2 ⟨h1, hd n (by omega), fun x hx y hy => Or.inl ?_⟩, fun x hx => ?_⟩
    · have a := h2 x hx
      have c := (hJ n (by omega) y hy).1
      omega
    · rcases List.mem_append.1 hx with h | h
      · have a := h2 x h
        have c := hi n (by omega)
        omega
      · exact (hJ n (by omega) x h).2
theorem size_spans {J : Nat → List Iv} {n B : Nat} (h : ∀ j, j < n → ivSize (J j) ≤ B) : ivSize (flat J n) ≤ B * n := by
  induction n with
  | zero => simp [flat, ivSize]
  | succ n ih =>
    have h1 := ih (fun j hj => h j (by omega))
    have h2 := h n (by omega)
    rw [flat_succ, ivSize_append, Nat.mul_succ]
    omega
theorem nums_flat {lo hi : Nat} {W : World} {J : Nat → List Iv} {n : Nat} (h : ∀ j, j < n → Nums lo hi W (J j)) : Nums lo hi W (flat J n) := fun x hx => by
  obtain ⟨j, hj, hx⟩ := List.mem_flatMap.1 hx
  exact h j (List.mem_range.1 hj) x hx
theorem choose2 {α : Type} [Inhabited α] {P : Nat → α → Prop} {n : Nat} (h : ∀ j, j < n → ∃ a, P j a) : ∃ f : Nat → α, ∀ j, j < n → P j (f j) :=
  ⟨fun j => if hj : j < n then Classical.choose (h j hj) else default, fun j hj => by simp only [dif_pos hj]; exact Classical.choose_spec (h j hj)⟩

/-- A table in blocks of its own. -/
theorem Tb.rw2 {lo : Nat} {W : World} {g r c : Nat} {Z : Nat → Nat → Int} (h : Tb W g r c Z) (hl : lo ≤ g) (hr : r ≤ 1048576) (hc : c ≤ 1048576) : Rw2 lo W.heap.size W (.slice (some ⟨g, 0, none⟩) r r) (tableOf r c Z) := by
  have hlt := h.lt
  refine ⟨?_, ?_⟩
  · by_cases h0 : r = 0
    · subst h0
      exact Or.inl ⟨rfl, _, _, rfl⟩
    · refine Or.inr ⟨g, 0, r, by simp [tableOf], hl, by omega, by simp [tableOf]; omega, fun k hk => ?_, fun k _ => h.top.frozen _⟩
      have hk' : k < r := by simpa [tableOf] using hk
      refine ⟨_, by rw [Nat.zero_add]; exact h.top.cell hk', ?_⟩
      simp only [tableOf, List.getElem_map, List.getElem_range]
      by_cases hc : c = 0
      · subst hc
        exact Or.inl ⟨rfl, _, _, rfl⟩
      · refine Or.inr ⟨g + 1 + k, 0, c, by simp, by omega, by omega, by simp; omega, fun i hi => ?_, fun i _ => (h.rows k hk').frozen _⟩
        have hi' : i < c := by simpa using hi
        refine ⟨_, by rw [Nat.zero_add]; exact (h.rows k hk').cell hi', ?_⟩
        simp only [IsI, List.getElem_map, List.getElem_range]
  · refine ⟨flat (fun j => if c = 0 then [] else [(g + 1 + j, 0, c)]) r, ⟨some ⟨g, 0, none⟩, r, r, fun j => .slice (some ⟨g + 1 + j, 0, none⟩) c c, fun j => if c = 0 then [] else [(g + 1 + j, 0, c)], rfl, hr, rfl, fun j hj => ?_, fun _ => ⟨g, 0, rfl, hl, by omega, fun j hj => by rw [Nat.zero_add]; exact h.top.cell hj⟩⟩, nums_flat (fun j hj => ?_), ?_, ?_⟩
    · by_cases hc0 : c = 0
      · subst hc0
        exact Or.inl ⟨by simp, _, _, rfl⟩
      · exact Or.inr ⟨g + 1 + j, 0, c, c, if_neg hc0, by omega, hc, by omega, by omega, rfl⟩
    · intro x hx
      by_cases hc0 : c = 0
      · rw [if_pos hc0] at hx; simp at hx
      · rw [if_neg hc0] at hx
        obtain rfl : x = (g + 1 + j, 0, c) := by simpa using hx
        exact ⟨by show lo ≤ g + 1 + j; omega, by show g + 1 + j < _; omega, fun i hi => ⟨⟨Z j i, by rw [Nat.zero_add]; exact (h.rows j hj).cell hi⟩, (h.rows j hj).frozen _⟩⟩
    · refine (disj_spans (b := fun j => g + 1 + j) (fun j _ => by omega) (fun j _ x hx => ?_) (fun j _ => ?_)).1
      · by_cases hc0 : c = 0
        · rw [if_pos hc0] at hx; simp at hx
        · rw [if_neg hc0] at hx
          obtain rfl : x = (g + 1 + j, 0, c) := by simpa using hx
          exact ⟨Nat.le_refl _, by show g + 1 + j < g + 1 + (j + 1); omega⟩
      · by_cases hc0 : c = 0
        · rw [if_pos hc0]; exact List.Pairwise.nil
        · rw [if_neg hc0]; exact List.pairwise_singleton _ _
    · have := size_spans (J := fun j => if c = 0 then [] else [(g + 1 + j, 0, c)]) (n := r) (B := c) (fun j _ => by
        by_cases hc0 : c = 0
        · simp [hc0, ivSize]
        · simp [hc0, ivSize])
      have h2 : c * r ≤ 1048576 * 1048576 := Nat.mul_le_mul hc hr
      omega
theorem Mat.rw2 {lo : Nat} {w w' : World} {r c : Nat} {Z : Nat → Nat → Int} (h : Mat w w' r c Z) (hl : lo ≤ w.heap.size) (hr : r ≤ 1048576) (hc : c ≤ 1048576) : Rw2 lo w'.heap.size w' (.slice (some ⟨w.heap.size, 0, none⟩) r r) (tableOf r c Z) := h.tb.rw2 hl hr hc

/-- Tables while they are laid into a row of tables at block g: k of them are there. -/
structure Fill3 (wr : World) (g n k : Nat) (f : Nat → Value) (b : Nat → Nat) (ts : List (List (List Int))) : Prop where
  row : wr.rowIs g 39 n f
  lo : g < b 0
  inc : ∀ j, j < k → b j ≤ b (j + 1)
  hi : b k ≤ wr.heap.size
  at' : ∀ j (h : j < ts.length), j < k → Rw2 (b j) (b (j + 1)) wr (f j) ts[j]
theorem Fill3.start {wr : World} {g n : Nat} {f : Nat → Value} (h : wr.rowIs g 39 n f) (hg : g + 1 ≤ wr.heap.size) (ts : List (List (List Int))) : Fill3 wr g n 0 f (fun _ => g + 1) ts :=
  ⟨h, Nat.lt_succ_self _, fun _ h => absurd h (Nat.not_lt_zero _), hg, fun _ _ h => absurd h (Nat.not_lt_zero _)⟩
theorem Fill3.next {wr w' : World} {g n k : Nat} {f : Nat → Value} {b : Nat → Nat} {ts : List (List (List Int))} (h : Fill3 wr g n k f b ts) (hb : Below wr.heap.size wr w') (hm : ∀ j, j < k → b (j + 1) ≤ b k) : Fill3 w' g n k f b ts :=
  ⟨h.row.of_block (hb.block _ h.row.lt), h.lo, h.inc, Nat.le_trans h.hi hb.size, fun j hj hk => (h.at' j hj hk).next hb (Nat.le_trans (hm j hk) h.hi)⟩
theorem inc_le {b : Nat → Nat} {k : Nat} (h : ∀ j, j < k → b j ≤ b (j + 1)) : ∀ j, j ≤ k → b j ≤ b k := by
  intro j hj
  induction k with
  | zero => rw [show j = 0 by omega]; exact Nat.le_refl _
  | succ k ih =>
    by_cases e : j = k + 1
    · rw [e]; exact Nat.le_refl _
    · exact Nat.le_trans (ih (fun i hi => h i (by omega)) (by omega)) (h k (by omega))
theorem Fill3.below {wr w' : World} {g n k : Nat} {f : Nat → Value} {b : Nat → Nat} {ts : List (List (List Int))} (h : Fill3 wr g n k f b ts) (hb : Below wr.heap.size wr w') : Fill3 w' g n k f b ts := h.next hb (fun j hj => inc_le h.inc (j + 1) hj)
theorem Fill3.out {wr : World} {g n k : Nat} {f : Nat → Value} {b : Nat → Nat} {ts : List (List (List Int))} (h : Fill3 wr g n k f b ts) {a : Addr} (ha : a.block < g) (v : Value) : Fill3 (wr.setCell a v) g n k f b ts :=
  ⟨h.row.setOther (by omega) v, h.lo, h.inc, by simpa using h.hi, fun j hj hk => (h.at' j hj hk).same (fun x hx _ => Below.heap_setCell wr a v x (by have := h.lo; have := inc_le (b := b) (k := j) (fun i hi => h.inc i (by omega)) 0 (Nat.zero_le _); omega))⟩
theorem Fill3.step {wr w1 : World} {g n k : Nat} {f : Nat → Value} {b : Nat → Nat} {ts : List (List (List Int))} {u : Value} (h : Fill3 wr g n k f b ts) (hb : Below wr.heap.size wr w1) (hk : k < ts.length) (hu : Rw2 wr.heap.size w1.heap.size w1 u ts[k]) :
    Fill3 (w1.setCell ⟨g, k, none⟩ u) g n (k + 1) (fun j => if j = k then u else f j) (fun j => if j < k then b j else if j = k then wr.heap.size else w1.heap.size) ts := by
  have hlt := h.row.lt
  have hr : w1.rowIs g 39 n f := h.row.of_block (hb.block _ hlt)
  have hsm : ∀ lo hi, g < lo → Same lo hi w1 (w1.setCell ⟨g, k, none⟩ u) := fun lo hi hl => Same.set u (Or.inl hl)
  refine ⟨hr.set k u, ?_, fun j hj => ?_, ?_, fun j hj hjk => ?_⟩
  · by_cases e : 0 < k
    · simp only [if_pos e]; exact h.lo
    · simp only [if_neg e, if_pos (show 0 = k by omega)]; exact hlt
  · by_cases e : j < k
    · simp only [if_pos e]
      by_cases e2 : j + 1 < k
      · simp only [if_pos e2]; exact h.inc j e
      · simp only [if_neg e2, if_pos (show j + 1 = k by omega)]
        have := inc_le h.inc j (by omega)
        have := h.hi
        omega
    · simp only [if_neg e, if_pos (show j = k by omega), if_neg (show ¬ j + 1 < k by omega), if_neg (show ¬ j + 1 = k by omega)]
      exact hb.size
  · simp only [if_neg (show ¬ k + 1 < k by omega), if_neg (show ¬ k + 1 = k by omega)]
    simp
  · by_cases e : j = k
    · subst e
      simp only [if_neg (show ¬ j < j by omega), if_neg (show ¬ j + 1 < j by omega), if_neg (show ¬ j + 1 = j by omega), if_true]
      exact hu.same (hsm _ _ hlt)
    · have hj' : j < k := by omega
      have hh := inc_le h.inc (j + 1) hj'
      have h0 := inc_le (b := b) (k := j) (fun i hi => h.inc i (by omega)) 0 (Nat.zero_le _)
      have hl0 := h.lo
      have ht := ((h.at' j hj hj').next hb (Nat.le_trans hh h.hi)).same (hsm _ _ (by omega))
      simp only [if_neg e, if_pos hj']
      by_cases e2 : j + 1 < k
      · simp only [if_pos e2]; exact ht
      · simp only [if_neg e2, if_pos (show j + 1 = k by omega)]
        exact ht.wider (Nat.le_refl _) (Nat.le_trans hh h.hi)
theorem Fill3.rw3 {wr : World} {g n : Nat} {f : Nat → Value} {b : Nat → Nat} {ts : List (List (List Int))} (h : Fill3 wr g n n f b ts) (hn : n = ts.length) (hs : n ≤ 1048576) : Rw3 g wr.heap.size wr (.slice (some ⟨g, 0, none⟩) n n) ts := by
  have hlt := h.row.lt
  have h1 : ∀ j, j < n → Rw2 g wr.heap.size wr (f j) (ts.getD j []) := fun j hj => by
    rw [getD_of_lt _ (by omega)]
    have a1 := inc_le h.inc (j + 1) hj
    have a2 := inc_le (b := b) (k := j) (fun i hi => h.inc i (by omega)) 0 (Nat.zero_le _)
    have a3 := h.lo
    exact (h.at' j (by omega) hj).wider (by omega) (Nat.le_trans a1 h.hi)
  refine ⟨?_, ?_⟩
  · by_cases h0 : n = 0
    · exact Or.inl ⟨List.eq_nil_of_length_eq_zero (by omega), _, _, by rw [h0]⟩
    · refine Or.inr ⟨g, 0, n, by rw [hn], Nat.le_refl _, hlt, by omega, fun k hk => ?_, fun k _ => h.row.frozen _⟩
      refine ⟨f k, by rw [Nat.zero_add]; exact h.row.cell (by omega), ?_⟩
      have := (h1 k (by omega)).1
      rwa [getD_of_lt _ hk] at this
  · have hex : ∀ j, j < n → ∃ I, S2 (b j) (b (j + 1)) wr (f j) I ∧ Nums (b j) (b (j + 1)) wr I ∧ Disj I ∧ ivSize I ≤ 1099511627776 := fun j hj => (h.at' j (by omega) hj).2
    obtain ⟨J, hJ⟩ := choose2 hex
    have hw : ∀ j, j < n → g ≤ b j ∧ b (j + 1) ≤ wr.heap.size := fun j hj => by
      have a1 := inc_le h.inc (j + 1) hj
      have a2 := inc_le (b := b) (k := j) (fun i hi => h.inc i (by omega)) 0 (Nat.zero_le _)
      have a3 := h.lo
      have a4 := h.hi
      omega
    refine ⟨flat J n, ⟨some ⟨g, 0, none⟩, n, n, f, J, rfl, hs, rfl, fun j hj => (hJ j hj).1.wider (hw j hj).1 (hw j hj).2, fun _ => ⟨g, 0, rfl, Nat.le_refl _, hlt, fun j hj => by rw [Nat.zero_add]; exact h.row.cell hj⟩⟩, nums_flat (fun j hj => (hJ j hj).2.1.wider (hw j hj).1 (hw j hj).2), (disj_spans h.inc (fun j hj x hx => ⟨((hJ j hj).2.1 x hx).1, ((hJ j hj).2.1 x hx).2.1⟩) (fun j hj => (hJ j hj).2.2.1)).1, ?_⟩
    have h2 := size_spans (J := J) (n := n) (B := 1099511627776) (fun j hj => (hJ j hj).2.2.2)
    have h3 : 1099511627776 * n ≤ 1099511627776 * 1048576 := Nat.mul_le_mul (Nat.le_refl _) hs
    omega

/-- Two equal lists of tables compare as equal. -/
theorem eq3_true (va vb : Value) (xs : List (List (List Int))) (w : World) (ha : L3 0 w va xs) (hb : L3 0 w vb xs) (hm : Bd3 1048576 xs) : Calls Tryd.prog 11 #[va, vb] w (BR (.bool true) w) := by
  have h := eq3_any va vb xs xs w ha hb hm hm
  rw [decide_eq_true rfl] at h
  exact h.mono fun _ _ hh => qr_below hh
/-- What a function answers beside a code. -/
structure RsOut {α : Type} (P : α → Prop) (z : α) (c0 : Int) (out : α) (c : Int) : Prop where
  good : c0 = 0 → P out
  bad : c0 ≠ 0 → out = z
  code : c = c0
theorem RsOut.unique {α : Type} {P : α → Prop} {z : α} {c0 : Int} {o1 o2 : α} {c1 c2 : Int} (hu : c0 = 0 → ∀ a b, P a → P b → a = b) (h1 : RsOut P z c0 o1 c1) (h2 : RsOut P z c0 o2 c2) : o1 = o2 ∧ c1 = c2 := by
  refine ⟨?_, h1.code.trans h2.code.symm⟩
  by_cases h0 : c0 = 0
  · exact hu h0 _ _ (h1.good h0) (h2.good h0)
  · rw [h1.bad h0, h2.bad h0]
theorem RsOut.all {α : Type} {P : α → Prop} {z : α} {c0 : Int} {o : α} {c : Int} (h : RsOut P z c0 o c) {Q : α → Prop} (hz : Q z) (hb : c0 = 0 → ∀ a, P a → Q a) : Q o := by
  by_cases h0 : c0 = 0
  · exact hb h0 _ (h.good h0)
  · rw [h.bad h0]
    exact hz
theorem RsOut.of_no {α : Type} {P : α → Prop} {z : α} {c0 : Int} (h : c0 ≠ 0) : RsOut P z c0 z c0 := ⟨fun h0 => absurd h0 h, fun _ => rfl, rfl⟩
theorem RsOut.of_yes {α : Type} {P : α → Prop} {z : α} {c0 : Int} {o : α} (h : c0 = 0) (hp : P o) : RsOut P z c0 o 0 := ⟨fun _ => hp, fun hh => absurd h hh, h.symm⟩
/-- The answer of the program: a result in memory of its own, and a code; and that of the model. -/
def AnsW {α : Type} (R : Nat → Nat → World → Value → α → Prop) (P : α → Prop) (z : α) (c0 : Int) (w : World) (e : Ending) (w' : World) : Prop :=
  ∃ (u : Value) (out : α) (c : Int), e = .returned (.tuple #[u, .int .i64 c]) ∧ R w.heap.size w'.heap.size w' u out ∧ Below w.heap.size w w' ∧ RsOut P z c0 out c
def AnsS {α : Type} (R : World → Value → α → Prop) (P : α → Prop) (z : α) (c0 : Int) (w : World) (e : Ending) (w' : World) : Prop :=
  ∃ (u : Value) (out : α) (c : Int), e = .returned (.tuple #[u, .int .i64 c]) ∧ R w' u out ∧ Below w.heap.size w w' ∧ RsOut P z c0 out c
end Go.Proofs.YtpdkfidmmjlmnabDoor


namespace Go.Proofs.YtpdkfidmmjlmnabDoor
open Go.RowKit

/-- A table in blocks of its own. -/
theorem Tb.rw2h {lo hi : Nat} {W : World} {g r c : Nat} {Z : Nat → Nat → Int} (h : Tb W g r c Z) (hl : lo ≤ g) (hh : g + 1 + r ≤ hi) (hr : r ≤ 1048576) (hc : c ≤ 1048576) : Rw2 lo hi W (.slice (some ⟨g, 0, none⟩) r r) (tableOf r c Z) := by
  have hlt := hh
  refine ⟨?_, ?_⟩
  · by_cases h0 : r = 0
    · subst h0
      exact Or.inl ⟨rfl, _, _, rfl⟩
    · refine Or.inr ⟨g, 0, r, by simp [tableOf], hl, by omega, by simp [tableOf]; omega, fun k hk => ?_, fun k _ => h.top.frozen _⟩
      have hk' : k < r := by simpa [tableOf] using hk
      refine ⟨_, by rw [Nat.zero_add]; exact h.top.cell hk', ?_⟩
      simp only [tableOf, List.getElem_map, List.getElem_range]
      by_cases hc : c = 0
      · subst hc
        exact Or.inl ⟨rfl, _, _, rfl⟩
      · refine Or.inr ⟨g + 1 + k, 0, c, by simp, by omega, by omega, by simp; omega, fun i hi => ?_, fun i _ => (h.rows k hk').frozen _⟩
        have hi' : i < c := by simpa using hi
        refine ⟨_, by rw [Nat.zero_add]; exact (h.rows k hk').cell hi', ?_⟩
        simp only [IsI, List.getElem_map, List.getElem_range]
  · refine ⟨flat (fun j => if c = 0 then [] else [(g + 1 + j, 0, c)]) r, ⟨some ⟨g, 0, none⟩, r, r, fun j => .slice (some ⟨g + 1 + j, 0, none⟩) c c, fun j => if c = 0 then [] else [(g + 1 + j, 0, c)], rfl, hr, rfl, fun j hj => ?_, fun _ => ⟨g, 0, rfl, hl, by omega, fun j hj => by rw [Nat.zero_add]; exact h.top.cell hj⟩⟩, nums_flat (fun j hj => ?_), ?_, ?_⟩
    · by_cases hc0 : c = 0
      · subst hc0
        exact Or.inl ⟨by simp, _, _, rfl⟩
      · exact Or.inr ⟨g + 1 + j, 0, c, c, if_neg hc0, by omega, hc, by omega, by omega, rfl⟩
    · intro x hx
      by_cases hc0 : c = 0
      · rw [if_pos hc0] at hx; simp at hx
      · rw [if_neg hc0] at hx
        obtain rfl : x = (g + 1 + j, 0, c) := by simpa using hx
        exact ⟨by show lo ≤ g + 1 + j; omega, by show g + 1 + j < _; omega, fun i hi => ⟨⟨Z j i, by rw [Nat.zero_add]; exact (h.rows j hj).cell hi⟩, (h.rows j hj).frozen _⟩⟩
    · refine (disj_spans (b := fun j => g + 1 + j) (fun j _ => by omega) (fun j _ x hx => ?_) (fun j _ => ?_)).1
      · by_cases hc0 : c = 0
        · rw [if_pos hc0] at hx; simp at hx
        · rw [if_neg hc0] at hx
          obtain rfl : x = (g + 1 + j, 0, c) := by simpa using hx
          exact ⟨Nat.le_refl _, by show g + 1 + j < g + 1 + (j + 1); omega⟩
      · by_cases hc0 : c = 0
        · rw [if_pos hc0]; exact List.Pairwise.nil
        · rw [if_neg hc0]; exact List.pairwise_singleton _ _
    · have := size_spans (J := fun j => if c = 0 then [] else [(g + 1 + j, 0, c)]) (n := r) (B := c) (fun j _ => by
        by_cases hc0 : c = 0
        · simp [hc0, ivSize]
        · simp [hc0, ivSize])
      have h2 : c * r ≤ 1048576 * 1048576 := Nat.mul_le_mul hc hr
      omega
theorem Fill3.parts {wr : World} {g n : Nat} {f : Nat → Value} {b : Nat → Nat} {ts : List (List (List Int))} (h : Fill3 wr g n n f b ts) (hn : n = ts.length) (hs : n ≤ 1048576) : W3 g wr.heap.size wr (.slice (some ⟨g, 0, none⟩) n n) ts ∧ ∃ J, S3 g wr.heap.size wr (.slice (some ⟨g, 0, none⟩) n n) J ∧ Nums (b 0) wr.heap.size wr J ∧ Disj J ∧ ivSize J ≤ 1152921504606846976 := by
  have hlt := h.row.lt
  have h1 : ∀ j, j < n → Rw2 g wr.heap.size wr (f j) (ts.getD j []) := fun j hj => by
    rw [getD_of_lt _ (by omega)]
    have a1 := inc_le h.inc (j + 1) hj
    have a2 := inc_le (b := b) (k := j) (fun i hi => h.inc i (by omega)) 0 (Nat.zero_le _)
    have a3 := h.lo
    exact (h.at' j (by omega) hj).wider (by omega) (Nat.le_trans a1 h.hi)
  refine ⟨?_, ?_⟩
  · by_cases h0 : n = 0
    · exact Or.inl ⟨List.eq_nil_of_length_eq_zero (by omega), _, _, by rw [h0]⟩
    · refine Or.inr ⟨g, 0, n, by rw [hn], Nat.le_refl _, hlt, by omega, fun k hk => ?_, fun k _ => h.row.frozen _⟩
      refine ⟨f k, by rw [Nat.zero_add]; exact h.row.cell (by omega), ?_⟩
      have := (h1 k (by omega)).1
      rwa [getD_of_lt _ hk] at this
  · have hex : ∀ j, j < n → ∃ I, S2 (b j) (b (j + 1)) wr (f j) I ∧ Nums (b j) (b (j + 1)) wr I ∧ Disj I ∧ ivSize I ≤ 1099511627776 := fun j hj => (h.at' j (by omega) hj).2
    obtain ⟨J, hJ⟩ := choose2 hex
    have hw : ∀ j, j < n → g ≤ b j ∧ b (j + 1) ≤ wr.heap.size := fun j hj => by
      have a1 := inc_le h.inc (j + 1) hj
      have a2 := inc_le (b := b) (k := j) (fun i hi => h.inc i (by omega)) 0 (Nat.zero_le _)
      have a3 := h.lo
      have a4 := h.hi
      omega
    refine ⟨flat J n, ⟨some ⟨g, 0, none⟩, n, n, f, J, rfl, hs, rfl, fun j hj => (hJ j hj).1.wider (hw j hj).1 (hw j hj).2, fun _ => ⟨g, 0, rfl, Nat.le_refl _, hlt, fun j hj => by rw [Nat.zero_add]; exact h.row.cell hj⟩⟩, nums_flat (fun j hj => (hJ j hj).2.1.wider (inc_le (b := b) (k := j) (fun i hi => h.inc i (by omega)) 0 (Nat.zero_le _)) (hw j hj).2), (disj_spans h.inc (fun j hj x hx => ⟨((hJ j hj).2.1 x hx).1, ((hJ j hj).2.1 x hx).2.1⟩) (fun j hj => (hJ j hj).2.2.1)).1, ?_⟩
    have h2 := size_spans (J := J) (n := n) (B := 1099511627776) (fun j hj => (hJ j hj).2.2.2)
    have h3 : 1099511627776 * n ≤ 1099511627776 * 1048576 := Nat.mul_le_mul (Nat.le_refl _) hs
    omega


/-- A complex that a function answers: numbers in blocks from lo up to hi, apart from each other. -/
def RcW (lo hi : Nat) (W : World) (dv mv : Value) (ds : List Int) (ms : List (List (List Int))) : Prop :=
  CxW lo hi W dv mv ds ms ∧ ∃ I J, S1 lo hi W dv I ∧ S3 lo hi W mv J ∧ Nums lo hi W I ∧ Nums lo hi W J ∧ Disj J ∧ (∀ x ∈ I, ∀ y ∈ J, Apart x y) ∧ ivSize I ≤ 1048576 ∧ ivSize J ≤ 1152921504606846976
theorem RcW.same {lo hi : Nat} {W W' : World} {dv mv : Value} {ds : List Int} {ms : List (List (List Int))} (h : RcW lo hi W dv mv ds ms) (s : Same lo hi W W') : RcW lo hi W' dv mv ds ms := by
  obtain ⟨h0, I, J, h1, h2, h3, h4, h5⟩ := h
  exact ⟨h0.same s, I, J, h1, h2.same s, h3.same s, h4.same s, h5⟩
theorem RcW.cx {lo hi : Nat} {W : World} {dv mv : Value} {ds : List Int} {ms : List (List (List Int))} (h : RcW lo hi W dv mv ds ms) : Cx 0 W dv mv ds ms := h.1.cx.lower (Nat.zero_le _)
theorem RcW.wider {lo hi lo' hi' : Nat} {W : World} {dv mv : Value} {ds : List Int} {ms : List (List (List Int))} (h : RcW lo hi W dv mv ds ms) (h1 : lo' ≤ lo) (h2 : hi ≤ hi') : RcW lo' hi' W dv mv ds ms := by
  obtain ⟨h0, I, J, a, b, c, d, e⟩ := h
  exact ⟨⟨h0.dims.wider h1 h2, h0.maps.wider h1 h2⟩, I, J, a.wider h1 h2, b.wider h1 h2, c.wider h1 h2, d.wider h1 h2, e⟩
theorem RcW.nil (lo hi : Nat) (W : World) : RcW lo hi W (.slice none 0 0) (.slice none 0 0) [] [] :=
  ⟨⟨Or.inl ⟨rfl, _, _, rfl⟩, Or.inl ⟨rfl, _, _, rfl⟩⟩, [], [], Or.inl ⟨rfl, _, _, rfl⟩, ⟨none, 0, 0, fun _ => .slice none 0 0, fun _ => [], rfl, by omega, rfl, fun _ h => absurd h (Nat.not_lt_zero _), fun h => absurd h (Nat.lt_irrefl _)⟩, fun _ h => absurd h (by simp), fun _ h => absurd h (by simp), List.Pairwise.nil, fun _ h => absurd h (by simp), by simp [ivSize], by simp [ivSize]⟩
/-- Prime, dimensions and tables of a complex. -/
abbrev Co := Int × List Int × List (List (List Int))
def RwC (lo hi : Nat) (W : World) (u : Value) (o : Co) : Prop := ∃ ad cd am cm, u = .agg #[.int .i64 o.1, .slice ad o.2.1.length cd, .slice am o.2.2.length cm] ∧ RcW lo hi W (.slice ad o.2.1.length cd) (.slice am o.2.2.length cm) o.2.1 o.2.2
def RsC (W : World) (u : Value) (o : Co) : Prop := ∃ ad cd am cm, u = .agg #[.int .i64 o.1, .slice ad o.2.1.length cd, .slice am o.2.2.length cm] ∧ Cx 0 W (.slice ad o.2.1.length cd) (.slice am o.2.2.length cm) o.2.1 o.2.2
theorem RwC.nil (lo hi : Nat) (W : World) : RwC lo hi W (.agg #[.int .i64 0, .slice none 0 0, .slice none 0 0]) (0, [], []) := ⟨none, 0, none, 0, rfl, RcW.nil _ _ _⟩
theorem RsC.nil (W : World) : RsC W (.agg #[.int .i64 0, .slice none 0 0, .slice none 0 0]) (0, [], []) := ⟨none, 0, none, 0, rfl, ⟨Or.inl ⟨rfl, _, _, rfl⟩, Or.inl ⟨rfl, _, _, rfl⟩⟩⟩
/-- What a law asks of a complex that it compares. -/
def CoB (o : Co) : Prop := o.2.1.length ≤ 1048576 ∧ Bd3 1048576 o.2.2

/-- The same with the marks from 1 on in it. -/
def HcW (lo hi : Nat) (W : World) (dv mv : Value) (m : Int) : Prop :=
  ∃ I J, S1 lo hi W dv I ∧ S3 lo hi W mv J ∧ Marked W I 1 ∧ Marked W J (1 + (ivSize I : Int)) ∧ (∀ x ∈ I, lo ≤ x.1 ∧ x.1 < hi) ∧ (∀ x ∈ J, lo ≤ x.1 ∧ x.1 < hi) ∧ m = 1 + (ivSize I : Int) + (ivSize J : Int) ∧ ivSize I ≤ 1048576 ∧ ivSize J ≤ 1152921504606846976
theorem HcW.same {lo hi : Nat} {W W' : World} {dv mv : Value} {m : Int} (h : HcW lo hi W dv mv m) (s : Same lo hi W W') : HcW lo hi W' dv mv m := by
  obtain ⟨I, J, h1, h2, h3, h4, h5, h6, h7⟩ := h
  exact ⟨I, J, h1, h2.same s, h3.same h5 s, h4.same h6 s, h5, h6, h7⟩
/-- What the mark of a result leaves. -/
def MkRC (lo hi : Nat) (dv mv : Value) (w : World) (e : Ending) (w' : World) : Prop := ∃ (m : Int) (w1 : World), e = .returned (.int .i64 m) ∧ 1 ≤ m ∧ m ≤ 4611686018427387904 ∧ Below w.heap.size w w1 ∧ Only lo hi w1 w' ∧ HcW lo hi w' dv mv m

set_option maxHeartbeats 800000 in
theorem markRC_any {lo hi : Nat} (p : Int) (dv mv : Value) (ds : List Int) (ms : List (List (List Int))) (w : World) (h : RcW lo hi w dv mv ds ms) (hh : hi ≤ w.heap.size) :
    Calls Tryd.prog 12 #[.agg #[.int .i64 p, dv, mv], .int .i64 1] w (MkRC lo hi dv mv w) := by
  obtain ⟨_, I, J, h1, h2, h3, h4, h5, h6, h7, h8⟩ := h
  have hb0 : Below w.heap.size w (w.alloc (.cells #[.int .i64 p, dv, mv] 28)) := (Below.refl _ _).alloc (Nat.le_refl _) _
  have s : Same lo hi w (w.alloc (.cells #[.int .i64 p, dv, mv] 28)) := Same.of_below hb0 hh
  have HB0 := Lib.hid hb0
  have H1 := Lib.hid (show S1 lo hi (w.alloc (.cells #[.int .i64 p, dv, mv] 28)) dv I from h1)
  have H2 := Lib.hid (h2.same s)
  have H3 := Lib.hid (h3.same s)
  have H4 := Lib.hid (h4.same s)
  clear h1 h2 h3 h4 s hb0
  go_enter Tryd.func12, Tryd.ntmps12
  go_wp2_with fail
  refine (mark1s_any dv I 1 _ H1.out H3.out (by omega) (by omega)).mono ?_
  rintro e w1 ⟨rfl, ho, ht, hc, hm⟩
  have c2 : w1.cell? ⟨w.heap.size, 2, none⟩ = some mv := (ho.cell (Or.inr hh)).trans (by simp)
  have HO := Lib.hid (And.intro ho (And.intro ht hm))
  clear ho ht hc hm
  go_wp2_with fail
  refine (mark3s_any mv J (1 + (ivSize I : Int)) _ (H2.out.tame HO.out.2.1) (H4.out.tame HO.out.2.1) h5 (by omega) (by omega)).mono ?_
  rintro e w2 ⟨rfl, ho, ht, hc, hm⟩
  have HO2 := Lib.hid (And.intro (HO.out.1.trans ho) (And.intro ((H2.out.tame HO.out.2.1).tame ht) (And.intro (HO.out.2.2.keep hc h6) hm)))
  clear ho ht hc hm
  go_wp2
  go_ret
  exact ⟨_, _, rfl, by omega, by omega, HB0.out, HO2.out.1, I, J, H1.out, HO2.out.2.1, HO2.out.2.2.1, HO2.out.2.2.2, fun x hx => ⟨(H3.out x hx).1, (H3.out x hx).2.1⟩, fun x hx => ⟨(H4.out x hx).1, (H4.out x hx).2.1⟩, rfl, h7, h8⟩
set_option maxHeartbeats 800000 in
theorem heldRC_any {lo hi : Nat} (p : Int) (dv mv : Value) (m : Int) (w : World) (h : HcW lo hi w dv mv m) (hh : hi ≤ w.heap.size) :
    Calls Tryd.prog 14 #[.agg #[.int .i64 p, dv, mv], .int .i64 1] w (BR (.int .i64 m) w) := by
  obtain ⟨I, J, h1, h2, h3, h4, h5, h6, rfl, h7, h8⟩ := h
  have hb0 : Below w.heap.size w (w.alloc (.cells #[.int .i64 p, dv, mv] 28)) := (Below.refl _ _).alloc (Nat.le_refl _) _
  have s : Same lo hi w (w.alloc (.cells #[.int .i64 p, dv, mv] 28)) := Same.of_below hb0 hh
  have HB0 := Lib.hid hb0
  have H1 := Lib.hid (show S1 lo hi (w.alloc (.cells #[.int .i64 p, dv, mv] 28)) dv I from h1)
  have H2 := Lib.hid (h2.same s)
  have H3 := Lib.hid (h3.same h5 s)
  have H4 := Lib.hid (h4.same h6 s)
  have hn1 : ¬ (1 + (ivSize I : Int)) < 0 := by omega
  have hn2 : ¬ (1 + (ivSize I : Int) + (ivSize J : Int)) < 0 := by omega
  clear h1 h2 h3 h4 s hb0 h5 h6
  go_enter Tryd.func14, Tryd.ntmps14
  go_wp2_with fail
  refine (held1s_any dv I 1 _ H1.out H3.out (by omega) (by omega)).mono ?_
  rintro e w1 ⟨rfl, rfl⟩
  go_wp2_with fail
  refine (held3s_any mv J (1 + (ivSize I : Int)) _ H2.out H4.out (by omega) (by omega)).mono ?_
  rintro e w2 ⟨rfl, rfl⟩
  go_wp2
  go_ret
  exact ⟨rfl, HB0.out⟩

/-- The box of a complex, its three cells alone. -/
structure Bc (wr : World) (b : Nat) (p : Int) (dv mv : Value) : Prop where
  c0 : wr.cell? ⟨b, 0, none⟩ = some (.int .i64 p)
  c1 : wr.cell? ⟨b, 1, none⟩ = some dv
  c2 : wr.cell? ⟨b, 2, none⟩ = some mv
  lt : b < wr.heap.size
theorem Bc.start (w : World) (p : Int) (dv mv : Value) (t : TypeId) : Bc (w.alloc (.cells #[.int .i64 p, dv, mv] t)) w.heap.size p dv mv := ⟨by simp, by simp, by simp, by simp⟩
theorem Bc.next {wr w' : World} {b : Nat} {p : Int} {dv mv : Value} (h : Bc wr b p dv mv) (hb : Below wr.heap.size wr w') : Bc w' b p dv mv :=
  ⟨later hb (Nat.le_refl _) h.c0, later hb (Nat.le_refl _) h.c1, later hb (Nat.le_refl _) h.c2, Nat.lt_of_lt_of_le h.lt hb.size⟩
theorem Bc.only {wr w' : World} {b lo hi : Nat} {p : Int} {dv mv : Value} (h : Bc wr b p dv mv) (ho : Only lo hi wr w') (hb : b < lo ∨ hi ≤ b) : Bc w' b p dv mv :=
  ⟨(ho.cell hb).trans h.c0, (ho.cell hb).trans h.c1, (ho.cell hb).trans h.c2, by have := ho.size; have := h.lt; omega⟩

/-- A row of numbers in a block of its own. -/
theorem row_rc {W : World} {g n lo : Nat} {f : Nat → Value} {xs : List Int} (h : W.rowIs g 2 n f) (hl : xs.length = n) (hf : ∀ i (h : i < xs.length), f i = .int .i64 xs[i]) (hn : n ≤ 1048576) (hb : lo ≤ g) :
    W1 lo W.heap.size W (.slice (some ⟨g, 0, none⟩) n n) xs ∧ ∃ I, S1 lo W.heap.size W (.slice (some ⟨g, 0, none⟩) n n) I ∧ Nums lo W.heap.size W I ∧ (∀ x ∈ I, x.1 = g) ∧ ivSize I ≤ 1048576 := by
  have hlt := h.lt
  by_cases h0 : n = 0
  · subst h0
    exact ⟨Or.inl ⟨List.eq_nil_of_length_eq_zero hl, _, _, rfl⟩, [], Or.inl ⟨rfl, _, _, rfl⟩, fun _ hx => absurd hx (by simp), fun _ hx => absurd hx (by simp), by simp [ivSize]⟩
  · refine ⟨Or.inr ⟨g, 0, n, by rw [hl], hb, hlt, by omega, fun k hk => ⟨f k, by rw [Nat.zero_add]; exact h.cell (by omega), hf k hk⟩, fun k _ => h.frozen _⟩, [(g, 0, n)], Or.inr ⟨g, 0, n, n, rfl, by omega, hn, hb, hlt, rfl⟩, fun x hx => ?_, fun x hx => ?_, by simpa [ivSize] using hn⟩
    · obtain rfl : x = (g, 0, n) := by simpa using hx
      exact ⟨hb, hlt, fun i hi => ⟨⟨xs[i]'(by rw [hl]; exact hi), by rw [Nat.zero_add, ← hf i (by rw [hl]; exact hi)]; exact h.cell hi⟩, h.frozen _⟩⟩
    · obtain rfl : x = (g, 0, n) := by simpa using hx
      rfl
end Go.Proofs.YtpdkfidmmjlmnabDoor


namespace Go.Proofs.YtpdkfidmmjlmnabDoor
open Go.RowKit

/-- The three cells of a box of a complex. -/
def box3 (p : Int) (a b : Value) : Nat → Value := fun i => if i = 0 then .int .i64 p else if i = 1 then a else b
/-- The dual while it is being made: its box, its list of dimensions, its list of tables, each in a block of its own. -/
structure Du (w wx : World) (g bd bm n m : Nat) (p : Int) (D M : Nat → Value) : Prop where
  below : Below w.heap.size w wx
  lo : w.heap.size ≤ g ∧ w.heap.size ≤ bd ∧ w.heap.size ≤ bm
  ne : g ≠ bd ∧ g ≠ bm ∧ bd ≠ bm
  box : wx.rowIs g 28 3 (box3 p (.slice (some ⟨bd, 0, none⟩) n n) (.slice (some ⟨bm, 0, none⟩) m m))
  dims : wx.rowIs bd 2 n D
  maps : wx.rowIs bm 39 m M
theorem Du.setD {w wx : World} {g bd bm n m : Nat} {p : Int} {D M : Nat → Value} (h : Du w wx g bd bm n m p D M) (k : Nat) (v : Value) : Du w (wx.setCell ⟨bd, k, none⟩ v) g bd bm n m p (fun j => if j = k then v else D j) M :=
  ⟨h.below.setCell h.lo.2.1 _, h.lo, h.ne, h.box.setOther h.ne.1 _, h.dims.set k v, h.maps.setOther (Ne.symm h.ne.2.2) _⟩
theorem Du.drew {w wx : World} {g bd bm n m : Nat} {p : Int} {D M : Nat → Value} (h : Du w wx g bd bm n m p D M) : Du w wx.drew g bd bm n m p D M := ⟨h.below.drew, h.lo, h.ne, h.box.drew, h.dims.drew, h.maps.drew⟩
theorem Du.next {w wx w' : World} {g bd bm n m : Nat} {p : Int} {D M : Nat → Value} (h : Du w wx g bd bm n m p D M) (hb : Below wx.heap.size wx w') : Du w w' g bd bm n m p D M :=
  ⟨h.below.trans (hb.mono h.below.size), h.lo, h.ne, h.box.of_block (hb.block _ h.box.lt), h.dims.of_block (hb.block _ h.dims.lt), h.maps.of_block (hb.block _ h.maps.lt)⟩
theorem Du.congr {w wx : World} {g bd bm n m : Nat} {p : Int} {D D' M : Nat → Value} (h : Du w wx g bd bm n m p D M) (e : ∀ j, j < n → D j = D' j) : Du w wx g bd bm n m p D' M := ⟨h.below, h.lo, h.ne, h.box, h.dims.congr e, h.maps⟩
/-- The list of dimensions, k of them laid. -/
def duD (ds : List Int) (k : Nat) : Nat → Value := fun j => .int .i64 (if j < k then ds.getD (ds.length - 1 - j) 0 else 0)
/-- A table at the block b: its row of rows there, row j at b + 1 + j. -/
structure TabAt (w : World) (b r c : Nat) (Z : Nat → Nat → Int) : Prop where
  top : w.rowIs b 22 r (fun j => .slice (some ⟨b + 1 + j, 0, none⟩) c c)
  rows : ∀ j, j < r → w.rowIs (b + 1 + j) 2 c (fun i => .int .i64 (Z j i))
theorem Mat.at {w w' : World} {r c : Nat} {Z : Nat → Nat → Int} (h : Mat w w' r c Z) : TabAt w' w.heap.size r c Z := ⟨h.top, h.rows⟩
theorem TabAt.below {w w' : World} {b r c : Nat} {Z : Nat → Nat → Int} (h : TabAt w b r c Z) (hb : Below w.heap.size w w') : TabAt w' b r c Z :=
  ⟨h.top.of_block (hb.block _ h.top.lt), fun j hj => (h.rows j hj).of_block (hb.block _ (h.rows j hj).lt)⟩
theorem TabAt.set {w : World} {b r c : Nat} {Z : Nat → Nat → Int} (h : TabAt w b r c Z) {a : Addr} (ha : a.block < b) (v : Value) : TabAt (w.setCell a v) b r c Z :=
  ⟨h.top.setOther (by omega) v, fun j hj => (h.rows j hj).setOther (by omega) v⟩
/-- The tables of the dual, k of them laid, one behind the other. -/
structure Ts (lo : Nat) (w : World) (bs r c : Nat → Nat) (Z : Nat → Nat → Nat → Int) (k : Nat) : Prop where
  at' : ∀ j, j < k → TabAt w (bs j) (r j) (c j) (Z j)
  lo' : ∀ j, j < k → lo ≤ bs j
  hi : ∀ j, j < k → bs j + 1 + r j ≤ w.heap.size
  inc : ∀ i j, i < j → j < k → bs i + 1 + r i ≤ bs j
def duR (ds : List Int) (m : Nat) (j : Nat) : Nat := (ds.getD (m - 1 - j) 0).toNat
def duC (ms : List (List (List Int))) (j : Nat) : Nat := (ms.getD (ms.length - 1 - j) []).length
def duZ (ms : List (List (List Int))) (j a b : Nat) : Int := ((ms.getD (ms.length - 1 - j) []).getD b []).getD a 0
def duM (bs r : Nat → Nat) (k : Nat) : Nat → Value := fun j => if j < k then .slice (some ⟨bs j, 0, none⟩) (r j) (r j) else .slice none 0 0
theorem Ts.step {lo k : Nat} {w w1 : World} {bs r c : Nat → Nat} {Z : Nat → Nat → Nat → Int} (h : Ts lo w bs r c Z k) (hm : Mat w w1 (r k) (c k) (Z k)) (hlo : lo ≤ w.heap.size) {a : Addr} (ha : a.block < lo) (v : Value) :
    Ts lo (w1.setCell a v) (fun j => if j = k then w.heap.size else bs j) r c Z (k + 1) := by
  refine ⟨fun j hj => ?_, fun j hj => ?_, fun j hj => ?_, fun i j hi hj => ?_⟩
  · by_cases e : j = k
    · subst e
      simp only [if_true]
      exact hm.at.set (by omega) v
    · simp only [if_neg e]
      have hj' : j < k := by omega
      have := h.lo' j hj'
      exact ((h.at' j hj').below hm.below).set (by omega) v
  · by_cases e : j = k
    · simp only [if_pos e]; exact hlo
    · simp only [if_neg e]; exact h.lo' j (by omega)
  · by_cases e : j = k
    · subst e
      simp [hm.size]
    · simp only [if_neg e]
      have := h.hi j (by omega)
      have := hm.below.size
      simp
      omega
  · by_cases e : j = k
    · subst e
      rw [if_neg (by omega), if_pos rfl]
      exact h.hi i hi
    · rw [if_neg (by omega), if_neg e]
      exact h.inc i j hi (by omega)
theorem Ts.drew {lo k : Nat} {w : World} {bs r c : Nat → Nat} {Z : Nat → Nat → Nat → Int} (h : Ts lo w bs r c Z k) : Ts lo w.drew bs r c Z k :=
  ⟨fun j hj => ⟨(h.at' j hj).top.drew, fun i hi => ((h.at' j hj).rows i hi).drew⟩, h.lo', h.hi, h.inc⟩
end Go.Proofs.YtpdkfidmmjlmnabDoor


namespace Go.Proofs.YtpdkfidmmjlmnabDoor
open Go.RowKit

/-- The dimension of a degree, 0 beyond the top. -/
def dimZ (ds : List Int) (n : Int) : Int := if 0 ≤ n ∧ n ≤ (ds.length : Int) - 1 then ds.getD n.toNat 0 else 0

set_option maxHeartbeats 800000 in
theorem l01Dim_any (p n : Int) (dv mv : Value) (ds : List Int) (ms : List (List (List Int))) (w : World) (h : Cx 0 w dv mv ds ms) (hd : ds.length ≤ 1048576) :
    Calls Tryd.prog 32 #[.agg #[.int .i64 p, dv, mv], .int .i64 n] w (BR (.int .i64 (dimZ ds n)) w) := by
  have hx0 := Bx.start (p := p) 28 h
  have HX0 := Lib.hid hx0
  have H := Lib.hid h
  clear h hx0
  by_cases hr : 0 ≤ n ∧ n ≤ (ds.length : Int) - 1
  · have hdz : dimZ ds n = ds.getD n.toNat 0 := if_pos hr
    rw [hdz]
    clear hdz
    obtain ⟨q, rfl⟩ : ∃ q : Nat, n = (q : Int) := ⟨n.toNat, by omega⟩
    have hq : q < ds.length := by omega
    have HR := Lib.hid hr
    clear hr
    refine Sl.cases H.out.dims (fun _ _ hx _ => absurd hq (by simp [hx])) (fun bd od capd hv _ hposd hcld => ?_)
    obtain ⟨u, hu, hru⟩ := hcld q hq
    subst hv
    have hu2 := later HX0.out.below (Nat.le_refl _) hu
    obtain ⟨x, hx⟩ : ∃ x, x = ds[q] := ⟨_, rfl⟩
    rw [hru, ← hx] at hu2
    have HX : Hid (ds.getD (q : Int).toNat 0 = x) := Lib.hid (by rw [hx, Int.toNat_natCast, getD_of_lt _ hq])
    clear hx hu hru hcld
    go_enter Tryd.func32, Tryd.ntmps32
    go_wp2_with fail
    refine (spin_yes HR.out _).mono ?_
    rintro e w' ⟨rfl, rfl⟩
    go_wp2
    go_ret
    exact ⟨ret_int HX.out.symm, HX0.out.below⟩
  · have hdz : dimZ ds n = 0 := if_neg hr
    rw [hdz]
    clear hdz
    have HR := Lib.hid hr
    clear hr
    obtain ⟨ad, cap, rfl⟩ := Sl.shape H.out.dims
    go_enter Tryd.func32, Tryd.ntmps32
    go_wp2_with fail
    refine (spin_no HR.out _).mono ?_
    rintro e w' ⟨rfl, rfl⟩
    go_wp2
    go_ret
    exact ⟨rfl, HX0.out.below⟩

/-- The rows of the differential of a degree; for the degree 0, and beyond the top, rows without numbers. -/
def mapZ (ds : List Int) (ms : List (List (List Int))) (n : Int) : List (List Int) := if 1 ≤ n ∧ n ≤ (ds.length : Int) - 1 then ms.getD (n.toNat - 1) [] else List.replicate (dimZ ds n).toNat []
def L2R (xs : List (List Int)) (w : World) (e : Ending) (w' : World) : Prop := ∃ v, e = .returned v ∧ L2 0 w' v xs ∧ Below w.heap.size w w'

end Go.Proofs.YtpdkfidmmjlmnabDoor

namespace Go.Proofs.YtpdkfidmmjlmnabDoor
open Go.RowKit

end Go.Proofs.YtpdkfidmmjlmnabDoor

namespace Go.Proofs.YtpdkfidmmjlmnabDoor
open Go.RowKit

set_option maxHeartbeats 800000 in
theorem l01Map_in (p : Int) (q : Nat) (dv mv : Value) (ds : List Int) (ms : List (List (List Int))) (w : World) (h : Cx 0 w dv mv ds ms) (hd : ds.length ≤ 1048576) (hl : ms.length + 1 = ds.length) (hq : q < ms.length) :
    Calls Tryd.prog 50 #[.agg #[.int .i64 p, dv, mv], .int .i64 ((q : Int) + 1)] w (L2R (ms.getD q []) w) := by
  have HX0 := Lib.hid (Bx.start (p := p) 28 h)
  have H := Lib.hid h
  have HL := Lib.hid hl
  have hr : 1 ≤ (q : Int) + 1 ∧ (q : Int) + 1 ≤ (ds.length : Int) - 1 := by omega
  have HR := Lib.hid hr
  have hqb : q < 1048576 := by omega
  obtain ⟨ad, cap, rfl⟩ := Sl.shape h.dims
  refine Sl.cases H.out.maps (fun _ _ hx _ => absurd hq (by simp [hx])) (fun bm om capm hv _ hposm hclm => ?_)
  obtain ⟨u, hu, hru⟩ := hclm q hq
  subst hv
  have hu2 := later HX0.out.below (Nat.le_refl _) hu
  have HRU : Hid (L2 0 w u (ms.getD q [])) := Lib.hid (by rw [getD_of_lt _ hq]; exact hru)
  clear hu hru hclm hl hr h
  go_enter Tryd.func50, Tryd.ntmps50
  go_wp2_with fail
  refine (spin_yes HR.out _).mono ?_
  rintro e w' ⟨rfl, rfl⟩
  go_wp2
  go_ret
  exact ⟨_, rfl, HRU.out.below HX0.out.below, HX0.out.below⟩

set_option maxHeartbeats 1600000 in
theorem l01Map_out (p n : Int) (d : Nat) (dv mv : Value) (ds : List Int) (ms : List (List (List Int))) (w : World) (h : Cx 0 w dv mv ds ms) (hd : ds.length ≤ 1048576) (hr : ¬ (1 ≤ n ∧ n ≤ (ds.length : Int) - 1)) (hdz : dimZ ds n = (d : Int)) (hd8 : d ≤ 8) :
    Calls Tryd.prog 50 #[.agg #[.int .i64 p, dv, mv], .int .i64 n] w (L2R (List.replicate d []) w) := by
  have HX0 := Lib.hid (Bx.start (p := p) 28 h)
  have HR := Lib.hid hr
  have HDZ := Lib.hid hdz
  obtain ⟨ad, cap, rfl⟩ := Sl.shape h.dims
  obtain ⟨i0, hi, hz0, hz1, hz2⟩ := info_parts Tryd.infoS
  clear h hr hdz
  go_enter Tryd.func50, Tryd.ntmps50
  go_wp2_with fail
  refine (spin_no HR.out _).mono ?_
  rintro e w' ⟨rfl, rfl⟩
  go_wp2
  have hown0 := World.ownsRow_made (base := w.heap.size + 1) (e := 22) (size := 1) (w.alloc (.cells #[.int .i64 p, .slice ad ds.length cap, mv] 28)) #[] 0 (by simp) (by unfold maxLen; omega) (by simp)
  have hb1 : Below (w.heap.size + 1) (w.alloc (.cells #[.int .i64 p, .slice ad ds.length cap, mv] 28)) ((w.alloc (.cells #[.int .i64 p, .slice ad ds.length cap, mv] 28)).alloc (.cells #[] 22)) := (Below.refl _ _).alloc (by simp) _
  have HB1 := Lib.hid hb1
  have HOWN0 := Lib.hid hown0
  have HNX : Hid (∀ W, Below (w.heap.size + 1) (w.alloc (.cells #[.int .i64 p, .slice ad ds.length cap, mv] 28)) W → Bx w W w.heap.size p (.slice ad ds.length cap) mv ds ms) := Lib.hid (fun W hb => HX0.out.next (by simpa using hb))
  clear hb1 hown0
  go_loopw [5, 6] (fun o i wr => ∃ (k : Nat) (vs : List Value), k ≤ d ∧ i = .int .i64 k ∧ Hid (Below (w.heap.size + 1) (w.alloc (.cells #[.int .i64 p, .slice ad ds.length cap, mv] 28)) wr) ∧ Hid (wr.ownsRow (w.heap.size + 1) 22 1 o k vs) ∧ Hid (∀ u ∈ vs, ∃ a c, u = .slice a 0 c)) (fun _ i _ => d - (intOf i).toNat)
  case atStart => exact ⟨0, [], Nat.zero_le _, rfl, HB1, Lib.hid (by simpa using HOWN0.out), Lib.hid (by simp)⟩
  case round =>
    obtain ⟨k, vs, hk, rfl, HBE, HO, HV⟩ := hrel
    have HX := Lib.hid (HNX.out _ HBE.out)
    have c0 := HX.out.c0
    have c1 := HX.out.c1
    have c2 := HX.out.c2
    go_wp2_with fail
    have hdim := l01Dim_any p n _ mv ds ms _ HX.out.cx hd
    rw [HDZ.out] at hdim
    refine hdim.mono ?_
    clear hdim
    rintro e w2 ⟨rfl, hb2⟩
    have hsz : w.heap.size + 1 ≤ wr.heap.size := by have := HBE.out.size; simpa using this
    have HB2 := Lib.hid (HBE.out.trans (hb2.mono hsz))
    have HO2 := Lib.hid (owns_below HO.out hb2)
    have hsz2 : w.heap.size + 1 ≤ w2.heap.size := by have := hb2.size; omega
    clear hb2 c0 c1 c2
    by_cases hlt : k < d
    · go_wp2_with (at_builtin; refine wpList_append_own _ rfl (.tmp 27) (.tmp 29) 39 rfl (w.heap.size + 1) 22 i0 (.slice none 0 0) 1 24 Tryd.underlying39 hi hz0 hz1 hz2 rfl (by decide) _ _ _ rfl ((HO2.out.alloc _).alloc _) ⟨w2.heap.size + 1, 0, none⟩ 1 1 [.slice (some ⟨w2.heap.size, 0, none⟩) 0 0] rfl rfl ?c1 ?c2 ?c3 ?c4 ?c5 ?_)
      case c1 =>
        intro j u hj
        match j, hj with
        | 0, hj => simp at hj; subst hj; simp [Addr.add]
      case c2 => intro u hu; simp at hu; subst hu; rfl
      case c3 => unfold maxLen; omega
      case c4 => omega
      case c5 => simp; omega
      intro v' w3 hown' hgrow _
      have HB3 : Hid (Below (w.heap.size + 1) (w.alloc (.cells #[.int .i64 p, .slice ad ds.length cap, mv] 28)) w3) := Lib.hid (((HB2.out.alloc hsz2 _).alloc (by simp; omega) _).grown hgrow (by simp; omega) (fun g hg => ((HO2.out.lt) g hg).1))
      have HO3 := Lib.hid hown'
      clear hown' hgrow
      go_wp2
      go_roundw
      case rel => exact ⟨k + 1, _, by omega, by go_num, HB3, HO3, Lib.hid (fun u hu => by
        rcases List.mem_append.1 hu with h1 | h1
        · exact HV.out u h1
        · simp at h1
          exact ⟨_, _, h1⟩)⟩
      case measure => simp [intOf]; omega
    · have hkk : Hid (k = d) := Lib.hid (by omega)
      go_wp2
      go_ret
      refine ⟨_, rfl, sl_of_owns HO2.out (Nat.zero_le _) (by simp [hkk.out]) (fun j h1 h2 => ?_), (HNX.out _ HB2.out).below⟩
      obtain ⟨a, c, hu⟩ := HV.out _ (List.getElem_mem h2)
      exact Or.inl ⟨by simp, a, c, hu⟩

/-- What l01Map answers of a complex, for every degree. -/
theorem l01Map_any (p n : Int) (dv mv : Value) (ds : List Int) (ms : List (List (List Int))) (w : World) (h : Cx 0 w dv mv ds ms) (hcx : IsCx p ds ms) :
    Calls Tryd.prog 50 #[.agg #[.int .i64 p, dv, mv], .int .i64 n] w (L2R (mapZ ds ms n) w) := by
  have hl6 := hcx.1.len1
  by_cases hr : 1 ≤ n ∧ n ≤ (ds.length : Int) - 1
  · rw [mapZ, if_pos hr]
    obtain ⟨q, rfl⟩ : ∃ q : Nat, n = (q : Int) + 1 := ⟨(n - 1).toNat, by omega⟩
    have e : ((q : Int) + 1).toNat - 1 = q := by omega
    rw [e]
    exact l01Map_in p q dv mv ds ms w h (by omega) hcx.1.mlen (by have := hcx.1.mlen; omega)
  · rw [mapZ, if_neg hr]
    have hd : 0 ≤ dimZ ds n ∧ dimZ ds n ≤ 8 := by
      unfold dimZ
      split
      · exact hcx.1.dim _
      · omega
    obtain ⟨d, hdd⟩ := Int.eq_ofNat_of_zero_le hd.1
    have e : (dimZ ds n).toNat = d := by omega
    rw [e]
    exact l01Map_out p n d dv mv ds ms w h (by omega) hr hdd (by omega)
end Go.Proofs.YtpdkfidmmjlmnabDoor


namespace Go.Proofs.YtpdkfidmmjlmnabDoor
open Go.RowKit

theorem far {w : World} {b o b2 o2 : Nat} {u v : Value} (h : b ≠ b2) (hc : w.cell? ⟨b2, o2, none⟩ = some u) : (w.setCell ⟨b, o, none⟩ v).cell? ⟨b2, o2, none⟩ = some u := (World.cell?_setCell_far w _ _ v h).trans hc
/-- Three cells of a block. -/
def sel3 (x y z : Value) : Nat → Value := fun i => if i = 0 then x else if i = 1 then y else z
theorem rowIs3 {w : World} {b : Nat} {x y z : Value} {t : TypeId} (h : w.heap[b]? = some (.cells #[x, y, z] t)) : w.rowIs b t 3 (sel3 x y z) :=
  ⟨#[x, y, z], h, rfl, fun i hi => by
    match i, hi with
    | 0, _ => rfl
    | 1, _ => rfl
    | 2, _ => rfl⟩
theorem Ts.set {lo k : Nat} {w : World} {bs r c : Nat → Nat} {Z : Nat → Nat → Nat → Int} (h : Ts lo w bs r c Z k) {a : Addr} (ha : a.block < lo) (v : Value) : Ts lo (w.setCell a v) bs r c Z k :=
  ⟨fun j hj => (h.at' j hj).set (by have := h.lo' j hj; omega) v, h.lo', fun j hj => by have := h.hi j hj; simpa using this, h.inc⟩

/-- The dual as it lies behind the call: its dimensions, its tables' heads, its tables. -/
structure DuAt (w w' : World) (ds : List Int) (ms : List (List (List Int))) (bd bm : Nat) : Prop where
  below : Below w.heap.size w w'
  lo : w.heap.size ≤ bd ∧ w.heap.size ≤ bm ∧ bd ≠ bm
  dims : w'.rowIs bd 2 ds.length (duD ds ds.length)
  tabs : ∃ (lo : Nat) (bs : Nat → Nat), bd < lo ∧ bm < lo ∧ w'.rowIs bm 39 ms.length (duM bs (duR ds ms.length) ms.length) ∧ Ts lo w' bs (duR ds ms.length) (duC ms) (duZ ms) ms.length
theorem DuAt.set {w w' : World} {ds : List Int} {ms : List (List (List Int))} {bd bm : Nat} (h : DuAt w w' ds ms bd bm) {a : Addr} (h0 : w.heap.size ≤ a.block) (h1 : a.block < bd) (h2 : a.block < bm) (v : Value) : DuAt w (w'.setCell a v) ds ms bd bm := by
  obtain ⟨lo, bs, a1, a2, a3, a4⟩ := h.tabs
  exact ⟨h.below.setCell h0 _, h.lo, h.dims.setOther (by omega) _, lo, bs, a1, a2, a3.setOther (by omega) _, a4.set (by omega) _⟩

end Go.Proofs.YtpdkfidmmjlmnabDoor


namespace Go.Proofs.YtpdkfidmmjlmnabDoor
open Go.RowKit

set_option maxHeartbeats 800000 in
theorem dimAt_any (p n : Int) (dv mv : Value) (ds : List Int) (ms : List (List (List Int))) (w : World) (h : Cx 0 w dv mv ds ms) (hd : ds.length ≤ 1048576) :
    Calls Tryd.prog 40 #[.agg #[.int .i64 p, dv, mv], .int .i64 n] w (BR (.int .i64 (dimZ ds n)) w) := by
  have HX0 := Lib.hid (Bx.start (p := p) 28 h)
  obtain ⟨ad, cap, hdv⟩ := Sl.shape h.dims
  clear h
  by_cases hr : 0 ≤ n ∧ n ≤ (ds.length : Int) - 1
  · have hdz : dimZ ds n = ds.getD n.toNat 0 := if_pos hr
    rw [hdz]
    clear hdz
    obtain ⟨q, rfl⟩ : ∃ q : Nat, n = (q : Int) := ⟨n.toNat, by omega⟩
    have hq : q < ds.length := by omega
    have HR := Lib.hid hr
    clear hr
    refine Sl.cases HX0.out.cx.dims (fun _ _ hx _ => absurd hq (by simp [hx])) (fun bd od capd hv _ hposd hcld => ?_)
    obtain ⟨u, hu, hru⟩ := hcld q hq
    subst hv
    injection hdv with e1 e2 e3
    clear e2
    subst e1 e3
    obtain ⟨x, hx⟩ : ∃ x, x = ds[q] := ⟨_, rfl⟩
    rw [hru, ← hx] at hu
    have HX : Hid (ds.getD (q : Int).toNat 0 = x) := Lib.hid (by rw [hx, Int.toNat_natCast, getD_of_lt _ hq])
    have HTOP := fun W => topOf_any p (.slice (some ⟨bd, od, none⟩) ds.length capd) mv ds.length (some ⟨bd, od, none⟩) capd W rfl hd
    have c0 := HX0.out.c0
    have c1 := HX0.out.c1
    have c2 := HX0.out.c2
    clear hx hru hcld hposd
    go_enter Tryd.func40, Tryd.ntmps40
    go_wp2_with fail
    refine (HTOP _).mono ?_
    rintro e w1 ⟨rfl, hb1⟩
    have HX1 := Lib.hid (HX0.out.next hb1)
    have hu1 := later hb1 (Nat.le_refl _) hu
    clear hb1 c0 c1 c2 hu HX0
    have c1 := HX1.out.c1
    go_wp2_with fail
    refine (in_yes HR.out _).mono ?_
    rintro e w' ⟨rfl, rfl⟩
    go_wp2
    go_ret
    exact ⟨ret_int HX.out.symm, HX1.out.below⟩
  · have hdz : dimZ ds n = 0 := if_neg hr
    rw [hdz]
    clear hdz
    subst hdv
    have HR := Lib.hid hr
    have HTOP := fun W => topOf_any p (.slice ad ds.length cap) mv ds.length ad cap W rfl hd
    have c0 := HX0.out.c0
    have c1 := HX0.out.c1
    have c2 := HX0.out.c2
    clear hr
    go_enter Tryd.func40, Tryd.ntmps40
    go_wp2_with fail
    refine (HTOP _).mono ?_
    rintro e w1 ⟨rfl, hb1⟩
    have HX1 := Lib.hid (HX0.out.next hb1)
    clear hb1 c0 c1 c2 HX0
    go_wp2_with fail
    refine (in_no HR.out _).mono ?_
    rintro e w' ⟨rfl, rfl⟩
    go_wp2
    go_ret
    exact ⟨rfl, HX1.out.below⟩

theorem dimZ_b {p : Int} {ds : List Int} {ms : List (List (List Int))} (h : IsCx p ds ms) (n : Int) : 0 ≤ dimZ ds n ∧ dimZ ds n ≤ 8 := by
  unfold dimZ
  by_cases hr : 0 ≤ n ∧ n ≤ (ds.length : Int) - 1
  · rw [if_pos hr]
    exact h.1.dim _
  · rw [if_neg hr]
    omega
open Classical in
/-- The code of two complexes. -/
noncomputable def endCode (p p2 : Int) (ds : List Int) (ms : List (List (List Int))) (ds2 : List Int) (ms2 : List (List (List Int))) : Int :=
  if ¬ (IsCx p ds ms ∧ IsCx p2 ds2 ms2) then 1 else if p = p2 ∧ ds.length = ds2.length then 0 else 2
structure EndOk (p p2 : Int) (ds : List Int) (ms : List (List (List Int))) (ds2 : List Int) (ms2 : List (List (List Int))) : Prop where
  x : IsCx p ds ms
  y : IsCx p2 ds2 ms2
  prime : p = p2
  len : ds.length = ds2.length
theorem endCode_zero {p p2 : Int} {ds : List Int} {ms : List (List (List Int))} {ds2 : List Int} {ms2 : List (List (List Int))} (h : endCode p p2 ds ms ds2 ms2 = 0) : EndOk p p2 ds ms ds2 ms2 := by
  unfold endCode at h
  by_cases h1 : IsCx p ds ms ∧ IsCx p2 ds2 ms2
  · rw [if_neg (fun k => k h1)] at h
    by_cases h2 : p = p2 ∧ ds.length = ds2.length
    · exact ⟨h1.1, h1.2, h2.1, h2.2⟩
    · rw [if_neg h2] at h
      cases h
  · rw [if_pos h1] at h
    cases h
theorem EndOk.code {p p2 : Int} {ds : List Int} {ms : List (List (List Int))} {ds2 : List Int} {ms2 : List (List (List Int))} (h : EndOk p p2 ds ms ds2 ms2) : endCode p p2 ds ms ds2 ms2 = 0 := by
  unfold endCode
  rw [if_neg (fun k => k ⟨h.x, h.y⟩), if_pos ⟨h.prime, h.len⟩]
theorem bb_no {P : Prop} {b : Bool} (h : b = true ↔ P) (hp : ¬ P) : b = false := by
  cases b with
  | false => rfl
  | true => exact absurd (h.1 rfl) hp

/-- Two boxes of two complexes. -/
theorem bx_two {w : World} {p p2 : Int} {dv mv dv2 mv2 : Value} {ds : List Int} {ms : List (List (List Int))} {ds2 : List Int} {ms2 : List (List (List Int))} (t : TypeId) (h : Cx 0 w dv mv ds ms) (h2 : Cx 0 w dv2 mv2 ds2 ms2) :
    Bx w ((w.alloc (.cells #[.int .i64 p, dv, mv] t)).alloc (.cells #[.int .i64 p2, dv2, mv2] t)) w.heap.size p dv mv ds ms ∧ Bx w ((w.alloc (.cells #[.int .i64 p, dv, mv] t)).alloc (.cells #[.int .i64 p2, dv2, mv2] t)) (w.heap.size + 1) p2 dv2 mv2 ds2 ms2 := by
  have b1 : Below w.heap.size w (w.alloc (.cells #[.int .i64 p, dv, mv] t)) := below_alloc1 _ _
  refine ⟨(Bx.start t h).next (below_alloc1 _ _), ?_⟩
  have := Bx.start (p := p2) t (h2.below b1)
  have hs : (w.alloc (.cells #[.int .i64 p, dv, mv] t)).heap.size = w.heap.size + 1 := by simp
  rw [hs] at this
  exact ⟨b1.trans (this.below.mono (by omega)), this.c0, this.c1, this.c2, this.lt, this.cx⟩

set_option maxHeartbeats 1600000 in
set_option maxRecDepth 100000 in
theorem l04Two_any (p p2 : Int) (dv mv dv2 mv2 : Value) (ds : List Int) (ms : List (List (List Int))) (ds2 : List Int) (ms2 : List (List (List Int))) (w : World) (h : Cx 0 w dv mv ds ms) (h2 : Cx 0 w dv2 mv2 ds2 ms2) (hd : ds.length ≤ 1048576) (hm : Bd3 1048576 ms) (hd2 : ds2.length ≤ 1048576) (hm2 : Bd3 1048576 ms2) :
    Calls Tryd.prog 44 #[.agg #[.int .i64 p, dv, mv], .agg #[.int .i64 p2, dv2, mv2]] w (BR (.int .i64 (endCode p p2 ds ms ds2 ms2)) w) := by
  obtain ⟨ad, cap, rfl⟩ := Sl.shape h.dims
  obtain ⟨am, capm, rfl⟩ := Sl.shape h.maps
  obtain ⟨ad2, cap2, rfl⟩ := Sl.shape h2.dims
  obtain ⟨am2, capm2, rfl⟩ := Sl.shape h2.maps
  obtain ⟨k1, k2⟩ := bx_two (p := p) (p2 := p2) 28 h h2
  have HX0 := Lib.hid k1
  have HY0 := Lib.hid k2
  have HM := Lib.hid hm
  have HM2 := Lib.hid hm2
  have c0 := k1.c0
  have c1 := k1.c1
  have c2 := k1.c2
  have d0 := k2.c0
  have d1 := k2.c1
  have d2 := k2.c2
  clear h h2 hm hm2 k1 k2
  by_cases hx : IsCx p ds ms
  · have HC := Lib.hid hx
    clear hx
    go_enter Tryd.func44, Tryd.ntmps44
    go_wp2_with fail
    refine (l01Is_any p _ _ ds ms _ HX0.out.cx hd HM.out).mono ?_
    rintro e w1 ⟨bb, rfl, hb1, hbb⟩
    obtain rfl : bb = true := hbb.2 HC.out
    have HX1 := Lib.hid (HX0.out.next hb1)
    have HY1 := Lib.hid (HY0.out.next hb1)
    clear hb1 hbb c0 c1 c2 d0 d1 d2 HX0 HY0
    have d0 := HY1.out.c0
    have d1 := HY1.out.c1
    have d2 := HY1.out.c2
    by_cases hy : IsCx p2 ds2 ms2
    · have HC2 := Lib.hid hy
      clear hy
      go_wp2_with fail
      refine (l01Is_any p2 _ _ ds2 ms2 _ HY1.out.cx hd2 HM2.out).mono ?_
      rintro e w2 ⟨bb, rfl, hb2, hbb⟩
      obtain rfl : bb = true := hbb.2 HC2.out
      have HX2 := Lib.hid (HX1.out.next hb2)
      have HY2 := Lib.hid (HY1.out.next hb2)
      clear hb2 hbb d0 d1 d2 HX1 HY1
      have c0 := HX2.out.c0
      have c1 := HX2.out.c1
      have d0 := HY2.out.c0
      have d1 := HY2.out.c1
      by_cases hpp : p = p2
      · have HP := Lib.hid hpp
        have hp1 : (p != p2) = false := by simp [hpp]
        clear hpp
        by_cases hll : ds.length = ds2.length
        · have HL := Lib.hid hll
          have hl1 : (((ds.length : Nat) : Int) != ((ds2.length : Nat) : Int)) = false := by simp [hll]
          clear hll
          go_wp2
          go_ret
          exact ⟨ret_int (EndOk.code ⟨HC.out, HC2.out, HP.out, HL.out⟩).symm, HX2.out.below⟩
        · have HL := Lib.hid hll
          have hl1 : (((ds.length : Nat) : Int) != ((ds2.length : Nat) : Int)) = true := by
            have : ¬ ((ds.length : Int) = (ds2.length : Int)) := by omega
            simpa using this
          clear hll
          go_wp2
          go_ret
          refine ⟨ret_int ?_, HX2.out.below⟩
          unfold endCode
          rw [if_neg (fun k => k ⟨HC.out, HC2.out⟩), if_neg (fun k => HL.out k.2)]
      · have HP := Lib.hid hpp
        have hp1 : (p != p2) = true := by simp [hpp]
        clear hpp
        go_wp2
        go_ret
        refine ⟨ret_int ?_, HX2.out.below⟩
        unfold endCode
        rw [if_neg (fun k => k ⟨HC.out, HC2.out⟩), if_neg (fun k => HP.out k.1)]
    · have HC2 := Lib.hid hy
      clear hy
      go_wp2_with fail
      refine (l01Is_any p2 _ _ ds2 ms2 _ HY1.out.cx hd2 HM2.out).mono ?_
      rintro e w2 ⟨bb, rfl, hb2, hbb⟩
      obtain rfl : bb = false := bb_no hbb HC2.out
      have HX2 := Lib.hid (HX1.out.next hb2)
      clear hb2 hbb d0 d1 d2 HX1 HY1
      go_wp2
      go_ret
      refine ⟨ret_int ?_, HX2.out.below⟩
      unfold endCode
      rw [if_pos (fun k => HC2.out k.2)]
  · have HC := Lib.hid hx
    clear hx
    go_enter Tryd.func44, Tryd.ntmps44
    go_wp2_with fail
    refine (l01Is_any p _ _ ds ms _ HX0.out.cx hd HM.out).mono ?_
    rintro e w1 ⟨bb, rfl, hb1, hbb⟩
    obtain rfl : bb = false := bb_no hbb HC.out
    have HX1 := Lib.hid (HX0.out.next hb1)
    clear hb1 hbb c0 c1 c2 d0 d1 d2 HX0 HY0
    go_wp2
    go_ret
    refine ⟨ret_int ?_, HX1.out.below⟩
    unfold endCode
    rw [if_pos (fun k => HC.out k.1)]

/-- The cells of two complexes in a row. -/
structure Row2 (w : World) (b : Nat) (p p2 : Int) (dv mv dv2 mv2 : Value) : Prop where
  c0 : w.cell? ⟨b, 0, none⟩ = some (.int .i64 p)
  c1 : w.cell? ⟨b, 1, none⟩ = some dv
  c2 : w.cell? ⟨b, 2, none⟩ = some mv
  d0 : w.cell? ⟨b, 3, none⟩ = some (.int .i64 p2)
  d1 : w.cell? ⟨b, 4, none⟩ = some dv2
  d2 : w.cell? ⟨b, 5, none⟩ = some mv2
theorem Row2.next {w w' : World} {b : Nat} {p p2 : Int} {dv mv dv2 mv2 : Value} (h : Row2 w b p p2 dv mv dv2 mv2) (hb : Below w.heap.size w w') : Row2 w' b p p2 dv mv dv2 mv2 :=
  ⟨later hb (Nat.le_refl _) h.c0, later hb (Nat.le_refl _) h.c1, later hb (Nat.le_refl _) h.c2, later hb (Nat.le_refl _) h.d0, later hb (Nat.le_refl _) h.d1, later hb (Nat.le_refl _) h.d2⟩

open Classical in
/-- The code of two complexes with the same prime. -/
noncomputable def prCode (p p2 : Int) (ds : List Int) (ms : List (List (List Int))) (ds2 : List Int) (ms2 : List (List (List Int))) : Int :=
  if ¬ (IsCx p ds ms ∧ IsCx p2 ds2 ms2) then 1 else if p = p2 then 0 else 2
structure PrOk (p p2 : Int) (ds : List Int) (ms : List (List (List Int))) (ds2 : List Int) (ms2 : List (List (List Int))) : Prop where
  x : IsCx p ds ms
  y : IsCx p2 ds2 ms2
  prime : p = p2
theorem prCode_zero {p p2 : Int} {ds : List Int} {ms : List (List (List Int))} {ds2 : List Int} {ms2 : List (List (List Int))} (h : prCode p p2 ds ms ds2 ms2 = 0) : PrOk p p2 ds ms ds2 ms2 := by
  unfold prCode at h
  by_cases h1 : IsCx p ds ms ∧ IsCx p2 ds2 ms2
  · rw [if_neg (fun k => k h1)] at h
    by_cases h2 : p = p2
    · exact ⟨h1.1, h1.2, h2⟩
    · rw [if_neg h2] at h
      cases h
  · rw [if_pos h1] at h
    cases h
theorem PrOk.code {p p2 : Int} {ds : List Int} {ms : List (List (List Int))} {ds2 : List Int} {ms2 : List (List (List Int))} (h : PrOk p p2 ds ms ds2 ms2) : prCode p p2 ds ms ds2 ms2 = 0 := by
  unfold prCode
  rw [if_neg (fun k => k ⟨h.x, h.y⟩), if_pos h.prime]
set_option maxHeartbeats 3200000 in
set_option maxRecDepth 100000 in
theorem checkPrimes2_any (p p2 : Int) (b : Nat) (dv mv dv2 mv2 : Value) (ds : List Int) (ms : List (List (List Int))) (ds2 : List Int) (ms2 : List (List (List Int))) (w : World) (hr : Row2 w b p p2 dv mv dv2 mv2) (h : Cx 0 w dv mv ds ms) (h2 : Cx 0 w dv2 mv2 ds2 ms2) (hd : ds.length ≤ 1048576) (hm : Bd3 1048576 ms) (hd2 : ds2.length ≤ 1048576) (hm2 : Bd3 1048576 ms2) :
    Calls Tryd.prog 61 #[.slice (some ⟨b, 0, none⟩) 2 2] w (BR (.int .i64 (prCode p p2 ds ms ds2 ms2)) w) := by
  obtain ⟨ad, cap, rfl⟩ := Sl.shape h.dims
  obtain ⟨am, capm, rfl⟩ := Sl.shape h.maps
  obtain ⟨ad2, cap2, rfl⟩ := Sl.shape h2.dims
  obtain ⟨am2, capm2, rfl⟩ := Sl.shape h2.maps
  have HROW := Lib.hid hr
  have H1 := Lib.hid h
  have H2 := Lib.hid h2
  have HM := Lib.hid hm
  have HM2 := Lib.hid hm2
  have c0 := hr.c0
  have c1 := hr.c1
  have c2 := hr.c2
  have d0 := hr.d0
  have d1 := hr.d1
  have d2 := hr.d2
  clear h h2 hm hm2 hr
  by_cases hx : IsCx p ds ms
  · have HC := Lib.hid hx
    clear hx
    go_enter Tryd.func61, Tryd.ntmps61
    go_wp2
    refine wp_loop_rounds 3 ?_
    rw [rounds_succ]
    go_wp2_with fail
    refine (isComplex_any p _ _ ds ms _ (H1.out.below (below_alloc1 _ _)) hd HM.out).mono ?_
    rintro e w1 ⟨bb, rfl, hb1, hbb⟩
    obtain rfl : bb = true := hbb.2 HC.out
    have HB1 : Hid (Below w.heap.size w w1) := Lib.hid ((below_alloc1 _ _).trans (hb1.mono (by simp)))
    have HR1 := Lib.hid (HROW.out.next HB1.out)
    clear hb1 hbb c0 c1 c2 d0 d1 d2
    have d0 := HR1.out.d0
    have d1 := HR1.out.d1
    have d2 := HR1.out.d2
    by_cases hy : IsCx p2 ds2 ms2
    · have HC2 := Lib.hid hy
      clear hy
      go_wp2
      rw [rounds_succ]
      go_wp2_with fail
      refine (isComplex_any p2 _ _ ds2 ms2 _ ((H2.out.below HB1.out).below (below_alloc1 _ _)) hd2 HM2.out).mono ?_
      rintro e w2 ⟨bb, rfl, hb2, hbb⟩
      obtain rfl : bb = true := hbb.2 HC2.out
      have HB2 : Hid (Below w.heap.size w w2) := Lib.hid (HB1.out.trans (((below_alloc1 w1 _).trans (hb2.mono (by simp))).mono HB1.out.size))
      have HR2 := Lib.hid (HROW.out.next HB2.out)
      have hs2 : w.heap.size ≤ w2.heap.size := HB2.out.size
      have hbl : b < w.heap.size := cell_lt HROW.out.c0
      have hbn : b ≠ w2.heap.size := by omega
      clear hb2 hbb d0 d1 d2 HR1
      have c0 := HR2.out.c0
      have c1 := HR2.out.c1
      have c2 := HR2.out.c2
      have d0 := HR2.out.d0
      have d1 := HR2.out.d1
      have d2 := HR2.out.d2
      have hp0 : (p != p) = false := by simp
      go_wp2
      rw [rounds_succ]
      go_wp2
      refine wp_loop_rounds 3 ?_
      rw [rounds_succ]
      go_wp2
      obtain ⟨w3, hw3⟩ : ∃ w3, w3 = w2.alloc (.cells #[.int .i64 p, .slice ad ds.length cap, .slice am ms.length capm] 28) := ⟨_, rfl⟩
      have hb3 : Below w2.heap.size w2 w3 := by rw [hw3]; exact below_alloc1 _ _
      have e0 : w3.cell? ⟨w2.heap.size, 0, none⟩ = some (.int .i64 p) := by rw [hw3]; simp
      have HR3 := Lib.hid (HR2.out.next hb3)
      have HB3 := Lib.hid (HB2.out.trans (hb3.mono hs2))
      rw [← hw3]
      clear hw3 hb3 c0 c1 c2 d0 d1 d2 hbn hbl
      have c0 := HR3.out.c0
      go_quiet (fail)
      go_wp2
      rw [rounds_succ]
      have HB4 := Lib.hid (HB3.out.trans ((drewN_below w3 nq).mono HB3.out.size))
      have HR4 := Lib.hid (HR3.out.next (drewN_below w3 nq))
      generalize w3.drewN nq = w4 at *
      clear c0 e0 hs2 HR3 HB3
      have d0 := HR4.out.d0
      have d1 := HR4.out.d1
      have d2 := HR4.out.d2
      obtain ⟨w5, hw5⟩ : ∃ w5, w5 = w4.alloc (.cells #[.int .i64 p2, .slice ad2 ds2.length cap2, .slice am2 ms2.length capm2] 28) := ⟨_, rfl⟩
      have hb5 : Below w4.heap.size w4 w5 := by rw [hw5]; exact below_alloc1 _ _
      have e0 : w5.cell? ⟨w4.heap.size, 0, none⟩ = some (.int .i64 p2) := by rw [hw5]; simp
      have HR5 := Lib.hid (HR4.out.next hb5)
      have HB5 := Lib.hid (HB4.out.trans (hb5.mono HB4.out.size))
      clear hb5
      go_wp2
      rw [← hw5]
      clear hw5 d0 d1 d2
      have c0 := HR5.out.c0
      by_cases hpp : p = p2
      · have HP := Lib.hid hpp
        have hp1 : (p2 != p) = false := by simp [hpp]
        clear hpp
        go_quiet (fail)
        go_wp2
        rw [rounds_succ]
        go_wp2
        go_ret
        refine ⟨ret_int (PrOk.code ⟨HC.out, HC2.out, HP.out⟩).symm, ?_⟩
        exact HB5.out.trans ((drewN_below w5 nq).mono HB5.out.size)
      · have HP := Lib.hid hpp
        have hp1 : (p2 != p) = true := by
          have : ¬ (p2 = p) := fun e => hpp e.symm
          simpa using this
        clear hpp
        go_quiet (fail)
        go_wp2
        go_ret
        refine ⟨ret_int ?_, ?_⟩
        · unfold prCode
          rw [if_neg (fun k => k ⟨HC.out, HC2.out⟩), if_neg (fun k => HP.out k)]
        · exact HB5.out.trans ((drewN_below w5 nq).mono HB5.out.size)
    · have HC2 := Lib.hid hy
      clear hy
      go_wp2
      rw [rounds_succ]
      go_wp2_with fail
      refine (isComplex_any p2 _ _ ds2 ms2 _ ((H2.out.below HB1.out).below (below_alloc1 _ _)) hd2 HM2.out).mono ?_
      rintro e w2 ⟨bb, rfl, hb2, hbb⟩
      obtain rfl : bb = false := bb_no hbb HC2.out
      have HB2 : Hid (Below w.heap.size w w2) := Lib.hid (HB1.out.trans (((below_alloc1 w1 _).trans (hb2.mono (by simp))).mono HB1.out.size))
      clear hb2 hbb d0 d1 d2 HR1
      go_wp2
      go_ret
      refine ⟨ret_int ?_, HB2.out⟩
      unfold prCode
      rw [if_pos (fun k => HC2.out k.2)]
  · have HC := Lib.hid hx
    clear hx
    go_enter Tryd.func61, Tryd.ntmps61
    go_wp2
    refine wp_loop_rounds 3 ?_
    rw [rounds_succ]
    go_wp2_with fail
    refine (isComplex_any p _ _ ds ms _ (H1.out.below (below_alloc1 _ _)) hd HM.out).mono ?_
    rintro e w1 ⟨bb, rfl, hb1, hbb⟩
    obtain rfl : bb = false := bb_no hbb HC.out
    have HB1 : Hid (Below w.heap.size w w1) := Lib.hid ((below_alloc1 _ _).trans (hb1.mono (by simp)))
    clear hb1 hbb c0 c1 c2 d0 d1 d2
    go_wp2
    go_ret
    refine ⟨ret_int ?_, HB1.out⟩
    unfold prCode
    rw [if_pos (fun k => HC.out k.1)]

/-- The cells of a box of a complex, whatever stood there when it was made. -/
structure Bq (wr : World) (b : Nat) (p : Int) (dv mv : Value) (ds : List Int) (ms : List (List (List Int))) : Prop where
  c0 : wr.cell? ⟨b, 0, none⟩ = some (.int .i64 p)
  c1 : wr.cell? ⟨b, 1, none⟩ = some dv
  c2 : wr.cell? ⟨b, 2, none⟩ = some mv
  lt : b < wr.heap.size
  cx : Cx 0 wr dv mv ds ms
theorem Bx.bq {w wr : World} {b : Nat} {p : Int} {dv mv : Value} {ds : List Int} {ms : List (List (List Int))} (h : Bx w wr b p dv mv ds ms) : Bq wr b p dv mv ds ms := ⟨h.c0, h.c1, h.c2, h.lt, h.cx⟩
theorem Bq.next {wr w' : World} {b : Nat} {p : Int} {dv mv : Value} {ds : List Int} {ms : List (List (List Int))} (h : Bq wr b p dv mv ds ms) (hb : Below wr.heap.size wr w') : Bq w' b p dv mv ds ms :=
  ⟨later hb (Nat.le_refl _) h.c0, later hb (Nat.le_refl _) h.c1, later hb (Nat.le_refl _) h.c2, Nat.lt_of_lt_of_le h.lt hb.size, h.cx.below hb⟩
theorem Bq.only {wr w' : World} {b lo hi : Nat} {p : Int} {dv mv : Value} {ds : List Int} {ms : List (List (List Int))} (h : Bq wr b p dv mv ds ms) (ho : Only lo hi wr w') (hc : Cx 0 w' dv mv ds ms) (hb : b < lo ∨ hi ≤ b) : Bq w' b p dv mv ds ms :=
  ⟨(ho.cell hb).trans h.c0, (ho.cell hb).trans h.c1, (ho.cell hb).trans h.c2, by have := ho.size; have := h.lt; omega, hc⟩
end Go.Proofs.YtpdkfidmmjlmnabDoor


namespace Go.Proofs.YtpdkfidmmjlmnabDoor
open Go.RowKit

/-- copy of a row that reads as x into a row of a table that a call has made, from place q on. -/
theorem copy_into {w0 w : World} {r c : Nat} {Z : Nat → Nat → Int} (h : Mat w0 w r c Z) {j q : Nat} (hj : j < r) (dl dc : Nat) (sa : Option Addr) (sc : Nat) (x : List Int) (hx : L1 0 w (.slice sa x.length sc) x) (hq : q + x.length ≤ c) (hd : x.length ≤ dl) :
    ∃ W, (∀ ty, (Builtin.copy_ #[22, 22] ty #[.slice (some ⟨w0.heap.size + 1 + j, q, none⟩) dl dc, .slice sa x.length sc]).run Tryd.prog w = .ok (goInt x.length) W) ∧ W.heap.size = w.heap.size ∧
      Mat w0 W r c (fun j2 i2 => if j2 = j ∧ q ≤ i2 ∧ i2 < q + x.length then x.getD (i2 - q) 0 else Z j2 i2) := by
  rcases hx with ⟨rfl, ad, cap, hv⟩ | ⟨b, o, cap, hv, _, hpos, hcl⟩
  · refine ⟨w, fun ty => ?_, rfl, h.congr (fun j2 _ i2 _ => by rw [if_neg (by rintro ⟨_, h1, h2⟩; simp at h2; omega)])⟩
    clear hv
    obtain ⟨i, hi, _⟩ := info_parts Tryd.infoI
    cases sa with
    | none => simp [Builtin.copy_, run_underlying Tryd.underlying22, Builtin.lenOf, Builtin.firstCells, sizeOf, typeInfo, hi, storeCells]
    | some a => simp [Builtin.copy_, run_underlying Tryd.underlying22, Builtin.lenOf, Builtin.firstCells, sizeOf, typeInfo, hi, storeCells, loadCells, loadCellsFrom]
  · injection hv with e1 e2 e3
    subst e1 e3
    obtain ⟨cur, hcur, hcs, hget⟩ := h.rows j hj
    have hlen : (x.map (Value.int .i64)).length = x.length := List.length_map ..
    refine ⟨w.setRow (w0.heap.size + 1 + j) (cur.toList.take q ++ x.map (Value.int .i64) ++ cur.toList.drop (q + x.length)).toArray, fun ty => ?_, by simp, ?_⟩
    · have hh := run_copy_row (P := Tryd.prog) w 22 22 ty 2 (w0.heap.size + 1 + j) q dl dc ⟨b, o, none⟩ x.length sc cur 2 (x.map (Value.int .i64)) Tryd.underlying22 Tryd.infoI1 hcur
        (by rw [hlen]; simp only [Nat.min_def]; split <;> omega) (fun k u hk => by
        have hk' : k < x.length := by rw [← hlen]; exact (List.getElem?_eq_some_iff.1 hk).1
        obtain ⟨u2, hu2, hr2⟩ := hcl k hk'
        rw [Addr.add_mid, hu2, hr2]
        simp [hk'] at hk
        rw [← hk]) (by rw [hlen]; omega) (fun u hu => by
        obtain ⟨y, _, rfl⟩ := List.mem_map.1 hu
        rfl)
      rw [hlen] at hh
      exact hh
    · refine ⟨below_setRow h.below (by omega) _, by simp [h.size], h.top.of_block (setRow_other _ _ _ _ (by omega)), fun j2 hj2 => ?_⟩
      by_cases e : j2 = j
      · subst e
        have hcl2 : cur.toList.length = c := by simpa using hcs
        refine ⟨_, setRow_heap _ _ _ _ _ _ hcur, by simp [hcs]; omega, fun i hi => ?_⟩
        show _ = some (Value.int .i64 (if j2 = j2 ∧ q ≤ i ∧ i < q + x.length then x.getD (i - q) 0 else Z j2 i))
        have hgi : cur[i]? = some (Value.int .i64 (Z j2 i)) := hget i hi
        rw [List.getElem?_toArray, List.append_assoc]
        by_cases h1 : i < q
        · rw [List.getElem?_append_left (by rw [List.length_take]; omega), List.getElem?_take_of_lt h1, if_neg (by omega)]
          rw [← Array.getElem?_toList] at hgi
          exact hgi
        · rw [List.getElem?_append_right (by rw [List.length_take]; omega), List.length_take, Nat.min_eq_left (by omega)]
          by_cases h2 : i < q + x.length
          · rw [List.getElem?_append_left (by rw [hlen]; omega), if_pos ⟨rfl, by omega, h2⟩]
            have h3 : i - q < x.length := by omega
            simp [h3, List.getD]
          · rw [List.getElem?_append_right (by rw [hlen]; omega), hlen, if_neg (by omega), List.getElem?_drop, show q + x.length + (i - q - x.length) = i by omega]
            rw [← Array.getElem?_toList] at hgi
            exact hgi
      · exact ((h.rows j2 hj2).of_block (setRow_other _ _ _ _ (by omega))).congr (fun i _ => by rw [if_neg (fun hh => e hh.1)])

def smZ (a : List (List Int)) (l : Nat) (b : List (List Int)) (k1 k2 : Nat) (j i : Nat) : Int :=
  if j < a.length then (if j < k1 ∧ i < l then (a.getD j []).getD i 0 else 0) else (if j < a.length + k2 ∧ l ≤ i then (b.getD (j - a.length) []).getD (i - l) 0 else 0)
theorem smZ_0 (a : List (List Int)) (l : Nat) (b : List (List Int)) : smZ a l b 0 0 = fun _ _ => 0 := by
  funext j i
  unfold smZ
  by_cases h : j < a.length
  · rw [if_pos h, if_neg (by omega)]
  · rw [if_neg h, if_neg (by omega)]
set_option maxHeartbeats 3200000 in
set_option maxRecDepth 100000 in
theorem sumTable_any (va vb : Value) (a b : List (List Int)) (l r : Nat) (w : World) (hva : L2 0 w va a) (hvb : L2 0 w vb b) (hal : a.length ≤ 524288) (hbl : b.length ≤ 524288) (hl : l ≤ 524288) (hr : r ≤ 524288) (ha : ∀ x ∈ a, x.length = l) (hb : ∀ x ∈ b, x.length = r) :
    Calls Tryd.prog 59 #[va, .int .i64 (l : Int), vb, .int .i64 (r : Int)] w (MatR (a.length + b.length) (l + r) (smZ a l b a.length b.length) w) := by
  obtain ⟨aa, ca, rfl⟩ := Sl.shape hva
  obtain ⟨ab, cb, rfl⟩ := Sl.shape hvb
  have HVA := Lib.hid (fun W (h : Below w.heap.size w W) => hva.below h)
  have HVB := Lib.hid (fun W (h : Below w.heap.size w W) => hvb.below h)
  have HA := Lib.hid ha
  have HB := Lib.hid hb
  have hw1 : IntKind.i64.wrap ((a.length : Int) + (b.length : Int)) = ((a.length + b.length : Nat) : Int) := by rw [show (a.length : Int) + (b.length : Int) = ((a.length + b.length : Nat) : Int) by omega]; exact IntWalk.i64_in _ (by omega)
  have hw2 : IntKind.i64.wrap ((l : Int) + (r : Int)) = ((l + r : Nat) : Int) := by rw [show (l : Int) + (r : Int) = ((l + r : Nat) : Int) by omega]; exact IntWalk.i64_in _ (by omega)
  obtain ⟨R, hR⟩ : ∃ R, R = a.length + b.length := ⟨_, rfl⟩
  obtain ⟨c, hc⟩ : ∃ c, c = l + r := ⟨_, rfl⟩
  rw [← hR] at hw1
  rw [← hc] at hw2
  rw [← hR, ← hc]
  have hRa : a.length ≤ R := by omega
  have hcl : l ≤ c := by omega
  have HRE : Hid (R = a.length + b.length) := Lib.hid hR
  have HCE : Hid (c = l + r) := Lib.hid hc
  have hR2 : R ≤ 1048576 := by omega
  have hc2 : c ≤ 1048576 := by omega
  clear hva hvb ha hb hR hc
  go_enter Tryd.func59, Tryd.ntmps59
  go_wp2_with fail
  refine (zeroTable_any R c w hR2 hc2).mono ?_
  rintro ee w1 ⟨rfl, hm⟩
  have HM0 : Hid (Mat w w1 R c (smZ a l b 0 0)) := Lib.hid (by rw [smZ_0]; exact hm)
  clear hm hw1 hw2
  go_wp2
  go_loopw [10, 11, 25] (fun _ _ i wr => ∃ (k : Nat), k ≤ a.length ∧ i = .int .i64 k ∧ Hid (Mat w wr R c (smZ a l b k 0))) (fun _ _ i _ => a.length - (intOf i).toNat)
  case atStart => exact ⟨0, Nat.zero_le _, rfl, HM0⟩
  case round =>
    clear HM0
    obtain ⟨k, hk, rfl, HM⟩ := hrel
    obtain ⟨wx, hwx⟩ : ∃ wx : World, wx = wr := ⟨_, rfl⟩
    subst hwx
    by_cases hlt : k < a.length
    · have hlk : (k : Int) < (a.length : Int) := by omega
      have hlR : (k : Int) < (R : Int) := by omega
      have hkR : k < R := by omega
      refine Sl.cases (HVA.out _ HM.out.below) (fun _ _ hx _ => absurd hlt (by simp [hx])) (fun bk ok c2' hvv _ _ hcl => ?_)
      injection hvv with e1 e2 e3
      clear e2
      subst e1 e3
      obtain ⟨ur, hur, hrr⟩ := hcl k hlt
      obtain ⟨y, hy⟩ : ∃ y, y = a[k] := ⟨_, rfl⟩
      rw [← hy] at hrr
      have hyl : y.length = l := by rw [hy]; exact HA.out _ (List.getElem_mem hlt)
      have hyg : a.getD k [] = y := by rw [getD_of_lt _ hlt, hy]
      obtain ⟨ar, cr, hus⟩ := Sl.shape hrr
      rw [hyl] at hus
      subst hus
      have htop := HM.out.top.cell hkR
      obtain ⟨W, hrun, hsz, hmat⟩ := copy_into HM.out (q := 0) hkR c c ar cr y (by rw [hyl]; exact hrr) (by omega) (by omega)
      have HM2 : Hid (Mat w W R c (smZ a l b (k + 1) 0)) := Lib.hid (hmat.congr (fun j hj i hi => by
        unfold smZ
        by_cases e : j = k
        · subst e
          by_cases h2 : i < l
          · rw [if_pos ⟨rfl, by omega, by omega⟩, if_pos hlt, if_pos ⟨by omega, h2⟩, hyg, Nat.sub_zero]
          · rw [if_neg (by omega), if_pos hlt, if_pos hlt, if_neg (by omega), if_neg (by omega)]
        · rw [if_neg (by omega)]
          by_cases h3 : j < a.length
          · rw [if_pos h3, if_pos h3]
            by_cases h4 : j < k ∧ i < l
            · rw [if_pos h4, if_pos (by omega)]
            · rw [if_neg h4, if_neg (by omega)]
          · rw [if_neg h3, if_neg h3]))
      have HRUN := Lib.hid (by rw [hyl] at hrun; exact hrun)
      clear hcl hrr hy hyg hmat hrun hsz HM hyl
      go_wp2
      rw [HRUN.out]
      go_wp2
      go_roundw
      case rel => first | exact ⟨k + 1, by omega, by go_num, HM2⟩ | ((repeat apply Exists.intro); exact ⟨⟨k + 1, by omega, by go_num, HM2⟩, rfl⟩)
      case measure => simp [intOf]; omega
    · have hlk : ¬ (k : Int) < (a.length : Int) := by omega
      have HM1 : Hid (Mat w wx R c (smZ a l b a.length 0)) := Lib.hid (by have h0 := HM.out; rwa [show k = a.length by omega] at h0)
      clear HM
      obtain ⟨wo, hwo⟩ : ∃ wo : World, wo = wx := ⟨_, rfl⟩
      subst hwo
      go_wp2
      go_loopw [12, 13, 39] (fun _ _ i wr => ∃ (k : Nat), k ≤ b.length ∧ i = .int .i64 k ∧ Hid (Mat w wr R c (smZ a l b a.length k))) (fun _ _ i _ => b.length - (intOf i).toNat)
      case atStart => exact ⟨0, Nat.zero_le _, rfl, HM1⟩
      case round =>
        clear HM1
        obtain ⟨k2, hk2, rfl, HM⟩ := hrel
        obtain ⟨wy, hwy⟩ : ∃ wy : World, wy = wr := ⟨_, rfl⟩
        subst hwy
        by_cases hlt2 : k2 < b.length
        · have hlk2 : (k2 : Int) < (b.length : Int) := by omega
          obtain ⟨m, hm⟩ : ∃ m, m = a.length + k2 := ⟨_, rfl⟩
          have hmR : m < R := by have := HRE.out; omega
          have hlR : (m : Int) < (R : Int) := by omega
          have hw3 : IntKind.i64.wrap ((a.length : Int) + (k2 : Int)) = (m : Int) := by rw [show (a.length : Int) + (k2 : Int) = (m : Int) by omega]; exact IntWalk.i64_in _ (by omega)
          refine Sl.cases (HVB.out _ HM.out.below) (fun _ _ hx _ => absurd hlt2 (by simp [hx])) (fun bk ok c2' hvv _ _ hcl => ?_)
          injection hvv with e1 e2 e3
          clear e2
          subst e1 e3
          obtain ⟨ur, hur, hrr⟩ := hcl k2 hlt2
          obtain ⟨y, hy⟩ : ∃ y, y = b[k2] := ⟨_, rfl⟩
          rw [← hy] at hrr
          have hyl : y.length = r := by rw [hy]; exact HB.out _ (List.getElem_mem hlt2)
          have hyg : b.getD k2 [] = y := by rw [getD_of_lt _ hlt2, hy]
          obtain ⟨ar, cr, hus⟩ := Sl.shape hrr
          rw [hyl] at hus
          subst hus
          have htop := HM.out.top.cell hmR
          have hce := HCE.out
          by_cases hcl2 : l < c
          · skip
            obtain ⟨W, hrun, hsz, hmat⟩ := copy_into HM.out (q := l) hmR (c - l) (c - l) ar cr y (by rw [hyl]; exact hrr) (by omega) (by omega)
            have HM2 : Hid (Mat w W R c (smZ a l b a.length (k2 + 1))) := Lib.hid (hmat.congr (fun j hj i hi => by
              unfold smZ
              by_cases e : j = m
              · subst e
                rw [if_neg (show ¬ j < a.length by omega), if_neg (show ¬ j < a.length by omega)]
                by_cases h2 : l ≤ i
                · rw [if_pos ⟨rfl, h2, by omega⟩, if_pos ⟨by omega, h2⟩, show j - a.length = k2 by omega, hyg]
                · rw [if_neg (by omega), if_neg (by omega), if_neg (by omega)]
              · rw [if_neg (by omega)]
                by_cases h3 : j < a.length
                · rw [if_pos h3, if_pos h3]
                · rw [if_neg h3, if_neg h3]
                  by_cases h4 : j < a.length + k2 ∧ l ≤ i
                  · rw [if_pos h4, if_pos (by omega)]
                  · rw [if_neg h4, if_neg (by omega)]))
            have HRUN := Lib.hid (by rw [hyl] at hrun; exact hrun)
            have hl0 : (0 : Int) ≤ (l : Int) := by omega
            have hlc : (l : Int) ≤ (c : Int) := by omega
            clear hcl hrr hy hyg hmat hrun hsz HM hm hce hyl
            go_wp2
            rw [HRUN.out]
            go_wp2
            go_roundw
            case rel => first | exact ⟨k2 + 1, by omega, by go_num, HM2⟩ | ((repeat apply Exists.intro); exact ⟨⟨k2 + 1, by omega, by go_num, HM2⟩, rfl⟩)
            case measure => simp [intOf]; omega
          · skip
            obtain ⟨W, hrun, hsz, hmat⟩ := copy_into HM.out (q := 0) hmR (c - l) (c - l) ar cr y (by rw [hyl]; exact hrr) (by omega) (by omega)
            have HM2 : Hid (Mat w W R c (smZ a l b a.length (k2 + 1))) := Lib.hid (hmat.congr (fun j hj i hi => by
              unfold smZ
              by_cases e : j = m
              · subst e
                rw [if_neg (show ¬ j < a.length by omega), if_neg (show ¬ j < a.length by omega)]
                by_cases h2 : l ≤ i
                · exact absurd h2 (by omega)
                · rw [if_neg (by omega), if_neg (by omega), if_neg (by omega)]
              · rw [if_neg (by omega)]
                by_cases h3 : j < a.length
                · rw [if_pos h3, if_pos h3]
                · rw [if_neg h3, if_neg h3]
                  by_cases h4 : j < a.length + k2 ∧ l ≤ i
                  · rw [if_pos h4, if_pos (by omega)]
                  · rw [if_neg h4, if_neg (by omega)]))
            have HRUN := Lib.hid (by rw [hyl] at hrun; exact hrun)
            have hl0 : (0 : Int) ≤ (l : Int) := by omega
            have hlc : (l : Int) ≤ (c : Int) := by omega
            clear hcl hrr hy hyg hmat hrun hsz HM hm hce hyl
            go_wp2
            rw [HRUN.out]
            go_wp2
            go_roundw
            case rel => first | exact ⟨k2 + 1, by omega, by go_num, HM2⟩ | ((repeat apply Exists.intro); exact ⟨⟨k2 + 1, by omega, by go_num, HM2⟩, rfl⟩)
            case measure => simp [intOf]; omega
        · have hlk2 : ¬ (k2 : Int) < (b.length : Int) := by omega
          have HM3 : Hid (Mat w wy R c (smZ a l b a.length b.length)) := Lib.hid (by have h0 := HM.out; rwa [show k2 = b.length by omega] at h0)
          clear HM
          go_wp2
          go_ret
          exact ⟨rfl, HM3.out⟩
end Go.Proofs.YtpdkfidmmjlmnabDoor


namespace Go.Proofs.YtpdkfidmmjlmnabDoor
open Go.RowKit

/-- While a table is being made row by row: k rows are there. -/
structure Sc (w w' : World) (r c k : Nat) (Z : Nat → Nat → Int) : Prop where
  below : Below w.heap.size w w'
  size : w'.heap.size = w.heap.size + 1 + k
  top : w'.rowIs w.heap.size 22 r (fun j => if j < k then .slice (some ⟨w.heap.size + 1 + j, 0, none⟩) c c else .slice none 0 0)
  rows : ∀ j, j < k → w'.rowIs (w.heap.size + 1 + j) 2 c (fun i => .int .i64 (Z j i))
theorem Sc.start (w : World) (r c : Nat) (Z : Nat → Nat → Int) : Sc w (w.alloc (.cells (madeCells #[.slice none 0 0] r) 22)) r c 0 Z :=
  ⟨(Below.refl _ _).alloc (Nat.le_refl _) _, by simp, (World.rowIs_made w _ r _).congr (fun j _ => by simp), fun j hj => absurd hj (Nat.not_lt_zero _)⟩
theorem Sc.congr {w w' : World} {r c k : Nat} {Z Z' : Nat → Nat → Int} (h : Sc w w' r c k Z) (e : ∀ j, j < k → ∀ i, i < c → Z j i = Z' j i) : Sc w w' r c k Z' :=
  ⟨h.below, h.size, h.top, fun j hj => (h.rows j hj).congr (fun i hi => by rw [e j hj i hi])⟩
theorem Sc.drew {w w' : World} {r c k : Nat} {Z : Nat → Nat → Int} (h : Sc w w' r c k Z) : Sc w w'.drew r c k Z := ⟨h.below.drew, h.size, h.top.drew, fun j hj => (h.rows j hj).drew⟩
theorem Sc.step {w w' : World} {r c k : Nat} {Z : Nat → Nat → Int} (h : Sc w w' r c k Z) : Sc w ((w'.alloc (.cells (madeCells #[.int .i64 0] c) 2)).setCell ⟨w.heap.size, k, none⟩ (.slice (some ⟨w'.heap.size, 0, none⟩) c c)) r c (k + 1) (fun j i => if j < k then Z j i else 0) := by
  have hnew := World.rowIs_made w' (.int .i64 0) c 2
  have hs := h.size
  refine ⟨(h.below.alloc (by omega) _).setCell (Nat.le_refl _) _, by simp [h.size]; omega, ((h.top.alloc _).set k _).congr (fun j _ => ?_), fun j hj => ?_⟩
  · by_cases e : j = k
    · subst e
      rw [if_pos rfl, if_pos (Nat.lt_succ_self _), hs]
    · rw [if_neg e]
      by_cases h2 : j < k
      · rw [if_pos h2, if_pos (by omega)]
      · rw [if_neg h2, if_neg (by omega)]
  · by_cases e : j = k
    · subst e
      rw [← hs]
      exact (hnew.setOther (by show w'.heap.size ≠ w.heap.size; omega) _).congr (fun i _ => by simp)
    · exact (((h.rows j (by omega)).alloc _).setOther (by show w.heap.size + 1 + j ≠ w.heap.size; omega) _).congr (fun i _ => by rw [if_pos (show j < k by omega)])
theorem Sc.put {w w' : World} {r c k : Nat} {Z : Nat → Nat → Int} (h : Sc w w' r c k Z) {j i : Nat} (hj : j < k) (x : Int) :
    Sc w (w'.setCell ⟨w.heap.size + 1 + j, i, none⟩ (.int .i64 x)) r c k (fun j2 i2 => if j2 = j ∧ i2 = i then x else Z j2 i2) := by
  refine ⟨h.below.setCell (by show w.heap.size ≤ w.heap.size + 1 + j; omega) _, by simp [h.size], h.top.setOther (by show w.heap.size ≠ w.heap.size + 1 + j; omega) _, fun j2 hj2 => ?_⟩
  by_cases e : j2 = j
  · subst e
    exact ((h.rows j2 hj2).set i _).congr (fun i2 _ => by by_cases e2 : i2 = i <;> simp [e2])
  · exact ((h.rows j2 hj2).setOther (by show w.heap.size + 1 + j2 ≠ w.heap.size + 1 + j; omega) _).congr (fun i2 _ => by simp [e])
theorem Sc.done {w w' : World} {r c : Nat} {Z : Nat → Nat → Int} (h : Sc w w' r c r Z) : Mat w w' r c Z :=
  ⟨h.below, h.size, h.top.congr (fun j hj => by rw [if_pos hj]), h.rows⟩

def scZ (p x : Int) (t : List (List Int)) (j i : Nat) : Int := x * (t.getD j []).getD i 0 % p

theorem mulB {x z : Int} (h0 : -1048576 ≤ x) (h1 : x ≤ 1048576) (h2 : -1048576 ≤ z) (h3 : z ≤ 1048576) : -1099511627776 ≤ x * z ∧ x * z ≤ 1099511627776 := by
  have h : (x * z).natAbs ≤ 1048576 * 1048576 := by
    rw [Int.natAbs_mul]
    exact Nat.mul_le_mul (by omega) (by omega)
  omega
theorem tmod_up (m p : Int) (hp : 0 < p) : (m.tmod p + p).tmod p = m % p := by
  have h1 := Int.lt_tmod_of_pos m hp
  rw [Int.tmod_eq_emod_of_nonneg (by omega)]
  have h2 := Int.tmod_add_mul_tdiv m p
  have e : m.tmod p + p = m + p * (1 - m.tdiv p) := by rw [Int.mul_sub]; omega
  rw [e, Int.add_mul_emod_self_left]

set_option maxHeartbeats 1600000 in
set_option maxRecDepth 100000 in
theorem scaledTableW_any (p x : Int) (c : Nat) (vt : Value) (t : List (List Int)) (w : World) (hp0 : 0 < p) (hp1 : p ≤ 1048576) (hx : -1048576 ≤ x ∧ x ≤ 1048576) (ht : L2 0 w vt t) (hr : t.length ≤ 1048576) (hc : c ≤ 1048576) (hrow : ∀ y ∈ t, y.length = c ∧ ∀ z ∈ y, -1048576 ≤ z ∧ z ≤ 1048576) :
    Calls Tryd.prog 57 #[.int .i64 p, .int .i64 x, vt] w (MatR t.length c (scZ p x t) w) := by
  have hmk := run_make_row' (P := Tryd.prog) 39 22 (.slice none 0 0) 24 Tryd.underlying39 Tryd.infoS rfl .i64 .i64 t.length (by omega) (by omega)
  have hmk2 := run_make_row' (P := Tryd.prog) 22 2 (.int .i64 0) 8 Tryd.underlying22 Tryd.infoI rfl .i64 .i64 c (by omega) (by omega)
  obtain ⟨at', ct, rfl⟩ := Sl.shape ht
  have HT : Hid (∀ W, Below w.heap.size w W → L2 0 W (.slice at' t.length ct) t) := Lib.hid (fun W h => ht.below h)
  have HROW := Lib.hid hrow
  clear ht hrow
  go_enter Tryd.func57, Tryd.ntmps57
  go_wp2
  clear hmk
  go_loopw [8, 9, 10, 11, 17, 30] (fun _ _ _ _ i _ wr => ∃ (k : Nat), k ≤ t.length ∧ i = .int .i64 k ∧ Hid (Sc w wr t.length c k (scZ p x t))) (fun _ _ _ _ i _ _ => t.length - (intOf i).toNat)
  case atStart => exact ⟨0, Nat.zero_le _, rfl, Lib.hid (Sc.start _ _ _ _)⟩
  case round =>
    obtain ⟨k, hk, rfl, HS⟩ := hrel
    obtain ⟨wx, hwx⟩ : ∃ wx : World, wx = wr := ⟨_, rfl⟩
    subst hwx
    by_cases hlt : k < t.length
    · have hkl : (k : Int) < (t.length : Int) := by omega
      refine Sl.cases (HT.out _ (Below.refl _ _)) (fun _ _ hx _ => absurd hlt (by simp [hx])) (fun bt ot ct2 hvt _ _ hcl => ?_)
      injection hvt with e1 e2 e3
      clear e2
      subst e1 e3
      obtain ⟨ur, hur0, hrr⟩ := hcl k hlt
      have hur : wx.cell? ⟨bt, ot + k, none⟩ = some ur := later HS.out.below (Nat.le_refl _) hur0
      obtain ⟨y, hy⟩ : ∃ y, y = t[k] := ⟨_, rfl⟩
      rw [← hy] at hrr
      obtain ⟨ar, cr, hus⟩ := Sl.shape hrr
      have hyr := HROW.out y (by rw [hy]; exact List.getElem_mem hlt)
      rw [hyr.1] at hus
      subst hus
      have HY : Hid (t.getD k [] = y) := Lib.hid (by rw [getD_of_lt _ hlt, hy])
      have HYR := Lib.hid hyr
      have HRL : Hid (∀ W, Below w.heap.size w W → L1 0 W (.slice ar c cr) y) := Lib.hid (fun W hW => hrr.below hW)
      have h0 : ∀ o, (wx.alloc o).cell? ⟨w.heap.size, k, none⟩ = some (.slice none 0 0) := fun o => by rw [(HS.out.top.alloc o).cell hlt, if_neg (Nat.lt_irrefl _)]
      have hf : ∀ o, (wx.alloc o).frozen? ⟨w.heap.size, k, none⟩ = false := fun o => (HS.out.top.alloc o).frozen k
      have hsz := HS.out.size
      have hst := HS.out.step
      rw [hsz] at hst
      have HS1 := Lib.hid hst
      clear hcl hrr hyr hy HS hur0 hst
      go_wp2
      clear h0 hf hur
      go_loopw [10, 11, 30] (fun _ _ i wr => ∃ (q : Nat), q ≤ c ∧ i = .int .i64 q ∧ Hid (Sc w wr t.length c (k + 1) (fun j i => if j < k then scZ p x t j i else if i < q then scZ p x t k i else 0))) (fun _ _ i _ => c - (intOf i).toNat)
      case atStart => exact ⟨0, Nat.zero_le _, rfl, Lib.hid (HS1.out.congr (fun j _ i _ => by by_cases e : j < k <;> simp [e]))⟩
      case round =>
        clear HS1
        obtain ⟨q, hq, rfl, HQ⟩ := hrel
        obtain ⟨wy, hwy⟩ : ∃ wy : World, wy = wr := ⟨_, rfl⟩
        subst hwy
        by_cases hlq : q < c
        · have hql : (q : Int) < (c : Int) := by omega
          have hqy : q < y.length := by rw [HYR.out.1]; exact hlq
          obtain ⟨z, hz⟩ : ∃ z, z = y.getD q 0 := ⟨_, rfl⟩
          have hzb := HYR.out.2 z (by rw [hz, getD_of_lt _ hqy]; exact List.getElem_mem hqy)
          refine Sl.cases (HRL.out _ HQ.out.below) (fun _ _ hx _ => absurd hqy (by simp [hx])) (fun br orr cr2 hvr _ _ hcr => ?_)
          injection hvr with e1 e2 e3
          clear e2
          subst e1 e3
          obtain ⟨uz, huz, hrz⟩ := hcr q hqy
          have hnum : wy.cell? ⟨br, orr + q, none⟩ = some (.int .i64 z) := by rw [huz, hrz, hz, getD_of_lt _ hqy]
          have htop : wy.cell? ⟨w.heap.size, k, none⟩ = some (.slice (some ⟨w.heap.size + 1 + k, 0, none⟩) c c) := by rw [HQ.out.top.cell hlt, if_pos (Nat.lt_succ_self _)]
          have hrk := HQ.out.rows k (Nat.lt_succ_self _)
          have hold := hrk.cell hlq
          have hfz := hrk.frozen q
          obtain ⟨hm0, hmb⟩ := mulB hx.1 hx.2 hzb.1 hzb.2
          have hmul : IntKind.i64.wrap (x * z) = x * z := IntWalk.i64_in _ (by omega)
          have hr1 := Int.lt_tmod_of_pos (x * z) hp0
          have hr2 := Int.tmod_lt_of_pos (x * z) hp0
          have hr3 := tmod_up (x * z) p hp0
          obtain ⟨rr, hrr2⟩ : ∃ rr, rr = (x * z).tmod p := ⟨_, rfl⟩
          have hrem : (x * z).tmod p = rr := hrr2.symm
          rw [hrem] at hr1 hr2 hr3
          have HRR := Lib.hid hrr2
          clear hrr2
          have hwr0 : IntKind.i64.wrap rr = rr := IntWalk.i64_in _ (by omega)
          have hadd : IntKind.i64.wrap (rr + p) = rr + p := IntWalk.i64_in _ (by omega)
          have hm1 := Int.emod_nonneg (x * z) (show p ≠ 0 by omega)
          have hm2 := Int.emod_lt_of_pos (x * z) hp0
          have hwr : IntKind.i64.wrap (x * z % p) = x * z % p := IntWalk.i64_in _ (by omega)
          have hpz : (p == 0) = false := by simp; omega
          have hpz2 : ¬ p = 0 := by omega
          have hpm : (p == -1) = false := by simp; omega
          have HS2 : Hid (Sc w (wy.setCell ⟨w.heap.size + 1 + k, q, none⟩ (.int .i64 (x * z % p))) t.length c (k + 1) (fun j i => if j < k then scZ p x t j i else if i < q + 1 then scZ p x t k i else 0)) := Lib.hid ((HQ.out.put (j := k) (i := q) (Nat.lt_succ_self _) (x * z % p)).congr (fun j hj i hi => by
            by_cases e : j = k
            · subst e
              by_cases e2 : i = q
              · subst e2
                have e5 : scZ p x t j i = x * z % p := by unfold scZ; rw [HY.out, hz]
                simp [e5]
              · have e3 : (i < q + 1) ↔ (i < q) := by omega
                simp [e2, e3]
            · have e4 : j < k := by omega
              simp [e, e4]))
          clear huz hrz hcr hrk hz
          go_wp2
          go_region
          all_goals go_wp2
          all_goals go_roundw
          case rel => exact ⟨q + 1, by omega, by go_num, Lib.hid HS2.out.drew⟩
          case measure => simp [intOf]; omega
        · have hqn : ¬ (q : Int) < (c : Int) := by omega
          obtain rfl : q = c := by omega
          have HK1 : Hid (Sc w wy t.length q (k + 1) (scZ p x t)) := Lib.hid (HQ.out.congr (fun j hj i hi => by
            by_cases e : j < k
            · simp [e]
            · have e2 : j = k := by omega
              subst e2
              simp [hi]))
          go_wp2
          go_roundw
          case rel => first | exact ⟨k + 1, by omega, by go_num, HK1⟩ | ((repeat apply Exists.intro); exact ⟨⟨k + 1, by omega, by go_num, HK1⟩, rfl⟩)
          case measure => simp [intOf]; omega
    · have hkn : ¬ (k : Int) < (t.length : Int) := by omega
      obtain rfl : k = t.length := by omega
      go_wp2
      go_ret
      exact ⟨rfl, HS.out.done⟩
theorem scaledTable_any (p x : Int) (c : Nat) (vt : Value) (t : List (List Int)) (w : World) (hp0 : 0 < p) (hp1 : p ≤ 1048576) (hx : 0 ≤ x ∧ x ≤ p - 1) (ht : L2 0 w vt t) (hr : t.length ≤ 1048576) (hc : c ≤ 1048576) (hrow : ∀ y ∈ t, y.length = c ∧ ∀ z ∈ y, 0 ≤ z ∧ z ≤ p - 1) :
    Calls Tryd.prog 57 #[.int .i64 p, .int .i64 x, vt] w (MatR t.length c (scZ p x t) w) :=
  scaledTableW_any p x c vt t w hp0 hp1 ⟨by omega, by omega⟩ ht hr hc (fun y hy => ⟨(hrow y hy).1, fun z hz => by have := (hrow y hy).2 z hz; omega⟩)
end Go.Proofs.YtpdkfidmmjlmnabDoor


namespace Go.Proofs.YtpdkfidmmjlmnabDoor
open Go.RowKit

section
variable {P : Program} {md : Region.Mode} {ops : Array Oper} {Q : Exit → Act → World → Prop} {S : World → Prop}
theorem yieldsIf_bin {o : Oper} {a : Act} {x y : Operand} {v u i : Value} {b : BinOp} {t t' : TypeId} (hg : o.guard = none) (ho : o.op = .binOp b t x y t') (hx : a.eval x = u) (hy : a.eval y = i) (hge : ∀ w, (eqGuard b t x y u i).run P w = .ok () w) (hrun : ∀ w, (binOp b t u i).run P w = .ok v w) : YieldsIf P ops S o v a :=
  Or.inl ⟨by unfold Region.wanted; rw [hg], fun w _ => by
    unfold execOp
    simp only [ho, hx, hy, Sem.run_bind, hge w, hrun w, Result.andThen_ok]
    rfl⟩
theorem yieldsIf_run {o : Oper} {a : Act} {v : Value} (hg : o.guard = none) (hrun : ∀ w, S w → (execOp a.eval o).run P w = .ok (.value v) w) : YieldsIf P ops S o v a :=
  Or.inl ⟨by unfold Region.wanted; rw [hg], hrun⟩
theorem yieldsIf_assign {o : Oper} {a : Act} {x : Operand} {v : Value} (hg : o.guard = none) (ho : o.op = .assign x) (hx : a.eval x = v) : YieldsIf P ops S o v a :=
  Or.inl ⟨by unfold Region.wanted; rw [hg], fun w _ => by
    unfold execOp
    simp only [ho, hx]
    rfl⟩
end
section
variable {md : Region.Mode} {ops : Array Oper} {Q : Exit → Act → World → Prop} {S : World → Prop}
/-- A slice of one new row. -/
theorem held_buildS {i : Nat} {oi : Oper} {fuel : Nat} {listed : Array Bool} {a : Act} {w : World} (d : Option Tmp) (hr : Region.ready md ops listed = [i]) (hi : ops[i]? = some oi) (hg : oi.guard = none) (hd : oi.dst = d)
    (x : Operand) (ad : Option Addr) (n c : Nat) (ho : oi.op = .buildSlice 39 1 #[(0, x)]) (hx : a.eval x = .slice ad n c)
    (h : S (w.alloc (.cells #[.slice ad n c] 22)) ∧ wpAnyH Tryd.prog md ops Q S fuel (listed.setIfInBounds i true) (a.put d (.slice (some ⟨w.heap.size, 0, none⟩) 1 1)) (w.alloc (.cells #[.slice ad n c] 22))) : wpAnyH Tryd.prog md ops Q S (fuel + 1) listed a w := by
  obtain ⟨ie, hie, hz, h1, _⟩ := info_parts Tryd.infoS
  subst hd
  refine held_call hr hi hg (wp_buildSlice 39 22 1 #[(0, x)] ho #[.slice ad n c] ie _ Tryd.underlying39 hie hz (by rw [h1]; decide) (by rw [h1]; decide) ?_ h)
  simp only [h1, List.map_toArray, List.map_cons, List.map_nil, hx]
  first | kernel_rfl | simp [Instr.fill]
end
theorem hsubI {a b : Int} (h0 : -1000 ≤ a - b) (h1 : a - b ≤ 1000) (w : World) : (binOp .sub 2 (.int .i64 a) (.int .i64 b)).run Tryd.prog w = .ok (.int .i64 (a - b)) w := by
  have hw : IntKind.i64.wrap (a - b) = a - b := IntWalk.i64_in _ (by omega)
  go_simp
theorem cell_alloc1 (w : World) (v : Value) (t : TypeId) : (w.alloc (.cells #[v] t)).cell? ⟨w.heap.size, 0, none⟩ = some v := by
  unfold World.cell?
  rw [heap_alloc_new w (.cells #[v] t)]
  rfl
theorem hidxI (b o : Nat) {k n : Nat} (cap : Nat) (hk : k < n) (w : World) : (Instr.indexAt 22 (.slice (some ⟨b, o, none⟩) n cap) (.int .i64 k)).run Tryd.prog w = .ok (.pointer (some ⟨b, o + k, none⟩)) w := by
  have h2 : (0 : Int) ≤ (k : Int) := by omega
  have h3 : (k : Int) < (n : Int) := by omega
  go_simp
theorem hidxS (b o : Nat) {k n : Nat} (cap : Nat) (hk : k < n) (w : World) : (Instr.indexAt 39 (.slice (some ⟨b, o, none⟩) n cap) (.int .i64 k)).run Tryd.prog w = .ok (.pointer (some ⟨b, o + k, none⟩)) w := by
  have h2 : (0 : Int) ≤ (k : Int) := by omega
  have h3 : (k : Int) < (n : Int) := by omega
  go_simp
theorem hloadS (w : World) {b o : Nat} {x : Value} (h : w.cell? ⟨b, o, none⟩ = some x) : (Instr.loadAt 22 (.pointer (some ⟨b, o, none⟩))).run Tryd.prog w = .ok x w := by go_simp
end Go.Proofs.YtpdkfidmmjlmnabDoor

namespace Go.Proofs.YtpdkfidmmjlmnabDoor
open Go.RowKit

theorem ld_ltn {n : Nat} {v : Lin.V} (hw : Lin.Wd n v) (hne : v ≠ Lin.zv) : Lin.ld v < n ∧ v (Lin.ld v) ≠ 0 ∧ ∀ j, j < Lin.ld v → v j = 0 := by
  obtain ⟨i, hi⟩ := Lin.ne_zv hne
  obtain ⟨h1, h2⟩ := Lin.ld_spec hi
  refine ⟨Classical.byContradiction fun hn => h1 (hw _ (by omega)), h1, h2⟩
/-- What a reduced list of rows of n numbers has to do with a list. -/
structure RedN (p : Int) (n : Nat) (R T : List Lin.V) : Prop where
  red : Lin.Red p R
  wd : ∀ u ∈ R, Lin.Wd n u
  eqv : Lin.Eqv p R T
theorem RedN.nil (p : Int) (n : Nat) : RedN p n [] [] := ⟨Lin.Red.nil p, by simp, Lin.Eqv.refl _ _⟩
theorem RedN.skip {p : Int} (hp : 0 < p) {n : Nat} {R T : List Lin.V} (h : RedN p n R T) {v : Lin.V} (hT : ∀ w ∈ T, Lin.Md p w) (hv : Lin.Md p v) (hr : Lin.Rest p R v R.length Lin.zv) : RedN p n R (T ++ [v]) :=
  ⟨h.red, h.wd, Lin.skip_eqv hp h.red hT hv h.eqv hr⟩
theorem RedN.put {p : Int} (hp : 1 < p) {n : Nat} {R T : List Lin.V} (h : RedN p n R T) {v r u : Lin.V} {k : Nat} (hT : ∀ w ∈ T, Lin.Md p w) (hv : Lin.Md p v) (hr : Lin.Rest p R v R.length r) (hne : r ≠ Lin.zv) (hu : Lin.Unit p r u) (huw : Lin.Wd n u) (hk : k ≤ R.length)
    (hlo : ∀ w ∈ R.take k, Lin.ld w < Lin.ld u) (hhi : ∀ w ∈ R.drop k, ¬ Lin.ld w < Lin.ld u) : RedN p n (Lin.put p R k u) (T ++ [v]) := by
  have hf := Lin.fits_of hr hne hu hk hlo hhi
  refine ⟨hf.red hp h.red, fun x hx => ?_, Lin.put_eqv hp h.red hT hv h.eqv hr hu hf⟩
  rcases Lin.put_mem.1 hx with rfl | ⟨y, hy, rfl⟩
  · exact huw
  · exact Lin.add_wd _ (h.wd y hy) huw
theorem RedN.same {p : Int} (hp : 1 < p) {n : Nat} {R R' T : List Lin.V} (h : RedN p n R T) (k : RedOf p R' T) : R' = R :=
  Lin.Red.unique hp k.red h.red (fun v => (k.eqv v).trans (h.eqv v).symm)
theorem RedN.unique {p : Int} (hp : 1 < p) {n n' : Nat} {R R' T T' : List Lin.V} (h : RedN p n R T) (k : RedN p n' R' T') (e : Lin.Eqv p T T') : R' = R :=
  Lin.Red.unique hp k.red h.red (fun v => ((k.eqv v).trans (e v).symm).trans (h.eqv v).symm)

/-- A row less its multiple of u. -/
noncomputable def less1 (p : Int) (u w : Lin.V) : Lin.V := Lin.add p w (-(w (Lin.ld u))) u
/-- The next list while it is gathered: j rows have been seen; pt: the new row is in. -/
def Nx (p : Int) (R : List Lin.V) (u : Lin.V) (j : Nat) (pt : Bool) (N : List Lin.V) : Prop :=
  if pt then ∃ K, K ≤ j ∧ (∃ h : K < R.length, Lin.ld u < Lin.ld R[K]) ∧ (∀ w ∈ R.take K, Lin.ld w < Lin.ld u) ∧ N = Lin.put p (R.take j) K u
  else (∀ w ∈ R.take j, Lin.ld w < Lin.ld u) ∧ N = (R.take j).map (less1 p u)
theorem Nx.start (p : Int) (R : List Lin.V) (u : Lin.V) : Nx p R u 0 false [] := ⟨by simp, by simp⟩
theorem put_more {p : Int} {R : List Lin.V} {u : Lin.V} {j K : Nat} (hK : K ≤ j) (hj : j < R.length) : Lin.put p (R.take j) K u ++ [less1 p u R[j]] = Lin.put p (R.take (j + 1)) K u := by
  have hl : (R.take j).length = j := by simp; omega
  rw [List.take_succ_eq_append_getElem hj]
  unfold Lin.put
  rw [List.take_append_of_le_length (by omega), List.drop_append_of_le_length (by omega), List.map_append, List.append_assoc]
  rfl
theorem put_last {p : Int} {R : List Lin.V} {u : Lin.V} : (R.map (less1 p u)) ++ [u] = Lin.put p R R.length u := by
  unfold Lin.put
  rw [List.take_of_length_le (Nat.le_refl _), List.drop_of_length_le (Nat.le_refl _)]
  rfl
theorem Nx.keep {p : Int} {R : List Lin.V} {u : Lin.V} {j : Nat} {N : List Lin.V} (h : Nx p R u j true N) (hj : j < R.length) : Nx p R u (j + 1) true (N ++ [less1 p u R[j]]) := by
  obtain ⟨K, hK, hx, hlo, rfl⟩ := h
  exact ⟨K, by omega, hx, hlo, put_more hK hj⟩
theorem Nx.done {p : Int} {R : List Lin.V} {u : Lin.V} {N : List Lin.V} (hR : Lin.Red p R) (h : Nx p R u R.length true N) : ∃ K, K ≤ R.length ∧ N = Lin.put p R K u ∧ (∀ w ∈ R.take K, Lin.ld w < Lin.ld u) ∧ ∀ w ∈ R.drop K, ¬ Lin.ld w < Lin.ld u := by
  obtain ⟨K, hK, ⟨hk, hx⟩, hlo, rfl⟩ := h
  refine ⟨K, hK, by rw [List.take_of_length_le (Nat.le_refl _)], hlo, fun w hw => ?_⟩
  rw [List.drop_eq_getElem_cons hk] at hw
  have hp := hR.inc
  rw [← List.take_append_drop K R, List.drop_eq_getElem_cons hk] at hp
  have h2 := (List.pairwise_append.1 hp).2.1
  rcases List.mem_cons.1 hw with rfl | hw
  · omega
  · have := (List.pairwise_cons.1 h2).1 w hw
    omega
theorem Nx.end {p : Int} {R : List Lin.V} {u : Lin.V} {N : List Lin.V} (h : Nx p R u R.length false N) : ∃ K, K ≤ R.length ∧ N ++ [u] = Lin.put p R K u ∧ (∀ w ∈ R.take K, Lin.ld w < Lin.ld u) ∧ ∀ w ∈ R.drop K, ¬ Lin.ld w < Lin.ld u := by
  obtain ⟨hlo, rfl⟩ := h
  refine ⟨R.length, Nat.le_refl _, ?_, hlo, ?_⟩
  · rw [List.take_of_length_le (Nat.le_refl _)]
    exact put_last
  · rw [List.drop_of_length_le (Nat.le_refl _)]
    simp
theorem Nx.length {p : Int} {R : List Lin.V} {u : Lin.V} {j : Nat} {pt : Bool} {N : List Lin.V} (h : Nx p R u j pt N) (hj : j ≤ R.length) : N.length ≤ j + 1 := by
  have hl : (R.take j).length = j := by simp; omega
  cases pt with
  | true =>
    obtain ⟨K, hK, _, _, rfl⟩ := h
    rw [put_length p _ K u (by omega)]
    omega
  | false =>
    obtain ⟨_, rfl⟩ := h
    rw [List.length_map]
    omega
/-- The remainder as the reference model takes it. -/
theorem mod_twice {p x : Int} (hp : 0 < p) : (x.tmod p + p).tmod p = x % p := by
  have h1 : 0 ≤ x.tmod p + p := by
    have := Int.lt_tmod_of_pos x hp
    omega
  rw [Int.tmod_eq_emod_of_nonneg h1, Int.add_emod_right]
  rcases Int.le_total 0 x with h | h
  · rw [Int.tmod_eq_emod_of_nonneg h, Int.emod_emod_of_dvd x (Int.dvd_refl p)]
  · have e := Int.mul_tdiv_add_tmod x p
    have : x.tmod p = x + p * (-(x.tdiv p)) := by rw [Int.mul_neg]; omega
    rw [this, Int.add_mul_emod_self_left]
end Go.Proofs.YtpdkfidmmjlmnabDoor

namespace Go.Proofs.YtpdkfidmmjlmnabDoor
open Go.RowKit

/-- A row of numbers that a call has gathered above a base. -/
def Gb (base : Nat) (w : World) (u : Value) (xs : List Int) : Prop := w.ownsRow base 2 1 u xs.length (xs.map (Value.int .i64))
theorem Gb.g1 {base : Nat} {w : World} {u : Value} {xs : List Int} (h : Gb base w u xs) : G1 w u xs := owns_mono h (Nat.zero_le _)
theorem Gb.l1 {base : Nat} {w : World} {u : Value} {xs : List Int} (h : Gb base w u xs) : L1 0 w u xs := h.g1.l1
theorem Gb.below {base : Nat} {w w' : World} {u : Value} {xs : List Int} (h : Gb base w u xs) (hb : Below w.heap.size w w') : Gb base w' u xs := owns_below h hb
theorem Gb.mono {base base' : Nat} {w : World} {u : Value} {xs : List Int} (h : Gb base w u xs) (hb : base' ≤ base) : Gb base' w u xs := owns_mono h hb

def GbR (xs : List Int) (w : World) (e : Ending) (w' : World) : Prop := ∃ u, e = .returned u ∧ Gb w.heap.size w' u xs ∧ Below w.heap.size w w'

theorem run_append_zero (w : World) (ty : TypeId) (g : Nat) (ad : Option Addr) (cap : Nat) :
    (Builtin.append_ #[22, 22] ty #[.slice (some ⟨g, 0, none⟩) 0 0, .slice ad 0 cap]).run Tryd.prog w = .ok (.slice (some ⟨g, 0, none⟩) 0 0) w := by
  obtain ⟨i, hi, _, _, _⟩ := info_parts Tryd.infoI
  cases ad with
  | none => simp [Builtin.append_, run_underlying Tryd.underlying22, sizeOf, typeInfo, hi, Builtin.lenOf, Builtin.firstCells, storeCells]
  | some a =>
    have hl := run_loadCells_list (P := Tryd.prog) w a [] (by simp)
    simp at hl
    simp [Builtin.append_, run_underlying Tryd.underlying22, sizeOf, typeInfo, hi, Builtin.lenOf, Builtin.firstCells, storeCells, hl]
theorem wpList_append_run {ops : Array Oper} {rest : List Oper} {o : Oper} {a : Act} {w : World} {Q : Exit → Act → World → Prop} {P : Program} (hgd : o.guard = none) (d s : Operand) (t t' : TypeId)
    (ho : o.op = .call { callee := .builtin .append, args := #[d, s], argTypes := #[t, t'] }) (v u : Value) (hd : a.eval d = v) (hs : a.eval s = u) {v' : Value} {w' : World}
    (hr : (Builtin.append_ #[t, t'] o.type #[v, u]).run P w = .ok v' w') (h : wpList P ops Q rest (a.put o.dst v') w') : wpList P ops Q (o :: rest) a w :=
  wpList_plain hgd fun K hK => by
    unfold Oper.wp execOp
    simp only [ho, resolve, invoke, builtin, Sem.run_bind, Sem.run_pure, Result.andThen_ok, List.map_toArray, List.map_cons, List.map_nil, hd, hs, hr]
    exact hK _ _ h

set_option maxHeartbeats 800000 in
theorem l01Own_any (v : Value) (xs : List Int) (w : World) (h : L1 0 w v xs) (hm : xs.length ≤ 1048576) :
    Calls Tryd.prog 36 #[v] w (GbR xs w) := by
  have HOWN := Lib.hid (World.ownsRow_made (base := w.heap.size) (e := 2) (size := 1) w #[] 0 (Nat.le_refl _) (by unfold maxLen; omega) (by simp))
  obtain ⟨i1, hj, hy0, hy1, hy2⟩ := info_parts Tryd.infoI
  refine Sl.cases h (fun ad cap hx hv => ?_) (fun b o cap hv _ hpos hc => ?_)
  · subst hx hv
    clear h
    have hrun := fun W ty => run_append_zero W ty w.heap.size ad cap
    go_enter Tryd.func36, Tryd.ntmps36
    go_wp2_with (at_builtin; refine wpList_append_run rfl (.tmp 3) (.tmp 4) 22 22 rfl _ _ rfl rfl (hrun _ _) ?_)
    go_wp2
    go_ret
    exact ⟨_, rfl, by simpa [Gb] using HOWN.out, (Below.refl _ _).alloc (Nat.le_refl _) _⟩
  · subst hv
    clear h
    have HC := Lib.hid hc
    clear hc
    go_enter Tryd.func36, Tryd.ntmps36
    go_wp2_with (at_builtin; refine wpList_append_own _ rfl (.tmp 3) (.tmp 4) 22 rfl w.heap.size 2 i1 (.int .i64 0) 1 8 Tryd.underlying22 hj hy0 hy1 hy2 rfl (by decide) _ _ _ rfl HOWN.out ⟨b, o, none⟩ xs.length cap (xs.map (Value.int .i64)) rfl ?c0 ?c1 ?c2 ?c3 ?c4 ?c5 ?_)
    case c0 => simp
    case c1 =>
      intro j u hju
      have hj' : j < xs.length := by
        have := (List.getElem?_eq_some_iff.1 hju).1
        simpa using this
      obtain ⟨u2, h2, h3⟩ := HC.out j hj'
      rw [Addr.add_lit]
      have h4 := cell_lt h2
      rw [((Below.refl w.heap.size w).alloc (Nat.le_refl _) _).cell (p := ⟨b, o + j, none⟩) h4, h2, h3]
      simp [hj'] at hju
      rw [hju]
    case c2 => intro u hu; obtain ⟨x, _, rfl⟩ := List.mem_map.1 hu; rfl
    case c3 => unfold maxLen; omega
    case c4 => omega
    case c5 => simp
    intro v' w3 hown' hgrow _
    have HB3 : Hid (Below w.heap.size w w3) := Lib.hid (((Below.refl _ _).alloc (Nat.le_refl _) _).grown hgrow (by simp) (fun g hg => ((HOWN.out.lt) g hg).1))
    have HO3 := Lib.hid hown'
    clear hown' hgrow
    go_wp2
    go_ret
    exact ⟨_, rfl, by simpa [Gb] using HO3.out, HB3.out⟩

theorem tmod_bd {p x : Int} (hp : IsP p) : -7 < x.tmod p ∧ x.tmod p < 7 := by
  have h1 := Int.lt_tmod_of_pos x (show 0 < p by have := hp.lo; omega)
  have h2 := Int.tmod_lt_of_pos x (show 0 < p by have := hp.lo; omega)
  have := hp.hi
  omega
set_option maxHeartbeats 400000 in
theorem l01Mod_any (p x : Int) (w : World) (hp : IsP p) : Calls Tryd.prog 35 #[.int .i64 p, .int .i64 x] w (QW (.int .i64 (x % p)) w) := by
  have HM := Lib.hid (mod_twice (x := x) (show 0 < p by have := hp.lo; omega))
  obtain ⟨hb0, hb1⟩ := tmod_bd (x := x) hp
  have hp0 := hp.lo
  have hp1 := hp.hi
  obtain ⟨r, hr⟩ : ∃ r, r = x.tmod p := ⟨_, rfl⟩
  rw [← hr] at hb0 hb1
  have HR := Lib.hid hr
  clear hr
  go_enter Tryd.func35, Tryd.ntmps35
  go_wp2
  rw [← HR.out]
  have hw : wrap64 (r + p) = r + p := by unfold wrap64; omega
  go_ret
  exact ⟨ret_int (by rw [← HM.out, ← HR.out, hw]), rfl⟩

end Go.Proofs.YtpdkfidmmjlmnabDoor

namespace Go.Proofs.YtpdkfidmmjlmnabDoor
open Go.RowKit

/-- A row of n numbers lies somewhere, if there are any. -/
theorem l1_toL {lo : Nat} {w : World} {u : Value} {n : Nat} {v : Lin.V} (h : L1 lo w u (toL n v)) (hn : 0 < n) : ∃ b o cap, u = .slice (some ⟨b, o, none⟩) n cap ∧ ∀ k, k < n → w.cell? ⟨b, o + k, none⟩ = some (.int .i64 (v k)) := by
  refine Sl.cases h (fun _ _ hx _ => by have := congrArg List.length hx; rw [toL_length] at this; simp at this; omega) (fun b o cap hv _ _ hc => ⟨b, o, cap, by rw [hv, toL_length], fun k hk => ?_⟩)
  obtain ⟨x, hx, hr⟩ := hc k (by rw [toL_length]; exact hk)
  rw [toL_get] at hr
  rw [hx, hr]
end Go.Proofs.YtpdkfidmmjlmnabDoor

namespace Go.Proofs.YtpdkfidmmjlmnabDoor
open Go.RowKit

/-- A table gathered row by row, above a base. -/
def Gs (base : Nat) (w : World) (u : Value) (t : List (List Int)) : Prop := ∃ vs, w.ownsRow base 22 1 u t.length vs ∧ ∀ k (h1 : k < vs.length) (h2 : k < t.length), G1 w vs[k] t[k]
theorem Gs.below {base : Nat} {w w' : World} {u : Value} {t : List (List Int)} (h : Gs base w u t) (hb : Below w.heap.size w w') : Gs base w' u t := by
  obtain ⟨vs, ho, hr⟩ := h
  exact ⟨vs, owns_below ho hb, fun k h1 h2 => (hr k h1 h2).below hb⟩
theorem Gs.mono {base base' : Nat} {w : World} {u : Value} {t : List (List Int)} (h : Gs base w u t) (hb : base' ≤ base) : Gs base' w u t := by
  obtain ⟨vs, ho, hr⟩ := h
  exact ⟨vs, owns_mono ho hb, hr⟩
theorem Gs.l2 {base : Nat} {w : World} {u : Value} {t : List (List Int)} (h : Gs base w u t) : L2 0 w u t := by
  obtain ⟨vs, ho, hr⟩ := h
  exact sl_of_owns ho (Nat.zero_le _) rfl (fun k h1 h2 => (hr k h2 h1).l1)
theorem Gs.push {base : Nat} {w w3 : World} {v v' row : Value} {t : List (List Int)} {vs : List Value} {x : List Int} (ho : w.ownsRow base 22 1 v t.length vs) (hr : ∀ k (h1 : k < vs.length) (h2 : k < t.length), G1 w vs[k] t[k]) (hx : G1 w row x)
    (ho3 : w3.ownsRow base 22 1 v' (t.length + 1) (vs ++ [row])) (hg : w.grownBy w3 v.ownBlock) : Gs base w3 v' (t ++ [x]) := by
  have hvl : vs.length = t.length := by have := ho.1; omega
  have keep : ∀ u xs, G1 w u xs → G1 w3 u xs := fun u xs h => owns_grown h ho (by decide) hg
  refine ⟨vs ++ [row], by simpa using ho3, fun k h1 h2 => ?_⟩
  by_cases e : k < vs.length
  · rw [List.getElem_append_left e, List.getElem_append_left (by omega)]
    exact keep _ _ (hr k e (by omega))
  · have e2 : k = vs.length := by simp at h1; omega
    subst e2
    rw [List.getElem_append_right (by omega), List.getElem_append_right (by omega)]
    simp only [hvl, Nat.sub_self, List.getElem_cons_zero]
    exact keep _ _ hx

end Go.Proofs.YtpdkfidmmjlmnabDoor


namespace Go.Proofs.YtpdkfidmmjlmnabDoor
open Go.RowKit

/-- What the functions on spaces take. -/
def SpOk (p n : Int) (rows : List (List Int)) : Prop := IsP p ∧ (0 ≤ n ∧ n ≤ 40) ∧ rows.length ≤ 40 ∧ TabOk p (rows.length : Int) n rows
theorem SpOk.row {p n : Int} {rows : List (List Int)} (h : SpOk p n rows) {r : List Int} (hr : r ∈ rows) : RowOk p n r := h.2.2.2.2 r hr
theorem SpOk.md {p n : Int} {rows : List (List Int)} (h : SpOk p n rows) : ∀ u ∈ rows.map ofL, Lin.Md p u := fun u hu => by
  obtain ⟨r, hr, rfl⟩ := List.mem_map.1 hu
  exact ofL_md (by have := h.1.lo; omega) (h.row hr)
theorem SpOk.wd {p n : Int} {rows : List (List Int)} (h : SpOk p n rows) : ∀ u ∈ rows.map ofL, Lin.Wd n.toNat u := fun u hu => by
  obtain ⟨r, hr, rfl⟩ := List.mem_map.1 hu
  exact ofL_wd (by have := (h.row hr).1; omega)
theorem SpOk.short {p n : Int} {rows : List (List Int)} (h : SpOk p n rows) : ∀ r ∈ rows, r.length ≤ 40 := fun r hr => by
  have := (h.row hr).1
  have := h.2.1
  omega
theorem led_length {n : Nat} : ∀ (L : List Lin.V) (k : Nat), L.Pairwise (fun v w => Lin.ld v < Lin.ld w) → (∀ u ∈ L, k ≤ Lin.ld u ∧ Lin.ld u < n) → L.length ≤ n - k
  | [], _, _, _ => by simp
  | v :: L, k, hp, h => by
    have h1 := List.pairwise_cons.1 hp
    have h0 := h v (by simp)
    have := led_length L (Lin.ld v + 1) h1.2 (fun u hu => ⟨h1.1 u hu, (h u (by simp [hu])).2⟩)
    simp only [List.length_cons]
    omega
theorem red_length {p : Int} {n : Nat} {R : List Lin.V} (h : Lin.Red p R) (hw : ∀ u ∈ R, Lin.Wd n u) : R.length ≤ n := by
  have := led_length (n := n) R 0 h.inc (fun u hu => ⟨Nat.zero_le _, (ld_ltn (hw u hu) (h.ne hu)).1⟩)
  omega

/-- What such a function answers: the reduced list of a space, or a code. -/
structure SpOut (p : Int) (n : Nat) (S : Lin.V → Prop) (c0 : Int) (out : List (List Int)) (c : Int) : Prop where
  good : c0 = 0 → ∃ R, Lin.Red p R ∧ (∀ u ∈ R, Lin.Wd n u) ∧ (∀ v, Lin.Sp p R v ↔ S v) ∧ out = R.map (toL n)
  bad : c0 ≠ 0 → out = []
  code : c = c0
theorem SpOut.unique {p : Int} {n : Nat} {S : Lin.V → Prop} {c0 : Int} {o1 o2 : List (List Int)} {c1 c2 : Int} (hp : c0 = 0 → 1 < p) (h1 : SpOut p n S c0 o1 c1) (h2 : SpOut p n S c0 o2 c2) : o1 = o2 ∧ c1 = c2 := by
  refine ⟨?_, h1.code.trans h2.code.symm⟩
  by_cases h0 : c0 = 0
  · obtain ⟨R1, a1, _, b1, rfl⟩ := h1.good h0
    obtain ⟨R2, a2, _, b2, rfl⟩ := h2.good h0
    rw [Lin.Red.unique (hp h0) a1 a2 (fun v => (b1 v).trans (b2 v).symm)]
  · rw [h1.bad h0, h2.bad h0]
theorem SpOut.bd {p : Int} {n : Nat} {S : Lin.V → Prop} {c0 : Int} {o : List (List Int)} {c : Int} (h : SpOut p n S c0 o c) (hn : c0 = 0 → n ≤ 1048576) : Bd2 1048576 o := by
  by_cases h0 : c0 = 0
  · obtain ⟨R, a, b, _, rfl⟩ := h.good h0
    have := red_length a b
    have hn := hn h0
    refine ⟨by rw [List.length_map]; omega, fun r hr => ?_⟩
    obtain ⟨u, _, rfl⟩ := List.mem_map.1 hr
    unfold Bd1
    rw [toL_length]
    exact hn
  · rw [h.bad h0]
    exact ⟨by simp, by simp⟩
theorem SpOut.of_no {p : Int} {n : Nat} {S : Lin.V → Prop} {c0 : Int} (h : c0 ≠ 0) : SpOut p n S c0 [] c0 := ⟨fun h0 => absurd h0 h, fun _ => rfl, rfl⟩
theorem TW.wider {lo lo' hi : Nat} {W : World} {u : Value} {R : List (List Int)} (h : TW lo hi W u R) (hl : lo' ≤ lo) : TW lo' hi W u R := by
  rcases h with h | ⟨g, r, c, Z, h1, h2, h3, h4, h5, h6, h7⟩
  · exact Or.inl h
  · exact Or.inr ⟨g, r, c, Z, by omega, h2, h3, h4, h5, h6, h7⟩
end Go.Proofs.YtpdkfidmmjlmnabDoor

namespace Go.Proofs.YtpdkfidmmjlmnabDoor
open Go.RowKit

theorem nil2 (w : World) : L2 0 w (.slice none 0 0) [] := Or.inl ⟨rfl, _, _, rfl⟩

end Go.Proofs.YtpdkfidmmjlmnabDoor

namespace Go.Proofs.YtpdkfidmmjlmnabDoor
open Go.RowKit

/-- append of no elements. -/
theorem run_append_none' {P : Program} (w : World) (t ty e : TypeId) (i : TypeInfo) (ht : P.underlying t = some (.slice e)) (hi : P.info? e = some i) {base size n : Nat} {v : Value} {xs : List Value} (hown : w.ownsRow base e size v n xs) (ad : Option Addr) (cap : Nat) :
    (Builtin.append_ #[t, t] ty #[v, .slice ad 0 cap]).run P w = .ok v w := by
  cases ad with
  | none =>
    rcases hown.2 with ⟨rfl, rfl⟩ | ⟨g, cap, cur, rfl, _, _, hnc, _⟩
    · simp [Builtin.append_, run_underlying ht, sizeOf, typeInfo, hi, Builtin.lenOf, Builtin.firstCells]
    · simp [Builtin.append_, run_underlying ht, sizeOf, typeInfo, hi, Builtin.lenOf, Builtin.firstCells, hnc, storeCells]
  | some a =>
    have hl := run_loadCells_list (P := P) w a [] (by simp)
    simp at hl
    rcases hown.2 with ⟨rfl, rfl⟩ | ⟨g, cap, cur, rfl, _, _, hnc, _⟩
    · simp [Builtin.append_, run_underlying ht, sizeOf, typeInfo, hi, Builtin.lenOf, Builtin.firstCells, hl]
    · simp [Builtin.append_, run_underlying ht, sizeOf, typeInfo, hi, Builtin.lenOf, Builtin.firstCells, hnc, storeCells, hl]

end Go.Proofs.YtpdkfidmmjlmnabDoor

namespace Go.Proofs.YtpdkfidmmjlmnabDoor
open Go.RowKit

/-- The rows' values of a table. -/
structure RowsAt (w : World) (v : Value) (tb : List (List Int)) (vs : List Value) : Prop where
  len : vs.length = tb.length
  row : ∀ k (h1 : k < vs.length) (h2 : k < tb.length), L1 0 w vs[k] tb[k]
  one : ∀ u ∈ vs, u.oneCell' = true
  at' : ∃ ad cap, v = .slice ad tb.length cap ∧ (0 < tb.length → ∃ a, ad = some a ∧ ∀ j u, vs[j]? = some u → w.cell? (a.add j) = some u)
theorem RowsAt.below {w w' : World} {v : Value} {tb : List (List Int)} {vs : List Value} (h : RowsAt w v tb vs) (hb : Below w.heap.size w w') : RowsAt w' v tb vs := by
  obtain ⟨ad, cap, hv, hc⟩ := h.at'
  refine ⟨h.len, fun k h1 h2 => (h.row k h1 h2).below hb, h.one, ad, cap, hv, fun h0 => ?_⟩
  obtain ⟨a, ha, hc⟩ := hc h0
  exact ⟨a, ha, fun j u hj => by rw [hb.cell (World.block_lt_of_cell? _ _ (hc j u hj)), hc j u hj]⟩
end Go.Proofs.YtpdkfidmmjlmnabDoor


namespace Go.Proofs.YtpdkfidmmjlmnabDoor
open Go.RowKit

theorem hloadC (w : World) {b : Nat} {p : Int} {dv mv : Value} (c0 : w.cell? ⟨b, 0, none⟩ = some (.int .i64 p)) (c1 : w.cell? ⟨b, 1, none⟩ = some dv) (c2 : w.cell? ⟨b, 2, none⟩ = some mv) : (Instr.loadAt 28 (.pointer (some ⟨b, 0, none⟩))).run Tryd.prog w = .ok (.agg #[.int .i64 p, dv, mv]) w := by go_simp

open Classical in
/-- The code of a complex and a degree. -/
noncomputable def cxCode (p : Int) (ds : List Int) (ms : List (List (List Int))) (n : Int) : Int := if IsCx p ds ms then (if 0 ≤ n ∧ n ≤ (ds.length : Int) - 1 then 0 else 2) else 1
theorem cxCode_zero {p : Int} {ds : List Int} {ms : List (List (List Int))} {n : Int} (h : cxCode p ds ms n = 0) : IsCx p ds ms ∧ 0 ≤ n ∧ n ≤ (ds.length : Int) - 1 := by
  unfold cxCode at h
  by_cases a : IsCx p ds ms
  · rw [if_pos a] at h
    by_cases b : 0 ≤ n ∧ n ≤ (ds.length : Int) - 1
    · exact ⟨a, b⟩
    · rw [if_neg b] at h; exact absurd h (by decide)
  · rw [if_neg a] at h; exact absurd h (by decide)
/-- The dimension of a degree. -/
def dimN (ds : List Int) (n : Int) : Nat := (ds.getD n.toNat 0).toNat

/-- What a function on a complex and a degree answers as a list of vectors. -/
def SpF (p : Int) (n : Nat) (S : Lin.V → Prop) (R : List Lin.V) : Prop := Lin.Red p R ∧ (∀ u ∈ R, Lin.Wd n u) ∧ (∀ v, Lin.Sp p R v ↔ S v)
theorem SpF.short {p : Int} {n : Nat} {S : Lin.V → Prop} {R : List Lin.V} (h : SpF p n S R) : R.length ≤ n := red_length h.1 h.2.1

end Go.Proofs.YtpdkfidmmjlmnabDoor

namespace Go.Proofs.YtpdkfidmmjlmnabDoor
open Go.RowKit

/-- The table from the degree k + 1 to k, none beyond the degrees. -/
def tabN (ms : List (List (List Int))) (k : Nat) : List (List Int) := ms.getD k []
theorem tabN_ok {p : Int} {ds : List Int} {ms : List (List (List Int))} (h : IsCx p ds ms) (k : Nat) : ∀ r ∈ tabN ms k, RowOk p (ds.getD k 0) r := fun r hr => by
  by_cases hk : k < ms.length
  · exact (h.tab hk).2 r hr
  · have e : tabN ms k = [] := by simp [tabN, List.getD, show ms.length ≤ k by omega]
    rw [e] at hr
    cases hr
theorem tabN_len {p : Int} {ds : List Int} {ms : List (List (List Int))} (h : IsCx p ds ms) (k : Nat) : (tabN ms k).length ≤ 8 := by
  by_cases hk : k < ms.length
  · have h1 := (h.tab hk).1
    have := (h.1.dim (k + 1)).2
    have e : tabN ms k = ms.getD k [] := rfl
    rw [e]
    omega
  · have e : tabN ms k = [] := by simp [tabN, List.getD, show ms.length ≤ k by omega]
    rw [e]
    simp
set_option maxHeartbeats 1600000 in
set_option maxRecDepth 100000 in
theorem mapAt_any (p : Int) (k : Nat) (dv mv : Value) (ds : List Int) (ms : List (List (List Int))) (w : World) (h : Cx 0 w dv mv ds ms) (hcx : IsCx p ds ms) :
    Calls Tryd.prog 56 #[.agg #[.int .i64 p, dv, mv], .int .i64 k] w (L2R (tabN ms k) w) := by
  have HX0 := Lib.hid (Bx.start (p := p) 28 h)
  obtain ⟨ad, cap, rfl⟩ := Sl.shape h.dims
  obtain ⟨am, capm, rfl⟩ := Sl.shape h.maps
  have hml := hcx.1.mlen
  have hl6 := hcx.1.len1
  have c0 := HX0.out.c0
  have c1 := HX0.out.c1
  have c2 := HX0.out.c2
  clear h
  by_cases hk : k < ms.length
  · have hr : 0 ≤ (k : Int) ∧ (k : Int) ≤ (ds.length : Int) - 1 - 1 := by omega
    have HR := Lib.hid hr
    clear hr
    go_enter Tryd.func56, Tryd.ntmps56
    go_wp2_with fail
    refine (topOf_any p _ _ ds.length ad cap _ rfl (by omega)).mono ?_
    rintro e w1 ⟨rfl, hb1⟩
    have HX1 := Lib.hid (HX0.out.next hb1)
    clear hb1 c0 c1 c2
    have c0 := HX1.out.c0
    have c1 := HX1.out.c1
    have c2 := HX1.out.c2
    have hw1 : IntKind.i64.wrap ((ds.length : Int) - 1 - 1) = (ds.length : Int) - 1 - 1 := IntWalk.i64_in _ (by omega)
    go_wp2_with fail
    refine (in_yes HR.out _).mono ?_
    rintro e w' ⟨rfl, rfl⟩
    refine Sl.cases HX1.out.cx.maps (fun _ _ hx _ => absurd hk (by simp [hx])) (fun bm om capm2 hvm _ _ hclm => ?_)
    injection hvm with e1 _ e3
    subst e1 e3
    obtain ⟨um, hum, hrm⟩ := hclm k hk
    have HRM : Hid (L2 0 w1 um (tabN ms k)) := Lib.hid (by unfold tabN; rw [getD_of_lt _ hk]; exact hrm)
    have hk2 : (k : Int) < (ms.length : Int) := by omega
    have hk3 : (0 : Int) ≤ (k : Int) := by omega
    clear hrm hclm
    go_wp2
    go_ret
    exact ⟨um, rfl, HRM.out, HX1.out.below⟩
  · have hr : ¬ (0 ≤ (k : Int) ∧ (k : Int) ≤ (ds.length : Int) - 1 - 1) := by omega
    have HR := Lib.hid hr
    have HE : Hid (tabN ms k = []) := Lib.hid (by simp [tabN, List.getD, show ms.length ≤ k by omega])
    clear hr
    go_enter Tryd.func56, Tryd.ntmps56
    go_wp2_with fail
    refine (topOf_any p _ _ ds.length ad cap _ rfl (by omega)).mono ?_
    rintro e w1 ⟨rfl, hb1⟩
    have HX1 := Lib.hid (HX0.out.next hb1)
    clear hb1 c0 c1 c2
    have hw1 : IntKind.i64.wrap ((ds.length : Int) - 1 - 1) = (ds.length : Int) - 1 - 1 := IntWalk.i64_in _ (by omega)
    go_wp2_with fail
    refine (in_no HR.out _).mono ?_
    rintro e w' ⟨rfl, rfl⟩
    go_wp2
    go_ret
    exact ⟨_, rfl, by rw [HE.out]; exact nil2 _, HX1.out.below⟩

end Go.Proofs.YtpdkfidmmjlmnabDoor

namespace Go.Proofs.YtpdkfidmmjlmnabDoor
open Go.RowKit

theorem Gs.lt {base : Nat} {w : World} {v : Value} {tb : List (List Int)} (h : Gs base w v tb) : ∀ k, v.ownBlock = some k → base ≤ k ∧ k < w.heap.size := by
  obtain ⟨vs, ho, _⟩ := h
  exact World.ownsRow.lt ho
theorem Gs.row {base : Nat} {w : World} {u : Value} {tb : List (List Int)} (h : Gs base w u tb) {k : Nat} (hk : k < tb.length) (hpos : 0 < (tb[k]).length) :
    ∃ b c, u = .slice (some ⟨b, 0, none⟩) tb.length c ∧ ∃ g cap, w.cell? ⟨b, k, none⟩ = some (.slice (some ⟨g, 0, none⟩) (tb[k]).length cap) ∧ (tb[k]).length ≤ cap ∧ G1 w (.slice (some ⟨g, 0, none⟩) (tb[k]).length cap) tb[k] := by
  obtain ⟨vs, ho, hr⟩ := h
  obtain ⟨b, c, rfl, _, _⟩ := World.ownsRow.form ho (by omega)
  have hvl : vs.length = tb.length := by have := ho.1; omega
  have hg := hr k (by omega) hk
  obtain ⟨g, cap, hv, _, _⟩ := World.ownsRow.form hg hpos
  refine ⟨b, c, rfl, g, cap, ?_, ?_, by rw [← hv]; exact hg⟩
  · rw [World.ownsRow.cellAt ho k (by omega), List.getElem?_eq_getElem (by omega), hv]
  · rw [hv] at hg
    rcases hg.2 with ⟨h0, _⟩ | ⟨g', cap', cur, h0, _, _, hnc, _⟩
    · cases h0
    · injection h0 with _ _ e3
      omega
/-- The vectors of n numbers that all columns of a table annihilate. -/
def CycS (p : Int) (n m : Nat) (t : List (List Int)) (v : Lin.V) : Prop := Lin.Md p v ∧ Lin.Wd n v ∧ ∀ j, j < m → Lin.dot n (Lin.col (fun i => ofL (t.getD i [])) j) v % p = 0
def unitV (k : Nat) : Lin.V := fun i => if i = k then 1 else 0
theorem unit_row (w : World) {n k : Nat} (hk : k < n) : (w.alloc (.cells ((madeCells #[.int .i64 0] n).setIfInBounds k (.int .i64 1)) 2)).rowIs w.heap.size 2 n (fun i => .int .i64 (unitV k i)) := by
  refine ⟨_, heap_alloc_new w _, by simp [size_madeCells], fun i hi => ?_⟩
  rw [Array.getElem?_setIfInBounds]
  unfold unitV
  by_cases e : k = i
  · subst e
    simp [size_madeCells, hk]
  · have e2 : ¬ i = k := fun h => e h.symm
    simp [e, e2, madeCells, hi, Nat.mod_one]
end Go.Proofs.YtpdkfidmmjlmnabDoor

namespace Go.Proofs.YtpdkfidmmjlmnabDoor
open Go.RowKit

theorem hremI {a b : Int} (h0 : 0 ≤ a) (h1 : 0 < b) (h2 : b ≤ 1000) (w : World) : (binOp .rem 2 (.int .i64 a) (.int .i64 b)).run Tryd.prog w = .ok (.int .i64 (a % b)) w := by
  have hb : ¬ b = 0 := by omega
  have hb1 : ¬ b = -1 := by omega
  go_simp
  rw [Int.tmod_eq_emod_of_nonneg h0]
theorem hstoreI (w : World) {b o : Nat} {u : Value} (x : Int) (hc : w.cell? ⟨b, o, none⟩ = some u) (hf : w.frozen? ⟨b, o, none⟩ = false) : (Instr.storeAt 2 (.pointer (some ⟨b, o, none⟩)) (.int .i64 x)).run Tryd.prog w = .ok () (w.setCell ⟨b, o, none⟩ (.int .i64 x)) := by go_simp
section
variable {md : Region.Mode} {ops : Array Oper} {Q : Exit → Act → World → Prop} {S : World → Prop}
end

/-- The solutions gathered from the places before f. -/
structure Sols (p : Int) (R : List Lin.V) (f : Nat) (L : List Lin.V) : Prop where
  all : ∀ g, g < f → Lin.Free R g → ∃ s ∈ L, Lin.Sol p R g s
  only : ∀ s ∈ L, ∃ g, g < f ∧ Lin.Free R g ∧ Lin.Sol p R g s
  len : L.length ≤ f
theorem Sols.nil (p : Int) (R : List Lin.V) : Sols p R 0 [] := ⟨fun g h => absurd h (Nat.not_lt_zero _), by simp, by simp⟩
theorem Sols.skip {p : Int} {R : List Lin.V} {f : Nat} {L : List Lin.V} (h : Sols p R f L) (hf : ¬ Lin.Free R f) : Sols p R (f + 1) L :=
  ⟨fun g hg hfr => by
    by_cases e : g = f
    · subst e; exact absurd hfr hf
    · exact h.all g (by omega) hfr, fun s hs => by obtain ⟨g, h1, h2⟩ := h.only s hs; exact ⟨g, by omega, h2⟩, by have := h.len; omega⟩
theorem Sols.add {p : Int} {R : List Lin.V} {f : Nat} {L : List Lin.V} (h : Sols p R f L) (hf : Lin.Free R f) {s : Lin.V} (hs : Lin.Sol p R f s) : Sols p R (f + 1) (L ++ [s]) :=
  ⟨fun g hg hfr => by
    by_cases e : g = f
    · subst e; exact ⟨s, by simp, hs⟩
    · obtain ⟨t, ht, h2⟩ := h.all g (by omega) hfr
      exact ⟨t, by simp [ht], h2⟩, fun t ht => by
    rcases List.mem_append.1 ht with h1 | h1
    · obtain ⟨g, h2, h3⟩ := h.only t h1; exact ⟨g, by omega, h3⟩
    · rw [List.mem_singleton.1 h1]; exact ⟨f, by omega, hf, hs⟩, by have := h.len; simp; omega⟩
/-- A solution while it is made: k rows have been seen. -/
structure SolTo (p : Int) (R : List Lin.V) (f k : Nat) (s : Lin.V) : Prop where
  at1 : s f = 1
  lead : ∀ w ∈ R.take k, s (Lin.ld w) = (p - w f) % p
  rest : ∀ i, i ≠ f → (∀ w ∈ R.take k, Lin.ld w ≠ i) → s i = 0
theorem SolTo.start (p : Int) (R : List Lin.V) (f : Nat) : SolTo p R f 0 (fun i => if i = f then 1 else Lin.zv i) := ⟨by simp, by simp, fun i h _ => by simp [h, Lin.zv]⟩
theorem SolTo.step {p : Int} {R : List Lin.V} {f k : Nat} {s : Lin.V} (hR : Lin.Red p R) (hf : Lin.Free R f) (h : SolTo p R f k s) (hk : k < R.length) : SolTo p R f (k + 1) (fun i => if i = Lin.ld R[k] then (p - R[k] f) % p else s i) := by
  have hne : ∀ w ∈ R.take k, Lin.ld w ≠ Lin.ld R[k] := fun w hw e => by
    obtain ⟨j, hj, rfl⟩ := List.getElem_of_mem hw
    have hjk : j < k := by simp at hj; omega
    have := List.pairwise_iff_getElem.1 hR.inc j k (by omega) hk hjk
    rw [List.getElem_take] at e
    omega
  refine ⟨?_, fun w hw => ?_, fun i hi hn => ?_⟩
  · rw [if_neg (fun e => hf _ (List.getElem_mem hk) e.symm)]
    exact h.at1
  · rw [List.take_succ_eq_append_getElem hk] at hw
    rcases List.mem_append.1 hw with h1 | h1
    · rw [if_neg (hne w h1)]
      exact h.lead w h1
    · rw [List.mem_singleton.1 h1, if_pos rfl]
  · have hn2 := hn R[k] (by rw [List.take_succ_eq_append_getElem hk]; exact List.mem_append_right _ (List.mem_singleton.2 rfl))
    rw [if_neg (fun e => hn2 e.symm)]
    exact h.rest i hi (fun w hw => hn w (by rw [List.take_succ_eq_append_getElem hk]; exact List.mem_append_left _ hw))
theorem SolTo.done {p : Int} {R : List Lin.V} {f : Nat} {s : Lin.V} (h : SolTo p R f R.length s) : Lin.Sol p R f s := by
  have e : R.take R.length = R := List.take_of_length_le (Nat.le_refl _)
  exact ⟨h.at1, fun w hw => h.lead w (by rw [e]; exact hw), fun i hi hn => h.rest i hi (fun w hw => hn w (by rw [e] at hw; exact hw))⟩

end Go.Proofs.YtpdkfidmmjlmnabDoor

namespace Go.Proofs.YtpdkfidmmjlmnabDoor
open Go.RowKit

theorem hidxU (b o : Nat) {k n : Nat} (cap : Nat) (hk : k < n) (w : World) : (Instr.indexAt 23 (.slice (some ⟨b, o, none⟩) n cap) (.int .i64 k)).run Tryd.prog w = .ok (.pointer (some ⟨b, o + k, none⟩)) w := by
  have h2 : (0 : Int) ≤ (k : Int) := by omega
  have h3 : (k : Int) < (n : Int) := by omega
  go_simp

/-- The table whose columns the cycles of a degree annihilate, and its width. -/
def cycT (ds : List Int) (ms : List (List (List Int))) (q : Nat) : List (List Int) := mapZ ds ms (q : Int)
def cycM (ds : List Int) (q : Nat) : Nat := if q = 0 then 0 else dimN ds ((q - 1 : Nat) : Int)
theorem dimN_le8 {p : Int} {ds : List Int} {ms : List (List (List Int))} (h : IsCx p ds ms) (q : Nat) : dimN ds (q : Int) ≤ 8 ∧ ds.getD q 0 = (dimN ds (q : Int) : Int) := by
  have := h.1.dim q
  unfold dimN
  rw [Int.toNat_natCast]
  omega
theorem cyc_ok {p : Int} {ds : List Int} {ms : List (List (List Int))} (h : IsCx p ds ms) {q : Nat} (hq : q < ds.length) :
    (cycT ds ms q).length = dimN ds (q : Int) ∧ (∀ r ∈ cycT ds ms q, RowOk p (cycM ds q : Int) r) ∧ cycM ds q ≤ 8 := by
  have hd := dimN_le8 h q
  by_cases h0 : q = 0
  · subst h0
    have e : cycT ds ms 0 = List.replicate (dimN ds ((0 : Nat) : Int)) [] := by
      unfold cycT mapZ
      rw [if_neg (by omega)]
      have : dimZ ds ((0 : Nat) : Int) = ds.getD 0 0 := by
        unfold dimZ
        rw [if_pos (by omega)]
        rfl
      rw [this]
      rfl
    rw [e]
    refine ⟨List.length_replicate, fun r hr => ?_, by simp [cycM]⟩
    rw [List.eq_of_mem_replicate hr]
    exact ⟨by simp [cycM], by simp⟩
  · obtain ⟨k, rfl⟩ : ∃ k, q = k + 1 := ⟨q - 1, by omega⟩
    have hml := h.1.mlen
    have hkm : k < ms.length := by omega
    have e : cycT ds ms (k + 1) = tabN ms k := by
      unfold cycT mapZ tabN
      rw [if_pos (by omega), show (((k + 1 : Nat) : Int)).toNat - 1 = k by omega]
    have hk := dimN_le8 h k
    have ht := h.tab hkm
    have e2 : cycM ds (k + 1) = dimN ds (k : Int) := by simp [cycM]
    rw [e, e2]
    refine ⟨by have := ht.1; have e3 : tabN ms k = ms.getD k [] := rfl; rw [e3]; omega, fun r hr => by rw [← hk.2]; exact ht.2 r hr, hk.1⟩
theorem cycT_succ {p : Int} {ds : List Int} {ms : List (List (List Int))} (h : IsCx p ds ms) {k : Nat} (hq : k + 1 < ds.length) : cycT ds ms (k + 1) = tabN ms k := by
  have hml := h.1.mlen
  unfold cycT mapZ tabN
  rw [if_pos (by omega), show (((k + 1 : Nat) : Int)).toNat - 1 = k by omega]
theorem SpF.congr {p : Int} {n : Nat} {S S' : Lin.V → Prop} {R : List Lin.V} (h : SpF p n S R) (e : ∀ v, S v ↔ S' v) : SpF p n S' R := ⟨h.1, h.2.1, fun v => (h.2.2 v).trans (e v)⟩
/-- A table as an answer. -/
def DtR (t : List (List Int)) (w : World) (e : Ending) (w' : World) : Prop := ∃ v, e = .returned v ∧ L2 0 w' v t ∧ Below w.heap.size w w'
theorem cycT_zero (ds : List Int) (ms : List (List (List Int))) (h0 : 0 < ds.length) : cycT ds ms 0 = List.replicate (dimN ds ((0 : Nat) : Int)) [] := by
  unfold cycT mapZ
  rw [if_neg (by omega)]
  have : dimZ ds ((0 : Nat) : Int) = ds.getD 0 0 := by
    unfold dimZ
    rw [if_pos (by omega)]
    rfl
  rw [this]
  rfl
theorem tableOf_none (d : Nat) (Z : Nat → Nat → Int) : tableOf d 0 Z = List.replicate d [] := by simp [tableOf, List.map_const']
set_option maxHeartbeats 1600000 in
set_option maxRecDepth 100000 in
theorem differentialTable_any (p : Int) (q : Nat) (dv mv : Value) (ds : List Int) (ms : List (List (List Int))) (w : World) (h : Cx 0 w dv mv ds ms) (hcx : IsCx p ds ms) (hq : q < ds.length) :
    Calls Tryd.prog 58 #[.agg #[.int .i64 p, dv, mv], .int .i64 q] w (DtR (cycT ds ms q) w) := by
  have HX0 := Lib.hid (Bx.start (p := p) 28 h)
  have HCX := Lib.hid hcx
  have hml := hcx.1.mlen
  have hl6 := hcx.1.len1
  refine Sl.cases HX0.out.cx.dims (fun _ _ hx _ => absurd hq (by simp [hx])) (fun bd od capd hvd _ _ hcld => ?_)
  subst hvd
  have c0 := HX0.out.c0
  have c1 := HX0.out.c1
  have c2 := HX0.out.c2
  by_cases hq0 : q = 0
  · subst hq0
    obtain ⟨ud, hud, hrd⟩ := hcld 0 hq
    obtain ⟨d, hd⟩ : ∃ d, d = dimN ds ((0 : Nat) : Int) := ⟨_, rfl⟩
    have hd8 : d ≤ 8 := by rw [hd]; exact (dimN_le8 hcx 0).1
    have hcel : (w.alloc (.cells #[.int .i64 p, .slice (some ⟨bd, od, none⟩) ds.length capd, mv] 28)).cell? ⟨bd, od, none⟩ = some (.int .i64 (d : Int)) := by
      rw [Nat.add_zero] at hud
      rw [hud, hrd, ← getD_of_lt 0 hq, (dimN_le8 hcx 0).2, hd]
    have HDT : Hid (tableOf d 0 (fun _ _ => 0) = cycT ds ms 0) := Lib.hid (by rw [cycT_zero ds ms hq, tableOf_none, hd])
    have hlen : (0 : Int) < (ds.length : Int) := by omega
    clear h hcx hcld hud hrd hd
    go_enter Tryd.func58, Tryd.ntmps58
    go_wp2_with fail
    refine (zeroTable_any d 0 _ (by omega) (by omega)).mono ?_
    rintro e w1 ⟨rfl, hm1⟩
    have HM1 := Lib.hid hm1
    clear hm1 hcel c0 c1 c2
    go_wp2
    go_ret
    refine ⟨.slice (some ⟨w.heap.size + 1, 0, none⟩) d d, rfl, ?_, HX0.out.below.trans (HM1.out.below.mono HX0.out.below.size)⟩
    have hh := HM1.out.w2.l2.lower (Nat.zero_le _)
    rw [HDT.out] at hh
    simpa using hh
  · obtain ⟨k, rfl⟩ : ∃ k, q = k + 1 := ⟨q - 1, by omega⟩
    have hkm : k < ms.length := by omega
    refine Sl.cases HX0.out.cx.maps (fun _ _ hx _ => absurd hkm (by simp [hx])) (fun bm om capm hvm _ _ hclm => ?_)
    subst hvm
    obtain ⟨um, hum, hrm⟩ := hclm k hkm
    have HTE : Hid (cycT ds ms (k + 1) = tabN ms k) := Lib.hid (cycT_succ hcx hq)
    have HRM : Hid (L2 0 (w.alloc (.cells #[.int .i64 p, .slice (some ⟨bd, od, none⟩) ds.length capd, .slice (some ⟨bm, om, none⟩) ms.length capm] 28)) um (tabN ms k)) := Lib.hid (by unfold tabN; rw [getD_of_lt _ hkm]; exact hrm)
    have hne : (((k + 1 : Nat) : Int) == 0) = false := by
      have : ¬ ((k + 1 : Nat) : Int) = 0 := by omega
      simpa using this
    have hne2 : ¬ ((k : Int) + 1 = 0) := by omega
    have hwr : IntKind.i64.wrap (((k + 1 : Nat) : Int) - 1) = (k : Int) := by rw [show ((k + 1 : Nat) : Int) - 1 = (k : Int) by omega]; exact IntWalk.i64_in _ (by omega)
    have hsub : ((k : Int) + 1) - 1 = (k : Int) := by omega
    have hlt : (k : Int) < (ms.length : Int) := by omega
    clear h hcx hclm hcld hrm hq0
    go_enter Tryd.func58, Tryd.ntmps58
    go_wp2
    go_ret
    exact ⟨_, rfl, by rw [HTE.out]; exact HRM.out, HX0.out.below⟩

end Go.Proofs.YtpdkfidmmjlmnabDoor


namespace Go.Proofs.YtpdkfidmmjlmnabDoor
open Go.RowKit

/-- The slice u holds tables, in a row of its own. -/
def Gt (base : Nat) (w : World) (u : Value) (ts : List (List (List Int))) : Prop := ∃ vs, w.ownsRow base 39 1 u ts.length vs ∧ ∀ k (h1 : k < vs.length) (h2 : k < ts.length), Gs 0 w vs[k] ts[k]
theorem Gt.below {base : Nat} {w w' : World} {u : Value} {ts : List (List (List Int))} (h : Gt base w u ts) (hb : Below w.heap.size w w') : Gt base w' u ts := by
  obtain ⟨vs, ho, hr⟩ := h
  exact ⟨vs, owns_below ho hb, fun k h1 h2 => (hr k h1 h2).below hb⟩
theorem Gt.l3 {base : Nat} {w : World} {u : Value} {ts : List (List (List Int))} (h : Gt base w u ts) : L3 0 w u ts := by
  obtain ⟨vs, ho, hr⟩ := h
  exact sl_of_owns ho (Nat.zero_le _) rfl (fun k h1 h2 => (hr k h2 h1).l2)
theorem Gt.lt {base : Nat} {w : World} {v : Value} {ts : List (List (List Int))} (h : Gt base w v ts) : ∀ k, v.ownBlock = some k → base ≤ k ∧ k < w.heap.size := by
  obtain ⟨vs, ho, _⟩ := h
  exact World.ownsRow.lt ho
theorem Gt.new {base : Nat} (w : World) (hb : base ≤ w.heap.size) : Gt base (w.alloc (.cells #[] 39)) (.slice (some ⟨w.heap.size, 0, none⟩) 0 0) [] :=
  ⟨[], by simpa using World.ownsRow_made (base := base) (e := 39) (size := 1) w #[] 0 hb (by unfold maxLen; omega) (by simp), fun k h1 _ => absurd h1 (Nat.not_lt_zero _)⟩
theorem Gs.new {base : Nat} (w : World) (hb : base ≤ w.heap.size) : Gs base (w.alloc (.cells #[] 22)) (.slice (some ⟨w.heap.size, 0, none⟩) 0 0) [] :=
  ⟨[], by simpa using World.ownsRow_made (base := base) (e := 22) (size := 1) w #[] 0 hb (by unfold maxLen; omega) (by simp), fun k h1 _ => absurd h1 (Nat.not_lt_zero _)⟩
theorem Gb.new {base : Nat} (w : World) (hb : base ≤ w.heap.size) : Gb base (w.alloc (.cells #[] 2)) (.slice (some ⟨w.heap.size, 0, none⟩) 0 0) [] := by
  have := World.ownsRow_made (base := base) (e := 2) (size := 1) w #[] 0 hb (by unfold maxLen; omega) (by simp)
  simpa [Gb] using this
theorem Gs.grown {w w3 : World} {base base' n : Nat} {u v : Value} {t : List (List Int)} {vs : List Value} (h : Gs base' w u t) (ho : w.ownsRow base 39 1 v n vs) (hg : w.grownBy w3 v.ownBlock) : Gs base' w3 u t := by
  obtain ⟨us, hu, hr⟩ := h
  exact ⟨us, owns_grown hu ho (by decide) hg, fun k h1 h2 => owns_grown (hr k h1 h2) ho (by decide) hg⟩
theorem Gt.push {base : Nat} {w w3 : World} {v v' row : Value} {ts : List (List (List Int))} {vs : List Value} {x : List (List Int)} (ho : w.ownsRow base 39 1 v ts.length vs) (hr : ∀ k (h1 : k < vs.length) (h2 : k < ts.length), Gs 0 w vs[k] ts[k]) (hx : Gs 0 w row x)
    (ho3 : w3.ownsRow base 39 1 v' (ts.length + 1) (vs ++ [row])) (hg : w.grownBy w3 v.ownBlock) : Gt base w3 v' (ts ++ [x]) := by
  have hvl : vs.length = ts.length := by have := ho.1; omega
  refine ⟨vs ++ [row], by simpa using ho3, fun k h1 h2 => ?_⟩
  by_cases e : k < vs.length
  · rw [List.getElem_append_left e, List.getElem_append_left (by omega)]
    exact (hr k e (by omega)).grown ho hg
  · have e2 : k = vs.length := by simp at h1; omega
    subst e2
    rw [List.getElem_append_right (by omega), List.getElem_append_right (by omega)]
    simp only [hvl, Nat.sub_self, List.getElem_cons_zero]
    exact hx.grown ho hg
theorem gb_row {W : World} {base g n : Nat} {f : Nat → Value} {xs : List Int} (h : W.rowIs g 2 n f) (hl : xs.length = n) (hf : ∀ i (h : i < xs.length), f i = .int .i64 xs[i]) (hn : n ≤ maxLen) (hb : base ≤ g) : Gb base W (.slice (some ⟨g, 0, none⟩) n n) xs := by
  obtain ⟨cs, hbl, hsz, hcs⟩ := h
  refine ⟨by simp, Or.inr ⟨g, n, cs, by rw [hl], hb, hbl, by omega, hn, by simp [hsz], ?_⟩⟩
  refine List.ext_getElem (by simp [hl, hsz]) fun i h1 h2 => ?_
  have hi : i < n := by have : i < xs.length := by simpa using h2
                        omega
  simp only [List.getElem_take, List.getElem_map]
  have := hcs i hi
  rw [hf i (by omega)] at this
  obtain ⟨_, h3⟩ := Array.getElem?_eq_some_iff.1 this
  simpa using h3
section
variable {ops : Array Oper} {rest : List Oper} {Q : Exit → Act → World → Prop}
end
end Go.Proofs.YtpdkfidmmjlmnabDoor

