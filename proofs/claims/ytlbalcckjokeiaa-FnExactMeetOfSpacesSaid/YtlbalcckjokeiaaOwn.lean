/-
  Memory that calls have made: slices whose cells lie in a span of blocks and may be written; what keeps them; the copies of the arguments once more, with that word.
-/
import Derived.Test.YtlbalcckjokeiaaEq
namespace Go.Proofs.Ytlbalcckjokeiaa
open Go.RowKit

/-- Blocks from lo up to hi are as they were. -/
def Same (lo hi : Nat) (w w' : World) : Prop := ∀ b, lo ≤ b → b < hi → w'.heap[b]? = w.heap[b]?
theorem Same.of_below {lo hi : Nat} {w w' : World} {B : Nat} (h : Below B w w') (hh : hi ≤ B) : Same lo hi w w' := fun b _ hb => h.block b (Nat.lt_of_lt_of_le hb hh)
theorem Same.trans {lo hi : Nat} {a b c : World} (h : Same lo hi a b) (k : Same lo hi b c) : Same lo hi a c := fun i hl hi => (k i hl hi).trans (h i hl hi)
theorem Same.set {lo hi g o : Nat} {w : World} (u : Value) (h : g < lo ∨ hi ≤ g) : Same lo hi w (w.setCell ⟨g, o, none⟩ u) := fun b hl hb => Below.heap_setCell w ⟨g, o, none⟩ u b (by show b ≠ g; omega)
theorem Same.narrow {lo hi lo' hi' : Nat} {w w' : World} (h : Same lo hi w w') (h1 : lo ≤ lo') (h2 : hi' ≤ hi) : Same lo' hi' w w' := fun b hl hb => h b (by omega) (by omega)

/-- The slice v reads as xs; its cells lie in blocks from lo up to hi, and may be written. -/
def Sw {α : Type} (lo hi : Nat) (R : World → Value → α → Prop) (w : World) (v : Value) (xs : List α) : Prop :=
  (xs = [] ∧ ∃ ad cap, v = .slice ad 0 cap) ∨
  ∃ b o cap, v = .slice (some ⟨b, o, none⟩) xs.length cap ∧ lo ≤ b ∧ b < hi ∧ 0 < xs.length ∧ (∀ k (h : k < xs.length), ∃ u, w.cell? ⟨b, o + k, none⟩ = some u ∧ R w u xs[k]) ∧ ∀ k, k < xs.length → w.frozen? ⟨b, o + k, none⟩ = false
def W1 (lo hi : Nat) := Sw lo hi IsI
def W2 (lo hi : Nat) := Sw lo hi (W1 lo hi)
def W3 (lo hi : Nat) := Sw lo hi (W2 lo hi)

def Steady {α : Type} (lo hi : Nat) (R : World → Value → α → Prop) : Prop := ∀ w w' v x, Same lo hi w w' → R w v x → R w' v x
theorem steadyI (lo hi : Nat) : Steady lo hi IsI := fun _ _ _ _ _ h => h
theorem Steady.sw {α : Type} {lo hi : Nat} {R : World → Value → α → Prop} (hR : Steady lo hi R) : Steady lo hi (Sw lo hi R) := by
  intro w w' v xs hk h
  rcases h with h | ⟨b, o, cap, hv, hlo, hhi, hpos, hc, hf⟩
  · exact Or.inl h
  · refine Or.inr ⟨b, o, cap, hv, hlo, hhi, hpos, fun k hk' => ?_, fun k hk' => ?_⟩
    · obtain ⟨u, hu, hr⟩ := hc k hk'
      exact ⟨u, (World.cell?_of_block (w := w) (a := ⟨b, o + k, none⟩) (hk b hlo hhi)).trans hu, hR _ _ _ _ hk hr⟩
    · exact (World.frozen?_of_block (w := w) (a := ⟨b, o + k, none⟩) (hk b hlo hhi)).trans (hf k hk')
theorem steady1 (lo hi : Nat) : Steady lo hi (W1 lo hi) := (steadyI lo hi).sw
theorem steady2 (lo hi : Nat) : Steady lo hi (W2 lo hi) := (steady1 lo hi).sw
theorem steady3 (lo hi : Nat) : Steady lo hi (W3 lo hi) := (steady2 lo hi).sw

theorem Sw.wider {α : Type} {lo hi lo' hi' : Nat} {R R' : World → Value → α → Prop} (hl : lo' ≤ lo) (hh : hi ≤ hi') (hR : ∀ w v x, R w v x → R' w v x) {w : World} {v : Value} {xs : List α} (h : Sw lo hi R w v xs) : Sw lo' hi' R' w v xs := by
  rcases h with h | ⟨b, o, cap, hv, hlo, hhi, hpos, hc, hf⟩
  · exact Or.inl h
  · refine Or.inr ⟨b, o, cap, hv, by omega, by omega, hpos, fun k hk' => ?_, hf⟩
    obtain ⟨u, hu, hr⟩ := hc k hk'
    exact ⟨u, hu, hR _ _ _ hr⟩
theorem W1.wider {lo hi lo' hi' : Nat} (hl : lo' ≤ lo) (hh : hi ≤ hi') {w : World} {v : Value} {xs : List Int} (h : W1 lo hi w v xs) : W1 lo' hi' w v xs := Sw.wider hl hh (fun _ _ _ h => h) h
theorem W2.wider {lo hi lo' hi' : Nat} (hl : lo' ≤ lo) (hh : hi ≤ hi') {w : World} {v : Value} {xs : List (List Int)} (h : W2 lo hi w v xs) : W2 lo' hi' w v xs := Sw.wider hl hh (fun _ _ _ h => h.wider hl hh) h
theorem W3.wider {lo hi lo' hi' : Nat} (hl : lo' ≤ lo) (hh : hi ≤ hi') {w : World} {v : Value} {xs : List (List (List Int))} (h : W3 lo hi w v xs) : W3 lo' hi' w v xs := Sw.wider hl hh (fun _ _ _ h => h.wider hl hh) h

theorem Sw.sl {α : Type} {lo hi : Nat} {R R' : World → Value → α → Prop} (hR : ∀ w v x, R w v x → R' w v x) {w : World} {v : Value} {xs : List α} (h : Sw lo hi R w v xs) : Sl lo R' w v xs := by
  rcases h with h | ⟨b, o, cap, hv, hlo, _, hpos, hc, _⟩
  · exact Or.inl h
  · refine Or.inr ⟨b, o, cap, hv, hlo, hpos, fun k hk' => ?_⟩
    obtain ⟨u, hu, hr⟩ := hc k hk'
    exact ⟨u, hu, hR _ _ _ hr⟩
theorem W1.l1 {lo hi : Nat} {w : World} {v : Value} {xs : List Int} (h : W1 lo hi w v xs) : L1 lo w v xs := Sw.sl (fun _ _ _ h => h) h
theorem W2.l2 {lo hi : Nat} {w : World} {v : Value} {xs : List (List Int)} (h : W2 lo hi w v xs) : L2 lo w v xs := Sw.sl (fun _ _ _ h => h.l1) h
theorem W3.l3 {lo hi : Nat} {w : World} {v : Value} {xs : List (List (List Int))} (h : W3 lo hi w v xs) : L3 lo w v xs := Sw.sl (fun _ _ _ h => h.l2) h
theorem W1.same {lo hi : Nat} {w w' : World} {v : Value} {xs : List Int} (h : W1 lo hi w v xs) (hs : Same lo hi w w') : W1 lo hi w' v xs := steady1 lo hi _ _ _ _ hs h
theorem W2.same {lo hi : Nat} {w w' : World} {v : Value} {xs : List (List Int)} (h : W2 lo hi w v xs) (hs : Same lo hi w w') : W2 lo hi w' v xs := steady2 lo hi _ _ _ _ hs h
theorem W3.same {lo hi : Nat} {w w' : World} {v : Value} {xs : List (List (List Int))} (h : W3 lo hi w v xs) (hs : Same lo hi w w') : W3 lo hi w' v xs := steady3 lo hi _ _ _ _ hs h
theorem Sw.cases {α : Type} {lo hi : Nat} {R : World → Value → α → Prop} {w : World} {v : Value} {xs : List α} (h : Sw lo hi R w v xs) {P : Prop}
    (h0 : ∀ ad cap, xs = [] → v = .slice ad 0 cap → P)
    (h1 : ∀ b o cap, v = .slice (some ⟨b, o, none⟩) xs.length cap → lo ≤ b → b < hi → 0 < xs.length → (∀ k (h : k < xs.length), ∃ u, w.cell? ⟨b, o + k, none⟩ = some u ∧ R w u xs[k]) → (∀ k, k < xs.length → w.frozen? ⟨b, o + k, none⟩ = false) → P) : P := by
  rcases h with ⟨h, ad, cap, hv⟩ | ⟨b, o, cap, hv, hlo, hhi, hpos, hc, hf⟩
  · exact h0 ad cap h hv
  · exact h1 b o cap hv hlo hhi hpos hc hf
theorem Sw.shape {α : Type} {lo hi : Nat} {R : World → Value → α → Prop} {w : World} {v : Value} {xs : List α} (h : Sw lo hi R w v xs) : ∃ ad cap, v = .slice ad xs.length cap :=
  h.cases (fun ad cap hx hv => ⟨ad, cap, by subst hx; exact hv⟩) (fun b o cap hv _ _ _ _ _ => ⟨some ⟨b, o, none⟩, cap, hv⟩)

/-- The filling of a slice, the elements in a span of blocks of their own. -/
structure FillW {α : Type} (w wr : World) (t : TypeId) (n k : Nat) (z : Value) (R : Nat → Nat → World → Value → α → Prop) (xs : List α) (f : Nat → Value) : Prop where
  below : Below w.heap.size w wr
  row : wr.rowIs w.heap.size t n f
  done : ∀ j (h : j < xs.length), j < k → R (w.heap.size + 1) wr.heap.size wr (f j) (xs[j]'h)

theorem FillW.start {α : Type} (w : World) (t : TypeId) (n : Nat) (z : Value) (R : Nat → Nat → World → Value → α → Prop) (xs : List α) : FillW w (w.alloc (.cells (madeCells #[z] n) t)) t n 0 z R xs (fun _ => z) :=
  ⟨(Below.refl _ _).alloc (Nat.le_refl _) _, World.rowIs_made w z n t, fun _ _ h => absurd h (Nat.not_lt_zero _)⟩
theorem FillW.step {α : Type} {w wr w1 : World} {t : TypeId} {n k : Nat} {z u : Value} {R : Nat → Nat → World → Value → α → Prop} {xs : List α} {f : Nat → Value} (hR : ∀ lo hi, Steady lo hi (R lo hi))
    (hW : ∀ lo hi lo' hi' w v x, lo' ≤ lo → hi ≤ hi' → R lo hi w v x → R lo' hi' w v x) (h : FillW w wr t n k z R xs f)
    (hb : Below wr.heap.size wr w1) (hk : k < xs.length) (hu : R wr.heap.size w1.heap.size w1 u xs[k]) :
    FillW w (w1.setCell ⟨w.heap.size, k, none⟩ u) t n (k + 1) z R xs (fun j => if j = k then u else f j) := by
  have hlt := h.row.lt
  have hrow1 : w1.rowIs w.heap.size t n f := h.row.of_block (hb.block _ hlt)
  have hsz : (w1.setCell ⟨w.heap.size, k, none⟩ u).heap.size = w1.heap.size := by simp [World.setCell]
  refine ⟨(h.below.trans (hb.mono (Nat.le_of_lt hlt))).setCell (Nat.le_refl _) _, hrow1.set k u, fun j hj hjk => ?_⟩
  rw [hsz]
  by_cases e : j = k
  · subst e
    simp only [if_true]
    refine hW _ _ _ _ _ _ _ hlt (Nat.le_refl _) (hR _ _ _ _ _ _ (Same.set u (Or.inl ?_)) hu)
    exact hlt
  · rw [if_neg e]
    have hd := h.done j hj (by omega)
    refine hW _ _ _ _ _ _ _ (Nat.le_refl _) hb.size (hR _ _ _ _ _ _ ((Same.of_below hb (Nat.le_refl _)).trans (Same.set u (Or.inl (Nat.lt_succ_self _)))) hd)
theorem FillW.sw {α : Type} {w wr : World} {t : TypeId} {z : Value} {R : Nat → Nat → World → Value → α → Prop} {xs : List α} {f : Nat → Value}
    (hW : ∀ lo hi lo' hi' w v x, lo' ≤ lo → hi ≤ hi' → R lo hi w v x → R lo' hi' w v x) (h : FillW w wr t xs.length xs.length z R xs f) :
    Sw w.heap.size wr.heap.size (R w.heap.size wr.heap.size) wr (.slice (some ⟨w.heap.size, 0, none⟩) xs.length xs.length) xs := by
  by_cases h0 : xs.length = 0
  · exact Or.inl ⟨List.eq_nil_of_length_eq_zero h0, _, _, by rw [h0]⟩
  · exact Or.inr ⟨w.heap.size, 0, xs.length, rfl, Nat.le_refl _, h.row.lt, by omega, fun k hk => ⟨f k, by rw [Nat.zero_add]; exact h.row.cell hk, hW _ _ _ _ _ _ _ (Nat.le_succ _) (Nat.le_refl _) (h.done k hk hk)⟩, fun k _ => h.row.frozen _⟩

def ToW {α : Type} (R : Nat → Nat → World → Value → α → Prop) (x : α) (w : World) (e : Ending) (w' : World) : Prop := ∃ v, e = .returned v ∧ R w.heap.size w'.heap.size w' v x ∧ Below w.heap.size w w'

set_option maxHeartbeats 400000 in
theorem to1w_any (v : Value) (xs : List Int) (w : World) (h : L1 0 w v xs) (hm : xs.length ≤ 1048576) :
    Calls Try.prog 60 #[v] w (ToW W1 xs w) := by
  have hmk := run_make_row' (P := Try.prog) 31 2 (.int .i64 0) 8 Try.underlying31 Try.infoI rfl .i64 .i64 xs.length (by omega) (by omega)
  refine Sl.cases h (fun ad cap hx hv => ?_) (fun b o cap hv _ hpos hc => ?_)
  · subst hx hv
    have hmk0 : ∀ w, (Instr.makeSlice 31 (.int .i64 0) (.int .i64 0)).run Try.prog w = .ok (.slice (some ⟨w.heap.size, 0, none⟩) 0 0) (w.alloc (.cells #[] 2)) := fun _ => by kernel_rfl
    clear hmk
    go_enter Try.func60, Try.ntmps60
    go_wp2
    refine wp_loop_rounds 1 ?_
    rw [rounds_succ]
    go_wp2
    go_ret
    exact ⟨_, rfl, Or.inl ⟨rfl, _, _, rfl⟩, (Below.refl _ _).alloc (Nat.le_refl _) _⟩
  · subst hv
    clear h
    have HC := Lib.hid hc
    clear hc
    go_enter Try.func60, Try.ntmps60
    go_wp2
    clear hmk
    go_loopw [4] (fun i wr => ∃ (k : Nat) (f : Nat → Value), k ≤ xs.length ∧ i = .int .i64 k ∧ FillW w wr 2 xs.length k (.int .i64 0) (fun _ _ => IsI) xs f) (fun i _ => xs.length - (intOf i).toNat)
    case atStart => exact ⟨0, _, Nat.zero_le _, rfl, FillW.start _ _ _ _ _ _⟩
    case round =>
      obtain ⟨k, f, hk, rfl, HF⟩ := hrel
      by_cases hlt2 : k < xs.length
      · obtain ⟨u, hu, hr⟩ := HC.out k hlt2
        have hu' : wr.cell? ⟨b, o + k, none⟩ = some (.int .i64 xs[k]) := by
          rw [HF.below.cell (p := ⟨b, o + k, none⟩) (cell_lt hu), hu, hr]
        have hc1 := HF.row.cell hlt2
        have hc2 := HF.row.frozen k
        have HS := HF.step (w1 := wr) (u := .int .i64 xs[k]) (fun _ _ => steadyI _ _) (fun _ _ _ _ _ _ _ _ _ h => h) (Below.refl _ _) hlt2 rfl
        have HF' := Lib.hid HF
        have HS' := Lib.hid HS
        clear HF HS hu hr
        go_wp2
        go_roundw
        case rel => exact ⟨k + 1, _, by omega, by go_num, HS'.out⟩
        case measure => simp [intOf]; omega
      · obtain rfl : k = xs.length := by omega
        have HF' := Lib.hid HF
        clear HF
        go_wp2
        go_ret
        exact ⟨_, rfl, HF'.out.sw (fun _ _ _ _ _ _ _ _ _ h => h), HF'.out.below⟩

set_option maxHeartbeats 400000 in
theorem to2w_any (v : Value) (xs : List (List Int)) (w : World) (h : L2 0 w v xs) (hm : Bd2 1048576 xs) :
    Calls Try.prog 17 #[v] w (ToW W2 xs w) := by
  have hml : xs.length ≤ 1048576 := hm.1
  have HM := Lib.hid hm
  clear hm
  have hmk := run_make_row' (P := Try.prog) 22 31 (.slice none 0 0) 24 Try.underlying22 Try.infoS rfl .i64 .i64 xs.length (by omega) (by omega)
  refine Sl.cases h (fun ad cap hx hv => ?_) (fun b o cap hv _ hpos hc => ?_)
  · subst hx hv
    have hmk0 : ∀ w, (Instr.makeSlice 22 (.int .i64 0) (.int .i64 0)).run Try.prog w = .ok (.slice (some ⟨w.heap.size, 0, none⟩) 0 0) (w.alloc (.cells #[] 31)) := fun _ => by kernel_rfl
    clear hmk
    go_enter Try.func17, Try.ntmps17
    go_wp2
    refine wp_loop_rounds 1 ?_
    rw [rounds_succ]
    go_wp2
    go_ret
    exact ⟨_, rfl, Or.inl ⟨rfl, _, _, rfl⟩, (Below.refl _ _).alloc (Nat.le_refl _) _⟩
  · subst hv
    clear h
    have HC := Lib.hid hc
    clear hc
    go_enter Try.func17, Try.ntmps17
    go_wp2
    clear hmk
    go_loopw [4] (fun i wr => ∃ (k : Nat) (f : Nat → Value), k ≤ xs.length ∧ i = .int .i64 k ∧ FillW w wr 31 xs.length k (.slice none 0 0) W1 xs f) (fun i _ => xs.length - (intOf i).toNat)
    case atStart => exact ⟨0, _, Nat.zero_le _, rfl, FillW.start _ _ _ _ _ _⟩
    case round =>
      obtain ⟨k, f, hk, rfl, HF⟩ := hrel
      by_cases hlt2 : k < xs.length
      · obtain ⟨u, hu, hr⟩ := HC.out k hlt2
        have hu' : wr.cell? ⟨b, o + k, none⟩ = some u := by
          rw [HF.below.cell (p := ⟨b, o + k, none⟩) (cell_lt hu), hu]
        have hr' : L1 0 wr u xs[k] := hr.below HF.below
        have hmx : (xs[k]).length ≤ 1048576 := HM.out.2 _ (List.getElem_mem hlt2)
        have HF' := Lib.hid HF
        have HR' := Lib.hid hr'
        clear HF hu hr hr'
        go_wp2_with fail
        refine (to1w_any u xs[k] _ HR'.out hmx).mono ?_
        rintro e w1 ⟨u1, rfl, hr1, hb1⟩
        obtain ⟨ad1, cap1, rfl⟩ := Sw.shape hr1
        have hlr := HF'.out.row.lt
        have hc1 : w1.cell? ⟨w.heap.size, k, none⟩ = some (f k) := (hb1.cell (p := ⟨w.heap.size, k, none⟩) hlr).trans (HF'.out.row.cell hlt2)
        have hc2 : w1.frozen? ⟨w.heap.size, k, none⟩ = false := (hb1.frozen (p := ⟨w.heap.size, k, none⟩) hlr).trans (HF'.out.row.frozen k)
        have HS := Lib.hid (HF'.out.step (w1 := w1) (u := _) steady1 (fun _ _ _ _ _ _ _ h1 h2 h => W1.wider h1 h2 h) hb1 hlt2 hr1)
        clear hr1 hb1 hlr
        go_wp2
        go_roundw
        case rel => exact ⟨k + 1, _, by omega, by go_num, HS.out⟩
        case measure => simp [intOf]; omega
      · obtain rfl : k = xs.length := by omega
        have HF' := Lib.hid HF
        clear HF
        go_wp2
        go_ret
        exact ⟨_, rfl, HF'.out.sw (fun _ _ _ _ _ _ _ h1 h2 h => W1.wider h1 h2 h), HF'.out.below⟩

set_option maxHeartbeats 400000 in
theorem to3w_any (v : Value) (xs : List (List (List Int))) (w : World) (h : L3 0 w v xs) (hm : Bd3 1048576 xs) :
    Calls Try.prog 72 #[v] w (ToW W3 xs w) := by
  have hml : xs.length ≤ 1048576 := hm.1
  have HM := Lib.hid hm
  clear hm
  have hmk := run_make_row' (P := Try.prog) 32 22 (.slice none 0 0) 24 Try.underlying32 Try.infoSS rfl .i64 .i64 xs.length (by omega) (by omega)
  refine Sl.cases h (fun ad cap hx hv => ?_) (fun b o cap hv _ hpos hc => ?_)
  · subst hx hv
    have hmk0 : ∀ w, (Instr.makeSlice 32 (.int .i64 0) (.int .i64 0)).run Try.prog w = .ok (.slice (some ⟨w.heap.size, 0, none⟩) 0 0) (w.alloc (.cells #[] 22)) := fun _ => by kernel_rfl
    clear hmk
    go_enter Try.func72, Try.ntmps72
    go_wp2
    refine wp_loop_rounds 1 ?_
    rw [rounds_succ]
    go_wp2
    go_ret
    exact ⟨_, rfl, Or.inl ⟨rfl, _, _, rfl⟩, (Below.refl _ _).alloc (Nat.le_refl _) _⟩
  · subst hv
    clear h
    have HC := Lib.hid hc
    clear hc
    go_enter Try.func72, Try.ntmps72
    go_wp2
    clear hmk
    go_loopw [4] (fun i wr => ∃ (k : Nat) (f : Nat → Value), k ≤ xs.length ∧ i = .int .i64 k ∧ FillW w wr 22 xs.length k (.slice none 0 0) W2 xs f) (fun i _ => xs.length - (intOf i).toNat)
    case atStart => exact ⟨0, _, Nat.zero_le _, rfl, FillW.start _ _ _ _ _ _⟩
    case round =>
      obtain ⟨k, f, hk, rfl, HF⟩ := hrel
      by_cases hlt2 : k < xs.length
      · obtain ⟨u, hu, hr⟩ := HC.out k hlt2
        have hu' : wr.cell? ⟨b, o + k, none⟩ = some u := by
          rw [HF.below.cell (p := ⟨b, o + k, none⟩) (cell_lt hu), hu]
        have hr' : L2 0 wr u xs[k] := hr.below HF.below
        have hmx : Bd2 1048576 xs[k] := HM.out.2 _ (List.getElem_mem hlt2)
        have HF' := Lib.hid HF
        have HR' := Lib.hid hr'
        clear HF hu hr hr'
        go_wp2_with fail
        refine (to2w_any u xs[k] _ HR'.out hmx).mono ?_
        rintro e w1 ⟨u1, rfl, hr1, hb1⟩
        obtain ⟨ad1, cap1, rfl⟩ := Sw.shape hr1
        have hlr := HF'.out.row.lt
        have hc1 : w1.cell? ⟨w.heap.size, k, none⟩ = some (f k) := (hb1.cell (p := ⟨w.heap.size, k, none⟩) hlr).trans (HF'.out.row.cell hlt2)
        have hc2 : w1.frozen? ⟨w.heap.size, k, none⟩ = false := (hb1.frozen (p := ⟨w.heap.size, k, none⟩) hlr).trans (HF'.out.row.frozen k)
        have HS := Lib.hid (HF'.out.step (w1 := w1) (u := _) steady2 (fun _ _ _ _ _ _ _ h1 h2 h => W2.wider h1 h2 h) hb1 hlt2 hr1)
        clear hr1 hb1 hlr
        go_wp2
        go_roundw
        case rel => exact ⟨k + 1, _, by omega, by go_num, HS.out⟩
        case measure => simp [intOf]; omega
      · obtain rfl : k = xs.length := by omega
        have HF' := Lib.hid HF
        clear HF
        go_wp2
        go_ret
        exact ⟨_, rfl, HF'.out.sw (fun _ _ _ _ _ _ _ h1 h2 h => W2.wider h1 h2 h), HF'.out.below⟩

end Go.Proofs.Ytlbalcckjokeiaa
