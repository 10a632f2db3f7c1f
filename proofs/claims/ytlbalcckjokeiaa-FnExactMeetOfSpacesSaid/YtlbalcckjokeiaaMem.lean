/-
  Plain words on memory for this seat's proofs: a slice value that reads as a list, at any depth; what keeps it; a slice that a call is filling. Nothing of the program is named here.
-/
import Derived.WalkKit
import Derived.Lib.Hide
import Derived.Deep.OwnRows
import Derived.Deep.Draws
namespace Go.Proofs.Ytlbalcckjokeiaa
open Go.RowKit

theorem cell_lt {w : World} {b o : Nat} {u : Value} (h : w.cell? ⟨b, o, none⟩ = some u) : b < w.heap.size := World.block_lt_of_cell? _ _ h

/-- Cells of blocks from lo on (that were there) read as they did. -/
def Keep (lo : Nat) (w w' : World) : Prop := w.heap.size ≤ w'.heap.size ∧ ∀ b o, lo ≤ b → b < w.heap.size → w'.cell? ⟨b, o, none⟩ = w.cell? ⟨b, o, none⟩

theorem Keep.of_below {lo : Nat} {w w' : World} (h : Below w.heap.size w w') : Keep lo w w' := ⟨h.size, fun _ _ _ hb => h.cell (p := ⟨_, _, none⟩) hb⟩
theorem Keep.trans {lo : Nat} {a b c : World} (h : Keep lo a b) (k : Keep lo b c) : Keep lo a c :=
  ⟨Nat.le_trans h.1 k.1, fun i o hl hi => (k.2 i o hl (Nat.lt_of_lt_of_le hi h.1)).trans (h.2 i o hl hi)⟩
theorem Keep.set {lo g o : Nat} {w : World} (u : Value) (h : g < lo) : Keep lo w (w.setCell ⟨g, o, none⟩ u) :=
  ⟨by simp [World.setCell], fun b i hl _ => World.cell?_of_block (w := w) (a := ⟨b, i, none⟩) (Below.heap_setCell w ⟨g, o, none⟩ u b (by show b ≠ g; omega))⟩
theorem Keep.drewN {lo : Nat} (w : World) (n : Nat) : Keep lo w (w.drewN n) := ⟨Nat.le_refl _, fun _ _ _ _ => rfl⟩

/-- The slice value v reads, cell by cell, as the list xs (R: how one cell reads); its cells lie in blocks from lo on. -/
def Sl {α : Type} (lo : Nat) (R : World → Value → α → Prop) (w : World) (v : Value) (xs : List α) : Prop :=
  (xs = [] ∧ ∃ ad cap, v = .slice ad 0 cap) ∨
  ∃ b o cap, v = .slice (some ⟨b, o, none⟩) xs.length cap ∧ lo ≤ b ∧ 0 < xs.length ∧ ∀ k (h : k < xs.length), ∃ u, w.cell? ⟨b, o + k, none⟩ = some u ∧ R w u xs[k]

def IsI (_ : World) (v : Value) (x : Int) : Prop := v = .int .i64 x
def L1 (lo : Nat) := Sl lo IsI
def L2 (lo : Nat) := Sl lo (L1 lo)
def L3 (lo : Nat) := Sl lo (L2 lo)

def Stable {α : Type} (lo : Nat) (R : World → Value → α → Prop) : Prop := ∀ w w' v x, Keep lo w w' → R w v x → R w' v x
theorem stableI (lo : Nat) : Stable lo IsI := fun _ _ _ _ _ h => h
theorem Stable.sl {α : Type} {lo : Nat} {R : World → Value → α → Prop} (hR : Stable lo R) : Stable lo (Sl lo R) := by
  intro w w' v xs hk h
  rcases h with h | ⟨b, o, cap, hv, hlo, hpos, hc⟩
  · exact Or.inl h
  · refine Or.inr ⟨b, o, cap, hv, hlo, hpos, fun k hk' => ?_⟩
    obtain ⟨u, hu, hr⟩ := hc k hk'
    exact ⟨u, (hk.2 b (o + k) hlo (cell_lt hu)).trans hu, hR _ _ _ _ hk hr⟩
theorem stable1 (lo : Nat) : Stable lo (L1 lo) := (stableI lo).sl
theorem stable2 (lo : Nat) : Stable lo (L2 lo) := (stable1 lo).sl
theorem stable3 (lo : Nat) : Stable lo (L3 lo) := (stable2 lo).sl

theorem Sl.lower {α : Type} {lo lo' : Nat} {R R' : World → Value → α → Prop} (hl : lo' ≤ lo) (hR : ∀ w v x, R w v x → R' w v x) {w : World} {v : Value} {xs : List α} (h : Sl lo R w v xs) : Sl lo' R' w v xs := by
  rcases h with h | ⟨b, o, cap, hv, hlo, hpos, hc⟩
  · exact Or.inl h
  · refine Or.inr ⟨b, o, cap, hv, Nat.le_trans hl hlo, hpos, fun k hk' => ?_⟩
    obtain ⟨u, hu, hr⟩ := hc k hk'
    exact ⟨u, hu, hR _ _ _ hr⟩
theorem L1.lower {lo lo' : Nat} (hl : lo' ≤ lo) {w : World} {v : Value} {xs : List Int} (h : L1 lo w v xs) : L1 lo' w v xs := Sl.lower hl (fun _ _ _ h => h) h
theorem L2.lower {lo lo' : Nat} (hl : lo' ≤ lo) {w : World} {v : Value} {xs : List (List Int)} (h : L2 lo w v xs) : L2 lo' w v xs := Sl.lower hl (fun _ _ _ h => L1.lower hl h) h
theorem L3.lower {lo lo' : Nat} (hl : lo' ≤ lo) {w : World} {v : Value} {xs : List (List (List Int))} (h : L3 lo w v xs) : L3 lo' w v xs := Sl.lower hl (fun _ _ _ h => L2.lower hl h) h

theorem L1.below {lo : Nat} {w w' : World} {v : Value} {xs : List Int} (h : L1 lo w v xs) (hb : Below w.heap.size w w') : L1 lo w' v xs := stable1 lo _ _ _ _ (Keep.of_below hb) h
theorem L2.below {lo : Nat} {w w' : World} {v : Value} {xs : List (List Int)} (h : L2 lo w v xs) (hb : Below w.heap.size w w') : L2 lo w' v xs := stable2 lo _ _ _ _ (Keep.of_below hb) h
theorem L3.below {lo : Nat} {w w' : World} {v : Value} {xs : List (List (List Int))} (h : L3 lo w v xs) (hb : Below w.heap.size w w') : L3 lo w' v xs := stable3 lo _ _ _ _ (Keep.of_below hb) h

/-- The two shapes of a slice value. -/
theorem Sl.cases {α : Type} {lo : Nat} {R : World → Value → α → Prop} {w : World} {v : Value} {xs : List α} (h : Sl lo R w v xs) {P : Prop}
    (h0 : ∀ ad cap, xs = [] → v = .slice ad 0 cap → P)
    (h1 : ∀ b o cap, v = .slice (some ⟨b, o, none⟩) xs.length cap → lo ≤ b → 0 < xs.length → (∀ k (h : k < xs.length), ∃ u, w.cell? ⟨b, o + k, none⟩ = some u ∧ R w u xs[k]) → P) : P := by
  rcases h with ⟨h, ad, cap, hv⟩ | ⟨b, o, cap, hv, hlo, hpos, hc⟩
  · exact h0 ad cap h hv
  · exact h1 b o cap hv hlo hpos hc

/-- A slice that a call is filling: its own block g (the first that it made), n cells, the first k filled. -/
structure Fill {α : Type} (w wr : World) (t : TypeId) (n k : Nat) (z : Value) (R : World → Value → α → Prop) (xs : List α) (f : Nat → Value) : Prop where
  below : Below w.heap.size w wr
  row : wr.rowIs w.heap.size t n f
  done : ∀ j (h : j < xs.length), j < k → R wr (f j) (xs[j]'h)
  rest : ∀ j, k ≤ j → j < n → f j = z

theorem Fill.start {α : Type} (w : World) (t : TypeId) (n : Nat) (z : Value) (R : World → Value → α → Prop) (xs : List α) : Fill w (w.alloc (.cells (madeCells #[z] n) t)) t n 0 z R xs (fun _ => z) :=
  ⟨(Below.refl _ _).alloc (Nat.le_refl _) _, World.rowIs_made w z n t, fun _ _ h => absurd h (Nat.not_lt_zero _), fun _ _ _ => rfl⟩

/-- One cell more: behind a call that left w1 (all that was there is as it was), the store of u. -/
theorem Fill.step {α : Type} {w wr w1 : World} {t : TypeId} {n k : Nat} {z u : Value} {R : World → Value → α → Prop} {xs : List α} {f : Nat → Value} (hR : Stable (w.heap.size + 1) R) (h : Fill w wr t n k z R xs f)
    (hb : Below wr.heap.size wr w1) (hk : k < xs.length) (hu : R w1 u xs[k]) :
    Fill w (w1.setCell ⟨w.heap.size, k, none⟩ u) t n (k + 1) z R xs (fun j => if j = k then u else f j) := by
  have hlt := h.row.lt
  have hrow1 : w1.rowIs w.heap.size t n f := h.row.of_block (hb.block _ hlt)
  refine ⟨(h.below.trans (hb.mono (Nat.le_of_lt (by exact Nat.lt_of_le_of_lt (Nat.le_refl _) hlt)))).setCell (Nat.le_refl _) _, hrow1.set k u, fun j hj hjk => ?_, fun j h1 h2 => ?_⟩
  · by_cases e : j = k
    · subst e
      simp only [if_true]
      exact hR _ _ _ _ (Keep.set u (Nat.lt_succ_self _)) hu
    · rw [if_neg e]
      exact hR _ _ _ _ ((Keep.of_below hb).trans (Keep.set u (Nat.lt_succ_self _))) (h.done j hj (by omega))
  · rw [if_neg (by omega)]
    exact h.rest j (by omega) h2

/-- The filled slice reads as the list. -/
theorem Fill.sl {α : Type} {lo : Nat} {w wr : World} {t : TypeId} {z : Value} {R : World → Value → α → Prop} {xs : List α} {f : Nat → Value} (hlo : lo ≤ w.heap.size) (h : Fill w wr t xs.length xs.length z R xs f) :
    Sl lo R wr (.slice (some ⟨w.heap.size, 0, none⟩) xs.length xs.length) xs := by
  by_cases h0 : xs.length = 0
  · exact Or.inl ⟨List.eq_nil_of_length_eq_zero h0, _, _, by rw [h0]⟩
  · exact Or.inr ⟨w.heap.size, 0, xs.length, rfl, hlo, by omega, fun k hk => ⟨f k, by rw [Nat.zero_add]; exact h.row.cell hk, h.done k hk hk⟩⟩

/-- What is below B, said cell by cell, in the walk's own words. -/
theorem bcell {W w1 : World} (hb : Below W.heap.size W w1) : (∀ b o, b < W.heap.size → w1.cell? ⟨b, o, none⟩ = W.cell? ⟨b, o, none⟩) ∧ (∀ b o, b < W.heap.size → w1.frozen? ⟨b, o, none⟩ = W.frozen? ⟨b, o, none⟩) :=
  ⟨fun b o h => hb.cell (p := ⟨b, o, none⟩) h, fun b o h => hb.frozen (p := ⟨b, o, none⟩) h⟩

theorem drewN_below (w : World) (n : Nat) : Below w.heap.size w (w.drewN n) := ⟨rfl, rfl, rfl, Nat.le_refl _, fun _ _ => rfl⟩
theorem ret_int {k : IntKind} {a b : Int} (h : a = b) : Ending.returned (.int k a) = .returned (.int k b) := by rw [h]
theorem ret_bool {a b : Bool} (h : a = b) : Ending.returned (.bool a) = .returned (.bool b) := by rw [h]

/-- Every number of the list is at most n long, at every depth. -/
def Bd1 (n : Nat) (xs : List Int) : Prop := xs.length ≤ n
def Bd2 (n : Nat) (xs : List (List Int)) : Prop := xs.length ≤ n ∧ ∀ x ∈ xs, Bd1 n x
def Bd3 (n : Nat) (xs : List (List (List Int))) : Prop := xs.length ≤ n ∧ ∀ x ∈ xs, Bd2 n x

/-- How one of the bounds answers: -1, or a number from 0 on, and then the list is short. -/
def SzR (left : Int) (ok : Prop) (w : World) (e : Ending) (w' : World) : Prop := ∃ r : Int, e = .returned (.int .i64 r) ∧ w = w' ∧ (r = -1 ∨ 0 ≤ r ∧ r ≤ left ∧ ok)
def SzB (left : Int) (ok : Prop) (w : World) (e : Ending) (w' : World) : Prop := ∃ r : Int, e = .returned (.int .i64 r) ∧ Below w.heap.size w w' ∧ (r = -1 ∨ 0 ≤ r ∧ r ≤ left ∧ ok)

theorem Sl.shape {α : Type} {lo : Nat} {R : World → Value → α → Prop} {w : World} {v : Value} {xs : List α} (h : Sl lo R w v xs) : ∃ ad cap, v = .slice ad xs.length cap :=
  h.cases (fun ad cap hx hv => ⟨ad, cap, by subst hx; exact hv⟩) (fun b o cap hv _ _ _ => ⟨some ⟨b, o, none⟩, cap, hv⟩)
theorem owns_below {w w' : World} {base : Nat} {e : TypeId} {size n : Nat} {v : Value} {xs : List Value} (h : w.ownsRow base e size v n xs) (hb : Below w.heap.size w w') : w'.ownsRow base e size v n xs := by
  refine ⟨h.1, ?_⟩
  rcases h.2 with h2 | ⟨g, cap, cur, hv, hg, hh, r⟩
  · exact Or.inl h2
  · exact Or.inr ⟨g, cap, cur, hv, hg, by rw [hb.block g (Array.getElem?_eq_some_iff.1 hh).1]; exact hh, r⟩
/-- An owned slice of values reads as the list that its values read as. -/
theorem sl_of_owns {α : Type} {w : World} {base lo : Nat} {e : TypeId} {n : Nat} {v : Value} {vs : List Value} {R : World → Value → α → Prop} {xs : List α} (h : w.ownsRow base e 1 v n vs) (hlo : lo ≤ base) (hl : xs.length = n)
    (hR : ∀ k (h1 : k < xs.length) (h2 : k < vs.length), R w vs[k] xs[k]) : Sl lo R w v xs := by
  have hvl : vs.length = n := by have := h.1; omega
  rcases h.2 with ⟨rfl, h0⟩ | ⟨g, cap, cur, rfl, hg, hh, hnc, _, hcs, htk⟩
  · exact Or.inl ⟨List.eq_nil_of_length_eq_zero (by omega), _, _, rfl⟩
  · by_cases h0 : n = 0
    · subst h0
      exact Or.inl ⟨List.eq_nil_of_length_eq_zero hl, _, _, rfl⟩
    · refine Or.inr ⟨g, 0, cap, by rw [hl], by omega, by omega, fun k hk => ⟨vs[k]'(by omega), ?_, hR k hk (by omega)⟩⟩
      rw [Nat.zero_add, h.cellAt k (by omega)]
      simp
end Go.Proofs.Ytlbalcckjokeiaa
