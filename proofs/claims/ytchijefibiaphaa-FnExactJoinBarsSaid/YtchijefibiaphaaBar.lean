/-
  Bars in plain words: a bar as three numbers, which are bars, their order; a slice that reads as a list of bars.
-/
import Derived.Test.YtchijefibiaphaaQb
namespace Go.Proofs.Ytchijefibiaphaa
open Go.RowKit

/-- A bar: its Degree, Birth and Death. -/
abbrev B3 := Int × Int × Int
/-- The cells of a bar. -/
def bc (x : B3) : List Value := [.int .i64 x.1, .int .i64 x.2.1, .int .i64 x.2.2]
theorem bc_length (x : B3) : (bc x).length = 3 := rfl
theorem bc_one (x : B3) : ∀ v ∈ bc x, v.oneCell' = true := by
  intro v hv
  simp [bc] at hv
  rcases hv with rfl | rfl | rfl <;> rfl
/-- A bar as a value. -/
def bvl (x : B3) : Value := .agg #[.int .i64 x.1, .int .i64 x.2.1, .int .i64 x.2.2]

/-- The slice value v reads as the bars xs; its cells lie in blocks from lo on. -/
def Br (lo : Nat) (w : World) (v : Value) (xs : List B3) : Prop :=
  (xs = [] ∧ ∃ ad cap, v = .slice ad 0 cap) ∨
  ∃ b o cap, v = .slice (some ⟨b, o, none⟩) xs.length cap ∧ lo ≤ b ∧ 0 < xs.length ∧ ∀ k (h : k < xs.length), w.cell? ⟨b, o + k * 3, none⟩ = some (.int .i64 xs[k].1) ∧ w.cell? ⟨b, o + k * 3 + 1, none⟩ = some (.int .i64 xs[k].2.1) ∧ w.cell? ⟨b, o + k * 3 + 2, none⟩ = some (.int .i64 xs[k].2.2)
theorem Br.keep {lo : Nat} {w w' : World} {v : Value} {xs : List B3} (hk : Keep lo w w') (h : Br lo w v xs) : Br lo w' v xs := by
  rcases h with h | ⟨b, o, cap, hv, hlo, hpos, hc⟩
  · exact Or.inl h
  · refine Or.inr ⟨b, o, cap, hv, hlo, hpos, fun k hk' => ?_⟩
    obtain ⟨h0, h1, h2⟩ := hc k hk'
    exact ⟨(hk.2 b _ hlo (cell_lt h0)).trans h0, (hk.2 b _ hlo (cell_lt h1)).trans h1, (hk.2 b _ hlo (cell_lt h2)).trans h2⟩
theorem Br.below {lo : Nat} {w w' : World} {v : Value} {xs : List B3} (h : Br lo w v xs) (hb : Below w.heap.size w w') : Br lo w' v xs := h.keep (Keep.of_below hb)
theorem Br.lower {lo lo' : Nat} (hl : lo' ≤ lo) {w : World} {v : Value} {xs : List B3} (h : Br lo w v xs) : Br lo' w v xs := by
  rcases h with h | ⟨b, o, cap, hv, hlo, hpos, hc⟩
  · exact Or.inl h
  · exact Or.inr ⟨b, o, cap, hv, Nat.le_trans hl hlo, hpos, hc⟩
theorem Br.shape {lo : Nat} {w : World} {v : Value} {xs : List B3} (h : Br lo w v xs) : ∃ ad cap, v = .slice ad xs.length cap := by
  rcases h with ⟨h, ad, cap, hv⟩ | ⟨b, o, cap, hv, hlo, hpos, hc⟩
  · exact ⟨ad, cap, by subst h; exact hv⟩
  · exact ⟨_, cap, hv⟩
theorem Br.cases {lo : Nat} {w : World} {v : Value} {xs : List B3} (h : Br lo w v xs) {P : Prop}
    (h0 : ∀ ad cap, xs = [] → v = .slice ad 0 cap → P)
    (h1 : ∀ b o cap, v = .slice (some ⟨b, o, none⟩) xs.length cap → lo ≤ b → 0 < xs.length → (∀ k (h : k < xs.length), w.cell? ⟨b, o + k * 3, none⟩ = some (.int .i64 xs[k].1) ∧ w.cell? ⟨b, o + k * 3 + 1, none⟩ = some (.int .i64 xs[k].2.1) ∧ w.cell? ⟨b, o + k * 3 + 2, none⟩ = some (.int .i64 xs[k].2.2)) → P) : P := by
  rcases h with ⟨h, ad, cap, hv⟩ | ⟨b, o, cap, hv, hlo, hpos, hc⟩
  · exact h0 ad cap h hv
  · exact h1 b o cap hv hlo hpos hc
/-- Bar k of the slice, wherever it lies. -/
theorem Br.at' {lo : Nat} {w : World} {ad : Option Addr} {cap : Nat} {n : Nat} {xs : List B3} (h : Br lo w (.slice ad n cap) xs) {k : Nat} (hk : k < xs.length) : ∃ b o, ad = some ⟨b, o, none⟩ ∧ n = xs.length ∧ lo ≤ b ∧ b < w.heap.size ∧ w.cell? ⟨b, o + k * 3, none⟩ = some (.int .i64 xs[k].1) ∧ w.cell? ⟨b, o + k * 3 + 1, none⟩ = some (.int .i64 xs[k].2.1) ∧ w.cell? ⟨b, o + k * 3 + 2, none⟩ = some (.int .i64 xs[k].2.2) := by
  rcases h with ⟨h, _, _, _⟩ | ⟨b, o, cap', hv, hlo, hpos, hc⟩
  · subst h; simp at hk
  · simp only [Value.slice.injEq] at hv
    obtain ⟨rfl, rfl, rfl⟩ := hv
    obtain ⟨h0, h1, h2⟩ := hc k hk
    exact ⟨b, o, rfl, rfl, hlo, cell_lt h0, h0, h1, h2⟩

/-- The place of the Death in the order of bars. -/
def bk (x : B3) : Int := if x.2.2 = -1 then 6 else x.2.2
/-- The order of bars as a number. -/
def cmp3 (x y : B3) : Int := if x.1 < y.1 then -1 else if y.1 < x.1 then 1 else if x.2.1 < y.2.1 then -1 else if y.2.1 < x.2.1 then 1 else if bk x < bk y then -1 else if bk y < bk x then 1 else 0
/-- The numbers of a bar are in their ranges. -/
def BarOk (x : B3) : Prop := (0 ≤ x.1 ∧ x.1 ≤ 5) ∧ (0 ≤ x.2.1 ∧ x.2.1 ≤ 5) ∧ (x.2.2 = -1 ∨ x.2.1 ≤ x.2.2 ∧ x.2.2 ≤ 5)
/-- A list of at most 24 bars in order. -/
def BarsOk (xs : List B3) : Prop := xs.length ≤ 24 ∧ (∀ k (h : k < xs.length), BarOk xs[k]) ∧ ∀ k (h : k + 1 < xs.length), ¬ cmp3 xs[k + 1] xs[k] < 0
theorem cmp3_eq {x y : B3} (hx : BarOk x) (hy : BarOk y) (h1 : ¬ cmp3 x y < 0) (h2 : ¬ cmp3 y x < 0) : x = y := by
  obtain ⟨a, b, d⟩ := x
  obtain ⟨a2, b2, d2⟩ := y
  unfold BarOk at hx hy
  simp only at hx hy
  simp only [cmp3, bk] at h1 h2
  have e1 : a = a2 := by split at h1 <;> split at h2 <;> first | omega | (simp at h1) | (simp at h2)
  subst e1
  simp only [Int.lt_irrefl, if_false] at h1 h2
  have e2 : b = b2 := by split at h1 <;> split at h2 <;> first | omega | (simp at h1) | (simp at h2)
  subst e2
  simp only [Int.lt_irrefl, if_false] at h1 h2
  have e3 : d = d2 := by
    split at h1 <;> split at h2 <;> (repeat' split at h1) <;> (repeat' split at h2) <;> first | omega | (simp at h1) | (simp at h2)
  rw [e3]
end Go.Proofs.Ytchijefibiaphaa
