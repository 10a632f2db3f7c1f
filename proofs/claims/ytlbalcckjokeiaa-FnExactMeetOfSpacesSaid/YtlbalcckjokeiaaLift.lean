/-
  How a complex that came in reads: from the reader's words to the plain lists of this seat's walks.
-/
import Derived.Test.YtlbalcckjokeiaaRows
import Derived.Test.YtlbalcckjokeiaaTo
import Derived.ProofKit
import Derived.OpenShut
import Derived.ChangeOld
import Derived.Deep.Slices
import Derived.Lib.SmallJoins
namespace Go.Proofs.Ytlbalcckjokeiaa
open Go.ChangeShapes Go.WideShapes Go.ChangeAt Go.RowKit Go.Deep

theorem Try.own : ownKnob Try.prog.godebug = none := by kernel_rfl
theorem Try.laidOut : laidOutB Try.prog = true := by kernel_rfl
theorem Try.cellsI : Try.prog.cellsOf 2 = 1 := by kernel_rfl
theorem Try.cellsS : Try.prog.cellsOf 31 = 1 := by kernel_rfl
theorem Try.cellsSS : Try.prog.cellsOf 22 = 1 := by kernel_rfl
theorem Try.cellsC : Try.prog.cellsOf 34 = 3 := by kernel_rfl

section
variable {H : Type} {enc : TypeId × Value → H} {P : Program} {w : World} {base : Nat} {held : Bool}

theorem sl_of_trod {α : Type} [Inhabited α] {t e : TypeId} (ht : P.underlying t = some (.slice e)) (hc : P.cellsOf e = 1) {R : World → Value → α → Prop} {B : α → Prop}
    (hR : ∀ fuel v x, DataW.trod enc P w base (fun _ => true) held fuel e [v] = some x → ∃ a, R w v a ∧ B a) {fuel : Nat} {v : Value} {x : DataW H × List MemPlace}
    (h : DataW.trod enc P w base (fun _ => true) held fuel t [v] = some x) : ∃ xs : List α, Sl 0 R w v xs ∧ xs.length ≤ 9223372036854775807 ∧ ∀ a ∈ xs, B a := by
  rcases open_slice1 ht hc h with ⟨hcs, _⟩ | ⟨a, len, cap, m, n, V, D, Pl, hcs, _, hl, hm, hmm, _, hx⟩
  · obtain rfl : v = .slice none 0 0 := by simpa using hcs
    exact ⟨[], Or.inl ⟨rfl, _, _, rfl⟩, by simp, by simp⟩
  · obtain rfl : v = .slice (some a) len cap := by simpa using hcs
    simp only [if_true] at hmm
    have each : ∀ i, i < len → ∃ y : α, R w (V i) y ∧ B y := fun i hi => hR n _ _ (hx i (by omega)).2
    obtain ⟨f, hf⟩ := choose_lt each
    refine ⟨(List.range len).map f, ?_, by simpa [maxLen] using Nat.le_trans hl hm, fun y hy => ?_⟩
    · by_cases h0 : len = 0
      · subst h0
        exact Or.inl ⟨rfl, _, _, rfl⟩
      · obtain ⟨b, off, spot⟩ := a
        have hspot : spot = none := by simpa [Addr.add] using World.cell?_spot (hx 0 (by omega)).1
        subst hspot
        refine Or.inr ⟨b, off, cap, by simp, Nat.zero_le _, by simp; omega, fun k hk => ?_⟩
        have hk' : k < len := by simpa using hk
        refine ⟨V k, by rw [← Go.WideShapes.add_plain]; exact (hx k (by omega)).1, ?_⟩
        simp only [List.getElem_map, List.getElem_range]
        exact (hf k hk').1
    · obtain ⟨i, hi, rfl⟩ := List.mem_map.1 hy
      exact (hf i (by simpa using hi)).2
end

section
variable {H : Type} {enc : TypeId × Value → H} {w : World} {base : Nat} {held : Bool}
theorem l1_of_trod {fuel : Nat} {v : Value} {x : DataW H × List MemPlace} (h : DataW.trod enc Try.prog w base (fun _ => true) held fuel 31 [v] = some x) : ∃ xs, L1 0 w v xs ∧ Bd1 9223372036854775807 xs := by
  obtain ⟨xs, h1, h2, _⟩ := sl_of_trod (R := IsI) (B := fun _ => True) Try.underlying31 Try.cellsI (fun fuel v x hh => by
    obtain ⟨a, e0, _, _⟩ := DataW.trod_int Try.underlying2 hh
    exact ⟨a, by simpa [IsI] using e0, trivial⟩) h
  exact ⟨xs, h1, h2⟩
theorem l2_of_trod {fuel : Nat} {v : Value} {x : DataW H × List MemPlace} (h : DataW.trod enc Try.prog w base (fun _ => true) held fuel 22 [v] = some x) : ∃ xs, L2 0 w v xs ∧ Bd2 9223372036854775807 xs := by
  obtain ⟨xs, h1, h2, h3⟩ := sl_of_trod (R := L1 0) (B := Bd1 9223372036854775807) Try.underlying22 Try.cellsS (fun fuel v x hh => l1_of_trod hh) h
  exact ⟨xs, h1, h2, h3⟩
theorem l3_of_trod {fuel : Nat} {v : Value} {x : DataW H × List MemPlace} (h : DataW.trod enc Try.prog w base (fun _ => true) held fuel 32 [v] = some x) : ∃ xs, L3 0 w v xs ∧ Bd3 9223372036854775807 xs := by
  obtain ⟨xs, h1, h2, h3⟩ := sl_of_trod (R := L2 0) (B := Bd2 9223372036854775807) Try.underlying32 Try.cellsSS (fun fuel v x hh => l2_of_trod hh) h
  exact ⟨xs, h1, h2, h3⟩

set_option maxRecDepth 100000 in
theorem complex_of_trod {r : Reach} {b0 : Nat} {v : Value} {d : DataW H} {p : List MemPlace} (hv : Value.okWide Try.prog w r b0 34 v) (h : DataW.Trod enc Try.prog w base (fun _ => true) held 34 v d p) :
    ∃ (q : Int) (dv mv : Value) (ds : List Int) (ms : List (List (List Int))), v = .agg #[.int .i64 q, dv, mv] ∧ Cx 0 w dv mv ds ms ∧ ds.length ≤ 9223372036854775807 ∧ Bd3 9223372036854775807 ms := by
  obtain ⟨v0, v1, v2, y0, y1, y2, m, rfl, rfl, rfl, h0, h1, h2⟩ := Go.Joins.open_agg3 Try.underlying34 (by kernel_rfl) Try.cellsC hv h
  obtain ⟨q, e0, _, _⟩ := DataW.trod_int Try.underlying2 h0
  obtain ⟨ds, hd1, hd2⟩ := l1_of_trod h1
  obtain ⟨ms, hm1, hm2⟩ := l3_of_trod h2
  obtain rfl : v0 = .int .i64 q := by simpa using e0
  unfold Bd1 at hd2
  refine ⟨q, v1, v2, ds, ms, rfl, ⟨hd1, hm1⟩, ?_, ?_⟩
  · exact hd2
  · exact hm2
end
end Go.Proofs.Ytlbalcckjokeiaa
