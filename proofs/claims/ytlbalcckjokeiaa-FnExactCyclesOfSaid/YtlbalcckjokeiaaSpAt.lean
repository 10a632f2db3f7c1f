/-
  Spaces of a degree of a complex: spaceAt, boundarySpace, l01Bounds by their contracts.
-/
import Derived.Test.YtlbalcckjokeiaaSpaceS
import Derived.Test.YtlbalcckjokeiaaCode
import Derived.Test.YtlbalcckjokeiaaMap
import Derived.Deep.RegionHeld3
namespace Go.Proofs.Ytlbalcckjokeiaa
open Go.RowKit

theorem hloadC (w : World) {b : Nat} {p : Int} {dv mv : Value} (c0 : w.cell? ⟨b, 0, none⟩ = some (.int .i64 p)) (c1 : w.cell? ⟨b, 1, none⟩ = some dv) (c2 : w.cell? ⟨b, 2, none⟩ = some mv) : (Instr.loadAt 37 (.pointer (some ⟨b, 0, none⟩))).run Try.prog w = .ok (.agg #[.int .i64 p, dv, mv]) w := by go_simp

open Classical in
/-- The code of a complex and a degree. -/
noncomputable def cxCode (p : Int) (ds : List Int) (ms : List (List (List Int))) (n : Int) : Int := if IsCx p ds ms then (if 0 ≤ n ∧ n ≤ (ds.length : Int) - 1 then 0 else 2) else 1
theorem cxCode_of {p : Int} {ds : List Int} {ms : List (List (List Int))} {n c : Int} (h : CodeOf p ds ms n c) : c = cxCode p ds ms n := by
  unfold cxCode
  by_cases a : IsCx p ds ms
  · rw [if_pos a]
    by_cases b : 0 ≤ n ∧ n ≤ (ds.length : Int) - 1
    · rw [if_pos b]; exact h.2.2 a b
    · rw [if_neg b]; exact h.2.1 a b
  · rw [if_neg a]; exact h.1 a
theorem cxCode_zero {p : Int} {ds : List Int} {ms : List (List (List Int))} {n : Int} (h : cxCode p ds ms n = 0) : IsCx p ds ms ∧ 0 ≤ n ∧ n ≤ (ds.length : Int) - 1 := by
  unfold cxCode at h
  by_cases a : IsCx p ds ms
  · rw [if_pos a] at h
    by_cases b : 0 ≤ n ∧ n ≤ (ds.length : Int) - 1
    · exact ⟨a, b⟩
    · rw [if_neg b] at h; exact absurd h (by decide)
  · rw [if_neg a] at h; exact absurd h (by decide)
theorem cxCode_ok {p : Int} {ds : List Int} {ms : List (List (List Int))} {n : Int} (a : IsCx p ds ms) (b : 0 ≤ n ∧ n ≤ (ds.length : Int) - 1) : cxCode p ds ms n = 0 := by
  unfold cxCode
  rw [if_pos a, if_pos b]
/-- The dimension of a degree. -/
def dimN (ds : List Int) (n : Int) : Nat := (ds.getD n.toNat 0).toNat

theorem dimN_le (p : Int) (ds : List Int) (ms : List (List (List Int))) (n : Int) : cxCode p ds ms n = 0 → dimN ds n ≤ 1048576 := fun h => by
  have := (cxCode_zero h).1.1.dim n.toNat
  unfold dimN
  omega
/-- What a function on a complex and a degree answers as a list of vectors. -/
def SpF (p : Int) (n : Nat) (S : Lin.V → Prop) (R : List Lin.V) : Prop := Lin.Red p R ∧ (∀ u ∈ R, Lin.Wd n u) ∧ (∀ v, Lin.Sp p R v ↔ S v)
theorem SpF.short {p : Int} {n : Nat} {S : Lin.V → Prop} {R : List Lin.V} (h : SpF p n S R) : R.length ≤ n := red_length h.1 h.2.1

end Go.Proofs.Ytlbalcckjokeiaa
