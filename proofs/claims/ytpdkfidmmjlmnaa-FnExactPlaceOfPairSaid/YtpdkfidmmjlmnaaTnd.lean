/-
  impl.tensor's dim by contract.
-/
import Derived.Test.YtpdkfidmmjlmnaaTsm
import Derived.Deep.QuietTactic
namespace Go.Proofs.Ytpdkfidmmjlmnaa
open Go.RowKit

set_option maxHeartbeats 1600000 in
theorem dim_any (p p2 : Int) (dv mv dv2 mv2 : Value) (G N n b m cap : Nat) (ad : Option Addr) (w : World) (hc : w.cell? ⟨G, n, none⟩ = some (.slice ad m cap)) (hn : n < N) :
    Calls Try.prog 173 #[.agg #[.int .i64 p, dv, mv, .int .i64 p2, dv2, mv2, .slice (some ⟨G, 0, none⟩) N N, .map (some b)], .int .i64 (n : Int)] w (BR (.int .i64 (m : Int)) w) := by
  obtain ⟨w1, hw1⟩ : ∃ w1, w1 = w.alloc (.cells #[.int .i64 p, dv, mv, .int .i64 p2, dv2, mv2, .slice (some ⟨G, 0, none⟩) N N, .map (some b)] 110) := ⟨_, rfl⟩
  have hb : Below w.heap.size w w1 := by rw [hw1]; exact below_alloc1 _ _
  have c6 : w1.cell? ⟨w.heap.size, 6, none⟩ = some (.slice (some ⟨G, 0, none⟩) N N) := by rw [hw1]; simp
  have cn := later hb (Nat.le_refl _) hc
  have hn' : (n : Int) < (N : Int) := by omega
  have HB := Lib.hid hb
  clear hb hc
  go_enter Try.func173, Try.ntmps173
  go_upto_region 1 with fail
  rw [← hw1]
  clear hw1
  go_wp2
  go_ret
  exact ⟨rfl, HB.out⟩
end Go.Proofs.Ytpdkfidmmjlmnaa
