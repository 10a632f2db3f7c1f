/-
  spec.l01Vector by its contract.
-/
import Derived.Test.YtpdkfidmmjlmnaaQf
namespace Go.Proofs.Ytpdkfidmmjlmnaa
open Go.RowKit

set_option maxHeartbeats 800000 in
theorem l01Vector_any (p n : Int) (v : Value) (xs : List Int) (w : World) (hp : IsP p) (h : L1 0 w v xs) (hm : xs.length ≤ 1048576) :
    Calls Try.prog 88 #[.int .i64 p, v, .int .i64 n] w (BB (RowOk p n xs) w) := by
  have HP := Lib.hid hp
  obtain ⟨ad, cap, rfl⟩ := Sl.shape h
  have hb := below_alloc1 w (.cells #[.slice ad xs.length cap] 22)
  have HL : Hid (L2 0 (w.alloc (.cells #[.slice ad xs.length cap] 22)) (.slice (some ⟨w.heap.size, 0, none⟩) 1 1) [xs]) := Lib.hid (Or.inr ⟨w.heap.size, 0, 1, rfl, Nat.zero_le _, by simp, fun k hk => by
    have hk0 : k = 0 := by simpa using hk
    subst hk0
    exact ⟨_, by simp, h.below hb⟩⟩)
  have HB := Lib.hid hb
  clear h hb hp
  go_enter Try.func88, Try.ntmps88
  go_wp2_with fail
  refine (l01Table_any p 1 n _ [xs] _ HP.out HL.out ⟨by simp, by simp [Bd1]; exact hm⟩).mono ?_
  rintro e w' ⟨bb, rfl, rfl, hbb⟩
  have HBB := Lib.hid hbb
  clear hbb
  go_wp2
  go_ret
  exact ⟨bb, rfl, HB.out, HBB.out.trans (by simp [TabOk])⟩
end Go.Proofs.Ytpdkfidmmjlmnaa
