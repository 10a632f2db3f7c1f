/-
  PageDifferential of both sides, the answer in memory of its own.
-/
import Derived.Test.YtpdkfidmmjlmnabPdj
import Derived.Test.YtpdkfidmmjlmnabPds
import Derived.Test.YtpdkfidmmjlmnabRw
namespace Go.Proofs.Ytpdkfidmmjlmnab
open Go.RowKit

set_option maxHeartbeats 3200000 in
set_option maxRecDepth 100000 in
theorem pageDifferentialOf_any (p r n q : Int) (dv mv lv : Value) (ds : List Int) (ms : List (List (List Int))) (ls : List (List Int)) (w : World) (h : Fi 0 w dv mv lv ds ms ls) (hd : ds.length ≤ 1048576) (hm : Bd3 1048576 ms) (hl : Bd2 1048576 ls) :
    Calls Try.prog 41 #[.agg #[.int .i64 p, dv, mv, lv], .int .i64 r, .int .i64 n, .int .i64 q] w (AnsW Rw2 (PdT p ds ms ls n.toNat r q) [] (celCode p ds ms ls r n q) w) := by
  have HX0 := Lib.hid (Fx.start (p := p) 33 h)
  have HCK := Lib.hid (checkCell_any p r n q dv mv lv ds ms ls _ HX0.out.fi hd hm hl)
  have c0 := HX0.out.c0
  have c1 := HX0.out.c1
  have c2 := HX0.out.c2
  have c3 := HX0.out.c3
  obtain ⟨k, hk⟩ : ∃ k, k = celCode p ds ms ls r n q := ⟨_, rfl⟩
  rw [← hk] at HCK ⊢
  have HKE := Lib.hid hk
  clear h hm hl hk
  go_enter Try.func41, Try.ntmps41
  go_wp2_with fail
  refine HCK.out.mono ?_
  rintro e w1 ⟨rfl, hb1⟩
  have HX1 := Lib.hid (HX0.out.next hb1)
  clear hb1 c0 c1 c2 c3 HCK
  have c0 := HX1.out.c0
  have c1 := HX1.out.c1
  have c2 := HX1.out.c2
  have c3 := HX1.out.c3
  by_cases hk : k = 0
  · subst hk
    obtain ⟨hfil, hcr, hr, hcq⟩ := celCode_zero HKE.out.symm
    obtain ⟨k, rfl⟩ : ∃ k : Nat, n = (k : Int) := ⟨n.toNat, by have := hr.1; omega⟩
    have HB := Lib.hid (pageDifferential_any p k r q dv mv lv ds ms ls _ HX1.out.fi hfil (by have := hr.2; omega) (by omega) (by omega))
    clear hfil hr hcr hcq
    go_wp2_with fail
    refine HB.out.mono ?_
    rintro e w2 ⟨u2, R, rfl, ht2, hb2, hr2⟩
    obtain ⟨a2, cc2, rfl⟩ := ht2.shape
    have HT2 := Lib.hid ht2
    have HX2 := Lib.hid (HX1.out.next hb2)
    have HR2 := Lib.hid hr2
    have hs1 := HX1.out.below.size
    clear ht2 hb2 hr2 HB
    go_wp2
    go_ret2
    exact ⟨_, R, 0, rfl, HT2.out.wider hs1 (Nat.le_refl _), HX2.out.below, RsOut.of_yes rfl HR2.out⟩
  · have hne2 : (k != 0) = true := by simp [hk]
    have hne3 : (k == 0) = false := by simp [hk]
    have HNE := Lib.hid hk
    clear hk
    go_wp2
    go_ret2
    exact ⟨_, [], k, rfl, Rw2.nil _ _ _, HX1.out.below, RsOut.of_no HNE.out⟩

theorem spPageDifferentialA_any (p r n q : Int) (dv mv lv : Value) (ds : List Int) (ms : List (List (List Int))) (ls : List (List Int)) (w : World) (h : Fi 0 w dv mv lv ds ms ls) (hd : ds.length ≤ 1048576) (hm : Bd3 1048576 ms) (hl : Bd2 1048576 ls) :
    Calls Try.prog 40 #[.agg #[.int .i64 p, dv, mv, lv], .int .i64 r, .int .i64 n, .int .i64 q] w (AnsS (L2 0) (PdT p ds ms ls n.toNat r q) [] (celCode p ds ms ls r n q) w) := by
  refine (spPageDifferential_any p r n q dv mv lv ds ms ls w h hd hm hl).mono ?_
  rintro e w' ⟨v, out, c, h1, h2, h3, h4⟩
  exact ⟨v, out, c, h1, h2, h3, ⟨h4.good, h4.bad, h4.code⟩⟩
end Go.Proofs.Ytpdkfidmmjlmnab
