/-
  Tables turned: impl.transposedTable, by its contract.
-/
import Derived.Test.YtlbalcckjokeiaaMat
import Derived.Test.YtlbalcckjokeiaaApply
namespace Go.Proofs.Ytlbalcckjokeiaa
open Go.RowKit

/-- Number i of row j while the rows of t become columns: the first k rows are done, and of the next one the first q numbers. -/
def flipZ (t : List (List Int)) (k q : Nat) : Nat → Nat → Int := fun j i => if i < k ∨ (i = k ∧ j < q) then (t.getD i []).getD j 0 else 0
def flipT (c : Nat) (t : List (List Int)) : List (List Int) := tableOf c t.length fun j i => (t.getD i []).getD j 0

theorem Mat.flip0 {w w' : World} {r c : Nat} (t : List (List Int)) (h : Mat w w' r c (fun _ _ => 0)) : Mat w w' r c (flipZ t 0 0) := h.congr (fun j _ i _ => by simp [flipZ])
theorem Mat.flipStep {w w' : World} {r c k q : Nat} {t : List (List Int)} (h : Mat w w' r c (flipZ t k q)) (hq : q < r) {x : Int} (hx : x = (t.getD k []).getD q 0) :
    Mat w (w'.setCell ⟨w.heap.size + 1 + q, k, none⟩ (.int .i64 x)) r c (flipZ t k (q + 1)) := by
  refine (h.set hq x).congr (fun j _ i _ => ?_)
  by_cases e : j = q ∧ i = k
  · obtain ⟨rfl, rfl⟩ := e
    rw [if_pos ⟨rfl, rfl⟩, flipZ, if_pos (Or.inr ⟨rfl, Nat.lt_succ_self _⟩), hx]
  · rw [if_neg e]
    simp only [flipZ]
    by_cases h1 : i < k ∨ (i = k ∧ j < q)
    · rw [if_pos h1, if_pos (by omega)]
    · rw [if_neg h1, if_neg (by omega)]
theorem Mat.flipNext {w w' : World} {r c k : Nat} {t : List (List Int)} (h : Mat w w' r c (flipZ t k r)) : Mat w w' r c (flipZ t (k + 1) 0) :=
  h.congr (fun j hj i _ => by
    simp only [flipZ]
    by_cases h1 : i < k ∨ (i = k ∧ j < r)
    · rw [if_pos h1, if_pos (by omega)]
    · rw [if_neg h1, if_neg (by omega)])
theorem Mat.flipDone {w w' : World} {r : Nat} {t : List (List Int)} (h : Mat w w' r t.length (flipZ t t.length 0)) : Mat w w' r t.length (fun j i => (t.getD i []).getD j 0) :=
  h.congr (fun j _ i hi => by simp only [flipZ]; rw [if_pos (Or.inl hi)])

set_option maxHeartbeats 1600000 in
theorem transposedTable_any (c : Nat) (vt : Value) (t : List (List Int)) (w : World) (ht : L2 0 w vt t) (hr : t.length ≤ 1048576) (hc : c ≤ 1048576) (hrow : ∀ x ∈ t, x.length = c) :
    Calls Try.prog 88 #[vt, .int .i64 c] w (MatR c t.length (fun j i => (t.getD i []).getD j 0) w) := by
  have HROWS := Lib.hid hrow
  clear hrow
  refine Sl.cases ht (fun ad cap hx hv' => ?_) (fun b o cap hv' _ hpos hcl => ?_)
  · subst hx hv'
    clear ht
    go_enter Try.func88, Try.ntmps88
    go_wp2_with fail
    refine (zeroTable_any c 0 _ hc (by omega)).mono ?_
    rintro e w1 ⟨rfl, hm⟩
    have HM := Lib.hid hm
    clear hm
    go_wp2
    refine wp_loop_rounds 1 ?_
    rw [rounds_succ]
    go_wp2
    go_ret
    exact ⟨rfl, HM.out.congr (fun j _ i hi => absurd hi (Nat.not_lt_zero _))⟩
  · subst hv'
    clear ht
    have HC := Lib.hid hcl
    clear hcl
    go_enter Try.func88, Try.ntmps88
    go_wp2_with fail
    refine (zeroTable_any c t.length _ hc hr).mono ?_
    rintro e w1 ⟨rfl, hm⟩
    have HM := Lib.hid (hm.flip0 t)
    clear hm
    go_wp2
    go_loopw [16] (fun i wr => ∃ (k : Nat), k ≤ t.length ∧ i = .int .i64 k ∧ Mat w wr c t.length (flipZ t k 0)) (fun i _ => t.length - (intOf i).toNat)
    case atStart => exact ⟨0, Nat.zero_le _, rfl, HM.out⟩
    case round =>
      obtain ⟨k, hk, rfl, HA⟩ := hrel
      by_cases hlt2 : k < t.length
      · obtain ⟨u2, hu2, hr2⟩ := HC.out k hlt2
        obtain ⟨ys, hy⟩ : ∃ ys, ys = t[k] := ⟨_, rfl⟩
        have hyc : ys.length = c := by rw [hy]; exact HROWS.out _ (List.getElem_mem hlt2)
        rw [← hy] at hr2
        have hu2' : wr.cell? ⟨b, o + k, none⟩ = some u2 := by rw [HA.below.cell (p := ⟨b, o + k, none⟩) (cell_lt hu2), hu2]
        have HY := Lib.hid hy
        have HYC := Lib.hid hyc
        have HA' := Lib.hid HA
        clear hy hyc HA hu2
        refine Sl.cases hr2 (fun ad3 cap3 hx3 hv3 => ?_) (fun b3 o3 cap3 hv3 _ hpos3 hcl3 => ?_)
        · subst hv3
          have hc0 : Hid (c = 0) := Lib.hid (by have := HYC.out; rw [hx3] at this; simpa using this.symm)
          clear hx3 hr2
          go_wp2
          refine wp_loop_rounds 1 ?_
          rw [rounds_succ]
          go_wp2
          go_roundw
          case rel => exact ⟨k + 1, by omega, by go_num, Mat.flipNext (by rw [hc0.out]; have := HA'.out; rwa [hc0.out] at this)⟩
          case measure => simp [intOf]; omega
        · subst hv3
          have HC3 := Lib.hid hcl3
          clear hr2 hcl3
          obtain ⟨wo, hwo⟩ : ∃ wo : World, wo = wr := ⟨_, rfl⟩
          have HWO := Lib.hid hwo
          clear hwo
          go_wp2
          go_loopw [23] (fun i wr => ∃ (q : Nat), q ≤ ys.length ∧ i = .int .i64 q ∧ Mat w wr c t.length (flipZ t k q)) (fun i _ => ys.length - (intOf i).toNat)
          case atStart => exact ⟨0, Nat.zero_le _, rfl, HA'.out⟩
          case round =>
            obtain ⟨q, hq, rfl, HB⟩ := hrel
            by_cases hlt4 : q < ys.length
            · have hqc : q < c := by have := HYC.out; omega
              obtain ⟨u3, hu3, hr3⟩ := HC3.out q hlt4
              obtain ⟨x, hxx⟩ : ∃ x, x = ys[q] := ⟨_, rfl⟩
              rw [← hxx] at hr3
              have hu3' : wr.cell? ⟨b3, o3 + q, none⟩ = some (.int .i64 x) := by rw [HB.below.cell (p := ⟨b3, o3 + q, none⟩) (cell_lt hu3), hu3, hr3]
              have htop := HB.top.cell hqc
              have hcel := (HB.rows q hqc).cell hlt2
              have hfz := (HB.rows q hqc).frozen k
              have HS := Lib.hid (HB.flipStep hqc (x := x) (by rw [hxx, getD_of_lt _ hlt2, ← HY.out, getD_of_lt _ hlt4]))
              clear HB hu3 hr3 hxx
              go_wp2
              go_roundw
              case rel => exact ⟨q + 1, by omega, by go_num, HS.out⟩
              case measure => simp [intOf]; omega
            · have HB' := Lib.hid HB
              have hqc : Hid (q = c) := Lib.hid (by have := HYC.out; omega)
              clear HB
              go_wp2
              go_roundw
              case rel => exact ⟨k + 1, by omega, by go_num, Mat.flipNext (by have := HB'.out; rwa [hqc.out] at this)⟩
              case measure => simp [intOf]; omega
      · have hkk : k = t.length := by omega
        subst hkk
        have HA' := Lib.hid HA
        clear HA
        go_wp2
        go_ret
        exact ⟨rfl, HA'.out.flipDone⟩
end Go.Proofs.Ytlbalcckjokeiaa
