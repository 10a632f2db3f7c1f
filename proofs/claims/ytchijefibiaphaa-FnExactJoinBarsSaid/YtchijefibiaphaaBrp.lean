/-
  Page numbers of bars by contract: isOnPage of both kinds, BarPage of both sides.
-/
import Derived.Test.YtchijefibiaphaaBre
namespace Go.Proofs.Ytchijefibiaphaa
open Go.RowKit Go.Sort

/-- A bar is counted on a page. -/
def pgOn (r n q : Int) (x : B3) : Prop := if x.2.2 = -1 then x.1 = n ∧ x.2.1 = q else r ≤ x.2.2 - x.2.1 ∧ (x.1 = n ∧ x.2.1 = q ∨ x.1 = n - 1 ∧ x.2.2 = q)
open Classical in
/-- How many bars of a list have a property. -/
noncomputable def bcnt (P : B3 → Prop) (L : List B3) : Nat := (L.filter (fun x => decide (P x))).length
theorem bcnt_yes {P : B3 → Prop} {L : List B3} {x : B3} (h : P x) : bcnt P (L ++ [x]) = bcnt P L + 1 := by simp [bcnt, h]
theorem bcnt_no {P : B3 → Prop} {L : List B3} {x : B3} (h : ¬ P x) : bcnt P (L ++ [x]) = bcnt P L := by simp [bcnt, h]
theorem bcnt_le (P : B3 → Prop) (L : List B3) : bcnt P L ≤ L.length := List.length_filter_le _ _
theorem bcnt_congr {P Q : B3 → Prop} {L : List B3} (h : ∀ x ∈ L, P x ↔ Q x) : bcnt P L = bcnt Q L := by
  unfold bcnt
  congr 1
  exact List.filter_congr fun x hx => by simp [h x hx]
theorem take_snoc {xs : List B3} {k : Nat} (h : k < xs.length) : xs.take (k + 1) = xs.take k ++ [xs[k]] := List.take_succ_eq_append_getElem h
def PgIn (xs : List B3) (r n q : Int) : Prop := BarsOk xs ∧ (0 ≤ r ∧ r ≤ 8) ∧ (0 ≤ n ∧ n ≤ 5) ∧ (0 ≤ q ∧ q ≤ 5)
/-- What is said of a page number of bars. -/
def PgC (xs : List B3) (r n q : Int) (b c : Int) : Prop := (PgIn xs r n q → b = bcnt (pgOn r n q) xs ∧ c = 0) ∧ (¬ PgIn xs r n q → b = 0 ∧ c = 2)
theorem PgC.unique {xs : List B3} {r n q b c b2 c2 : Int} (h : PgC xs r n q b c) (k : PgC xs r n q b2 c2) : b = b2 ∧ c = c2 := by
  by_cases hp : PgIn xs r n q
  · obtain ⟨h1, h2⟩ := h.1 hp
    obtain ⟨k1, k2⟩ := k.1 hp
    exact ⟨h1.trans k1.symm, h2.trans k2.symm⟩
  · obtain ⟨h1, h2⟩ := h.2 hp
    obtain ⟨k1, k2⟩ := k.2 hp
    exact ⟨h1.trans k1.symm, h2.trans k2.symm⟩

set_option maxHeartbeats 800000 in
theorem onPageL_any (x : B3) (r n q : Int) (w : World) : Calls Try.prog 204 #[bvl x, .int .i64 r, .int .i64 n, .int .i64 q] w (GrB (x.1 = n ∧ x.2.1 = q) w) := by
  obtain ⟨a, b, d⟩ := x
  by_cases c1 : a = n
  · have e1 : (a == n) = true := by simp [c1]
    by_cases c2 : b = q
    · have e2 : (b == q) = true := by simp [c2]
      have HP : Hid (a = n ∧ b = q) := Lib.hid ⟨c1, c2⟩
      clear c1 c2
      unfold bvl
      dsimp only
      go_enter Try.func204, Try.ntmps204
      go_wp2
      go_ret
      exact GrB.yes (Gr.alloc _ _) (HP.out)
    · have e2 : (b == q) = false := by simp [c2]
      have HP : Hid (¬ (a = n ∧ b = q)) := Lib.hid (fun h => c2 h.2)
      clear c1 c2
      unfold bvl
      dsimp only
      go_enter Try.func204, Try.ntmps204
      go_wp2
      go_ret
      exact GrB.no (Gr.alloc _ _) (HP.out)
  · have e1 : (a == n) = false := by simp [c1]
    have HP : Hid (¬ (a = n ∧ b = q)) := Lib.hid (fun h => c1 h.1)
    clear c1
    unfold bvl
    dsimp only
    go_enter Try.func204, Try.ntmps204
    go_wp2
    go_ret
    exact GrB.no (Gr.alloc _ _) (HP.out)

set_option maxHeartbeats 1600000 in
theorem onPageE_any (x : B3) (r n q : Int) (w : World) (hx : BarOk x) (hn : 0 ≤ n ∧ n ≤ 5) : Calls Try.prog 210 #[bvl x, .int .i64 r, .int .i64 n, .int .i64 q] w (GrB (r ≤ x.2.2 - x.2.1 ∧ (x.1 = n ∧ x.2.1 = q ∨ x.1 = n - 1 ∧ x.2.2 = q)) w) := by
  obtain ⟨a, b, d⟩ := x
  unfold BarOk at hx
  dsimp only at hx
  have hw1 : IntKind.i64.wrap (d - b) = d - b := IntWalk.i64_in _ (by omega)
  have hw2 : IntKind.i64.wrap (n - 1) = n - 1 := IntWalk.i64_in _ (by omega)
  clear hx hn
  obtain ⟨P, hP⟩ : ∃ P : Prop, P = (r ≤ d - b ∧ (a = n ∧ b = q ∨ a = n - 1 ∧ d = q)) := ⟨_, rfl⟩
  show Calls Try.prog 210 _ w (GrB (r ≤ d - b ∧ (a = n ∧ b = q ∨ a = n - 1 ∧ d = q)) w)
  rw [← hP]
  by_cases c0 : d - b < r
  · have HP : Hid (¬ P) := Lib.hid (by rw [hP]; omega)
    clear hP
    unfold bvl
    dsimp only
    go_enter Try.func210, Try.ntmps210
    go_wp2
    go_ret
    exact GrB.no (Gr.alloc _ _) (HP.out)
  · by_cases c1 : a = n
    · have e1 : (a == n) = true := by simp [c1]
      by_cases c2 : b = q
      · have e2 : (b == q) = true := by simp [c2]
        have HP : Hid P := Lib.hid (by rw [hP]; exact ⟨by omega, Or.inl ⟨c1, c2⟩⟩)
        clear c1 c2 hP
        unfold bvl
        dsimp only
        go_enter Try.func210, Try.ntmps210
        go_wp2
        go_ret
        exact GrB.yes (Gr.alloc _ _) (HP.out)
      · have e2 : (b == q) = false := by simp [c2]
        have e3 : (a == n - 1) = false := by simp; omega
        have HP : Hid (¬ P) := Lib.hid (by rw [hP]; omega)
        clear c1 c2 hP
        unfold bvl
        dsimp only
        go_enter Try.func210, Try.ntmps210
        go_wp2
        go_ret
        exact GrB.no (Gr.alloc _ _) (HP.out)
    · have e1 : (a == n) = false := by simp [c1]
      by_cases c2 : a = n - 1
      · have e2 : (a == n - 1) = true := by simp [c2]
        by_cases c3 : d = q
        · have e3 : (d == q) = true := by simp [c3]
          have HP : Hid P := Lib.hid (by rw [hP]; exact ⟨by omega, Or.inr ⟨c2, c3⟩⟩)
          clear c1 c2 c3 hP
          unfold bvl
          dsimp only
          go_enter Try.func210, Try.ntmps210
          go_wp2
          go_ret
          exact GrB.yes (Gr.alloc _ _) (HP.out)
        · have e3 : (d == q) = false := by simp [c3]
          have HP : Hid (¬ P) := Lib.hid (by rw [hP]; omega)
          clear c1 c2 c3 hP
          unfold bvl
          dsimp only
          go_enter Try.func210, Try.ntmps210
          go_wp2
          go_ret
          exact GrB.no (Gr.alloc _ _) (HP.out)
      · have e2 : (a == n - 1) = false := by simp [c2]
        have HP : Hid (¬ P) := Lib.hid (by rw [hP]; omega)
        clear c1 c2 hP
        unfold bvl
        dsimp only
        go_enter Try.func210, Try.ntmps210
        go_wp2
        go_ret
        exact GrB.no (Gr.alloc _ _) (HP.out)
end Go.Proofs.Ytchijefibiaphaa
