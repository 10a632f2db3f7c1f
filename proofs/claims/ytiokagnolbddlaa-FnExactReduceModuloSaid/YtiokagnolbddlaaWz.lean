/-
  A vector of whole numbers times a table of such, by impl.applyTable modulo a number that is greater than all sums; what it says of the plain sums.
-/
import Derived.Test.YtiokagnolbddlaaSqg
namespace Go.Proofs.Ytiokagnolbddlaa
open Go.RowKit

def azRow (f : Int) (acc row : List Int) : List Int := List.zipWith (fun a x => Int.tmod (a + f * x) 487) acc row
def azTo (c : Nat) (v : List Int) (t : List (List Int)) : Nat → List Int
  | 0 => List.replicate c 0
  | k + 1 => azRow (v.getD k 0) (azTo c v t k) (t.getD k [])
def azT (c : Nat) (v : List Int) (t : List (List Int)) : List Int := azTo c v t v.length
structure AzOk (c : Nat) (v : List Int) (t : List (List Int)) : Prop where
  len : v.length ≤ t.length
  len6 : v.length ≤ 6
  nums : ∀ x ∈ v, -9 ≤ x ∧ x ≤ 9
  rows : ∀ r ∈ t, (r.length : Int) = c ∧ ∀ x ∈ r, -9 ≤ x ∧ x ≤ 9
theorem AzOk.row {c : Nat} {v : List Int} {t : List (List Int)} (h : AzOk c v t) {k : Nat} (hk : k < v.length) : ((t.getD k []).length : Int) = c ∧ ∀ x ∈ t.getD k [], -9 ≤ x ∧ x ≤ 9 := by
  have hl := h.len
  rw [getD_of_lt _ (by omega)]
  exact h.rows _ (List.getElem_mem _)
theorem AzOk.num {c : Nat} {v : List Int} {t : List (List Int)} (h : AzOk c v t) {k : Nat} (hk : k < v.length) : -9 ≤ v.getD k 0 ∧ v.getD k 0 ≤ 9 := by
  rw [getD_of_lt _ hk]
  exact h.nums _ (List.getElem_mem _)
theorem azTo_length {c : Nat} {v : List Int} {t : List (List Int)} (h : AzOk c v t) : ∀ {k : Nat}, k ≤ v.length → (azTo c v t k).length = c := by
  intro k
  induction k with
  | zero => intro _; simp [azTo]
  | succ k ih =>
    intro hk
    have hr := (h.row (k := k) (by omega)).1
    simp only [azTo, azRow, List.length_zipWith, ih (by omega)]
    omega
theorem azTo_at {c : Nat} {v : List Int} {t : List (List Int)} (h : AzOk c v t) {k q : Nat} (hk : k < v.length) (hq : q < c) :
    (azTo c v t (k + 1)).getD q 0 = Int.tmod ((azTo c v t k).getD q 0 + v.getD k 0 * (t.getD k []).getD q 0) 487 := by
  have hr := (h.row hk).1
  have hl := azTo_length h (Nat.le_of_lt hk)
  have hl2 := azTo_length h (k := k + 1) hk
  have q2 : q < (t.getD k []).length := by omega
  have q1 : q < (azTo c v t (k + 1)).length := by omega
  have q3 : q < (azTo c v t k).length := by omega
  rw [getD_of_lt _ q1, getD_of_lt _ q2, getD_of_lt _ q3]
  simp only [azTo, azRow, List.getElem_zipWith]
theorem tmod487 (z : Int) : -486 ≤ Int.tmod z 487 ∧ Int.tmod z 487 ≤ 486 := by
  have h := Int.tmod_lt_of_pos z (show (0 : Int) < 487 by omega)
  have h2 := Int.lt_tmod_of_pos z (show (0 : Int) < 487 by omega)
  omega
theorem azTo_mod {c : Nat} {v : List Int} {t : List (List Int)} (h : AzOk c v t) : ∀ {k : Nat}, k ≤ v.length → ∀ q, -486 ≤ (azTo c v t k).getD q 0 ∧ (azTo c v t k).getD q 0 ≤ 486 := by
  intro k hk q
  by_cases hq : q < c
  · cases k with
    | zero => simp [azTo, List.getD, hq]
    | succ k =>
      rw [azTo_at h (by omega) hq]
      exact tmod487 _
  · have hl := azTo_length h hk
    have : (azTo c v t k).getD q 0 = 0 := by simp [List.getD, show (azTo c v t k).length ≤ q by omega]
    rw [this]
    omega
theorem mul81 {f x : Int} (h0 : -9 ≤ f) (h1 : f ≤ 9) (h2 : -9 ≤ x) (h3 : x ≤ 9) : -81 ≤ f * x ∧ f * x ≤ 81 := by
  have h : (f * x).natAbs ≤ 9 * 9 := by
    rw [Int.natAbs_mul]
    exact Nat.mul_le_mul (by omega) (by omega)
  omega

/-- The plain sum of the first k products. -/
def dotTo (v : List Int) (t : List (List Int)) (q : Nat) : Nat → Int
  | 0 => 0
  | k + 1 => dotTo v t q k + v.getD k 0 * (t.getD k []).getD q 0
theorem getD_9 {r : List Int} (h : ∀ x ∈ r, -9 ≤ x ∧ x ≤ 9) (q : Nat) : -9 ≤ r.getD q 0 ∧ r.getD q 0 ≤ 9 := by
  by_cases hq : q < r.length
  · rw [getD_of_lt _ hq]; exact h _ (List.getElem_mem _)
  · simp [List.getD, show r.length ≤ q by omega]
theorem dotTo_bd {c : Nat} {v : List Int} {t : List (List Int)} (h : AzOk c v t) (q : Nat) : ∀ {k : Nat}, k ≤ v.length → -81 * (k : Int) ≤ dotTo v t q k ∧ dotTo v t q k ≤ 81 * (k : Int) := by
  intro k
  induction k with
  | zero => intro _; simp [dotTo]
  | succ k ih =>
    intro hk
    have h1 := ih (by omega)
    have h2 := h.num (k := k) (by omega)
    have h3 := getD_9 (h.row (k := k) (by omega)).2 q
    have h4 := mul81 h2.1 h2.2 h3.1 h3.2
    simp only [dotTo]
    omega
theorem azTo_dot {c : Nat} {v : List Int} {t : List (List Int)} (h : AzOk c v t) {q : Nat} (hq : q < c) : ∀ {k : Nat}, k ≤ v.length → ∃ m : Int, dotTo v t q k = (azTo c v t k).getD q 0 + 487 * m := by
  intro k
  induction k with
  | zero => intro _; exact ⟨0, by simp [dotTo, azTo, List.getD, hq]⟩
  | succ k ih =>
    intro hk
    obtain ⟨m, hm⟩ := ih (by omega)
    rw [azTo_at h (by omega) hq]
    have e := Int.tmod_add_mul_tdiv ((azTo c v t k).getD q 0 + v.getD k 0 * (t.getD k []).getD q 0) 487
    refine ⟨m + Int.tdiv ((azTo c v t k).getD q 0 + v.getD k 0 * (t.getD k []).getD q 0) 487, ?_⟩
    simp only [dotTo]
    omega
theorem azT_length {c : Nat} {v : List Int} {t : List (List Int)} (h : AzOk c v t) : (azT c v t).length = c := azTo_length h (Nat.le_refl _)
/-- All is 0 modulo 487 where all sums are. -/
theorem azT_zero {c : Nat} {v : List Int} {t : List (List Int)} (h : AzOk c v t) : (∀ x ∈ azT c v t, x = 0) ↔ ∀ q, q < c → dotTo v t q v.length = 0 := by
  have hl := azT_length h
  have h6 := h.len6
  constructor
  · intro hz q hq
    obtain ⟨m, hm⟩ := azTo_dot h hq (Nat.le_refl _)
    have hb := dotTo_bd h q (Nat.le_refl _)
    have h0 : (azTo c v t v.length).getD q 0 = 0 := by
      have hq' : q < (azTo c v t v.length).length := by have : (azTo c v t v.length).length = c := hl; omega
      rw [getD_of_lt _ hq']
      exact hz _ (List.getElem_mem _)
    omega
  · intro hz x hx
    obtain ⟨q, hq, rfl⟩ := List.getElem_of_mem hx
    have hqc : q < c := by omega
    obtain ⟨m, hm⟩ := azTo_dot h hqc (Nat.le_refl _)
    have hb := azTo_mod h (Nat.le_refl _) q
    have h0 := hz q hqc
    have e : (azT c v t)[q] = (azTo c v t v.length).getD q 0 := (getD_of_lt _ hq).symm
    omega

/-- The row of sums while it is being made: k numbers of v are done, and of the next one the first q places. -/
def azCell (c : Nat) (v : List Int) (t : List (List Int)) (k q : Nat) : Nat → Value := fun j => .int .i64 (if j < q then (azTo c v t (k + 1)).getD j 0 else (azTo c v t k).getD j 0)
structure Az (w wr : World) (ty : TypeId) (c : Nat) (v : List Int) (t : List (List Int)) (k q : Nat) : Prop where
  below : Below w.heap.size w wr
  row : wr.rowIs w.heap.size ty c (azCell c v t k q)

theorem Az.start (w : World) (ty : TypeId) (c : Nat) (v : List Int) (t : List (List Int)) : Az w (w.alloc (.cells (madeCells #[.int .i64 0] c) ty)) ty c v t 0 0 :=
  ⟨(Below.refl _ _).alloc (Nat.le_refl _) _, (World.rowIs_made w (.int .i64 0) c ty).congr (fun j hj => by simp [azCell, azTo, List.getD, hj])⟩
theorem Az.drew {w wr : World} {ty : TypeId} {c : Nat} {v : List Int} {t : List (List Int)} {k q : Nat} (h : Az w wr ty c v t k q) : Az w wr.drew ty c v t k q := ⟨h.below.drew, h.row.drew⟩
theorem Az.step {w wr : World} {ty : TypeId} {c : Nat} {v : List Int} {t : List (List Int)} {k q : Nat} (ok : AzOk c v t) (h : Az w wr ty c v t k q) (hk : k < v.length) (hq : q < c) {x : Int}
    (hx : x = Int.tmod ((azTo c v t k).getD q 0 + v.getD k 0 * (t.getD k []).getD q 0) 487) : Az w (wr.setCell ⟨w.heap.size, q, none⟩ (.int .i64 x)) ty c v t k (q + 1) := by
  refine ⟨h.below.setCell (Nat.le_refl _) _, (h.row.set q _).congr (fun j hj => ?_)⟩
  by_cases e : j = q
  · subst e
    simp only [azCell, if_true]
    rw [if_pos (Nat.lt_succ_self _), azTo_at ok hk hq, hx]
  · rw [if_neg e]
    simp only [azCell]
    by_cases h2 : j < q
    · rw [if_pos h2, if_pos (by omega)]
    · rw [if_neg h2, if_neg (by omega)]
theorem Az.next {w wr : World} {ty : TypeId} {c : Nat} {v : List Int} {t : List (List Int)} {k : Nat} (h : Az w wr ty c v t k c) : Az w wr ty c v t (k + 1) 0 :=
  ⟨h.below, h.row.congr (fun j hj => by simp [azCell, hj])⟩
theorem Az.cell {w wr : World} {ty : TypeId} {c : Nat} {v : List Int} {t : List (List Int)} {k q : Nat} (h : Az w wr ty c v t k q) (hq : q < c) :
    wr.cell? ⟨w.heap.size, q, none⟩ = some (.int .i64 ((azTo c v t k).getD q 0)) := by
  have := h.row.cell hq
  simpa [azCell] using this
theorem Az.done {w wr : World} {ty : TypeId} {c : Nat} {v : List Int} {t : List (List Int)} (ok : AzOk c v t) (h : Az w wr ty c v t v.length 0) : L1 w.heap.size wr (.slice (some ⟨w.heap.size, 0, none⟩) c c) (azT c v t) := by
  have hl := azTo_length ok (Nat.le_refl _)
  by_cases h0 : c = 0
  · subst h0
    exact Or.inl ⟨List.eq_nil_of_length_eq_zero hl, _, _, rfl⟩
  · refine Or.inr ⟨w.heap.size, 0, c, by rw [azT, hl], Nat.le_refl _, by rw [azT, hl]; omega, fun j hj => ⟨_, h.row.cell (by rw [azT, hl] at hj; omega), ?_⟩⟩
    have hj' : j < (azTo c v t v.length).length := hj
    simp only [azCell, IsI, Nat.not_lt_zero, if_false, azT, Nat.zero_add]
    rw [getD_of_lt _ hj']

set_option maxHeartbeats 1600000 in
theorem applyTableZ_any (c : Nat) (va vt : Value) (v : List Int) (t : List (List Int)) (w : World) (ok : AzOk c v t) (ha : L1 0 w va v) (ht : L2 0 w vt t) (hv : v.length ≤ 1048576) (hc : c ≤ 1048576) :
    Calls Try.prog 134 #[.int .i64 487, va, vt, .int .i64 c] w (LR (azT c v t) w) := by
  have hmk := run_make_row' (P := Try.prog) 22 2 (.int .i64 0) 8 Try.underlying22 Try.infoI rfl .i64 .i64 c (by omega) (by omega)
  have OK := Lib.hid ok
  clear ok
  refine Sl.cases ha (fun ad cap hx hv' => ?_) (fun b o cap hv' _ hpos hcl => ?_)
  · subst hx hv'
    clear ha ht
    go_enter Try.func134, Try.ntmps134
    go_wp2
    refine wp_loop_rounds 1 ?_
    rw [rounds_succ]
    go_wp2
    go_ret
    exact ⟨_, rfl, Az.done OK.out (Az.start _ _ _ _ _), (Below.refl _ _).alloc (Nat.le_refl _) _⟩
  · refine Sl.cases ht (fun ad2 cap2 hx2 hv2 => absurd OK.out.len (by subst hx2; simp only [List.length_nil]; omega)) (fun b2 o2 cap2 hv2 _ hpos2 hcl2 => ?_)
    subst hv' hv2
    clear ha ht
    have hlen := OK.out.len
    have HC := Lib.hid hcl
    have HC2 := Lib.hid hcl2
    clear hcl hcl2
    go_enter Try.func134, Try.ntmps134
    go_wp2
    clear hmk
    go_loopw [18] (fun i wr => ∃ (k : Nat), k ≤ v.length ∧ i = .int .i64 k ∧ Az w wr 2 c v t k 0) (fun i _ => v.length - (intOf i).toNat)
    case atStart => exact ⟨0, Nat.zero_le _, rfl, Az.start _ _ _ _ _⟩
    case round =>
      obtain ⟨k, hk, rfl, HA⟩ := hrel
      by_cases hlt2 : k < v.length
      · have hlt3 : k < t.length := by omega
        obtain ⟨u, hu, hr⟩ := HC.out k hlt2
        obtain ⟨u2, hu2, hr2⟩ := HC2.out k hlt3
        have hnum := OK.out.num hlt2
        have hrow := OK.out.row hlt2
        rw [getD_of_lt _ hlt2] at hnum
        rw [getD_of_lt _ hlt3] at hrow
        obtain ⟨f, hf⟩ : ∃ f, f = v[k] := ⟨_, rfl⟩
        obtain ⟨ys, hy⟩ : ∃ ys, ys = t[k] := ⟨_, rfl⟩
        rw [← hf] at hnum
        rw [← hy] at hrow hr2
        obtain ⟨hf0, hf1⟩ := hnum
        have hu' : wr.cell? ⟨b, o + k, none⟩ = some (.int .i64 f) := by rw [HA.below.cell (p := ⟨b, o + k, none⟩) (cell_lt hu), hu, hr, hf]
        have hu2' : wr.cell? ⟨b2, o2 + k, none⟩ = some u2 := by rw [HA.below.cell (p := ⟨b2, o2 + k, none⟩) (cell_lt hu2), hu2]
        have HF := Lib.hid hf
        have HY := Lib.hid hy
        have HROW := Lib.hid hrow
        have HA' := Lib.hid HA
        clear hf hy hrow HA hu hr hu2
        refine Sl.cases hr2 (fun ad3 cap3 hx3 hv3 => ?_) (fun b3 o3 cap3 hv3 _ hpos3 hcl3 => ?_)
        · subst hv3
          have hc0 : Hid (c = 0) := Lib.hid (by have := HROW.out.1; rw [hx3] at this; simpa using this.symm)
          clear hx3 hr2
          go_wp2
          refine wp_loop_rounds 1 ?_
          rw [rounds_succ]
          go_wp2
          go_roundw
          case rel => exact ⟨k + 1, by omega, by go_num, Az.next (by rw [hc0.out]; have := HA'.out; rwa [hc0.out] at this)⟩
          case measure => simp [intOf]; omega
        · subst hv3
          have hyc : ys.length = c := by have := HROW.out.1; omega
          have HYC := Lib.hid hyc
          have HC3 := Lib.hid hcl3
          clear hyc hr2 hcl3
          obtain ⟨wo, hwo⟩ : ∃ wo : World, wo = wr := ⟨_, rfl⟩
          have HWO := Lib.hid hwo
          clear hwo
          go_wp2
          go_loopw [28] (fun i wr => ∃ (q : Nat), q ≤ ys.length ∧ i = .int .i64 q ∧ Az w wr 2 c v t k q) (fun i _ => ys.length - (intOf i).toNat)
          case atStart => exact ⟨0, Nat.zero_le _, rfl, HA'.out⟩
          case round =>
            obtain ⟨q, hq, rfl, HB⟩ := hrel
            by_cases hlt4 : q < ys.length
            · have hqc : q < c := by have := HYC.out; omega
              obtain ⟨u3, hu3, hr3⟩ := HC3.out q hlt4
              have hx := HROW.out.2 _ (List.getElem_mem hlt4)
              obtain ⟨x, hxx⟩ : ∃ x, x = ys[q] := ⟨_, rfl⟩
              obtain ⟨a, haa⟩ : ∃ a, a = (azTo c v t k).getD q 0 := ⟨_, rfl⟩
              have hab := azTo_mod OK.out (Nat.le_of_lt hlt2) q
              have hac := HB.cell hqc
              have hfz := HB.row.frozen q
              rw [← haa] at hab hac
              rw [← hxx] at hx
              obtain ⟨hx0, hx1⟩ := hx
              obtain ⟨ha0, ha1⟩ := hab
              have hu3' : wr.cell? ⟨b3, o3 + q, none⟩ = some (.int .i64 x) := by rw [HB.below.cell (p := ⟨b3, o3 + q, none⟩) (cell_lt hu3), hu3, hr3, hxx]
              obtain ⟨m0, m1⟩ := mul81 hf0 hf1 hx0 hx1
              have HS := Lib.hid (HB.step OK.out hlt2 hqc (x := Int.tmod (a + f * x) 487) (by rw [haa, HF.out, hxx, getD_of_lt _ hlt2, getD_of_lt _ hlt3, ← HY.out, getD_of_lt _ hlt4]))
              clear HB hu3 hr3 haa hxx
              go_wp2
              go_roundw
              case rel => exact ⟨q + 1, by omega, by go_num, HS.out⟩
              case measure => simp [intOf]; omega
            · have HB' := Lib.hid HB
              have hqc : Hid (q = c) := Lib.hid (by have := HYC.out; omega)
              clear HB
              go_wp2
              go_roundw
              case rel => exact ⟨k + 1, by omega, by go_num, Az.next (by have := HB'.out; rwa [hqc.out] at this)⟩
              case measure => simp [intOf]; omega
      · have hkk : k = v.length := by omega
        subst hkk
        have HA' := Lib.hid HA
        clear HA
        go_wp2
        go_ret
        exact ⟨_, rfl, Az.done OK.out HA'.out, HA'.out.below⟩
end Go.Proofs.Ytiokagnolbddlaa
