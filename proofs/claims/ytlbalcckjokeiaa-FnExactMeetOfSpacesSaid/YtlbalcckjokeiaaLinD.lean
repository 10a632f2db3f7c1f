/-
  Plain mathematics: the kernel of rows, by the rows with the unit behind them.
-/
import Derived.Test.YtlbalcckjokeiaaLinC
namespace Go.Proofs.Ytlbalcckjokeiaa.Lin

def long (m : Nat) (r : V) (i : Nat) : V := fun j => if j < m then r j else if j = m + i then 1 else 0
def tail (m : Nat) (y : V) : V := fun i => y (m + i)
def lift (m : Nat) (x : V) : V := fun j => if j < m then 0 else x (j - m)
def col (rows : Nat → V) (j : Nat) : V := fun i => rows i j
theorem tail_add (p : Int) (m : Nat) (y : V) (c : Int) (w : V) : tail m (add p y c w) = add p (tail m y) c (tail m w) := rfl
theorem tail_lift (m : Nat) (x : V) : tail m (lift m x) = x := by
  funext i
  simp only [tail, lift]
  rw [if_neg (by omega), show m + i - m = i by omega]
theorem lift_zv (m : Nat) : lift m zv = zv := by
  funext i
  simp [lift, zv]
theorem lift_add {p : Int} {m : Nat} {x y : V} (c : Int) (hy : ∀ j, j < m → y j = 0) : lift m (add p x c (tail m y)) = add p (lift m x) c y := by
  funext j
  by_cases h : j < m
  · simp [lift, add, h, hy j h]
  · simp only [lift, add, tail, if_neg h]
    rw [show m + (j - m) = j by omega]

section
variable {p : Int} (hp : 1 < p) {m n : Nat} {rows : Nat → V} {Lg : List V}
/-- The list of the long rows. -/
structure Longs (m n : Nat) (rows : Nat → V) (Lg : List V) : Prop where
  mem : ∀ y, y ∈ Lg ↔ ∃ i, i < n ∧ y = long m (rows i) i
theorem Longs.md (hp : 1 < p) (h : Longs m n rows Lg) (hr : ∀ i, i < n → Md p (rows i)) : ∀ y ∈ Lg, Md p y := fun y hy => by
  obtain ⟨i, hi, rfl⟩ := (h.mem y).1 hy
  intro j
  unfold long
  split
  · exact hr i hi j
  · split <;> omega
theorem Longs.down (h : Longs m n rows Lg) {y : V} (hy : Sp p Lg y) : Wd (m + n) y ∧ ∀ j, j < m → dot n (col rows j) (tail m y) % p = y j % p := by
  induction hy with
  | zero => exact ⟨zv_wd _, fun j _ => by rw [dot_nil (fun i _ => by simp [tail, zv])]; rfl⟩
  | step c hy hw ih =>
    obtain ⟨i, hi, rfl⟩ := (h.mem _).1 hw
    refine ⟨add_wd c ih.1 (fun j hj => ?_), fun j hj => ?_⟩
    · unfold long
      rw [if_neg (by omega), if_neg (by omega)]
    · rw [tail_add, dot_add, ← mod_add_mod, ih.2 j hj, mod_add_mod]
      have e : dot n (col rows j) (tail m (long m (rows i) i)) = rows i j := by
        rw [dot_one (a := i) hi (fun k _ hne => ?_)]
        · simp only [tail, long, col]
          rw [if_neg (by omega), if_pos trivial, Int.mul_one]
        · have : tail m (long m (rows i) i) k = 0 := by
            simp only [tail, long]
            rw [if_neg (by omega), if_neg (by omega)]
          rw [this, Int.mul_zero]
      rw [e]
      simp only [add, long, if_pos hj, Int.emod_emod]
include hp in
theorem Longs.up (h : Longs m n rows Lg) {x : V} (hx : Md p x) (hw : Wd n x) (h0 : ∀ j, j < m → dot n (col rows j) x % p = 0) : Sp p Lg (lift m x) := by
  have hp0 : 0 < p := by omega
  have key : ∀ k, k ≤ n → Sp p Lg (fun j => if j < m then dot k (col rows j) x % p else if j < m + k then x (j - m) else 0) := by
    intro k
    induction k with
    | zero =>
      intro _
      have e : (fun j => if j < m then dot 0 (col rows j) x % p else if j < m + 0 then x (j - m) else 0) = (zv : V) := by
        funext j
        by_cases h1 : j < m
        · simp [h1, dot, zv]
        · simp [h1, zv]
      rw [e]
      exact .zero
    | succ k ih =>
      intro hk
      have hs := Sp.step (x k) (ih (by omega)) ((h.mem _).2 ⟨k, by omega, rfl⟩)
      have e : (fun j => if j < m then dot (k + 1) (col rows j) x % p else if j < m + (k + 1) then x (j - m) else 0) = add p (fun j => if j < m then dot k (col rows j) x % p else if j < m + k then x (j - m) else 0) (x k) (long m (rows k) k) := by
        funext j
        simp only [add, long]
        by_cases h1 : j < m
        · simp only [if_pos h1, mod_add_mod, dot, col]
          exact congrArg (· % p) (by rw [Int.mul_comm])
        · simp only [if_neg h1]
          by_cases h2 : j = m + k
          · subst h2
            rw [if_pos (by omega), if_neg (by omega), if_pos rfl, show m + k - m = k by omega, Int.zero_add, Int.mul_one]
            exact (md_mod (hx k).1 (hx k).2).symm
          · rw [if_neg h2, Int.mul_zero, Int.add_zero]
            by_cases h3 : j < m + k
            · rw [if_pos (by omega), if_pos h3]
              exact (md_mod (hx _).1 (hx _).2).symm
            · rw [if_neg (by omega), if_neg h3]
              rfl
      rw [e]
      exact hs
  have e : lift m x = fun j => if j < m then dot n (col rows j) x % p else if j < m + n then x (j - m) else 0 := by
    funext j
    unfold lift
    by_cases h1 : j < m
    · rw [if_pos h1, if_pos h1, h0 j h1]
    · rw [if_neg h1, if_neg h1]
      by_cases h3 : j < m + n
      · rw [if_pos h3]
      · rw [if_neg h3]
        exact hw _ (by omega)
  rw [e]
  exact key n (Nat.le_refl _)

/-- The rows of a reduced list whose leads stand behind m, cut. -/
structure Cut (p : Int) (m : Nat) (E out : List V) : Prop where
  mem : ∀ x, x ∈ out ↔ ∃ y ∈ E, m ≤ ld y ∧ x = tail m y
  inc : out.Pairwise (fun v w => ld v < ld w)
theorem cut_ld {E : List V} (hE : Red p E) {y : V} (hy : y ∈ E) (h : m ≤ ld y) : tail m y (ld y - m) = 1 ∧ ld (tail m y) = ld y - m ∧ ∀ j, j < m → y j = 0 := by
  have e : tail m y (ld y - m) = 1 := by
    simp only [tail]
    rw [show m + (ld y - m) = ld y by omega]
    exact hE.one y hy
  refine ⟨e, ld_at (by rw [e]; decide) (fun j hj => hE.below hy _ (by omega)), fun j hj => hE.below hy j (by omega)⟩
theorem Cut.red {E out : List V} (hE : Red p E) (h : Cut p m E out) : Red p out := by
  refine ⟨fun v hv => ?_, fun v hv => ?_, h.inc, fun v hv w hw hne => ?_⟩
  · obtain ⟨y, hy, hm, rfl⟩ := (h.mem v).1 hv
    exact fun i => hE.md y hy (m + i)
  · obtain ⟨y, hy, hm, rfl⟩ := (h.mem v).1 hv
    obtain ⟨a, b, _⟩ := cut_ld hE hy hm
    rw [b]
    exact a
  · obtain ⟨y, hy, hm, rfl⟩ := (h.mem v).1 hv
    obtain ⟨z, hz, hm2, rfl⟩ := (h.mem w).1 hw
    rw [(cut_ld hE hy hm).2.1, (cut_ld hE hz hm2).2.1] at hne
    rw [(cut_ld hE hz hm2).2.1, tail, show m + (ld z - m) = ld z by omega]
    exact hE.off y hy z hz (by omega)
include hp in
/-- The cut rows make the kernel. -/
theorem Cut.ker {E out : List V} (hE : Red p E) (hL : Longs m n rows Lg) (he : Eqv p E Lg) (h : Cut p m E out) (x : V) : Sp p out x ↔ Md p x ∧ Wd n x ∧ ∀ j, j < m → dot n (col rows j) x % p = 0 := by
  have hp0 : 0 < p := by omega
  constructor
  · intro hx
    have hl : Sp p E (lift m x) := by
      induction hx with
      | zero => rw [lift_zv]; exact .zero
      | step c _ hw ih =>
        obtain ⟨y, hy, hm, rfl⟩ := (h.mem _).1 hw
        rw [lift_add c (cut_ld hE hy hm).2.2]
        exact .step c ih hy
    obtain ⟨a, b⟩ := hL.down ((he _).1 hl)
    refine ⟨hx.md hp0, fun i hi => ?_, fun j hj => ?_⟩
    · have := a (m + i) (by omega)
      simpa [lift] using this
    · have := b j hj
      rw [tail_lift] at this
      rw [this, lift, if_pos hj]
      rfl
  · rintro ⟨h1, h2, h3⟩
    have hl := (he _).2 (hL.up hp h1 h2 h3)
    have hf : Sp p (E.filter (fun y => decide (m ≤ ld y))) (lift m x) := hE.part hp0 hl (fun w hw => by
      by_cases hm : m ≤ ld w
      · exact Or.inl (List.mem_filter.2 ⟨hw, by simpa using hm⟩)
      · exact Or.inr (by rw [lift, if_pos (by omega)]))
    have hgen : ∀ {y : V}, Sp p (E.filter (fun y => decide (m ≤ ld y))) y → Sp p out (tail m y) := by
      intro y hy
      induction hy with
      | zero => exact .zero
      | step c _ hw ih =>
        obtain ⟨hw1, hw2⟩ := List.mem_filter.1 hw
        rw [tail_add]
        exact .step c ih ((h.mem _).2 ⟨_, hw1, by simpa using hw2, rfl⟩)
    have := hgen hf
    rwa [tail_lift] at this
end
end Go.Proofs.Ytlbalcckjokeiaa.Lin
