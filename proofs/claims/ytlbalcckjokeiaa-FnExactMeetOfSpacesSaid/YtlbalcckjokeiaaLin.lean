/-
  Plain mathematics: vectors of numbers modulo p as functions on places; the space of a list; reduced lists. Two reduced lists of one space are one.
-/
namespace Go.Proofs.Ytlbalcckjokeiaa.Lin

abbrev V := Nat → Int
def zv : V := fun _ => 0
def Md (p : Int) (v : V) : Prop := ∀ i, 0 ≤ v i ∧ v i < p
def Wd (n : Nat) (v : V) : Prop := ∀ i, n ≤ i → v i = 0
/-- v, and c times w. -/
def add (p : Int) (v : V) (c : Int) (w : V) : V := fun i => (v i + c * w i) % p

theorem cg {p a b : Int} (k : Int) (h : a = b + p * k) : a % p = b % p := by rw [h, Int.add_mul_emod_self_left]
theorem mod_sub (p a : Int) : a % p = a - p * (a / p) := Int.emod_def a p
theorem md_mod {p a : Int} (h0 : 0 ≤ a) (h1 : a < p) : a % p = a := Int.emod_eq_of_lt h0 h1
theorem add_md {p : Int} (hp : 0 < p) (v : V) (c : Int) (w : V) : Md p (add p v c w) := fun i => ⟨Int.emod_nonneg _ (by omega), Int.emod_lt_of_pos _ hp⟩
theorem zv_md {p : Int} (hp : 0 < p) : Md p zv := fun _ => ⟨Int.le_refl _, hp⟩
theorem add_wd {p : Int} {n : Nat} {v w : V} (c : Int) (hv : Wd n v) (hw : Wd n w) : Wd n (add p v c w) := fun i hi => by simp [add, hv i hi, hw i hi]
theorem zv_wd (n : Nat) : Wd n zv := fun _ _ => rfl

/-- (x mod p) + y, and such sums, as one sum. -/
theorem mod_add_mod (p x y : Int) : (x % p + y) % p = (x + y) % p := cg (-(x / p)) (by rw [mod_sub p x]; grind)
theorem add_mul_mod (p x c y : Int) : (x + c * (y % p)) % p = (x + c * y) % p := cg (-(c * (y / p))) (by rw [mod_sub p y]; grind)
theorem add_mod_mul (p x c y : Int) : (x + c % p * y) % p = (x + c * y) % p := cg (-(c / p * y)) (by rw [mod_sub p c]; grind)

theorem add_zero {p : Int} {v : V} (h : Md p v) (w : V) : add p v 0 w = v := by
  funext i
  simp only [add, Int.zero_mul, Int.add_zero]
  exact md_mod (h i).1 (h i).2
theorem add_zv {p : Int} {v : V} (h : Md p v) (c : Int) : add p v c zv = v := by
  funext i
  simp only [add, zv, Int.mul_zero, Int.add_zero]
  exact md_mod (h i).1 (h i).2
theorem zv_add {p : Int} {v : V} (h : Md p v) : add p zv 1 v = v := by
  funext i
  simp only [add, zv, Int.one_mul, Int.zero_add]
  exact md_mod (h i).1 (h i).2
theorem add_add (p : Int) (u v w : V) (c d : Int) : add p u c (add p v d w) = add p (add p u c v) (c * d) w := by
  funext i
  simp only [add, add_mul_mod, mod_add_mod]
  exact congrArg (· % p) (by grind)
theorem add_back {p : Int} {v : V} (h : Md p v) (c : Int) (w : V) : add p (add p v c w) (-c) w = v := by
  funext i
  simp only [add, mod_add_mod]
  rw [show v i + c * w i + -c * w i = v i by grind]
  exact md_mod (h i).1 (h i).2
theorem add_swap (p : Int) (u v w : V) (c d : Int) : add p (add p u c v) d w = add p (add p u d w) c v := by
  funext i
  simp only [add, mod_add_mod]
  exact congrArg (· % p) (by grind)

/-- The space of a list. -/
inductive Sp (p : Int) (L : List V) : V → Prop
  | zero : Sp p L zv
  | step {v w : V} (c : Int) : Sp p L v → w ∈ L → Sp p L (add p v c w)

theorem Sp.md {p : Int} {L : List V} {v : V} (hp : 0 < p) (h : Sp p L v) : Md p v := by
  cases h with
  | zero => exact zv_md hp
  | step c _ _ => exact add_md hp _ _ _
theorem Sp.wd {p : Int} {n : Nat} {L : List V} {v : V} (hL : ∀ w ∈ L, Wd n w) (h : Sp p L v) : Wd n v := by
  induction h with
  | zero => exact zv_wd n
  | step c _ hw ih => exact add_wd c ih (hL _ hw)
theorem Sp.mem {p : Int} {L : List V} {w : V} (hw : w ∈ L) (hm : Md p w) : Sp p L w := by
  have h := Sp.step (p := p) (L := L) 1 Sp.zero hw
  rwa [zv_add hm] at h
theorem Sp.add {p : Int} {L : List V} {u v : V} (c : Int) (hmu : Md p u) (hu : Sp p L u) (hv : Sp p L v) : Sp p L (add p u c v) := by
  induction hv with
  | zero => rw [add_zv hmu]; exact hu
  | step d _ hw ih => rw [add_add]; exact .step _ ih hw
theorem Sp.trans {p : Int} (hp : 0 < p) {L M : List V} {v : V} (h : ∀ w ∈ L, Sp p M w) (hv : Sp p L v) : Sp p M v := by
  induction hv with
  | zero => exact .zero
  | step c _ hw ih => exact Sp.add c (ih.md hp) ih (h _ hw)
theorem Sp.mono {p : Int} {L M : List V} {v : V} (h : ∀ w ∈ L, w ∈ M) (hv : Sp p L v) : Sp p M v := by
  induction hv with
  | zero => exact .zero
  | step c _ hw ih => exact .step c ih (h _ hw)

theorem least (v : V) : ∀ i, v i ≠ 0 → ∃ k, v k ≠ 0 ∧ ∀ j, j < k → v j = 0 := by
  intro i
  induction i using Nat.strongRecOn with
  | ind i ih =>
    intro hi
    by_cases h : ∃ j, j < i ∧ v j ≠ 0
    · obtain ⟨j, hj, hne⟩ := h
      exact ih j hj hne
    · exact ⟨i, hi, fun j hj => Classical.byContradiction fun hne => h ⟨j, hj, hne⟩⟩
open Classical in
/-- The place of the first number other than 0. -/
noncomputable def ld (v : V) : Nat := if h : ∃ k, v k ≠ 0 ∧ ∀ j, j < k → v j = 0 then h.choose else 0
theorem ld_spec {v : V} {i : Nat} (h : v i ≠ 0) : v (ld v) ≠ 0 ∧ ∀ j, j < ld v → v j = 0 := by
  have hh := least v i h
  unfold ld
  rw [dif_pos hh]
  exact hh.choose_spec
theorem ld_at {v : V} {k : Nat} (h1 : v k ≠ 0) (h2 : ∀ j, j < k → v j = 0) : ld v = k := by
  obtain ⟨a, b⟩ := ld_spec h1
  rcases Nat.lt_trichotomy (ld v) k with h | h | h
  · exact absurd (h2 _ h) a
  · exact h
  · exact absurd (b _ h) h1
theorem ne_zv {v : V} (h : v ≠ zv) : ∃ i, v i ≠ 0 := Classical.byContradiction fun hn => h (funext fun i => Classical.byContradiction fun hi => hn ⟨i, hi⟩)

structure Red (p : Int) (L : List V) : Prop where
  md : ∀ v ∈ L, Md p v
  one : ∀ v ∈ L, v (ld v) = 1
  inc : L.Pairwise (fun v w => ld v < ld w)
  off : ∀ v ∈ L, ∀ w ∈ L, ld v ≠ ld w → v (ld w) = 0
theorem Red.nil (p : Int) : Red p [] := ⟨by simp, by simp, .nil, by simp⟩
theorem Red.tail {p : Int} {w : V} {L : List V} (h : Red p (w :: L)) : Red p L :=
  ⟨fun v hv => h.md v (List.mem_cons_of_mem _ hv), fun v hv => h.one v (List.mem_cons_of_mem _ hv), (List.pairwise_cons.1 h.inc).2, fun v hv u hu => h.off v (List.mem_cons_of_mem _ hv) u (List.mem_cons_of_mem _ hu)⟩
theorem Red.below {p : Int} {L : List V} (h : Red p L) {v : V} (hv : v ∈ L) : ∀ j, j < ld v → v j = 0 := (ld_spec (i := ld v) (by rw [h.one v hv]; decide)).2
theorem Red.ne {p : Int} {L : List V} (h : Red p L) {v : V} (hv : v ∈ L) : v ≠ zv := fun e => by
  have := h.one v hv
  rw [e] at this
  exact absurd this (by decide)
/-- Of two rows with one lead there is one. -/
theorem Red.same {p : Int} {L : List V} (h : Red p L) : ∀ v ∈ L, ∀ w ∈ L, ld v = ld w → v = w := by
  induction L with
  | nil => intro v hv; cases hv
  | cons r L ih =>
    obtain ⟨h1, h2⟩ := List.pairwise_cons.1 h.inc
    intro v hv w hw e
    rcases List.mem_cons.1 hv with e1 | hv1
    · rcases List.mem_cons.1 hw with e2 | hw1
      · rw [e1, e2]
      · rw [e1] at e
        exact absurd e (Nat.ne_of_lt (h1 w hw1))
    · rcases List.mem_cons.1 hw with e2 | hw1
      · rw [e2] at e
        exact absurd e.symm (Nat.ne_of_lt (h1 v hv1))
      · exact ih h.tail v hv1 w hw1 e

/-- The sum of the rows, each with the number of v at its lead. -/
noncomputable def comb (p : Int) (L : List V) (v : V) : V := L.foldr (fun w acc => add p acc (v (ld w)) w) zv
theorem comb_cons (p : Int) (w : V) (L : List V) (v : V) : comb p (w :: L) v = add p (comb p L v) (v (ld w)) w := rfl
theorem comb_md {p : Int} (hp : 0 < p) (L : List V) (v : V) : Md p (comb p L v) := by
  cases L with
  | nil => exact zv_md hp
  | cons w L => exact add_md hp _ _ _
theorem comb_sp {p : Int} {M : List V} (v : V) : ∀ {L : List V}, (∀ w ∈ L, w ∈ M ∨ v (ld w) = 0) → 0 < p → Sp p M (comb p L v) := by
  intro L
  induction L with
  | nil => intro _ _; exact .zero
  | cons w L ih =>
    intro h hp
    have ih' := ih (fun u hu => h u (List.mem_cons_of_mem _ hu)) hp
    rw [comb_cons]
    rcases h w (List.mem_cons_self ..) with h1 | h1
    · exact .step _ ih' h1
    · rw [h1, add_zero (comb_md hp _ _)]; exact ih'
theorem comb_zero {p : Int} (hp : 0 < p) {v : V} : ∀ {L : List V}, (∀ w ∈ L, v (ld w) = 0) → comb p L v = zv := by
  intro L
  induction L with
  | nil => intro _; rfl
  | cons w L ih =>
    intro h
    rw [comb_cons, h w (List.mem_cons_self ..), ih (fun u hu => h u (List.mem_cons_of_mem _ hu)), add_zero (zv_md hp)]
theorem comb_add {p : Int} (hp : 0 < p) (v w : V) (c : Int) : ∀ L : List V, comb p L (add p v c w) = add p (comb p L v) c (comb p L w) := by
  intro L
  induction L with
  | nil => exact (add_zv (zv_md hp) c).symm
  | cons r L ih =>
    simp only [comb_cons, ih]
    funext i
    simp only [add, add_mul_mod, mod_add_mod, add_mod_mul]
    exact congrArg (· % p) (by grind)
theorem comb_mem {p : Int} (hp : 0 < p) : ∀ {L : List V}, Red p L → ∀ w ∈ L, comb p L w = w := by
  intro L
  induction L with
  | nil => intro _ w hw; cases hw
  | cons r L ih =>
    intro h w hw
    obtain ⟨h1, _⟩ := List.pairwise_cons.1 h.inc
    rw [comb_cons]
    rcases List.mem_cons.1 hw with rfl | hw'
    · rw [comb_zero hp (fun u hu => h.off w hw u (List.mem_cons_of_mem _ hu) (Nat.ne_of_lt (h1 u hu))), h.one w hw]
      exact zv_add (h.md w hw)
    · rw [ih h.tail w hw', h.off w hw r (List.mem_cons_self ..) (Nat.ne_of_gt (h1 w hw'))]
      exact add_zero (h.md w hw) _
/-- A vector of the space is the sum that its numbers at the leads tell. -/
theorem Red.comb {p : Int} (hp : 0 < p) {L : List V} (h : Red p L) {v : V} (hv : Sp p L v) : comb p L v = v := by
  induction hv with
  | zero => exact comb_zero hp (fun _ _ => rfl)
  | step c _ hw ih => rw [comb_add hp, ih, comb_mem hp h _ hw]
theorem Red.zero_of {p : Int} (hp : 0 < p) {L : List V} (h : Red p L) {v : V} (hv : Sp p L v) (h0 : ∀ w ∈ L, v (ld w) = 0) : v = zv := by
  rw [← h.comb hp hv, comb_zero hp h0]
/-- Where a list's rows that matter are among others. -/
theorem Red.part {p : Int} (hp : 0 < p) {L M : List V} (h : Red p L) {v : V} (hv : Sp p L v) (h0 : ∀ w ∈ L, w ∈ M ∨ v (ld w) = 0) : Sp p M v := by
  rw [← h.comb hp hv]
  exact comb_sp v h0 hp
theorem comb_at {p : Int} {v : V} {k : Nat} : ∀ {L : List V}, (∀ w ∈ L, v (ld w) = 0 ∨ w k = 0) → comb p L v k = 0 := by
  intro L
  induction L with
  | nil => intro _; rfl
  | cons r L ih =>
    intro h
    rw [comb_cons, Lin.add, ih (fun u hu => h u (List.mem_cons_of_mem _ hu))]
    rcases h r (List.mem_cons_self ..) with h1 | h1 <;> simp [h1]
/-- The first number other than 0 of a vector of the space stands at a lead. -/
theorem Red.lead {p : Int} (hp : 0 < p) {L : List V} (h : Red p L) {v : V} (hv : Sp p L v) (hne : v ≠ zv) : ∃ w ∈ L, ld w = ld v := by
  refine Classical.byContradiction fun hn => ?_
  obtain ⟨i, hi⟩ := ne_zv hne
  obtain ⟨h1, h2⟩ := ld_spec hi
  refine h1 ?_
  have e := congrFun (h.comb hp hv) (ld v)
  rw [← e]
  refine comb_at fun w hw => ?_
  rcases Nat.lt_trichotomy (ld w) (ld v) with h3 | h3 | h3
  · exact Or.inl (h2 _ h3)
  · exact absurd ⟨w, hw, h3⟩ hn
  · exact Or.inr (h.below hw _ h3)

theorem eq_of_add {p : Int} {v w : V} (hv : Md p v) (hw : Md p w) (h : add p v (-1) w = zv) : v = w := by
  funext i
  have h1 := congrFun h i
  simp only [add, zv] at h1
  have a := hv i
  have b := hw i
  by_cases c : w i ≤ v i
  · rw [md_mod (by omega) (by omega)] at h1
    omega
  · rw [cg (b := v i + -1 * w i + p) (-1) (by omega), md_mod (by omega) (by omega)] at h1
    omega
theorem Red.sub {p : Int} (hp : 1 < p) {A B : List V} (hA : Red p A) (hB : Red p B) (h : ∀ v, Sp p A v ↔ Sp p B v) : ∀ v ∈ A, v ∈ B := by
  intro v hv
  have hp0 : 0 < p := by omega
  have sv := (h v).1 (Sp.mem hv (hA.md v hv))
  obtain ⟨w, hw, e⟩ := hB.lead hp0 sv (hA.ne hv)
  have sw : Sp p B w := Sp.mem hw (hB.md w hw)
  have hd : Sp p B (Lin.add p v (-1) w) := Sp.add _ (hA.md v hv) sv sw
  have hz := hB.zero_of hp0 hd (fun u hu => by
    by_cases e2 : ld u = ld w
    · have e3 : v (ld w) = 1 := by rw [e]; exact hA.one v hv
      rw [e2, Lin.add, e3, hB.one w hw]
      rfl
    · have h1 : w (ld u) = 0 := hB.off w hw u hu (fun e3 => e2 e3.symm)
      obtain ⟨u2, hu2, e4⟩ := hA.lead hp0 ((h u).2 (Sp.mem hu (hB.md u hu))) (hB.ne hu)
      have h2 : v (ld u) = 0 := by
        rw [← e4]
        exact hA.off v hv u2 hu2 (fun e5 => e2 (by rw [← e4, ← e5, e]))
      rw [Lin.add, h1, h2]
      rfl)
  rw [eq_of_add (hA.md v hv) (hB.md w hw) hz]
  exact hw
theorem sorted_ext {A : List V} : ∀ {B : List V}, A.Pairwise (fun v w => ld v < ld w) → B.Pairwise (fun v w => ld v < ld w) → (∀ v, v ∈ A ↔ v ∈ B) → A = B := by
  induction A with
  | nil =>
    intro B _ _ h
    cases B with
    | nil => rfl
    | cons b B => exact absurd ((h b).2 (List.mem_cons_self ..)) (by simp)
  | cons a A ih =>
    intro B hA hB h
    cases B with
    | nil => exact absurd ((h a).1 (List.mem_cons_self ..)) (by simp)
    | cons b B =>
      obtain ⟨a1, a2⟩ := List.pairwise_cons.1 hA
      obtain ⟨b1, b2⟩ := List.pairwise_cons.1 hB
      have e : a = b := by
        rcases List.mem_cons.1 ((h a).1 (List.mem_cons_self ..)) with e | e
        · exact e
        · rcases List.mem_cons.1 ((h b).2 (List.mem_cons_self ..)) with e2 | e2
          · exact e2.symm
          · have := a1 b e2
            have := b1 a e
            omega
      subst e
      rw [ih a2 b2 (fun v => ⟨fun hv => ?_, fun hv => ?_⟩)]
      · rcases List.mem_cons.1 ((h v).1 (List.mem_cons_of_mem _ hv)) with e | e
        · subst e
          exact absurd (a1 v hv) (by omega)
        · exact e
      · rcases List.mem_cons.1 ((h v).2 (List.mem_cons_of_mem _ hv)) with e | e
        · subst e
          exact absurd (b1 v hv) (by omega)
        · exact e
/-- Two reduced lists of one space are one list. -/
theorem Red.unique {p : Int} (hp : 1 < p) {A B : List V} (hA : Red p A) (hB : Red p B) (h : ∀ v, Sp p A v ↔ Sp p B v) : A = B :=
  sorted_ext hA.inc hB.inc fun v => ⟨hA.sub hp hB h v, hB.sub hp hA (fun v => (h v).symm) v⟩
end Go.Proofs.Ytlbalcckjokeiaa.Lin
