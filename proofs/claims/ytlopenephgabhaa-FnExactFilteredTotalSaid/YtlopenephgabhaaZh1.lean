/-
  Texts that ProofFtl needs, part 1.
-/

namespace Go.Proofs.Ytlopenephgabhaa.Lin

abbrev V := Nat → Int
def zv : V := fun _ => 0
def Md (p : Int) (v : V) : Prop := ∀ i, 0 ≤ v i ∧ v i < p
def Wd (n : Nat) (v : V) : Prop := ∀ i, n ≤ i → v i = 0
/-- v, and c times w. -/
def add (p : Int) (v : V) (c : Int) (w : V) : V := fun i => (v i + c * w i) % p

theorem cg {p a b : Int} (k : Int) (h : a = b + p * k) : a % p = b % p := by rw [h, Int.add_mul_emod_self_left]
theorem mod_sub (p a : Int) : a % p = a - p * (a / p) := Int.emod_def a p
theorem md_mod {p a : Int} (h0 : 0 ≤ a) (h1 : a < p) : a % p = a := Int.emod_eq_of_lt h0 h1
theorem add_md {p : Int} (hp : 0 < p) (v : V) (c : Int) (w : V) : Md p (add p v c w) := fun i => ⟨Int.emod_nonneg _ (by omega), Int.emod_lt_of_pos _ hp⟩
theorem zv_md {p : Int} (hp : 0 < p) : Md p zv := fun _ => ⟨Int.le_refl _, hp⟩
theorem add_wd {p : Int} {n : Nat} {v w : V} (c : Int) (hv : Wd n v) (hw : Wd n w) : Wd n (add p v c w) := fun i hi => by simp [add, hv i hi, hw i hi]
theorem zv_wd (n : Nat) : Wd n zv := fun _ _ => rfl

/-- (x mod p) + y, and such sums, as one sum. -/
theorem mod_add_mod (p x y : Int) : (x % p + y) % p = (x + y) % p := cg (-(x / p)) (by rw [mod_sub p x]; grind)
theorem add_mul_mod (p x c y : Int) : (x + c * (y % p)) % p = (x + c * y) % p := cg (-(c * (y / p))) (by rw [mod_sub p y]; grind)
theorem add_mod_mul (p x c y : Int) : (x + c % p * y) % p = (x + c * y) % p := cg (-(c / p * y)) (by rw [mod_sub p c]; grind)

theorem add_zero {p : Int} {v : V} (h : Md p v) (w : V) : add p v 0 w = v := by
  funext i
  simp only [add, Int.zero_mul, Int.add_zero]
  exact md_mod (h i).1 (h i).2
theorem add_zv {p : Int} {v : V} (h : Md p v) (c : Int) : add p v c zv = v := by
  funext i
  simp only [add, zv, Int.mul_zero, Int.add_zero]
  exact md_mod (h i).1 (h i).2
theorem zv_add {p : Int} {v : V} (h : Md p v) : add p zv 1 v = v := by
  funext i
  simp only [add, zv, Int.one_mul, Int.zero_add]
  exact md_mod (h i).1 (h i).2
theorem add_add (p : Int) (u v w : V) (c d : Int) : add p u c (add p v d w) = add p (add p u c v) (c * d) w := by
  funext i
  simp only [add, add_mul_mod, mod_add_mod]
  exact congrArg (· % p) (by grind)
theorem add_back {p : Int} {v : V} (h : Md p v) (c : Int) (w : V) : add p (add p v c w) (-c) w = v := by
  funext i
  simp only [add, mod_add_mod]
  rw [show v i + c * w i + -c * w i = v i by grind]
  exact md_mod (h i).1 (h i).2
/-- The space of a list. -/
inductive Sp (p : Int) (L : List V) : V → Prop
  | zero : Sp p L zv
  | step {v w : V} (c : Int) : Sp p L v → w ∈ L → Sp p L (add p v c w)

theorem Sp.md {p : Int} {L : List V} {v : V} (hp : 0 < p) (h : Sp p L v) : Md p v := by
  cases h with
  | zero => exact zv_md hp
  | step c _ _ => exact add_md hp _ _ _
theorem Sp.wd {p : Int} {n : Nat} {L : List V} {v : V} (hL : ∀ w ∈ L, Wd n w) (h : Sp p L v) : Wd n v := by
  induction h with
  | zero => exact zv_wd n
  | step c _ hw ih => exact add_wd c ih (hL _ hw)
theorem Sp.mem {p : Int} {L : List V} {w : V} (hw : w ∈ L) (hm : Md p w) : Sp p L w := by
  have h := Sp.step (p := p) (L := L) 1 Sp.zero hw
  rwa [zv_add hm] at h
theorem Sp.add {p : Int} {L : List V} {u v : V} (c : Int) (hmu : Md p u) (hu : Sp p L u) (hv : Sp p L v) : Sp p L (add p u c v) := by
  induction hv with
  | zero => rw [add_zv hmu]; exact hu
  | step d _ hw ih => rw [add_add]; exact .step _ ih hw
theorem Sp.trans {p : Int} (hp : 0 < p) {L M : List V} {v : V} (h : ∀ w ∈ L, Sp p M w) (hv : Sp p L v) : Sp p M v := by
  induction hv with
  | zero => exact .zero
  | step c _ hw ih => exact Sp.add c (ih.md hp) ih (h _ hw)
theorem Sp.mono {p : Int} {L M : List V} {v : V} (h : ∀ w ∈ L, w ∈ M) (hv : Sp p L v) : Sp p M v := by
  induction hv with
  | zero => exact .zero
  | step c _ hw ih => exact .step c ih (h _ hw)

theorem least (v : V) : ∀ i, v i ≠ 0 → ∃ k, v k ≠ 0 ∧ ∀ j, j < k → v j = 0 := by
  intro i
  induction i using Nat.strongRecOn with
  | ind i ih =>
    intro hi
    by_cases h : ∃ j, j < i ∧ v j ≠ 0
    · obtain ⟨j, hj, hne⟩ := h
      exact ih j hj hne
    · exact ⟨i, hi, fun j hj => Classical.byContradiction fun hne => h ⟨j, hj, hne⟩⟩
open Classical in
/-- The place of the first number other than 0. -/
noncomputable def ld (v : V) : Nat := if h : ∃ k, v k ≠ 0 ∧ ∀ j, j < k → v j = 0 then h.choose else 0
theorem ld_spec {v : V} {i : Nat} (h : v i ≠ 0) : v (ld v) ≠ 0 ∧ ∀ j, j < ld v → v j = 0 := by
  have hh := least v i h
  unfold ld
  rw [dif_pos hh]
  exact hh.choose_spec
theorem ld_at {v : V} {k : Nat} (h1 : v k ≠ 0) (h2 : ∀ j, j < k → v j = 0) : ld v = k := by
  obtain ⟨a, b⟩ := ld_spec h1
  rcases Nat.lt_trichotomy (ld v) k with h | h | h
  · exact absurd (h2 _ h) a
  · exact h
  · exact absurd (b _ h) h1
theorem ne_zv {v : V} (h : v ≠ zv) : ∃ i, v i ≠ 0 := Classical.byContradiction fun hn => h (funext fun i => Classical.byContradiction fun hi => hn ⟨i, hi⟩)

structure Red (p : Int) (L : List V) : Prop where
  md : ∀ v ∈ L, Md p v
  one : ∀ v ∈ L, v (ld v) = 1
  inc : L.Pairwise (fun v w => ld v < ld w)
  off : ∀ v ∈ L, ∀ w ∈ L, ld v ≠ ld w → v (ld w) = 0
theorem Red.nil (p : Int) : Red p [] := ⟨by simp, by simp, .nil, by simp⟩
theorem Red.tail {p : Int} {w : V} {L : List V} (h : Red p (w :: L)) : Red p L :=
  ⟨fun v hv => h.md v (List.mem_cons_of_mem _ hv), fun v hv => h.one v (List.mem_cons_of_mem _ hv), (List.pairwise_cons.1 h.inc).2, fun v hv u hu => h.off v (List.mem_cons_of_mem _ hv) u (List.mem_cons_of_mem _ hu)⟩
theorem Red.below {p : Int} {L : List V} (h : Red p L) {v : V} (hv : v ∈ L) : ∀ j, j < ld v → v j = 0 := (ld_spec (i := ld v) (by rw [h.one v hv]; decide)).2
theorem Red.ne {p : Int} {L : List V} (h : Red p L) {v : V} (hv : v ∈ L) : v ≠ zv := fun e => by
  have := h.one v hv
  rw [e] at this
  exact absurd this (by decide)
/-- Of two rows with one lead there is one. -/
theorem Red.same {p : Int} {L : List V} (h : Red p L) : ∀ v ∈ L, ∀ w ∈ L, ld v = ld w → v = w := by
  induction L with
  | nil => intro v hv; cases hv
  | cons r L ih =>
    obtain ⟨h1, h2⟩ := List.pairwise_cons.1 h.inc
    intro v hv w hw e
    rcases List.mem_cons.1 hv with e1 | hv1
    · rcases List.mem_cons.1 hw with e2 | hw1
      · rw [e1, e2]
      · rw [e1] at e
        exact absurd e (Nat.ne_of_lt (h1 w hw1))
    · rcases List.mem_cons.1 hw with e2 | hw1
      · rw [e2] at e
        exact absurd e.symm (Nat.ne_of_lt (h1 v hv1))
      · exact ih h.tail v hv1 w hw1 e

/-- The sum of the rows, each with the number of v at its lead. -/
noncomputable def comb (p : Int) (L : List V) (v : V) : V := L.foldr (fun w acc => add p acc (v (ld w)) w) zv
theorem comb_cons (p : Int) (w : V) (L : List V) (v : V) : comb p (w :: L) v = add p (comb p L v) (v (ld w)) w := rfl
theorem comb_md {p : Int} (hp : 0 < p) (L : List V) (v : V) : Md p (comb p L v) := by
  cases L with
  | nil => exact zv_md hp
  | cons w L => exact add_md hp _ _ _
theorem comb_sp {p : Int} {M : List V} (v : V) : ∀ {L : List V}, (∀ w ∈ L, w ∈ M ∨ v (ld w) = 0) → 0 < p → Sp p M (comb p L v) := by
  intro L
  induction L with
  | nil => intro _ _; exact .zero
  | cons w L ih =>
    intro h hp
    have ih' := ih (fun u hu => h u (List.mem_cons_of_mem _ hu)) hp
    rw [comb_cons]
    rcases h w (List.mem_cons_self ..) with h1 | h1
    · exact .step _ ih' h1
    · rw [h1, add_zero (comb_md hp _ _)]; exact ih'
theorem comb_zero {p : Int} (hp : 0 < p) {v : V} : ∀ {L : List V}, (∀ w ∈ L, v (ld w) = 0) → comb p L v = zv := by
  intro L
  induction L with
  | nil => intro _; rfl
  | cons w L ih =>
    intro h
    rw [comb_cons, h w (List.mem_cons_self ..), ih (fun u hu => h u (List.mem_cons_of_mem _ hu)), add_zero (zv_md hp)]
theorem comb_add {p : Int} (hp : 0 < p) (v w : V) (c : Int) : ∀ L : List V, comb p L (add p v c w) = add p (comb p L v) c (comb p L w) := by
  intro L
  induction L with
  | nil => exact (add_zv (zv_md hp) c).symm
  | cons r L ih =>
    simp only [comb_cons, ih]
    funext i
    simp only [add, add_mul_mod, mod_add_mod, add_mod_mul]
    exact congrArg (· % p) (by grind)
theorem comb_mem {p : Int} (hp : 0 < p) : ∀ {L : List V}, Red p L → ∀ w ∈ L, comb p L w = w := by
  intro L
  induction L with
  | nil => intro _ w hw; cases hw
  | cons r L ih =>
    intro h w hw
    obtain ⟨h1, _⟩ := List.pairwise_cons.1 h.inc
    rw [comb_cons]
    rcases List.mem_cons.1 hw with rfl | hw'
    · rw [comb_zero hp (fun u hu => h.off w hw u (List.mem_cons_of_mem _ hu) (Nat.ne_of_lt (h1 u hu))), h.one w hw]
      exact zv_add (h.md w hw)
    · rw [ih h.tail w hw', h.off w hw r (List.mem_cons_self ..) (Nat.ne_of_gt (h1 w hw'))]
      exact add_zero (h.md w hw) _
/-- A vector of the space is the sum that its numbers at the leads tell. -/
theorem Red.comb {p : Int} (hp : 0 < p) {L : List V} (h : Red p L) {v : V} (hv : Sp p L v) : comb p L v = v := by
  induction hv with
  | zero => exact comb_zero hp (fun _ _ => rfl)
  | step c _ hw ih => rw [comb_add hp, ih, comb_mem hp h _ hw]
theorem Red.zero_of {p : Int} (hp : 0 < p) {L : List V} (h : Red p L) {v : V} (hv : Sp p L v) (h0 : ∀ w ∈ L, v (ld w) = 0) : v = zv := by
  rw [← h.comb hp hv, comb_zero hp h0]
/-- Where a list's rows that matter are among others. -/
theorem Red.part {p : Int} (hp : 0 < p) {L M : List V} (h : Red p L) {v : V} (hv : Sp p L v) (h0 : ∀ w ∈ L, w ∈ M ∨ v (ld w) = 0) : Sp p M v := by
  rw [← h.comb hp hv]
  exact comb_sp v h0 hp
theorem comb_at {p : Int} {v : V} {k : Nat} : ∀ {L : List V}, (∀ w ∈ L, v (ld w) = 0 ∨ w k = 0) → comb p L v k = 0 := by
  intro L
  induction L with
  | nil => intro _; rfl
  | cons r L ih =>
    intro h
    rw [comb_cons, Lin.add, ih (fun u hu => h u (List.mem_cons_of_mem _ hu))]
    rcases h r (List.mem_cons_self ..) with h1 | h1 <;> simp [h1]
/-- The first number other than 0 of a vector of the space stands at a lead. -/
theorem Red.lead {p : Int} (hp : 0 < p) {L : List V} (h : Red p L) {v : V} (hv : Sp p L v) (hne : v ≠ zv) : ∃ w ∈ L, ld w = ld v := by
  refine Classical.byContradiction fun hn => ?_
  obtain ⟨i, hi⟩ := ne_zv hne
  obtain ⟨h1, h2⟩ := ld_spec hi
  refine h1 ?_
  have e := congrFun (h.comb hp hv) (ld v)
  rw [← e]
  refine comb_at fun w hw => ?_
  rcases Nat.lt_trichotomy (ld w) (ld v) with h3 | h3 | h3
  · exact Or.inl (h2 _ h3)
  · exact absurd ⟨w, hw, h3⟩ hn
  · exact Or.inr (h.below hw _ h3)

theorem eq_of_add {p : Int} {v w : V} (hv : Md p v) (hw : Md p w) (h : add p v (-1) w = zv) : v = w := by
  funext i
  have h1 := congrFun h i
  simp only [add, zv] at h1
  have a := hv i
  have b := hw i
  by_cases c : w i ≤ v i
  · rw [md_mod (by omega) (by omega)] at h1
    omega
  · rw [cg (b := v i + -1 * w i + p) (-1) (by omega), md_mod (by omega) (by omega)] at h1
    omega
theorem Red.sub {p : Int} (hp : 1 < p) {A B : List V} (hA : Red p A) (hB : Red p B) (h : ∀ v, Sp p A v ↔ Sp p B v) : ∀ v ∈ A, v ∈ B := by
  intro v hv
  have hp0 : 0 < p := by omega
  have sv := (h v).1 (Sp.mem hv (hA.md v hv))
  obtain ⟨w, hw, e⟩ := hB.lead hp0 sv (hA.ne hv)
  have sw : Sp p B w := Sp.mem hw (hB.md w hw)
  have hd : Sp p B (Lin.add p v (-1) w) := Sp.add _ (hA.md v hv) sv sw
  have hz := hB.zero_of hp0 hd (fun u hu => by
    by_cases e2 : ld u = ld w
    · have e3 : v (ld w) = 1 := by rw [e]; exact hA.one v hv
      rw [e2, Lin.add, e3, hB.one w hw]
      rfl
    · have h1 : w (ld u) = 0 := hB.off w hw u hu (fun e3 => e2 e3.symm)
      obtain ⟨u2, hu2, e4⟩ := hA.lead hp0 ((h u).2 (Sp.mem hu (hB.md u hu))) (hB.ne hu)
      have h2 : v (ld u) = 0 := by
        rw [← e4]
        exact hA.off v hv u2 hu2 (fun e5 => e2 (by rw [← e4, ← e5, e]))
      rw [Lin.add, h1, h2]
      rfl)
  rw [eq_of_add (hA.md v hv) (hB.md w hw) hz]
  exact hw
theorem sorted_ext {A : List V} : ∀ {B : List V}, A.Pairwise (fun v w => ld v < ld w) → B.Pairwise (fun v w => ld v < ld w) → (∀ v, v ∈ A ↔ v ∈ B) → A = B := by
  induction A with
  | nil =>
    intro B _ _ h
    cases B with
    | nil => rfl
    | cons b B => exact absurd ((h b).2 (List.mem_cons_self ..)) (by simp)
  | cons a A ih =>
    intro B hA hB h
    cases B with
    | nil => exact absurd ((h a).1 (List.mem_cons_self ..)) (by simp)
    | cons b B =>
      obtain ⟨a1, a2⟩ := List.pairwise_cons.1 hA
      obtain ⟨b1, b2⟩ := List.pairwise_cons.1 hB
      have e : a = b := by
        rcases List.mem_cons.1 ((h a).1 (List.mem_cons_self ..)) with e | e
        · exact e
        · rcases List.mem_cons.1 ((h b).2 (List.mem_cons_self ..)) with e2 | e2
          · exact e2.symm
          · have := a1 b e2
            have := b1 a e
            omega
      subst e
      rw [ih a2 b2 (fun v => ⟨fun hv => ?_, fun hv => ?_⟩)]
      · rcases List.mem_cons.1 ((h v).1 (List.mem_cons_of_mem _ hv)) with e | e
        · subst e
          exact absurd (a1 v hv) (by omega)
        · exact e
      · rcases List.mem_cons.1 ((h v).2 (List.mem_cons_of_mem _ hv)) with e | e
        · subst e
          exact absurd (b1 v hv) (by omega)
        · exact e
/-- Two reduced lists of one space are one list. -/
theorem Red.unique {p : Int} (hp : 1 < p) {A B : List V} (hA : Red p A) (hB : Red p B) (h : ∀ v, Sp p A v ↔ Sp p B v) : A = B :=
  sorted_ext hA.inc hB.inc fun v => ⟨hA.sub hp hB h v, hB.sub hp hA (fun v => (h v).symm) v⟩
end Go.Proofs.Ytlopenephgabhaa.Lin

namespace Go.Proofs.Ytlopenephgabhaa.Lin

/-- r is v less multiples of the first k rows, and 0 at their leads. -/
structure Rest (p : Int) (L : List V) (v : V) (k : Nat) (r : V) : Prop where
  md : Md p r
  off : ∀ w ∈ L.take k, r (ld w) = 0
  to : Sp p (v :: L) r
  of : Sp p (r :: L) v
theorem Rest.step {p : Int} (hp : 0 < p) {L : List V} (hL : Red p L) {v : V} {k : Nat} (hk : k < L.length) {r : V} (h : Rest p L v k r) : Rest p L v (k + 1) (add p r (-(r (ld L[k]))) L[k]) := by
  have hm : L[k] ∈ L := List.getElem_mem hk
  refine ⟨add_md hp _ _ _, fun w hw => ?_, .step _ h.to (List.mem_cons_of_mem _ hm), ?_⟩
  · rw [List.take_succ_eq_append_getElem hk] at hw
    rcases List.mem_append.1 hw with hw | hw
    · have h1 := h.off w hw
      obtain ⟨j, hj, rfl⟩ := List.getElem_of_mem hw
      have hj' : j < k := by simp at hj; omega
      rw [List.getElem_take] at h1 ⊢
      have h2 : ld L[j] < ld L[k] := List.pairwise_iff_getElem.1 hL.inc j k (by omega) hk hj'
      have h3 : L[k] (ld L[j]) = 0 := hL.off _ hm _ (List.getElem_mem _) (by omega)
      rw [add, h1, h3]
      simp
    · obtain rfl := List.mem_singleton.1 hw
      rw [add, hL.one _ hm]
      simp
      rw [show r (ld L[k]) + -r (ld L[k]) = 0 by omega]
      rfl
  · have e : r = add p (add p r (-(r (ld L[k]))) L[k]) (r (ld L[k])) L[k] := by
      have := add_back h.md (-(r (ld L[k]))) L[k]
      rw [Int.neg_neg] at this
      exact this.symm
    refine Sp.trans hp (fun w hw => ?_) h.of
    rcases List.mem_cons.1 hw with rfl | hw
    · have := Sp.add (p := p) (L := add p w (-(w (ld L[k]))) L[k] :: L) (w (ld L[k])) (add_md hp _ _ _) (Sp.mem (List.mem_cons_self ..) (add_md hp _ _ _)) (Sp.mem (List.mem_cons_of_mem _ hm) (hL.md _ hm))
      rwa [← e] at this
    · exact Sp.mem (List.mem_cons_of_mem _ hw) (hL.md w hw)
/-- A rest that is 0 stays 0. -/
theorem Rest.zero {p : Int} (hp : 0 < p) {L : List V} {v : V} {k : Nat} {r : V} (h : Rest p L v k r) (h0 : r = zv) (j : Nat) : Rest p L v j zv :=
  ⟨zv_md hp, fun _ _ => rfl, .zero, by have := h.of; rwa [h0] at this⟩
/-- u is a multiple of r, its first number 1. -/
structure Unit (p : Int) (r u : V) : Prop where
  md : Md p u
  lead : ld u = ld r
  one : u (ld u) = 1
  at0 : ∀ i, r i = 0 → u i = 0
  to : Sp p [r] u
  of : Sp p [u] r
/-- A reduced list with one row more: put at the place k, its multiples taken away from the others. -/
noncomputable def put (p : Int) (L : List V) (k : Nat) (u : V) : List V := (L.take k).map (fun w => add p w (-(w (ld u))) u) ++ u :: (L.drop k).map (fun w => add p w (-(w (ld u))) u)
structure Fits (p : Int) (L : List V) (k : Nat) (u : V) : Prop where
  md : Md p u
  one : u (ld u) = 1
  off : ∀ w ∈ L, u (ld w) = 0
  len : k ≤ L.length
  lo : ∀ w ∈ L.take k, ld w < ld u
  hi : ∀ w ∈ L.drop k, ld u < ld w
theorem Fits.ld {p : Int} (hp : 1 < p) {L : List V} (hL : Red p L) {k : Nat} {u : V} (h : Fits p L k u) {w : V} (hw : w ∈ L) : (add p w (-(w (ld u))) u) (ld w) = 1 ∧ Lin.ld (add p w (-(w (Lin.ld u))) u) = Lin.ld w := by
  have e1 : (add p w (-(w (Lin.ld u))) u) (Lin.ld w) = 1 := by
    rw [add, hL.one w hw, h.off w hw]
    simp
    exact md_mod (by omega) hp
  refine ⟨e1, ld_at (by rw [e1]; decide) (fun j hj => ?_)⟩
  have hwj := hL.below hw j hj
  have hub := (ld_spec (v := u) (i := Lin.ld u) (by rw [h.one]; decide)).2
  rw [add, hwj]
  rw [← List.take_append_drop k L] at hw
  rcases List.mem_append.1 hw with hw2 | hw2
  · have := h.lo w hw2
    rw [hub j (by omega)]
    simp
  · have := h.hi w hw2
    rw [hL.below (List.mem_of_mem_drop hw2) _ this]
    simp
theorem put_mem {p : Int} {L : List V} {k : Nat} {u v : V} : v ∈ put p L k u ↔ v = u ∨ ∃ w ∈ L, v = add p w (-(w (ld u))) u := by
  have e : ∀ w, w ∈ L ↔ w ∈ L.take k ∨ w ∈ L.drop k := fun w => by rw [← List.mem_append, List.take_append_drop]
  simp only [put, List.mem_append, List.mem_cons, List.mem_map, e]
  constructor
  · rintro (⟨w, h1, h2⟩ | h | ⟨w, h1, h2⟩)
    · exact Or.inr ⟨w, Or.inl h1, h2.symm⟩
    · exact Or.inl h
    · exact Or.inr ⟨w, Or.inr h1, h2.symm⟩
  · rintro (h | ⟨w, h1 | h1, h2⟩)
    · exact Or.inr (Or.inl h)
    · exact Or.inl ⟨w, h1, h2.symm⟩
    · exact Or.inr (Or.inr ⟨w, h1, h2.symm⟩)
theorem Fits.red {p : Int} (hp : 1 < p) {L : List V} (hL : Red p L) {k : Nat} {u : V} (h : Fits p L k u) : Red p (put p L k u) := by
  have hp0 : 0 < p := by omega
  refine ⟨fun v hv => ?_, fun v hv => ?_, ?_, fun v hv w hw => ?_⟩
  · rcases put_mem.1 hv with rfl | ⟨w, hw, rfl⟩
    · exact h.md
    · exact add_md hp0 _ _ _
  · rcases put_mem.1 hv with rfl | ⟨w, hw, rfl⟩
    · exact h.one
    · rw [(h.ld hp hL hw).2]; exact (h.ld hp hL hw).1
  · have hmap : ∀ M : List V, (∀ w ∈ M, w ∈ L) → M.Pairwise (fun v w => Lin.ld v < Lin.ld w) → (M.map (fun w => add p w (-(w (Lin.ld u))) u)).Pairwise (fun v w => Lin.ld v < Lin.ld w) := fun M hM hP => by
      rw [List.pairwise_map]
      exact hP.imp_of_mem (fun {a b} ha hb hab => by rw [(h.ld hp hL (hM a ha)).2, (h.ld hp hL (hM b hb)).2]; exact hab)
    have ht : ∀ w ∈ L.take k, w ∈ L := fun w hw => List.mem_of_mem_take hw
    have hd : ∀ w ∈ L.drop k, w ∈ L := fun w hw => List.mem_of_mem_drop hw
    refine List.pairwise_append.2 ⟨hmap _ ht (hL.inc.sublist (List.take_sublist k L)), List.pairwise_cons.2 ⟨fun w hw => ?_, hmap _ hd (hL.inc.sublist (List.drop_sublist k L))⟩, fun a ha b hb => ?_⟩
    · obtain ⟨x, hx, rfl⟩ := List.mem_map.1 hw
      rw [(h.ld hp hL (hd x hx)).2]
      exact h.hi x hx
    · obtain ⟨x, hx, rfl⟩ := List.mem_map.1 ha
      rw [(h.ld hp hL (ht x hx)).2]
      have h1 := h.lo x hx
      rcases List.mem_cons.1 hb with rfl | hb
      · exact h1
      · obtain ⟨y, hy, rfl⟩ := List.mem_map.1 hb
        rw [(h.ld hp hL (hd y hy)).2]
        have h2 := h.hi y hy
        omega
  · intro hne
    rcases put_mem.1 hv with rfl | ⟨x, hx, rfl⟩
    · rcases put_mem.1 hw with rfl | ⟨y, hy, rfl⟩
      · exact absurd rfl hne
      · rw [(h.ld hp hL hy).2]; exact h.off y hy
    · rcases put_mem.1 hw with rfl | ⟨y, hy, rfl⟩
      · rw [add, h.one, Int.mul_one, show x (Lin.ld w) + -x (Lin.ld w) = 0 by omega]
        rfl
      · rw [(h.ld hp hL hx).2, (h.ld hp hL hy).2] at hne
        rw [(h.ld hp hL hy).2, add, hL.off x hx y hy hne, h.off y hy]
        simp
theorem Fits.sp {p : Int} (hp : 1 < p) {L : List V} (hL : Red p L) {k : Nat} {u : V} (h : Fits p L k u) (v : V) : Sp p (put p L k u) v ↔ Sp p (u :: L) v := by
  have hp0 : 0 < p := by omega
  have hr := h.red hp hL
  constructor
  · refine Sp.trans hp0 fun w hw => ?_
    rcases put_mem.1 hw with rfl | ⟨x, hx, rfl⟩
    · exact Sp.mem (List.mem_cons_self ..) h.md
    · exact Sp.add _ (hL.md x hx) (Sp.mem (List.mem_cons_of_mem _ hx) (hL.md x hx)) (Sp.mem (List.mem_cons_self ..) h.md)
  · refine Sp.trans hp0 fun w hw => ?_
    have hu : Sp p (put p L k u) u := Sp.mem (put_mem.2 (Or.inl rfl)) h.md
    rcases List.mem_cons.1 hw with rfl | hw
    · exact hu
    · have e := add_back (hL.md w hw) (-(w (Lin.ld u))) u
      rw [← e]
      exact Sp.add _ (add_md hp0 _ _ _) (Sp.mem (put_mem.2 (Or.inr ⟨w, hw, rfl⟩)) (add_md hp0 _ _ _)) hu

/-- Lists with one space. -/
def Eqv (p : Int) (L M : List V) : Prop := ∀ v, Sp p L v ↔ Sp p M v
theorem Eqv.refl (p : Int) (L : List V) : Eqv p L L := fun _ => Iff.rfl
theorem Eqv.symm {p : Int} {L M : List V} (h : Eqv p L M) : Eqv p M L := fun v => (h v).symm
theorem Eqv.trans {p : Int} {L M N : List V} (h : Eqv p L M) (k : Eqv p M N) : Eqv p L N := fun v => (h v).trans (k v)
theorem Eqv.of {p : Int} (hp : 0 < p) {L M : List V} (h : ∀ w ∈ L, Sp p M w) (k : ∀ w ∈ M, Sp p L w) : Eqv p L M := fun _ => ⟨Sp.trans hp h, Sp.trans hp k⟩
theorem Eqv.append {p : Int} (hp : 0 < p) {L M : List V} (h : Eqv p L M) {N : List V} (hL : ∀ w ∈ L, Md p w) (hM : ∀ w ∈ M, Md p w) (hN : ∀ w ∈ N, Md p w) : Eqv p (L ++ N) (M ++ N) := by
  have key : ∀ {A B : List V}, (∀ w ∈ A, Md p w) → Eqv p A B → ∀ w ∈ A ++ N, Sp p (B ++ N) w := fun {A B} hA hAB w hw => by
    rcases List.mem_append.1 hw with hw | hw
    · exact Sp.mono (fun x hx => List.mem_append_left _ hx) ((hAB w).1 (Sp.mem hw (hA w hw)))
    · exact Sp.mem (List.mem_append_right _ hw) (hN w hw)
  exact Eqv.of hp (key hL h) (key hM h.symm)
/-- One vector more, its rest put in as a row. -/
theorem put_eqv {p : Int} (hp : 1 < p) {L M : List V} {v r u : V} {k : Nat} (hL : Red p L) (hM : ∀ w ∈ M, Md p w) (hv : Md p v) (h : Eqv p L M) (hr : Rest p L v L.length r) (hu : Unit p r u) (hf : Fits p L k u) : Eqv p (put p L k u) (M ++ [v]) := by
  have hp0 : 0 < p := by omega
  have mL : ∀ w ∈ L, Sp p (M ++ [v]) w := fun w hw => Sp.mono (fun x hx => List.mem_append_left _ hx) ((h w).1 (Sp.mem hw (hL.md w hw)))
  have mr : Sp p (M ++ [v]) r := Sp.trans hp0 (fun w hw => by
    rcases List.mem_cons.1 hw with rfl | hw
    · exact Sp.mem (by simp) hv
    · exact mL w hw) hr.to
  have mu : Sp p (M ++ [v]) u := Sp.trans hp0 (fun w hw => by obtain rfl := List.mem_singleton.1 hw; exact mr) hu.to
  have e1 : Eqv p (put p L k u) (u :: L) := hf.sp hp hL
  refine e1.trans (Eqv.of hp0 (fun w hw => ?_) (fun w hw => ?_))
  · rcases List.mem_cons.1 hw with rfl | hw
    · exact mu
    · exact mL w hw
  · rcases List.mem_append.1 hw with hw | hw
    · exact Sp.mono (fun x hx => List.mem_cons_of_mem _ hx) ((h w).2 (Sp.mem hw (hM w hw)))
    · obtain rfl := List.mem_singleton.1 hw
      refine Sp.trans hp0 (fun x hx => ?_) hr.of
      rcases List.mem_cons.1 hx with rfl | hx
      · exact Sp.trans hp0 (fun y hy => by obtain rfl := List.mem_singleton.1 hy; exact Sp.mem (List.mem_cons_self ..) hu.md) hu.of
      · exact Sp.mem (List.mem_cons_of_mem _ hx) (hL.md x hx)
/-- A rest that is no 0: its unit fits at the place that its lead tells. -/
theorem fits_of {p : Int} {L : List V} {v r u : V} {k : Nat} (hr : Rest p L v L.length r) (hne : r ≠ zv) (hu : Unit p r u) (hk : k ≤ L.length) (hlo : ∀ w ∈ L.take k, ld w < ld u) (hhi : ∀ w ∈ L.drop k, ¬ ld w < ld u) : Fits p L k u := by
  have hoff : ∀ w ∈ L, r (ld w) = 0 := fun w hw => hr.off w (by rw [List.take_length]; exact hw)
  refine ⟨hu.md, hu.one, fun w hw => hu.at0 _ (hoff w hw), hk, hlo, fun w hw => ?_⟩
  have h1 := hhi w hw
  have h2 : ld w ≠ ld u := fun e => by
    obtain ⟨i, hi⟩ := ne_zv hne
    have h3 := (ld_spec hi).1
    rw [← hu.lead, ← e] at h3
    exact h3 (hoff w (List.mem_of_mem_drop hw))
  omega

/-- Lines: units of the vectors of a list, enough of them. -/
structure Lines (p : Int) (T M : List V) : Prop where
  md : ∀ u ∈ M, Md p u
  wd : ∀ u ∈ M, Wd 40 u
  ne : ∀ u ∈ M, u ≠ zv
  eqv : Eqv p M T
theorem Lines.nil (p : Int) : Lines p [] [] := ⟨by simp, by simp, by simp, Eqv.refl _ _⟩
theorem Unit.ne {p : Int} {r u : V} (h : Unit p r u) : u ≠ zv := fun e => by
  have := h.one
  rw [e] at this
  exact absurd this (by decide)
theorem Lines.add {p : Int} (hp : 0 < p) {T M : List V} (h : Lines p T M) {v u : V} (hT : ∀ w ∈ T, Md p w) (hv : Md p v) (hu : Unit p v u) (hw : Wd 40 u) : Lines p (T ++ [v]) (M ++ [u]) := by
  have e1 : Sp p (T ++ [v]) u := Sp.trans hp (fun x hx => by obtain rfl := List.mem_singleton.1 hx; exact Sp.mem (by simp) hv) hu.to
  have e2 : Sp p (M ++ [u]) v := Sp.trans hp (fun x hx => by obtain rfl := List.mem_singleton.1 hx; exact Sp.mem (by simp) hu.md) hu.of
  refine ⟨fun x hx => ?_, fun x hx => ?_, fun x hx => ?_, Eqv.of hp (fun x hx => ?_) (fun x hx => ?_)⟩
  · rcases List.mem_append.1 hx with hx | hx
    · exact h.md x hx
    · obtain rfl := List.mem_singleton.1 hx; exact hu.md
  · rcases List.mem_append.1 hx with hx | hx
    · exact h.wd x hx
    · obtain rfl := List.mem_singleton.1 hx; exact hw
  · rcases List.mem_append.1 hx with hx | hx
    · exact h.ne x hx
    · obtain rfl := List.mem_singleton.1 hx; exact hu.ne
  · rcases List.mem_append.1 hx with hx | hx
    · exact Sp.mono (fun y hy => List.mem_append_left _ hy) ((h.eqv x).1 (Sp.mem hx (h.md x hx)))
    · obtain rfl := List.mem_singleton.1 hx; exact e1
  · rcases List.mem_append.1 hx with hx | hx
    · exact Sp.mono (fun y hy => List.mem_append_left _ hy) ((h.eqv x).2 (Sp.mem hx (hT x hx)))
    · obtain rfl := List.mem_singleton.1 hx; exact e2
end Go.Proofs.Ytlopenephgabhaa.Lin

namespace Go.Proofs.Ytlopenephgabhaa.Lin

/-- The sum of the first n products. -/
def dot : Nat → V → V → Int
  | 0, _, _ => 0
  | n + 1, u, v => dot n u v + u n * v n
theorem dot_nil {u v : V} : ∀ {n : Nat}, (∀ i, i < n → u i * v i = 0) → dot n u v = 0 := by
  intro n
  induction n with
  | zero => intro _; rfl
  | succ n ih => intro h; rw [dot, ih (fun i hi => h i (by omega)), h n (by omega)]; rfl
theorem dot_comm (u v : V) : ∀ n, dot n u v = dot n v u := by
  intro n
  induction n with
  | zero => rfl
  | succ n ih => rw [dot, dot, ih, Int.mul_comm]
theorem dot_add (p : Int) (u v w : V) (c : Int) : ∀ n, dot n u (add p v c w) % p = (dot n u v + c * dot n u w) % p := by
  intro n
  induction n with
  | zero => simp [dot]
  | succ n ih =>
    have e : (dot n u (add p v c w) + u n * ((v n + c * w n) % p)) % p = (dot n u v + c * dot n u w + u n * (v n + c * w n)) % p := by
      rw [add_mul_mod, ← mod_add_mod, ih, mod_add_mod]
    show (dot n u (add p v c w) + u n * ((v n + c * w n) % p)) % p = (dot n u v + u n * v n + c * (dot n u w + u n * w n)) % p
    rw [e]
    exact congrArg (· % p) (by grind)

/-- v annihilates the rows. -/
structure Ker (p : Int) (n : Nat) (L : List V) (v : V) : Prop where
  md : Md p v
  wd : Wd n v
  ann : ∀ r ∈ L, dot n r v % p = 0
theorem Ker.zv {p : Int} (hp : 0 < p) (n : Nat) (L : List V) : Ker p n L zv := ⟨zv_md hp, zv_wd n, fun r _ => by rw [dot_nil (fun i _ => by simp [Lin.zv])]; rfl⟩
theorem Ker.add {p : Int} (hp : 0 < p) {n : Nat} {L : List V} {v w : V} (hv : Ker p n L v) (c : Int) (hw : Ker p n L w) : Ker p n L (add p v c w) :=
  ⟨add_md hp _ _ _, add_wd c hv.wd hw.wd, fun r hr => by
    rw [dot_add, ← mod_add_mod, hv.ann r hr, ← add_mul_mod, hw.ann r hr]
    simp⟩
theorem Ker.sp {p : Int} (hp : 0 < p) {n : Nat} {L M : List V} (h : ∀ w ∈ M, Ker p n L w) {v : V} (hv : Sp p M v) : Ker p n L v := by
  induction hv with
  | zero => exact Ker.zv hp n L
  | step c _ hw ih => exact ih.add hp c (h _ hw)
theorem ann_sp {p : Int} {n : Nat} {L : List V} {v : V} (h : ∀ r ∈ L, dot n r v % p = 0) {r : V} (hr : Sp p L r) : dot n r v % p = 0 := by
  rw [dot_comm]
  induction hr with
  | zero => rw [dot_nil (fun i _ => by simp [Lin.zv])]; rfl
  | step c _ hw ih =>
    have h2 := h _ hw
    rw [dot_comm] at h2
    rw [dot_add, ← mod_add_mod, ih, ← add_mul_mod, h2]
    simp
/-- What annihilates a list annihilates its space. -/
theorem Ker.eqv {p : Int} {n : Nat} {L M : List V} (hM : ∀ w ∈ M, Md p w) (h : Eqv p L M) {v : V} (hv : Ker p n L v) : Ker p n M v :=
  ⟨hv.md, hv.wd, fun r hr => ann_sp hv.ann ((h r).2 (Sp.mem hr (hM r hr)))⟩

/-- The vector with 1 at a free place that a reduced list tells. -/
structure Sol (p : Int) (R : List V) (f : Nat) (s : V) : Prop where
  at1 : s f = 1
  lead : ∀ w ∈ R, s (ld w) = (p - w f) % p
  rest : ∀ i, i ≠ f → (∀ w ∈ R, ld w ≠ i) → s i = 0
def Free (R : List V) (f : Nat) : Prop := ∀ w ∈ R, ld w ≠ f
theorem Sol.md {p : Int} (hp : 1 < p) {R : List V} {f : Nat} {s : V} (h : Sol p R f s) : Md p s := by
  intro i
  by_cases e : i = f
  · rw [e, h.at1]; omega
  · by_cases h2 : ∀ w ∈ R, ld w ≠ i
    · rw [h.rest i e h2]; omega
    · obtain ⟨w, hw, e2⟩ : ∃ w, w ∈ R ∧ ld w = i := Classical.byContradiction fun hn => h2 fun w hw e2 => hn ⟨w, hw, e2⟩
      rw [← e2, h.lead w hw]
      exact ⟨Int.emod_nonneg _ (by omega), Int.emod_lt_of_pos _ (by omega)⟩
end Go.Proofs.Ytlopenephgabhaa.Lin

namespace Go.Proofs.Ytlopenephgabhaa.Lin

def long (m : Nat) (r : V) (i : Nat) : V := fun j => if j < m then r j else if j = m + i then 1 else 0
def tail (m : Nat) (y : V) : V := fun i => y (m + i)
def lift (m : Nat) (x : V) : V := fun j => if j < m then 0 else x (j - m)
def col (rows : Nat → V) (j : Nat) : V := fun i => rows i j
section
variable {p : Int} (hp : 1 < p) {m n : Nat} {rows : Nat → V} {Lg : List V}
/-- The list of the long rows. -/
structure Longs (m n : Nat) (rows : Nat → V) (Lg : List V) : Prop where
  mem : ∀ y, y ∈ Lg ↔ ∃ i, i < n ∧ y = long m (rows i) i
theorem Longs.md (hp : 1 < p) (h : Longs m n rows Lg) (hr : ∀ i, i < n → Md p (rows i)) : ∀ y ∈ Lg, Md p y := fun y hy => by
  obtain ⟨i, hi, rfl⟩ := (h.mem y).1 hy
  intro j
  unfold long
  split
  · exact hr i hi j
  · split <;> omega
include hp in
theorem Longs.up (h : Longs m n rows Lg) {x : V} (hx : Md p x) (hw : Wd n x) (h0 : ∀ j, j < m → dot n (col rows j) x % p = 0) : Sp p Lg (lift m x) := by
  have hp0 : 0 < p := by omega
  have key : ∀ k, k ≤ n → Sp p Lg (fun j => if j < m then dot k (col rows j) x % p else if j < m + k then x (j - m) else 0) := by
    intro k
    induction k with
    | zero =>
      intro _
      have e : (fun j => if j < m then dot 0 (col rows j) x % p else if j < m + 0 then x (j - m) else 0) = (zv : V) := by
        funext j
        by_cases h1 : j < m
        · simp [h1, dot, zv]
        · simp [h1, zv]
      rw [e]
      exact .zero
    | succ k ih =>
      intro hk
      have hs := Sp.step (x k) (ih (by omega)) ((h.mem _).2 ⟨k, by omega, rfl⟩)
      have e : (fun j => if j < m then dot (k + 1) (col rows j) x % p else if j < m + (k + 1) then x (j - m) else 0) = add p (fun j => if j < m then dot k (col rows j) x % p else if j < m + k then x (j - m) else 0) (x k) (long m (rows k) k) := by
        funext j
        simp only [add, long]
        by_cases h1 : j < m
        · simp only [if_pos h1, mod_add_mod, dot, col]
          exact congrArg (· % p) (by rw [Int.mul_comm])
        · simp only [if_neg h1]
          by_cases h2 : j = m + k
          · subst h2
            rw [if_pos (by omega), if_neg (by omega), if_pos rfl, show m + k - m = k by omega, Int.zero_add, Int.mul_one]
            exact (md_mod (hx k).1 (hx k).2).symm
          · rw [if_neg h2, Int.mul_zero, Int.add_zero]
            by_cases h3 : j < m + k
            · rw [if_pos (by omega), if_pos h3]
              exact (md_mod (hx _).1 (hx _).2).symm
            · rw [if_neg (by omega), if_neg h3]
              rfl
      rw [e]
      exact hs
  have e : lift m x = fun j => if j < m then dot n (col rows j) x % p else if j < m + n then x (j - m) else 0 := by
    funext j
    unfold lift
    by_cases h1 : j < m
    · rw [if_pos h1, if_pos h1, h0 j h1]
    · rw [if_neg h1, if_neg h1]
      by_cases h3 : j < m + n
      · rw [if_pos h3]
      · rw [if_neg h3]
        exact hw _ (by omega)
  rw [e]
  exact key n (Nat.le_refl _)

/-- The rows of a reduced list whose leads stand behind m, cut. -/
structure Cut (p : Int) (m : Nat) (E out : List V) : Prop where
  mem : ∀ x, x ∈ out ↔ ∃ y ∈ E, m ≤ ld y ∧ x = tail m y
  inc : out.Pairwise (fun v w => ld v < ld w)
theorem cut_ld {E : List V} (hE : Red p E) {y : V} (hy : y ∈ E) (h : m ≤ ld y) : tail m y (ld y - m) = 1 ∧ ld (tail m y) = ld y - m ∧ ∀ j, j < m → y j = 0 := by
  have e : tail m y (ld y - m) = 1 := by
    simp only [tail]
    rw [show m + (ld y - m) = ld y by omega]
    exact hE.one y hy
  refine ⟨e, ld_at (by rw [e]; decide) (fun j hj => hE.below hy _ (by omega)), fun j hj => hE.below hy j (by omega)⟩
theorem Cut.red {E out : List V} (hE : Red p E) (h : Cut p m E out) : Red p out := by
  refine ⟨fun v hv => ?_, fun v hv => ?_, h.inc, fun v hv w hw hne => ?_⟩
  · obtain ⟨y, hy, hm, rfl⟩ := (h.mem v).1 hv
    exact fun i => hE.md y hy (m + i)
  · obtain ⟨y, hy, hm, rfl⟩ := (h.mem v).1 hv
    obtain ⟨a, b, _⟩ := cut_ld hE hy hm
    rw [b]
    exact a
  · obtain ⟨y, hy, hm, rfl⟩ := (h.mem v).1 hv
    obtain ⟨z, hz, hm2, rfl⟩ := (h.mem w).1 hw
    rw [(cut_ld hE hy hm).2.1, (cut_ld hE hz hm2).2.1] at hne
    rw [(cut_ld hE hz hm2).2.1, tail, show m + (ld z - m) = ld z by omega]
    exact hE.off y hy z hz (by omega)
include hp in
end
end Go.Proofs.Ytlopenephgabhaa.Lin

namespace Go.Proofs.Ytlopenephgabhaa.Lin

/-- As Rest, and r is v and a sum of multiples of the list. -/
structure RestE (p : Int) (L : List V) (v : V) (k : Nat) (r : V) : Prop where
  rest : Rest p L v k r
  by' : ∃ s, Sp p L s ∧ r = add p v 1 s
theorem RestE.step {p : Int} (hp : 0 < p) {L : List V} (hL : Red p L) {v : V} {k : Nat} (hk : k < L.length) {r : V} (h : RestE p L v k r) : RestE p L v (k + 1) (add p r (-(r (ld L[k]))) L[k]) := by
  obtain ⟨s, hs, e⟩ := h.by'
  refine ⟨h.rest.step hp hL hk, add p s (-(r (ld L[k]))) L[k], .step _ hs (List.getElem_mem hk), ?_⟩
  rw [add_add, ← e, Int.one_mul]
/-- The rest is one. -/
theorem RestE.unique {p : Int} (hp : 0 < p) {L : List V} (hL : Red p L) {v r r' : V} (h : RestE p L v L.length r) (h' : RestE p L v L.length r') : r = r' := by
  obtain ⟨s, hs, e⟩ := h.by'
  obtain ⟨s', hs', e'⟩ := h'.by'
  have hd : add p r (-1) r' = add p s (-1) s' := funext fun i => by
    rw [e, e']
    unfold add
    rw [add_mul_mod, mod_add_mod]
    congr 1
    grind
  refine eq_of_add h.rest.md h'.rest.md (hd.trans (hL.zero_of hp (Sp.add (-1) (Sp.md hp hs) hs hs') fun w hw => ?_))
  rw [← hd]
  have h1 := h.rest.off w (by rw [List.take_length]; exact hw)
  have h2 := h'.rest.off w (by rw [List.take_length]; exact hw)
  simp [add, h1, h2]
end Go.Proofs.Ytlopenephgabhaa.Lin

