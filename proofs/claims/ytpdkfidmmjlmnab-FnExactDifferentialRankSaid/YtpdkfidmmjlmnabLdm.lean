/-
  Plain mathematics: dimensions. The leads of a reduced list are the leads of its space's vectors: a space and its rests behind a smaller one; coordinates; every list has a reduced list.
-/
import Derived.Test.YtpdkfidmmjlmnabHom
namespace Go.Proofs.Ytpdkfidmmjlmnab.Lin

theorem len_le {L : List Nat} : ∀ {M : List Nat}, L.Nodup → (∀ x ∈ L, x ∈ M) → L.length ≤ M.length := by
  induction L with
  | nil => intros; simp
  | cons x L ih =>
    intro M hn hs
    have hx := hs x (by simp)
    rw [List.nodup_cons] at hn
    have h1 := ih (M := M.erase x) hn.2 (fun y hy => by
      have hne : y ≠ x := fun e => hn.1 (e ▸ hy)
      exact (List.mem_erase_of_ne hne).2 (hs y (by simp [hy])))
    rw [List.length_erase_of_mem hx] at h1
    have h2 := List.length_pos_of_mem hx
    simp only [List.length_cons]
    omega
theorem len_eq {L M : List Nat} (hL : L.Nodup) (hM : M.Nodup) (h : ∀ x, x ∈ L ↔ x ∈ M) : L.length = M.length :=
  Nat.le_antisymm (len_le hL fun x hx => (h x).1 hx) (len_le hM fun x hx => (h x).2 hx)

noncomputable def lds (L : List V) : List Nat := L.map ld
theorem Red.lds_nodup {p : Int} {L : List V} (h : Red p L) : (lds L).Nodup := by
  unfold lds List.Nodup
  rw [List.pairwise_map]
  exact h.inc.imp (fun hab => Nat.ne_of_lt hab)
theorem Red.lds_mem {p : Int} (hp : 0 < p) {L : List V} (h : Red p L) {x : Nat} : x ∈ lds L ↔ ∃ v, Sp p L v ∧ v ≠ zv ∧ ld v = x := by
  constructor
  · intro hx
    obtain ⟨w, hw, rfl⟩ := List.mem_map.1 hx
    exact ⟨w, Sp.mem hw (h.md w hw), h.ne hw, rfl⟩
  · rintro ⟨v, hv, hne, rfl⟩
    obtain ⟨w, hw, e⟩ := h.lead hp hv hne
    exact List.mem_map.2 ⟨w, hw, e⟩
theorem ld_ne {v : V} (h : v ≠ zv) : v (ld v) ≠ 0 ∧ ∀ j, j < ld v → v j = 0 := by
  obtain ⟨i, hi⟩ := ne_zv h
  exact ld_spec hi
theorem add_ld {p : Int} {t b : V} (ht : Md p t) (hb : Md p b) (h1 : t ≠ zv) (h2 : b ≠ zv) (hne : ld t ≠ ld b) : ld (add p t 1 b) = ld t ∨ ld (add p t 1 b) = ld b := by
  obtain ⟨t1, t2⟩ := ld_ne h1
  obtain ⟨b1, b2⟩ := ld_ne h2
  rcases Nat.lt_or_gt_of_ne hne with h | h
  · refine Or.inl (ld_at ?_ (fun j hj => ?_))
    · have := ht (ld t)
      rw [add, b2 _ h, Int.mul_zero, Int.add_zero, md_mod this.1 this.2]
      exact t1
    · simp [add, t2 j hj, b2 j (by omega)]
  · refine Or.inr (ld_at ?_ (fun j hj => ?_))
    · have := hb (ld b)
      rw [add, t2 _ h, Int.one_mul, Int.zero_add, md_mod this.1 this.2]
      exact b1
    · simp [add, b2 j hj, t2 j (by omega)]

/-- A space is as great as a smaller one and the rests behind it. -/
theorem dim_add {p : Int} (hp : 1 < p) {B C R : List V} (hB : Red p B) (hC : Red p C) (hR : Red p R) (hBC : ∀ v, Sp p B v → Sp p C v) (hRC : ∀ v, Sp p R v ↔ Sp p C v ∧ ∀ w ∈ B, v (ld w) = 0) : C.length = B.length + R.length := by
  have hp0 : 0 < p := by omega
  have hnd : (lds B ++ lds R).Nodup := List.pairwise_append.2 ⟨hB.lds_nodup, hR.lds_nodup, fun a ha b hb e => by
    obtain ⟨w, hw, rfl⟩ := List.mem_map.1 ha
    obtain ⟨v, hv, hne, rfl⟩ := (hR.lds_mem hp0).1 hb
    exact (ld_ne hne).1 (e ▸ ((hRC v).1 hv).2 w hw)⟩
  have key : ∀ x, x ∈ lds C ↔ x ∈ lds B ++ lds R := fun x => by
    rw [List.mem_append, hC.lds_mem hp0, hB.lds_mem hp0, hR.lds_mem hp0]
    constructor
    · rintro ⟨v, hv, hne, rfl⟩
      obtain ⟨r, hr⟩ := rest_ex hp0 hB (hv.md hp0) B.length (Nat.le_refl _)
      have hroff : ∀ w ∈ B, r (ld w) = 0 := fun w hw => hr.off w (by rw [List.take_length]; exact hw)
      obtain ⟨t, b, ht, hb, rfl⟩ := sp_parts hp0 (tt := [r]) (B := B) (by simpa using hr.of)
      have htoff := sp_off (tt := [r]) (B := B) (fun u hu w hw => by obtain rfl := List.mem_singleton.1 hu; exact hroff w hw) ht
      have hrC : Sp p C r := Sp.trans hp0 (fun x hx => by
        rcases List.mem_cons.1 hx with rfl | hx
        · exact hv
        · exact hBC x (Sp.mem hx (hB.md x hx))) hr.to
      have htC : Sp p C t := Sp.trans hp0 (fun x hx => by obtain rfl := List.mem_singleton.1 hx; exact hrC) ht
      have htR := (hRC t).2 ⟨htC, htoff⟩
      by_cases ht0 : t = zv
      · subst ht0
        rw [zv_add (hb.md hp0)] at hne ⊢
        exact Or.inl ⟨b, hb, hne, rfl⟩
      · by_cases hb0 : b = zv
        · subst hb0
          rw [add_zv (ht.md hp0)] at hne ⊢
          exact Or.inr ⟨t, htR, hne, rfl⟩
        · have hd : ld t ≠ ld b := fun e => by
            obtain ⟨w, hw, e2⟩ := hB.lead hp0 hb hb0
            exact (ld_ne ht0).1 (by rw [e, ← e2]; exact htoff w hw)
          rcases add_ld (ht.md hp0) (hb.md hp0) ht0 hb0 hd with e | e
          · exact Or.inr ⟨t, htR, ht0, e.symm⟩
          · exact Or.inl ⟨b, hb, hb0, e.symm⟩
    · rintro (⟨v, hv, hne, e⟩ | ⟨v, hv, hne, e⟩)
      · exact ⟨v, hBC v hv, hne, e⟩
      · exact ⟨v, ((hRC v).1 hv).1, hne, e⟩
  have e := len_eq hC.lds_nodup hnd key
  simpa [lds] using e

/-- The numbers at the leads of a list, as a vector. -/
noncomputable def crd (W : List V) (v : V) : V := fun k => if h : k < W.length then v (ld W[k]) else 0
theorem crd_add (p : Int) (W : List V) (v : V) (c : Int) (w : V) : crd W (add p v c w) = add p (crd W v) c (crd W w) := funext fun k => by
  by_cases h : k < W.length <;> simp [crd, add, h]
theorem crd_zv (W : List V) : crd W zv = zv := funext fun k => by
  by_cases h : k < W.length <;> simp [crd, zv, h]
theorem crd_sp {p : Int} {W L : List V} {v : V} (h : Sp p L v) : Sp p (L.map (crd W)) (crd W v) := by
  induction h with
  | zero => rw [crd_zv]; exact .zero
  | step c _ hw ih => rw [crd_add]; exact .step c ih (List.mem_map.2 ⟨_, hw, rfl⟩)
theorem crd_of {p : Int} {W L : List V} {u : V} (h : Sp p (L.map (crd W)) u) : ∃ v, Sp p L v ∧ u = crd W v := by
  induction h with
  | zero => exact ⟨zv, .zero, (crd_zv W).symm⟩
  | step c _ hw ih =>
    obtain ⟨v, hv, rfl⟩ := ih
    obtain ⟨x, hx, rfl⟩ := List.mem_map.1 hw
    exact ⟨add p v c x, .step c hv hx, (crd_add p W v c x).symm⟩
theorem crd_ld {p : Int} (hp : 0 < p) {W : List V} (hW : Red p W) {v : V} (hv : Sp p W v) (hne : v ≠ zv) : crd W v ≠ zv ∧ ∃ h : ld (crd W v) < W.length, ld W[ld (crd W v)] = ld v := by
  obtain ⟨w, hw, e⟩ := hW.lead hp hv hne
  obtain ⟨k, hk, rfl⟩ := List.getElem_of_mem hw
  obtain ⟨v1, v2⟩ := ld_ne hne
  have h1 : crd W v k ≠ 0 := by simp only [crd, dif_pos hk, e]; exact v1
  have h2 : ld (crd W v) = k := ld_at h1 (fun j hj => by
    have hj' : j < W.length := by omega
    simp only [crd, dif_pos hj']
    refine v2 _ ?_
    rw [← e]
    exact List.pairwise_iff_getElem.1 hW.inc j k hj' hk hj)
  refine ⟨fun h0 => h1 (by rw [h0]; rfl), by rw [h2]; exact hk, ?_⟩
  simp only [h2]
  exact e
/-- Coordinates keep the dimension. -/
theorem dim_crd {p : Int} (hp : 0 < p) {W L A B : List V} (hW : Red p W) (hLW : ∀ v ∈ L, Sp p W v) (hA : Red p A) (hAL : Eqv p A L) (hB : Red p B) (hBL : Eqv p B (L.map (crd W))) : B.length = A.length := by
  have hAW : ∀ v, Sp p A v → Sp p W v := fun v hv => Sp.trans hp hLW ((hAL v).1 hv)
  have hlt : ∀ k ∈ lds B, ∃ h : k < W.length, ld W[k] ∈ lds A := fun k hk => by
    obtain ⟨u, hu, hne, rfl⟩ := (hB.lds_mem hp).1 hk
    obtain ⟨v, hv, rfl⟩ := crd_of ((hBL u).1 hu)
    have hv0 : v ≠ zv := fun e => hne (by rw [e, crd_zv])
    obtain ⟨_, h, e⟩ := crd_ld hp hW (Sp.trans hp hLW hv) hv0
    exact ⟨h, (hA.lds_mem hp).2 ⟨v, (hAL v).2 hv, hv0, e.symm⟩⟩
  have hnd : ((lds B).map fun k => ld (W.getD k zv)).Nodup := by
    unfold List.Nodup
    rw [List.pairwise_map]
    have hinc : (lds B).Pairwise (· < ·) := by
      unfold lds
      rw [List.pairwise_map]
      exact hB.inc
    refine hinc.imp_of_mem (fun {a b} ha hb hab => ?_)
    obtain ⟨h1, _⟩ := hlt a ha
    obtain ⟨h2, _⟩ := hlt b hb
    have h3 := List.pairwise_iff_getElem.1 hW.inc a b h1 h2 hab
    simp only [List.getD, List.getElem?_eq_getElem h1, List.getElem?_eq_getElem h2, Option.getD_some]
    omega
  have key : ∀ x, x ∈ lds A ↔ x ∈ (lds B).map fun k => ld (W.getD k zv) := fun x => by
    constructor
    · intro hx
      obtain ⟨v, hv, hne, rfl⟩ := (hA.lds_mem hp).1 hx
      obtain ⟨hc, h, e⟩ := crd_ld hp hW (hAW v hv) hne
      refine List.mem_map.2 ⟨ld (crd W v), (hB.lds_mem hp).2 ⟨crd W v, (hBL _).2 (crd_sp ((hAL v).1 hv)), hc, rfl⟩, ?_⟩
      simp only [List.getD, List.getElem?_eq_getElem h, Option.getD_some]
      exact e
    · intro hx
      obtain ⟨k, hk, rfl⟩ := List.mem_map.1 hx
      obtain ⟨h, hm⟩ := hlt k hk
      simpa only [List.getD, List.getElem?_eq_getElem h, Option.getD_some] using hm
  have e := len_eq hA.lds_nodup hnd key
  simpa [lds] using e.symm

theorem place_ex (m : Nat) {L : List V} (h : L.Pairwise (fun v w => ld v < ld w)) : ∃ k, k ≤ L.length ∧ (∀ w ∈ L.take k, ld w < m) ∧ ∀ w ∈ L.drop k, ¬ ld w < m := by
  induction L with
  | nil => exact ⟨0, by simp, by simp, by simp⟩
  | cons x L ih =>
    obtain ⟨h1, h2⟩ := List.pairwise_cons.1 h
    obtain ⟨k, a, b, c⟩ := ih h2
    by_cases hx : ld x < m
    · refine ⟨k + 1, by simp; omega, fun w hw => ?_, c⟩
      rw [List.take_succ_cons] at hw
      rcases List.mem_cons.1 hw with rfl | hw
      · exact hx
      · exact b w hw
    · refine ⟨0, by simp, by simp, fun w hw => ?_⟩
      rw [List.drop_zero] at hw
      rcases List.mem_cons.1 hw with rfl | hw
      · exact hx
      · have := h1 w hw
        omega
/-- Every list has a reduced list. -/
theorem red_ex {p : Int} (hp : 1 < p) (hinv : ∀ a, 0 < a → a < p → ∃ i, i * a % p = 1) : ∀ (M : List V), (∀ v ∈ M, Md p v) → ∃ R, Red p R ∧ Eqv p R M := by
  have hp0 : 0 < p := by omega
  have key : ∀ (M N : List V), (∀ v ∈ M, Md p v) → (∀ v ∈ N, Md p v) → (∃ R, Red p R ∧ Eqv p R N) → ∃ R, Red p R ∧ Eqv p R (N ++ M) := by
    intro M
    induction M with
    | nil => intro N _ _ h; simpa using h
    | cons v M ih =>
      intro N hM hN ⟨R, hR, he⟩
      have hv : Md p v := hM v (by simp)
      have hN2 : ∀ u ∈ N ++ [v], Md p u := fun u hu => by
        rcases List.mem_append.1 hu with h | h
        · exact hN u h
        · rw [List.mem_singleton.1 h]; exact hv
      have h2 : ∃ R', Red p R' ∧ Eqv p R' (N ++ [v]) := by
        obtain ⟨r, hr⟩ := rest_ex hp0 hR hv R.length (Nat.le_refl _)
        by_cases hr0 : r = zv
        · subst hr0
          exact ⟨R, hR, skip_eqv hp0 hR hN hv he hr⟩
        · have h1 := (ld_ne hr0).1
          have h3 := hr.md (ld r)
          obtain ⟨i, hi⟩ := hinv (r (ld r)) (by omega) (by omega)
          have hu := Unit.mk' hp hr.md hr0 hi
          obtain ⟨k, a, b, c⟩ := place_ex (ld (fun j => i * r j % p)) hR.inc
          have hf := fits_of hr hr0 hu a b c
          exact ⟨put p R k _, hf.red hp hR, put_eqv hp hR hN hv he hr hu hf⟩
      have h4 := ih (N ++ [v]) (fun u hu => hM u (by simp [hu])) hN2 h2
      rwa [List.append_assoc] at h4
  intro M hM
  simpa using key M [] hM (by simp) ⟨[], Red.nil p, Eqv.refl p []⟩
end Go.Proofs.Ytpdkfidmmjlmnab.Lin
