/-
  Plain mathematics: what is left of a vector behind a reduced list, units, one row more in a reduced list.
-/
import Derived.Test.YtlbalcckjokeiaaLin
namespace Go.Proofs.Ytlbalcckjokeiaa.Lin

/-- r is v less multiples of the first k rows, and 0 at their leads. -/
structure Rest (p : Int) (L : List V) (v : V) (k : Nat) (r : V) : Prop where
  md : Md p r
  off : ∀ w ∈ L.take k, r (ld w) = 0
  to : Sp p (v :: L) r
  of : Sp p (r :: L) v
theorem Rest.start {p : Int} {L : List V} {v : V} (hv : Md p v) : Rest p L v 0 v :=
  ⟨hv, by simp, Sp.mem (List.mem_cons_self ..) hv, Sp.mem (List.mem_cons_self ..) hv⟩
theorem Rest.step {p : Int} (hp : 0 < p) {L : List V} (hL : Red p L) {v : V} {k : Nat} (hk : k < L.length) {r : V} (h : Rest p L v k r) : Rest p L v (k + 1) (add p r (-(r (ld L[k]))) L[k]) := by
  have hm : L[k] ∈ L := List.getElem_mem hk
  refine ⟨add_md hp _ _ _, fun w hw => ?_, .step _ h.to (List.mem_cons_of_mem _ hm), ?_⟩
  · rw [List.take_succ_eq_append_getElem hk] at hw
    rcases List.mem_append.1 hw with hw | hw
    · have h1 := h.off w hw
      obtain ⟨j, hj, rfl⟩ := List.getElem_of_mem hw
      have hj' : j < k := by simp at hj; omega
      rw [List.getElem_take] at h1 ⊢
      have h2 : ld L[j] < ld L[k] := List.pairwise_iff_getElem.1 hL.inc j k (by omega) hk hj'
      have h3 : L[k] (ld L[j]) = 0 := hL.off _ hm _ (List.getElem_mem _) (by omega)
      rw [add, h1, h3]
      simp
    · obtain rfl := List.mem_singleton.1 hw
      rw [add, hL.one _ hm]
      simp
      rw [show r (ld L[k]) + -r (ld L[k]) = 0 by omega]
      rfl
  · have e : r = add p (add p r (-(r (ld L[k]))) L[k]) (r (ld L[k])) L[k] := by
      have := add_back h.md (-(r (ld L[k]))) L[k]
      rw [Int.neg_neg] at this
      exact this.symm
    refine Sp.trans hp (fun w hw => ?_) h.of
    rcases List.mem_cons.1 hw with rfl | hw
    · have := Sp.add (p := p) (L := add p w (-(w (ld L[k]))) L[k] :: L) (w (ld L[k])) (add_md hp _ _ _) (Sp.mem (List.mem_cons_self ..) (add_md hp _ _ _)) (Sp.mem (List.mem_cons_of_mem _ hm) (hL.md _ hm))
      rwa [← e] at this
    · exact Sp.mem (List.mem_cons_of_mem _ hw) (hL.md w hw)
/-- A rest that is 0 stays 0. -/
theorem Rest.zero {p : Int} (hp : 0 < p) {L : List V} {v : V} {k : Nat} {r : V} (h : Rest p L v k r) (h0 : r = zv) (j : Nat) : Rest p L v j zv :=
  ⟨zv_md hp, fun _ _ => rfl, .zero, by have := h.of; rwa [h0] at this⟩
theorem Rest.inside {p : Int} (hp : 0 < p) {L : List V} {v : V} {k : Nat} (h : Rest p L v k zv) (hL : Red p L) : Sp p L v :=
  Sp.trans hp (fun w hw => by
    rcases List.mem_cons.1 hw with rfl | hw
    · exact .zero
    · exact Sp.mem hw (hL.md w hw)) h.of

/-- u is a multiple of r, its first number 1. -/
structure Unit (p : Int) (r u : V) : Prop where
  md : Md p u
  lead : ld u = ld r
  one : u (ld u) = 1
  at0 : ∀ i, r i = 0 → u i = 0
  to : Sp p [r] u
  of : Sp p [u] r
theorem Unit.mk' {p : Int} (hp : 1 < p) {r : V} (hr : Md p r) (hne : r ≠ zv) {inv : Int} (hi : inv * r (ld r) % p = 1) : Unit p r (fun i => inv * r i % p) := by
  have hp0 : 0 < p := by omega
  obtain ⟨i0, hi0⟩ := ne_zv hne
  obtain ⟨h1, h2⟩ := ld_spec hi0
  have hl : ld (fun i => inv * r i % p) = ld r := ld_at (by rw [hi]; decide) (fun j hj => by simp [h2 j hj])
  refine ⟨fun i => ⟨Int.emod_nonneg _ (by omega), Int.emod_lt_of_pos _ hp0⟩, hl, by rw [hl]; exact hi, fun i e => by simp [e], ?_, ?_⟩
  · have h := Sp.step (p := p) (L := [r]) inv Sp.zero (List.mem_singleton.2 rfl)
    have e : add p zv inv r = fun i => inv * r i % p := by funext i; simp [add, zv]
    rwa [e] at h
  · have h := Sp.step (p := p) (L := [fun i => inv * r i % p]) (r (ld r)) Sp.zero (List.mem_singleton.2 rfl)
    have e : add p zv (r (ld r)) (fun i => inv * r i % p) = r := by
      funext i
      simp only [add, zv, add_mul_mod]
      have e2 : (0 + r (ld r) * (inv * r i)) % p = (0 + (inv * r (ld r)) % p * r i) % p := by
        rw [add_mod_mul]
        exact congrArg (· % p) (by grind)
      rw [e2, hi, Int.one_mul, Int.zero_add]
      exact md_mod (hr i).1 (hr i).2
    rwa [e] at h

/-- A reduced list with one row more: put at the place k, its multiples taken away from the others. -/
noncomputable def put (p : Int) (L : List V) (k : Nat) (u : V) : List V := (L.take k).map (fun w => add p w (-(w (ld u))) u) ++ u :: (L.drop k).map (fun w => add p w (-(w (ld u))) u)
structure Fits (p : Int) (L : List V) (k : Nat) (u : V) : Prop where
  md : Md p u
  one : u (ld u) = 1
  off : ∀ w ∈ L, u (ld w) = 0
  len : k ≤ L.length
  lo : ∀ w ∈ L.take k, ld w < ld u
  hi : ∀ w ∈ L.drop k, ld u < ld w
theorem Fits.ld {p : Int} (hp : 1 < p) {L : List V} (hL : Red p L) {k : Nat} {u : V} (h : Fits p L k u) {w : V} (hw : w ∈ L) : (add p w (-(w (ld u))) u) (ld w) = 1 ∧ Lin.ld (add p w (-(w (Lin.ld u))) u) = Lin.ld w := by
  have e1 : (add p w (-(w (Lin.ld u))) u) (Lin.ld w) = 1 := by
    rw [add, hL.one w hw, h.off w hw]
    simp
    exact md_mod (by omega) hp
  refine ⟨e1, ld_at (by rw [e1]; decide) (fun j hj => ?_)⟩
  have hwj := hL.below hw j hj
  have hub := (ld_spec (v := u) (i := Lin.ld u) (by rw [h.one]; decide)).2
  rw [add, hwj]
  rw [← List.take_append_drop k L] at hw
  rcases List.mem_append.1 hw with hw2 | hw2
  · have := h.lo w hw2
    rw [hub j (by omega)]
    simp
  · have := h.hi w hw2
    rw [hL.below (List.mem_of_mem_drop hw2) _ this]
    simp
theorem put_mem {p : Int} {L : List V} {k : Nat} {u v : V} : v ∈ put p L k u ↔ v = u ∨ ∃ w ∈ L, v = add p w (-(w (ld u))) u := by
  have e : ∀ w, w ∈ L ↔ w ∈ L.take k ∨ w ∈ L.drop k := fun w => by rw [← List.mem_append, List.take_append_drop]
  simp only [put, List.mem_append, List.mem_cons, List.mem_map, e]
  constructor
  · rintro (⟨w, h1, h2⟩ | h | ⟨w, h1, h2⟩)
    · exact Or.inr ⟨w, Or.inl h1, h2.symm⟩
    · exact Or.inl h
    · exact Or.inr ⟨w, Or.inr h1, h2.symm⟩
  · rintro (h | ⟨w, h1 | h1, h2⟩)
    · exact Or.inr (Or.inl h)
    · exact Or.inl ⟨w, h1, h2.symm⟩
    · exact Or.inr (Or.inr ⟨w, h1, h2.symm⟩)
theorem Fits.red {p : Int} (hp : 1 < p) {L : List V} (hL : Red p L) {k : Nat} {u : V} (h : Fits p L k u) : Red p (put p L k u) := by
  have hp0 : 0 < p := by omega
  refine ⟨fun v hv => ?_, fun v hv => ?_, ?_, fun v hv w hw => ?_⟩
  · rcases put_mem.1 hv with rfl | ⟨w, hw, rfl⟩
    · exact h.md
    · exact add_md hp0 _ _ _
  · rcases put_mem.1 hv with rfl | ⟨w, hw, rfl⟩
    · exact h.one
    · rw [(h.ld hp hL hw).2]; exact (h.ld hp hL hw).1
  · have hmap : ∀ M : List V, (∀ w ∈ M, w ∈ L) → M.Pairwise (fun v w => Lin.ld v < Lin.ld w) → (M.map (fun w => add p w (-(w (Lin.ld u))) u)).Pairwise (fun v w => Lin.ld v < Lin.ld w) := fun M hM hP => by
      rw [List.pairwise_map]
      exact hP.imp_of_mem (fun {a b} ha hb hab => by rw [(h.ld hp hL (hM a ha)).2, (h.ld hp hL (hM b hb)).2]; exact hab)
    have ht : ∀ w ∈ L.take k, w ∈ L := fun w hw => List.mem_of_mem_take hw
    have hd : ∀ w ∈ L.drop k, w ∈ L := fun w hw => List.mem_of_mem_drop hw
    refine List.pairwise_append.2 ⟨hmap _ ht (hL.inc.sublist (List.take_sublist k L)), List.pairwise_cons.2 ⟨fun w hw => ?_, hmap _ hd (hL.inc.sublist (List.drop_sublist k L))⟩, fun a ha b hb => ?_⟩
    · obtain ⟨x, hx, rfl⟩ := List.mem_map.1 hw
      rw [(h.ld hp hL (hd x hx)).2]
      exact h.hi x hx
    · obtain ⟨x, hx, rfl⟩ := List.mem_map.1 ha
      rw [(h.ld hp hL (ht x hx)).2]
      have h1 := h.lo x hx
      rcases List.mem_cons.1 hb with rfl | hb
      · exact h1
      · obtain ⟨y, hy, rfl⟩ := List.mem_map.1 hb
        rw [(h.ld hp hL (hd y hy)).2]
        have h2 := h.hi y hy
        omega
  · intro hne
    rcases put_mem.1 hv with rfl | ⟨x, hx, rfl⟩
    · rcases put_mem.1 hw with rfl | ⟨y, hy, rfl⟩
      · exact absurd rfl hne
      · rw [(h.ld hp hL hy).2]; exact h.off y hy
    · rcases put_mem.1 hw with rfl | ⟨y, hy, rfl⟩
      · rw [add, h.one, Int.mul_one, show x (Lin.ld w) + -x (Lin.ld w) = 0 by omega]
        rfl
      · rw [(h.ld hp hL hx).2, (h.ld hp hL hy).2] at hne
        rw [(h.ld hp hL hy).2, add, hL.off x hx y hy hne, h.off y hy]
        simp
theorem Fits.sp {p : Int} (hp : 1 < p) {L : List V} (hL : Red p L) {k : Nat} {u : V} (h : Fits p L k u) (v : V) : Sp p (put p L k u) v ↔ Sp p (u :: L) v := by
  have hp0 : 0 < p := by omega
  have hr := h.red hp hL
  constructor
  · refine Sp.trans hp0 fun w hw => ?_
    rcases put_mem.1 hw with rfl | ⟨x, hx, rfl⟩
    · exact Sp.mem (List.mem_cons_self ..) h.md
    · exact Sp.add _ (hL.md x hx) (Sp.mem (List.mem_cons_of_mem _ hx) (hL.md x hx)) (Sp.mem (List.mem_cons_self ..) h.md)
  · refine Sp.trans hp0 fun w hw => ?_
    have hu : Sp p (put p L k u) u := Sp.mem (put_mem.2 (Or.inl rfl)) h.md
    rcases List.mem_cons.1 hw with rfl | hw
    · exact hu
    · have e := add_back (hL.md w hw) (-(w (Lin.ld u))) u
      rw [← e]
      exact Sp.add _ (add_md hp0 _ _ _) (Sp.mem (put_mem.2 (Or.inr ⟨w, hw, rfl⟩)) (add_md hp0 _ _ _)) hu

/-- Lists with one space. -/
def Eqv (p : Int) (L M : List V) : Prop := ∀ v, Sp p L v ↔ Sp p M v
theorem Eqv.refl (p : Int) (L : List V) : Eqv p L L := fun _ => Iff.rfl
theorem Eqv.symm {p : Int} {L M : List V} (h : Eqv p L M) : Eqv p M L := fun v => (h v).symm
theorem Eqv.trans {p : Int} {L M N : List V} (h : Eqv p L M) (k : Eqv p M N) : Eqv p L N := fun v => (h v).trans (k v)
theorem Eqv.of {p : Int} (hp : 0 < p) {L M : List V} (h : ∀ w ∈ L, Sp p M w) (k : ∀ w ∈ M, Sp p L w) : Eqv p L M := fun _ => ⟨Sp.trans hp h, Sp.trans hp k⟩
theorem Eqv.append {p : Int} (hp : 0 < p) {L M : List V} (h : Eqv p L M) {N : List V} (hL : ∀ w ∈ L, Md p w) (hM : ∀ w ∈ M, Md p w) (hN : ∀ w ∈ N, Md p w) : Eqv p (L ++ N) (M ++ N) := by
  have key : ∀ {A B : List V}, (∀ w ∈ A, Md p w) → Eqv p A B → ∀ w ∈ A ++ N, Sp p (B ++ N) w := fun {A B} hA hAB w hw => by
    rcases List.mem_append.1 hw with hw | hw
    · exact Sp.mono (fun x hx => List.mem_append_left _ hx) ((hAB w).1 (Sp.mem hw (hA w hw)))
    · exact Sp.mem (List.mem_append_right _ hw) (hN w hw)
  exact Eqv.of hp (key hL h) (key hM h.symm)
theorem Eqv.cons_comm {p : Int} (hp : 0 < p) (L : List V) (v : V) (hL : ∀ w ∈ L, Md p w) (hv : Md p v) : Eqv p (v :: L) (L ++ [v]) :=
  Eqv.of hp (fun w hw => by
    rcases List.mem_cons.1 hw with rfl | hw
    · exact Sp.mem (by simp) hv
    · exact Sp.mem (by simp [hw]) (hL w hw)) (fun w hw => by
    rcases List.mem_append.1 hw with hw | hw
    · exact Sp.mem (List.mem_cons_of_mem _ hw) (hL w hw)
    · obtain rfl := List.mem_singleton.1 hw
      exact Sp.mem (List.mem_cons_self ..) hv)

/-- One vector more, in the space already. -/
theorem skip_eqv {p : Int} (hp : 0 < p) {L M : List V} {v : V} (hL : Red p L) (hM : ∀ w ∈ M, Md p w) (hv : Md p v) (h : Eqv p L M) (hr : Rest p L v L.length zv) : Eqv p L (M ++ [v]) := by
  have hs := hr.inside hp hL
  refine Eqv.of hp (fun w hw => Sp.mono (fun x hx => List.mem_append_left _ hx) ((h w).1 (Sp.mem hw (hL.md w hw)))) (fun w hw => ?_)
  rcases List.mem_append.1 hw with hw | hw
  · exact (h w).2 (Sp.mem hw (hM w hw))
  · obtain rfl := List.mem_singleton.1 hw
    exact hs
/-- One vector more, its rest put in as a row. -/
theorem put_eqv {p : Int} (hp : 1 < p) {L M : List V} {v r u : V} {k : Nat} (hL : Red p L) (hM : ∀ w ∈ M, Md p w) (hv : Md p v) (h : Eqv p L M) (hr : Rest p L v L.length r) (hu : Unit p r u) (hf : Fits p L k u) : Eqv p (put p L k u) (M ++ [v]) := by
  have hp0 : 0 < p := by omega
  have mL : ∀ w ∈ L, Sp p (M ++ [v]) w := fun w hw => Sp.mono (fun x hx => List.mem_append_left _ hx) ((h w).1 (Sp.mem hw (hL.md w hw)))
  have mr : Sp p (M ++ [v]) r := Sp.trans hp0 (fun w hw => by
    rcases List.mem_cons.1 hw with rfl | hw
    · exact Sp.mem (by simp) hv
    · exact mL w hw) hr.to
  have mu : Sp p (M ++ [v]) u := Sp.trans hp0 (fun w hw => by obtain rfl := List.mem_singleton.1 hw; exact mr) hu.to
  have e1 : Eqv p (put p L k u) (u :: L) := hf.sp hp hL
  refine e1.trans (Eqv.of hp0 (fun w hw => ?_) (fun w hw => ?_))
  · rcases List.mem_cons.1 hw with rfl | hw
    · exact mu
    · exact mL w hw
  · rcases List.mem_append.1 hw with hw | hw
    · exact Sp.mono (fun x hx => List.mem_cons_of_mem _ hx) ((h w).2 (Sp.mem hw (hM w hw)))
    · obtain rfl := List.mem_singleton.1 hw
      refine Sp.trans hp0 (fun x hx => ?_) hr.of
      rcases List.mem_cons.1 hx with rfl | hx
      · exact Sp.trans hp0 (fun y hy => by obtain rfl := List.mem_singleton.1 hy; exact Sp.mem (List.mem_cons_self ..) hu.md) hu.of
      · exact Sp.mem (List.mem_cons_of_mem _ hx) (hL.md x hx)
/-- A rest that is no 0: its unit fits at the place that its lead tells. -/
theorem fits_of {p : Int} {L : List V} {v r u : V} {k : Nat} (hr : Rest p L v L.length r) (hne : r ≠ zv) (hu : Unit p r u) (hk : k ≤ L.length) (hlo : ∀ w ∈ L.take k, ld w < ld u) (hhi : ∀ w ∈ L.drop k, ¬ ld w < ld u) : Fits p L k u := by
  have hoff : ∀ w ∈ L, r (ld w) = 0 := fun w hw => hr.off w (by rw [List.take_length]; exact hw)
  refine ⟨hu.md, hu.one, fun w hw => hu.at0 _ (hoff w hw), hk, hlo, fun w hw => ?_⟩
  have h1 := hhi w hw
  have h2 : ld w ≠ ld u := fun e => by
    obtain ⟨i, hi⟩ := ne_zv hne
    have h3 := (ld_spec hi).1
    rw [← hu.lead, ← e] at h3
    exact h3 (hoff w (List.mem_of_mem_drop hw))
  omega

/-- Lines: units of the vectors of a list, enough of them. -/
structure Lines (p : Int) (T M : List V) : Prop where
  md : ∀ u ∈ M, Md p u
  wd : ∀ u ∈ M, Wd 40 u
  ne : ∀ u ∈ M, u ≠ zv
  eqv : Eqv p M T
theorem Lines.nil (p : Int) : Lines p [] [] := ⟨by simp, by simp, by simp, Eqv.refl _ _⟩
theorem Lines.skip {p : Int} (hp : 0 < p) {T M : List V} (h : Lines p T M) {v : V} (hT : ∀ w ∈ T, Md p w) (hv : Sp p M v) : Lines p (T ++ [v]) M :=
  ⟨h.md, h.wd, h.ne, Eqv.of hp (fun w hw => Sp.mono (fun x hx => List.mem_append_left _ hx) ((h.eqv w).1 (Sp.mem hw (h.md w hw)))) (fun w hw => by
    rcases List.mem_append.1 hw with hw | hw
    · exact (h.eqv w).2 (Sp.mem hw (hT w hw))
    · obtain rfl := List.mem_singleton.1 hw
      exact hv)⟩
theorem Unit.ne {p : Int} {r u : V} (h : Unit p r u) : u ≠ zv := fun e => by
  have := h.one
  rw [e] at this
  exact absurd this (by decide)
theorem Lines.add {p : Int} (hp : 0 < p) {T M : List V} (h : Lines p T M) {v u : V} (hT : ∀ w ∈ T, Md p w) (hv : Md p v) (hu : Unit p v u) (hw : Wd 40 u) : Lines p (T ++ [v]) (M ++ [u]) := by
  have e1 : Sp p (T ++ [v]) u := Sp.trans hp (fun x hx => by obtain rfl := List.mem_singleton.1 hx; exact Sp.mem (by simp) hv) hu.to
  have e2 : Sp p (M ++ [u]) v := Sp.trans hp (fun x hx => by obtain rfl := List.mem_singleton.1 hx; exact Sp.mem (by simp) hu.md) hu.of
  refine ⟨fun x hx => ?_, fun x hx => ?_, fun x hx => ?_, Eqv.of hp (fun x hx => ?_) (fun x hx => ?_)⟩
  · rcases List.mem_append.1 hx with hx | hx
    · exact h.md x hx
    · obtain rfl := List.mem_singleton.1 hx; exact hu.md
  · rcases List.mem_append.1 hx with hx | hx
    · exact h.wd x hx
    · obtain rfl := List.mem_singleton.1 hx; exact hw
  · rcases List.mem_append.1 hx with hx | hx
    · exact h.ne x hx
    · obtain rfl := List.mem_singleton.1 hx; exact hu.ne
  · rcases List.mem_append.1 hx with hx | hx
    · exact Sp.mono (fun y hy => List.mem_append_left _ hy) ((h.eqv x).1 (Sp.mem hx (h.md x hx)))
    · obtain rfl := List.mem_singleton.1 hx; exact e1
  · rcases List.mem_append.1 hx with hx | hx
    · exact Sp.mono (fun y hy => List.mem_append_left _ hy) ((h.eqv x).2 (Sp.mem hx (hT x hx)))
    · obtain rfl := List.mem_singleton.1 hx; exact e2
theorem Unit.inside {p : Int} (hp : 0 < p) {M : List V} {v u : V} (hu : Unit p v u) (hm : u ∈ M) : Sp p M v :=
  Sp.trans hp (fun x hx => by obtain rfl := List.mem_singleton.1 hx; exact Sp.mem hm hu.md) hu.of
end Go.Proofs.Ytlbalcckjokeiaa.Lin
