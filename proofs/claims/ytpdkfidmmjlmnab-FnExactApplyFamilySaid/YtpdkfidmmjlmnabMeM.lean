/-
  Meets of spaces in plain mathematics: by what annihilates both, and by the kernel of both lists of rows.
-/
import Derived.Test.YtpdkfidmmjlmnabP4
namespace Go.Proofs.Ytpdkfidmmjlmnab
open Go.RowKit

/-! ### The combination of the first rows of a list with the numbers of a vector. -/
def img (p : Int) (a : Nat) (rows : Nat → Lin.V) (x : Lin.V) : Lin.V := fun j => Lin.dot a (Lin.col rows j) x % p
theorem img_md {p : Int} (hp : 0 < p) (a : Nat) (rows : Nat → Lin.V) (x : Lin.V) : Lin.Md p (img p a rows x) := fun _ => ⟨Int.emod_nonneg _ (by omega), Int.emod_lt_of_pos _ hp⟩
theorem img_zero (p : Int) (rows : Nat → Lin.V) (x : Lin.V) : img p 0 rows x = Lin.zv := by
  funext j
  simp [img, Lin.dot, Lin.zv]
theorem img_succ (p : Int) (a : Nat) (rows : Nat → Lin.V) (x : Lin.V) : img p (a + 1) rows x = Lin.add p (img p a rows x) (x a) (rows a) := by
  funext j
  simp only [img, Lin.add, Lin.dot, Lin.col]
  rw [Lin.mod_add_mod, Int.mul_comm (rows a j)]
theorem img_add (p : Int) (a : Nat) (rows : Nat → Lin.V) (x y : Lin.V) (c : Int) : img p a rows (Lin.add p x c y) = Lin.add p (img p a rows x) c (img p a rows y) := by
  funext j
  simp only [img, Lin.add]
  rw [Lin.dot_add, Lin.mod_add_mod, Lin.add_mul_mod]
theorem img_zv (p : Int) (a : Nat) (rows : Nat → Lin.V) : img p a rows Lin.zv = Lin.zv := by
  funext j
  simp only [img]
  rw [Lin.dot_nil (fun i _ => by simp [Lin.zv])]
  simp [Lin.zv]
theorem img_sp {p : Int} {E : List Lin.V} {rows : Nat → Lin.V} (x : Lin.V) : ∀ {a : Nat}, (∀ i, i < a → rows i ∈ E) → Lin.Sp p E (img p a rows x) := by
  intro a
  induction a with
  | zero => intro _; rw [img_zero]; exact .zero
  | succ a ih => intro h; rw [img_succ]; exact .step _ (ih (fun i hi => h i (by omega))) (h a (by omega))
def rowsV (E : List Lin.V) : Nat → Lin.V := fun i => E.getD i Lin.zv
theorem rowsV_at {E : List Lin.V} {i : Nat} (h : i < E.length) : rowsV E i = E[i] := by simp [rowsV, List.getD, h]
theorem rowsV_mem {E : List Lin.V} {i : Nat} (h : i < E.length) : rowsV E i ∈ E := by rw [rowsV_at h]; exact List.getElem_mem h
/-- A vector of a reduced list's space is the combination with its numbers at the leads. -/
theorem img_leads {p : Int} (hp : 1 < p) {E : List Lin.V} (hE : Lin.Red p E) {v : Lin.V} (hv : Lin.Sp p E v) {x : Lin.V} (hx : ∀ i (h : i < E.length), x i = v (Lin.ld E[i])) : img p E.length (rowsV E) x = v := by
  have hp0 : 0 < p := by omega
  have hvm := hv.md hp0
  have hi := img_sp (p := p) (E := E) (rows := rowsV E) x (a := E.length) (fun i h => rowsV_mem h)
  refine (Lin.eq_of_add hvm (img_md hp0 _ _ _) (hE.zero_of hp0 (Lin.Sp.add (-1) hvm hv hi) (fun w hw => ?_))).symm
  obtain ⟨k, hk, rfl⟩ := List.getElem_of_mem hw
  have hd : Lin.dot E.length (Lin.col (rowsV E) (Lin.ld E[k])) x = x k := by
    rw [Lin.dot_one hk (fun i hi hne => ?_)]
    · simp only [Lin.col]
      rw [rowsV_at hk, hE.one _ (List.getElem_mem hk), Int.one_mul]
    · simp only [Lin.col]
      rw [rowsV_at hi, hE.off _ (List.getElem_mem hi) _ (List.getElem_mem hk) (fun e => hne (by
        have := List.pairwise_iff_getElem.1 hE.inc
        rcases Nat.lt_trichotomy i k with h | h | h
        · have := this i k hi hk h; omega
        · exact h
        · have := this k i hk hi h; omega)), Int.zero_mul]
  have hxb := hvm (Lin.ld E[k])
  simp only [Lin.add, img]
  rw [hd, hx k hk, Lin.md_mod hxb.1 hxb.2]
  have : v (Lin.ld E[k]) + -1 * v (Lin.ld E[k]) = 0 := by omega
  rw [this]
  rfl
theorem dot_split (u v : Lin.V) (a : Nat) : ∀ b, Lin.dot (a + b) u v = Lin.dot a u v + Lin.dot b (fun i => u (a + i)) (fun i => v (a + i))
  | 0 => by simp [Lin.dot]
  | b + 1 => by
    show Lin.dot (a + b) u v + u (a + b) * v (a + b) = _
    rw [dot_split u v a b, Lin.dot]
    omega

/-- What l01Meet gathers spans the meet. -/
theorem meet_span {p : Int} (hp : 1 < p) {n : Nat} {A B S O : List Lin.V} (hA : Lin.Red p A) (hB : Lin.Red p B) (hAw : ∀ u ∈ A, Lin.Wd n u) (hBw : ∀ u ∈ B, Lin.Wd n u)
    (hS : SpF p (A ++ B).length (CycS p (A ++ B).length n ((A ++ B).map (toL n))) S) (hO : ∀ x, x ∈ O ↔ ∃ s ∈ S, x = img p A.length (rowsV A) s) (v : Lin.V) : Lin.Sp p O v ↔ Lin.Sp p A v ∧ Lin.Sp p B v := by
  have hp0 : 0 < p := by omega
  have hl : (A ++ B).length = A.length + B.length := List.length_append
  have hcol : ∀ j, j < n → ∀ x, Lin.dot (A ++ B).length (Lin.col (fun i => ofL (((A ++ B).map (toL n)).getD i [])) j) x = Lin.dot A.length (Lin.col (rowsV A) j) x + Lin.dot B.length (Lin.col (rowsV B) j) (fun i => x (A.length + i)) := fun j hj x => by
    have hrow : ∀ i (hi : i < (A ++ B).length), ofL (((A ++ B).map (toL n)).getD i []) = (A ++ B)[i] := fun i hi => by
      rw [getD_of_lt _ (by rw [List.length_map]; exact hi), List.getElem_map]
      refine ofL_toL ?_
      rcases List.mem_append.1 (List.getElem_mem hi) with h | h
      · exact hAw _ h
      · exact hBw _ h
    rw [hl, dot_split]
    congr 1
    · refine Lin.dot_congr (fun i hi => ?_)
      simp only [Lin.col]
      rw [hrow i (by omega), List.getElem_append_left hi, rowsV_at hi]
    · refine Lin.dot_congr (fun i hi => ?_)
      simp only [Lin.col]
      have e : A.length + i - A.length = i := by omega
      rw [hrow (A.length + i) (by omega), List.getElem_append_right (by omega), rowsV_at hi]
      have hb : ∀ (h : A.length + i - A.length < B.length), B[A.length + i - A.length] = B[i] := fun h => by simp
      rw [hb]
  have hzero : ∀ j, n ≤ j → ∀ {E : List Lin.V}, (∀ u ∈ E, Lin.Wd n u) → ∀ x, Lin.dot E.length (Lin.col (rowsV E) j) x = 0 := fun j hj E hE x => Lin.dot_nil (fun i hi => by
    simp only [Lin.col]
    rw [rowsV_at hi, hE _ (List.getElem_mem hi) j hj, Int.zero_mul])
  constructor
  · intro hv
    refine ⟨Lin.Sp.trans hp0 (fun x hx => ?_) hv, Lin.Sp.trans hp0 (fun x hx => ?_) hv⟩
    · obtain ⟨s, _, rfl⟩ := (hO x).1 hx
      exact img_sp s (fun i h => rowsV_mem h)
    · obtain ⟨s, hs, rfl⟩ := (hO x).1 hx
      have hk := (hS.2.2 s).1 (Lin.Sp.mem hs (hS.1.md s hs))
      have e : img p A.length (rowsV A) s = Lin.add p Lin.zv (-1) (img p B.length (rowsV B) (fun i => s (A.length + i))) := by
        funext j
        by_cases hj : j < n
        · have h0 := hk.2.2 j hj
          rw [hcol j hj s] at h0
          simp only [img, Lin.add, Lin.zv]
          rw [Lin.add_mul_mod]
          obtain ⟨c, hc⟩ : ∃ c, Lin.dot A.length (Lin.col (rowsV A) j) s + Lin.dot B.length (Lin.col (rowsV B) j) (fun i => s (A.length + i)) = p * c := Int.dvd_of_emod_eq_zero h0
          exact Lin.cg c (by omega)
        · simp only [img, Lin.add, Lin.zv]
          rw [hzero j (by omega) hAw, hzero j (by omega) hBw]
          simp
      rw [e]
      exact Lin.Sp.add (-1) (Lin.zv_md hp0) .zero (img_sp _ (fun i h => rowsV_mem h))
  · rintro ⟨ha, hb⟩
    have hvm := ha.md hp0
    obtain ⟨β, hβ⟩ : ∃ β : Lin.V, β = fun i => if h : i < B.length then v (Lin.ld B[i]) else 0 := ⟨_, rfl⟩
    have hβm : Lin.Md p β := fun i => by
      rw [hβ]
      by_cases h : i < B.length
      · simp only [dif_pos h]; exact hvm _
      · simp only [dif_neg h]; omega
    have hβv : img p B.length (rowsV B) β = v := img_leads hp hB hb (fun i h => by rw [hβ]; simp only [dif_pos h])
    obtain ⟨x, hx⟩ : ∃ x : Lin.V, x = fun i => if h : i < A.length then v (Lin.ld A[i]) else Lin.add p Lin.zv (-1) β (i - A.length) := ⟨_, rfl⟩
    have hxa : img p A.length (rowsV A) x = v := img_leads hp hA ha (fun i h => by rw [hx]; simp only [dif_pos h])
    have hxb : (fun i => x (A.length + i)) = Lin.add p Lin.zv (-1) β := by
      funext i
      rw [hx]
      simp only [dif_neg (show ¬ A.length + i < A.length by omega)]
      rw [show A.length + i - A.length = i by omega]
    have hxs : Lin.Sp p S x := (hS.2.2 x).2 ⟨fun i => by
      rw [hx]
      by_cases h : i < A.length
      · simp only [dif_pos h]; exact hvm _
      · simp only [dif_neg h]; exact Lin.add_md hp0 _ _ _ _, fun i hi => by
      rw [hx]
      simp only [dif_neg (show ¬ i < A.length by omega)]
      rw [Lin.add, hβ]
      simp only [dif_neg (show ¬ i - A.length < B.length by omega)]
      simp [Lin.zv], fun j hj => by
      rw [hcol j hj x, hxb]
      have h1 : Lin.dot A.length (Lin.col (rowsV A) j) x % p = v j := congrFun hxa j
      have h2 : Lin.dot B.length (Lin.col (rowsV B) j) β % p = v j := congrFun hβv j
      have h3 := Lin.dot_add p (Lin.col (rowsV B) j) Lin.zv β (-1) B.length
      have h4 : Lin.dot B.length (Lin.col (rowsV B) j) Lin.zv = 0 := Lin.dot_nil (fun i _ => by simp [Lin.zv])
      rw [h4] at h3
      rw [Lin.mod_sub] at h1 h2
      rw [Lin.mod_sub, Lin.mod_sub p (0 + _)] at h3
      generalize Lin.dot A.length (Lin.col (rowsV A) j) x = dA at *
      generalize Lin.dot B.length (Lin.col (rowsV B) j) (Lin.add p Lin.zv (-1) β) = dB at *
      generalize Lin.dot B.length (Lin.col (rowsV B) j) β = dC at *
      rw [Lin.cg (b := 0) (dA / p - dC / p + dB / p - (0 + -1 * dC) / p) (by grind)]
      rfl⟩
    have key : ∀ {y : Lin.V}, Lin.Sp p S y → Lin.Sp p O (img p A.length (rowsV A) y) := by
      intro y hy
      induction hy with
      | zero => rw [img_zv]; exact .zero
      | step c _ hw ih => rw [img_add]; exact .step c ih ((hO _).2 ⟨_, hw, rfl⟩)
    have := key hxs
    rwa [hxa] at this

/-! ### A reduced list for every list. -/
theorem split_at {d : Nat} : ∀ {L : List Lin.V}, L.Pairwise (fun v w => Lin.ld v < Lin.ld w) → ∃ k, k ≤ L.length ∧ (∀ w ∈ L.take k, Lin.ld w < d) ∧ ∀ w ∈ L.drop k, ¬ Lin.ld w < d
  | [], _ => ⟨0, Nat.le_refl _, by simp, by simp⟩
  | v :: L, h => by
    obtain ⟨h1, h2⟩ := List.pairwise_cons.1 h
    by_cases e : Lin.ld v < d
    · obtain ⟨k, hk, ha, hb⟩ := split_at (d := d) h2
      refine ⟨k + 1, by simp; omega, fun w hw => ?_, fun w hw => hb w (by simpa using hw)⟩
      rw [List.take_succ_cons] at hw
      rcases List.mem_cons.1 hw with rfl | hw
      · exact e
      · exact ha w hw
    · refine ⟨0, Nat.zero_le _, by simp, fun w hw => ?_⟩
      rw [List.drop_zero] at hw
      rcases List.mem_cons.1 hw with rfl | hw
      · exact e
      · have := h1 w hw
        omega
theorem red_ex {p : Int} (hp : IsP p) {n : Nat} (L : List Lin.V) : ∀ k, k ≤ L.length → (∀ u ∈ L, Lin.Md p u) → (∀ u ∈ L, Lin.Wd n u) → ∃ R, RedN p n R (L.take k) := by
  intro k
  have hp1 := hp.lo1
  induction k with
  | zero => intro _ _ _; exact ⟨[], by rw [List.take_zero]; exact RedN.nil p n⟩
  | succ k ih =>
    intro hk hm hw
    obtain ⟨R, hR⟩ := ih (by omega) hm hw
    have hkl : k < L.length := by omega
    have hvm := hm _ (List.getElem_mem hkl)
    have hvw := hw _ (List.getElem_mem hkl)
    have hTm : ∀ w ∈ L.take k, Lin.Md p w := fun w h => hm w (List.mem_of_mem_take h)
    rw [List.take_succ_eq_append_getElem hkl]
    obtain ⟨r, hr⟩ := Lin.rest_ex (by omega) hR.red hvm R.length (Nat.le_refl _)
    by_cases hz : r = Lin.zv
    · subst hz
      exact ⟨R, hR.skip (by omega) hTm hvm hr⟩
    · have hrw : Lin.Wd n r := Lin.Sp.wd (fun x hx => by
        rcases List.mem_cons.1 hx with rfl | h
        · exact hvw
        · exact hR.wd x h) hr.to
      obtain ⟨_, hne, _⟩ := ld_ltn hrw hz
      have hb := hr.md (Lin.ld r)
      obtain ⟨inv, _, _, hi⟩ := inv_ex hp (a := r (Lin.ld r)) (by omega) (by omega)
      have hu := Lin.Unit.mk' hp1 hr.md hz hi
      have huw : Lin.Wd n (fun i => (inv : Int) * r i % p) := fun i hi => by simp [hrw i hi]
      obtain ⟨q, hq, hlo, hhi⟩ := split_at (d := Lin.ld (fun i => (inv : Int) * r i % p)) hR.red.inc
      exact ⟨_, hR.put hp1 hTm hvm hr hz hu huw hq hlo hhi⟩

/-- What both annihilators annihilate is the meet. -/
theorem meet_ann {p : Int} (hp : IsP p) {n : Nat} {A B X Y : List Lin.V} (hA : ∀ u ∈ A, Lin.Md p u) (hAw : ∀ u ∈ A, Lin.Wd n u) (hB : ∀ u ∈ B, Lin.Md p u) (hBw : ∀ u ∈ B, Lin.Wd n u)
    (hX : SpF p n (Lin.Ker p n A) X) (hY : SpF p n (Lin.Ker p n B) Y) (v : Lin.V) : Lin.Ker p n (X ++ Y) v ↔ Lin.Sp p A v ∧ Lin.Sp p B v := by
  have hp1 := hp.lo1
  have hp0 : 0 < p := by omega
  have one : ∀ {A X : List Lin.V}, (∀ u ∈ A, Lin.Md p u) → (∀ u ∈ A, Lin.Wd n u) → SpF p n (Lin.Ker p n A) X → (Lin.Md p v ∧ Lin.Wd n v ∧ ∀ r ∈ X, Lin.dot n r v % p = 0) → Lin.Sp p A v := fun {A X} hA hAw hX h => by
    obtain ⟨R, hR⟩ := red_ex hp (n := n) A A.length (Nat.le_refl _) hA hAw
    rw [List.take_of_length_le (Nat.le_refl _)] at hR
    obtain ⟨r, hr⟩ := Lin.rest_ex hp0 hR.red h.1 R.length (Nat.le_refl _)
    exact (hR.eqv v).1 (Lin.ann_ann hp1 hR.red hR.wd h.1 h.2.1 (fun s hs => Lin.ann_sp h.2.2 ((hX.2.2 s).2 (hs.eqv hA hR.eqv))) hr)
  have two : ∀ {A X : List Lin.V}, SpF p n (Lin.Ker p n A) X → Lin.Sp p A v → ∀ r ∈ X, Lin.dot n r v % p = 0 := fun {A X} hX h r hr => by
    have hk := (hX.2.2 r).1 (Lin.Sp.mem hr (hX.1.md r hr))
    have := Lin.ann_sp hk.ann h
    rwa [Lin.dot_comm] at this
  constructor
  · intro h
    exact ⟨one hA hAw hX ⟨h.md, h.wd, fun r hr => h.ann r (List.mem_append_left _ hr)⟩, one hB hBw hY ⟨h.md, h.wd, fun r hr => h.ann r (List.mem_append_right _ hr)⟩⟩
  · rintro ⟨ha, hb⟩
    refine ⟨ha.md hp0, Lin.Sp.wd hAw ha, fun r hr => ?_⟩
    rcases List.mem_append.1 hr with h | h
    · exact two hX ha r h
    · exact two hY hb r h

/-- The sums that l01Apply makes. -/
theorem apT_img {p : Int} {n a : Nat} {E : List Lin.V} {s : Lin.V} (ok : ApOk p n (toL a s) (E.map (toL n))) (ha : a = E.length) : apT p n (toL a s) (E.map (toL n)) = toL n (img p a (rowsV E) s) := by
  have hl := apTo_length ok (Nat.le_refl _)
  have key : ∀ k, k ≤ a → ∀ j, j < n → (apTo p n (toL a s) (E.map (toL n)) k).getD j 0 = img p k (rowsV E) s j := by
    intro k
    induction k with
    | zero => intro _ j hj; rw [img_zero]; simp [apTo, List.getD, hj, Lin.zv]
    | succ k ih =>
      intro hk j hj
      rw [apTo_at ok (by rw [toL_length]; omega) hj, ih (by omega) j hj, img_succ]
      have h1 : (toL a s).getD k 0 = s k := by rw [getD_of_lt _ (by rw [toL_length]; omega), toL_get]
      have h2 : ((E.map (toL n)).getD k []).getD j 0 = rowsV E k j := by
        have e1 : (E.map (toL n)).getD k [] = toL n (E[k]'(by omega)) := by rw [getD_of_lt _ (by rw [List.length_map]; omega), List.getElem_map]
        rw [e1, getD_of_lt _ (by rw [toL_length]; exact hj), toL_get, rowsV_at (by omega)]
      rw [h1, h2]
      rfl
  refine List.ext_getElem (by rw [apT, hl, toL_length]) fun j h1 h2 => ?_
  have hj : j < n := by rw [toL_length] at h2; exact h2
  rw [toL_get, ← key a (Nat.le_refl _) j hj]
  have hj' : j < (apTo p n (toL a s) (E.map (toL n)) (toL a s).length).length := h1
  rw [toL_length] at hj'
  rw [getD_of_lt _ hj']
  simp only [apT, toL_length]
end Go.Proofs.Ytpdkfidmmjlmnab
