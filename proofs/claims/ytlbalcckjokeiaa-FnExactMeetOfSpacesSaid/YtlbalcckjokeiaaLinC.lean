/-
  Plain mathematics: products place by place, what annihilates a list, kernels of rows.
-/
import Derived.Test.YtlbalcckjokeiaaLinB
namespace Go.Proofs.Ytlbalcckjokeiaa.Lin

/-- The sum of the first n products. -/
def dot : Nat → V → V → Int
  | 0, _, _ => 0
  | n + 1, u, v => dot n u v + u n * v n
theorem dot_congr {u u' v v' : V} : ∀ {n : Nat}, (∀ i, i < n → u i * v i = u' i * v' i) → dot n u v = dot n u' v' := by
  intro n
  induction n with
  | zero => intro _; rfl
  | succ n ih => intro h; rw [dot, dot, ih (fun i hi => h i (by omega)), h n (by omega)]
theorem dot_nil {u v : V} : ∀ {n : Nat}, (∀ i, i < n → u i * v i = 0) → dot n u v = 0 := by
  intro n
  induction n with
  | zero => intro _; rfl
  | succ n ih => intro h; rw [dot, ih (fun i hi => h i (by omega)), h n (by omega)]; rfl
theorem dot_one {u v : V} {a : Nat} : ∀ {n : Nat}, a < n → (∀ i, i < n → i ≠ a → u i * v i = 0) → dot n u v = u a * v a := by
  intro n
  induction n with
  | zero => intro h; omega
  | succ n ih =>
    intro h hz
    by_cases e : a = n
    · subst e
      rw [dot, dot_nil (fun i hi => hz i (by omega) (by omega)), Int.zero_add]
    · rw [dot, ih (by omega) (fun i hi hne => hz i (by omega) hne), hz n (by omega) (by omega), Int.add_zero]
theorem dot_two {u v : V} {a b : Nat} : ∀ {n : Nat}, a < n → b < n → a ≠ b → (∀ i, i < n → i ≠ a → i ≠ b → u i * v i = 0) → dot n u v = u a * v a + u b * v b := by
  intro n
  induction n with
  | zero => intro h; omega
  | succ n ih =>
    intro ha hb hab hz
    by_cases e : a = n
    · subst e
      rw [dot, dot_one (a := b) (by omega) (fun i hi hne => hz i (by omega) (by omega) hne)]
      omega
    · by_cases e2 : b = n
      · subst e2
        rw [dot, dot_one (a := a) (by omega) (fun i hi hne => hz i (by omega) hne (by omega))]
      · rw [dot, ih (by omega) (by omega) hab (fun i hi h1 h2 => hz i (by omega) h1 h2), hz n (by omega) (by omega) (by omega), Int.add_zero]
theorem dot_comm (u v : V) : ∀ n, dot n u v = dot n v u := by
  intro n
  induction n with
  | zero => rfl
  | succ n ih => rw [dot, dot, ih, Int.mul_comm]
theorem dot_add (p : Int) (u v w : V) (c : Int) : ∀ n, dot n u (add p v c w) % p = (dot n u v + c * dot n u w) % p := by
  intro n
  induction n with
  | zero => simp [dot]
  | succ n ih =>
    have e : (dot n u (add p v c w) + u n * ((v n + c * w n) % p)) % p = (dot n u v + c * dot n u w + u n * (v n + c * w n)) % p := by
      rw [add_mul_mod, ← mod_add_mod, ih, mod_add_mod]
    show (dot n u (add p v c w) + u n * ((v n + c * w n) % p)) % p = (dot n u v + u n * v n + c * (dot n u w + u n * w n)) % p
    rw [e]
    exact congrArg (· % p) (by grind)

/-- v annihilates the rows. -/
structure Ker (p : Int) (n : Nat) (L : List V) (v : V) : Prop where
  md : Md p v
  wd : Wd n v
  ann : ∀ r ∈ L, dot n r v % p = 0
theorem Ker.zv {p : Int} (hp : 0 < p) (n : Nat) (L : List V) : Ker p n L zv := ⟨zv_md hp, zv_wd n, fun r _ => by rw [dot_nil (fun i _ => by simp [Lin.zv])]; rfl⟩
theorem Ker.add {p : Int} (hp : 0 < p) {n : Nat} {L : List V} {v w : V} (hv : Ker p n L v) (c : Int) (hw : Ker p n L w) : Ker p n L (add p v c w) :=
  ⟨add_md hp _ _ _, add_wd c hv.wd hw.wd, fun r hr => by
    rw [dot_add, ← mod_add_mod, hv.ann r hr, ← add_mul_mod, hw.ann r hr]
    simp⟩
theorem Ker.sp {p : Int} (hp : 0 < p) {n : Nat} {L M : List V} (h : ∀ w ∈ M, Ker p n L w) {v : V} (hv : Sp p M v) : Ker p n L v := by
  induction hv with
  | zero => exact Ker.zv hp n L
  | step c _ hw ih => exact ih.add hp c (h _ hw)
theorem ann_sp {p : Int} {n : Nat} {L : List V} {v : V} (h : ∀ r ∈ L, dot n r v % p = 0) {r : V} (hr : Sp p L r) : dot n r v % p = 0 := by
  rw [dot_comm]
  induction hr with
  | zero => rw [dot_nil (fun i _ => by simp [Lin.zv])]; rfl
  | step c _ hw ih =>
    have h2 := h _ hw
    rw [dot_comm] at h2
    rw [dot_add, ← mod_add_mod, ih, ← add_mul_mod, h2]
    simp
/-- What annihilates a list annihilates its space. -/
theorem Ker.eqv {p : Int} {n : Nat} {L M : List V} (hM : ∀ w ∈ M, Md p w) (h : Eqv p L M) {v : V} (hv : Ker p n L v) : Ker p n M v :=
  ⟨hv.md, hv.wd, fun r hr => ann_sp hv.ann ((h r).2 (Sp.mem hr (hM r hr)))⟩

/-- The vector with 1 at a free place that a reduced list tells. -/
structure Sol (p : Int) (R : List V) (f : Nat) (s : V) : Prop where
  at1 : s f = 1
  lead : ∀ w ∈ R, s (ld w) = (p - w f) % p
  rest : ∀ i, i ≠ f → (∀ w ∈ R, ld w ≠ i) → s i = 0
def Free (R : List V) (f : Nat) : Prop := ∀ w ∈ R, ld w ≠ f
theorem wd_lead {n : Nat} {w : V} (h : Wd n w) (h1 : w (ld w) = 1) : ld w < n := Classical.byContradiction fun hn => by
  rw [h _ (by omega)] at h1
  exact absurd h1 (by decide)
theorem Sol.md {p : Int} (hp : 1 < p) {R : List V} {f : Nat} {s : V} (h : Sol p R f s) : Md p s := by
  intro i
  by_cases e : i = f
  · rw [e, h.at1]; omega
  · by_cases h2 : ∀ w ∈ R, ld w ≠ i
    · rw [h.rest i e h2]; omega
    · obtain ⟨w, hw, e2⟩ : ∃ w, w ∈ R ∧ ld w = i := Classical.byContradiction fun hn => h2 fun w hw e2 => hn ⟨w, hw, e2⟩
      rw [← e2, h.lead w hw]
      exact ⟨Int.emod_nonneg _ (by omega), Int.emod_lt_of_pos _ (by omega)⟩
theorem Sol.ker {p : Int} (hp : 1 < p) {n : Nat} {R : List V} (hR : Red p R) (hw : ∀ w ∈ R, Wd n w) {f : Nat} (hf : f < n) (hfree : Free R f) {s : V} (h : Sol p R f s) : Ker p n R s := by
  refine ⟨h.md hp, fun i hi => h.rest i (by omega) (fun w hm e => ?_), fun w hm => ?_⟩
  · have := wd_lead (hw w hm) (hR.one w hm)
    omega
  · have hl := wd_lead (hw w hm) (hR.one w hm)
    rw [dot_two hf hl (fun e => hfree w hm e.symm) (fun i _ h1 h2 => ?_), h.at1, hR.one w hm, h.lead w hm, Int.one_mul, Int.mul_one]
    · rw [Int.add_comm, mod_add_mod, show p - w f + w f = p by omega, Int.emod_self]
    · by_cases h3 : ∀ x ∈ R, ld x ≠ i
      · rw [h.rest i h1 h3, Int.mul_zero]
      · obtain ⟨x, hx, e2⟩ : ∃ x, x ∈ R ∧ ld x = i := Classical.byContradiction fun hn => h3 fun x hx e2 => hn ⟨x, hx, e2⟩
        have h4 : w (ld x) = 0 := hR.off w hm x hx (fun e => h2 (by rw [← e2, e]))
        rw [← e2, h4, Int.zero_mul]
theorem Ker.free_zero {p : Int} {n : Nat} {R : List V} (hR : Red p R) (hw : ∀ w ∈ R, Wd n w) {v : V} (hv : Ker p n R v) (h0 : ∀ f, f < n → Free R f → v f = 0) : v = Lin.zv := by
  funext i
  by_cases hi : n ≤ i
  · exact hv.wd i hi
  · by_cases h3 : Free R i
    · exact h0 i (by omega) h3
    · obtain ⟨w, hm, e⟩ : ∃ w, w ∈ R ∧ ld w = i := Classical.byContradiction fun hn => h3 fun x hx e2 => hn ⟨x, hx, e2⟩
      have hl := wd_lead (hw w hm) (hR.one w hm)
      have h1 := hv.ann w hm
      rw [dot_one hl (fun j hj hne => ?_), hR.one w hm, Int.one_mul, md_mod (hv.md _).1 (hv.md _).2] at h1
      · rw [← e]; exact h1
      · by_cases h4 : Free R j
        · rw [h0 j hj h4, Int.mul_zero]
        · obtain ⟨x, hx, e2⟩ : ∃ x, x ∈ R ∧ ld x = j := Classical.byContradiction fun hn => h4 fun x hx e2 => hn ⟨x, hx, e2⟩
          rw [← e2, hR.off w hm x hx (fun e3 => hne (by rw [← e2, e3])), Int.zero_mul]
/-- The solutions of all free places make all that annihilates. -/
theorem Ker.span {p : Int} (hp : 1 < p) {n : Nat} {R S : List V} (hR : Red p R) (hw : ∀ w ∈ R, Wd n w) (hS : ∀ f, f < n → Free R f → ∃ s ∈ S, Sol p R f s) {v : V} (hv : Ker p n R v) : Sp p S v := by
  have hp0 : 0 < p := by omega
  have key : ∀ m, m ≤ n → ∃ c, Sp p S c ∧ Ker p n R c ∧ ∀ f, f < m → Free R f → (Lin.add p v (-1) c) f = 0 := by
    intro m
    induction m with
    | zero => exact fun _ => ⟨Lin.zv, .zero, Ker.zv hp0 n R, fun f h => absurd h (Nat.not_lt_zero _)⟩
    | succ m ih =>
      intro hm
      obtain ⟨c, h1, h2, h3⟩ := ih (by omega)
      by_cases hf : Free R m
      · obtain ⟨s, hs, hsol⟩ := hS m (by omega) hf
        have hk := hsol.ker hp hR hw (by omega) hf
        obtain ⟨x, hx⟩ : ∃ x, x = (Lin.add p v (-1) c) m := ⟨_, rfl⟩
        refine ⟨Lin.add p c x s, .step x h1 hs, h2.add hp0 x hk, fun f hfm hff => ?_⟩
        have e : (Lin.add p v (-1) (Lin.add p c x s)) f = ((Lin.add p v (-1) c) f + -x * s f) % p := by
          simp only [Lin.add, add_mul_mod, mod_add_mod]
          exact congrArg (· % p) (by grind)
        rw [e]
        by_cases e2 : f = m
        · subst e2
          rw [hsol.at1, ← hx, Int.mul_one, show x + -x = 0 by omega]
          rfl
        · rw [h3 f (by omega) hff, hsol.rest f e2 hff, Int.mul_zero]
          rfl
      · refine ⟨c, h1, h2, fun f hfm hff => ?_⟩
        by_cases e2 : f = m
        · subst e2; exact absurd hff hf
        · exact h3 f (by omega) hff
  obtain ⟨c, h1, h2, h3⟩ := key n (Nat.le_refl _)
  have hz := Ker.free_zero hR hw (hv.add hp0 (-1) h2) (fun f hf hff => h3 f hf hff)
  rw [eq_of_add hv.md h2.md hz]
  exact h1
/-- The space of the solutions is what annihilates. -/
theorem sols_eqv {p : Int} (hp : 1 < p) {n : Nat} {R S : List V} (hR : Red p R) (hw : ∀ w ∈ R, Wd n w) (hS : ∀ f, f < n → Free R f → ∃ s ∈ S, Sol p R f s) (hS2 : ∀ s ∈ S, ∃ f, f < n ∧ Free R f ∧ Sol p R f s) (v : V) : Sp p S v ↔ Ker p n R v :=
  ⟨Ker.sp (by omega) (fun s hs => by obtain ⟨f, h1, h2, h3⟩ := hS2 s hs; exact h3.ker hp hR hw h1 h2), Ker.span hp hR hw hS⟩

/-- What annihilates all that annihilates a space lies in it. -/
theorem ann_ann {p : Int} (hp : 1 < p) {n : Nat} {R : List V} (hR : Red p R) (hw : ∀ w ∈ R, Wd n w) {v : V} (hm : Md p v) (hwd : Wd n v) (h : ∀ s, Ker p n R s → dot n s v % p = 0) {r : V} (hr : Rest p R v R.length r) : Sp p R v := by
  have hp0 : 0 < p := by omega
  have hoff : ∀ w ∈ R, r (ld w) = 0 := fun w hw => hr.off w (by rw [List.take_length]; exact hw)
  have hrw : Wd n r := Sp.wd (fun w hm => by
    rcases List.mem_cons.1 hm with rfl | hm
    · exact hwd
    · exact hw w hm) hr.to
  have hrann : ∀ s, Ker p n R s → dot n s r % p = 0 := fun s hs => by
    rw [dot_comm]
    refine ann_sp (L := v :: R) (fun x hx => ?_) hr.to
    rcases List.mem_cons.1 hx with rfl | hx
    · rw [dot_comm]; exact h s hs
    · exact hs.ann x hx
  have hz : r = zv := by
    funext i
    by_cases hi : n ≤ i
    · exact hrw i hi
    · by_cases hf : Free R i
      · -- the solution of the place i
        obtain ⟨s, hs⟩ : ∃ s : V, Sol p R i s := by
          refine ⟨fun j => if j = i then 1 else open Classical in if h : ∃ w ∈ R, ld w = j then (p - h.choose i) % p else 0, ⟨by simp, fun w hm => ?_, fun j hj hh => ?_⟩⟩
          · have hex : ∃ x ∈ R, ld x = ld w := ⟨w, hm, rfl⟩
            have e : hex.choose = w := hR.same _ hex.choose_spec.1 _ hm hex.choose_spec.2
            simp only [if_neg (hf w hm), dif_pos hex, e]
          · have hnex : ¬ ∃ x ∈ R, ld x = j := fun ⟨x, hx, e⟩ => hh x hx e
            simp only [if_neg hj, dif_neg hnex]
        have h1 := hrann s (hs.ker hp hR hw (by omega) hf)
        rw [dot_one (a := i) (by omega) (fun j hj hne => ?_), hs.at1, Int.one_mul, md_mod (hr.md _).1 (hr.md _).2] at h1
        · exact h1
        · by_cases h4 : ∀ w ∈ R, ld w ≠ j
          · rw [hs.rest j hne h4, Int.zero_mul]
          · obtain ⟨x, hx, e2⟩ : ∃ x, x ∈ R ∧ ld x = j := Classical.byContradiction fun hn => h4 fun x hx e2 => hn ⟨x, hx, e2⟩
            rw [← e2, hoff x hx, Int.mul_zero]
      · obtain ⟨w, hm, e⟩ : ∃ w, w ∈ R ∧ ld w = i := Classical.byContradiction fun hn => hf fun x hx e2 => hn ⟨x, hx, e2⟩
        rw [← e]
        exact hoff w hm
  rw [hz] at hr
  exact hr.inside hp0 hR

/-- Every vector has a rest. -/
theorem rest_ex {p : Int} (hp : 0 < p) {L : List V} (hL : Red p L) {v : V} (hv : Md p v) : ∀ k, k ≤ L.length → ∃ r, Rest p L v k r := by
  intro k
  induction k with
  | zero => exact fun _ => ⟨v, Rest.start hv⟩
  | succ k ih =>
    intro hk
    obtain ⟨r, hr⟩ := ih (by omega)
    exact ⟨_, hr.step hp hL (by omega)⟩
end Go.Proofs.Ytlbalcckjokeiaa.Lin
