/-
  What the reference model's elimination does to rows, in plain mathematics.
-/
import Derived.Test.YtlbalcckjokeiaaRed
import Derived.Test.YtlbalcckjokeiaaTab
namespace Go.Proofs.Ytlbalcckjokeiaa
open Go.RowKit

theorem ld_ltn {n : Nat} {v : Lin.V} (hw : Lin.Wd n v) (hne : v ≠ Lin.zv) : Lin.ld v < n ∧ v (Lin.ld v) ≠ 0 ∧ ∀ j, j < Lin.ld v → v j = 0 := by
  obtain ⟨i, hi⟩ := Lin.ne_zv hne
  obtain ⟨h1, h2⟩ := Lin.ld_spec hi
  refine ⟨Classical.byContradiction fun hn => h1 (hw _ (by omega)), h1, h2⟩
theorem leadOf_toL {n : Nat} {u : Lin.V} (hw : Lin.Wd n u) (hne : u ≠ Lin.zv) : leadOf (toL n u) = (Lin.ld u : Int) := by
  obtain ⟨h1, h2, h3⟩ := ld_ltn hw hne
  refine leadOf_at (k := Lin.ld u) (by rw [toL_length]; exact h1) (fun j hj hjk => ?_) ?_
  · rw [toL_get]; exact h3 j hjk
  · rw [toL_get]; exact h2
theorem leadOf_zv (n : Nat) : leadOf (toL n Lin.zv) = -1 := leadOf_zero (fun j hj => by rw [toL_get]; rfl)
theorem leadOf_of_toL {n : Nat} {u : Lin.V} (hw : Lin.Wd n u) (h : leadOf (toL n u) < 0) : u = Lin.zv := Classical.byContradiction fun hne => by
  rw [leadOf_toL hw hne] at h
  omega

/-- What a reduced list of rows of n numbers has to do with a list. -/
structure RedN (p : Int) (n : Nat) (R T : List Lin.V) : Prop where
  red : Lin.Red p R
  wd : ∀ u ∈ R, Lin.Wd n u
  eqv : Lin.Eqv p R T
theorem RedN.nil (p : Int) (n : Nat) : RedN p n [] [] := ⟨Lin.Red.nil p, by simp, Lin.Eqv.refl _ _⟩
theorem RedN.skip {p : Int} (hp : 0 < p) {n : Nat} {R T : List Lin.V} (h : RedN p n R T) {v : Lin.V} (hT : ∀ w ∈ T, Lin.Md p w) (hv : Lin.Md p v) (hr : Lin.Rest p R v R.length Lin.zv) : RedN p n R (T ++ [v]) :=
  ⟨h.red, h.wd, Lin.skip_eqv hp h.red hT hv h.eqv hr⟩
theorem RedN.put {p : Int} (hp : 1 < p) {n : Nat} {R T : List Lin.V} (h : RedN p n R T) {v r u : Lin.V} {k : Nat} (hT : ∀ w ∈ T, Lin.Md p w) (hv : Lin.Md p v) (hr : Lin.Rest p R v R.length r) (hne : r ≠ Lin.zv) (hu : Lin.Unit p r u) (huw : Lin.Wd n u) (hk : k ≤ R.length)
    (hlo : ∀ w ∈ R.take k, Lin.ld w < Lin.ld u) (hhi : ∀ w ∈ R.drop k, ¬ Lin.ld w < Lin.ld u) : RedN p n (Lin.put p R k u) (T ++ [v]) := by
  have hf := Lin.fits_of hr hne hu hk hlo hhi
  refine ⟨hf.red hp h.red, fun x hx => ?_, Lin.put_eqv hp h.red hT hv h.eqv hr hu hf⟩
  rcases Lin.put_mem.1 hx with rfl | ⟨y, hy, rfl⟩
  · exact huw
  · exact Lin.add_wd _ (h.wd y hy) huw
theorem RedN.same {p : Int} (hp : 1 < p) {n : Nat} {R R' T : List Lin.V} (h : RedN p n R T) (k : RedOf p R' T) : R' = R :=
  Lin.Red.unique hp k.red h.red (fun v => (k.eqv v).trans (h.eqv v).symm)
theorem RedN.unique {p : Int} (hp : 1 < p) {n n' : Nat} {R R' T T' : List Lin.V} (h : RedN p n R T) (k : RedN p n' R' T') (e : Lin.Eqv p T T') : R' = R :=
  Lin.Red.unique hp k.red h.red (fun v => ((k.eqv v).trans (e v).symm).trans (h.eqv v).symm)

/-- A row less its multiple of u. -/
noncomputable def less1 (p : Int) (u w : Lin.V) : Lin.V := Lin.add p w (-(w (Lin.ld u))) u
/-- The next list while it is gathered: j rows have been seen; pt: the new row is in. -/
def Nx (p : Int) (R : List Lin.V) (u : Lin.V) (j : Nat) (pt : Bool) (N : List Lin.V) : Prop :=
  if pt then ∃ K, K ≤ j ∧ (∃ h : K < R.length, Lin.ld u < Lin.ld R[K]) ∧ (∀ w ∈ R.take K, Lin.ld w < Lin.ld u) ∧ N = Lin.put p (R.take j) K u
  else (∀ w ∈ R.take j, Lin.ld w < Lin.ld u) ∧ N = (R.take j).map (less1 p u)
theorem Nx.start (p : Int) (R : List Lin.V) (u : Lin.V) : Nx p R u 0 false [] := ⟨by simp, by simp⟩
theorem put_more {p : Int} {R : List Lin.V} {u : Lin.V} {j K : Nat} (hK : K ≤ j) (hj : j < R.length) : Lin.put p (R.take j) K u ++ [less1 p u R[j]] = Lin.put p (R.take (j + 1)) K u := by
  have hl : (R.take j).length = j := by simp; omega
  rw [List.take_succ_eq_append_getElem hj]
  unfold Lin.put
  rw [List.take_append_of_le_length (by omega), List.drop_append_of_le_length (by omega), List.map_append, List.append_assoc]
  rfl
theorem put_last {p : Int} {R : List Lin.V} {u : Lin.V} : (R.map (less1 p u)) ++ [u] = Lin.put p R R.length u := by
  unfold Lin.put
  rw [List.take_of_length_le (Nat.le_refl _), List.drop_of_length_le (Nat.le_refl _)]
  rfl
theorem Nx.keep {p : Int} {R : List Lin.V} {u : Lin.V} {j : Nat} {N : List Lin.V} (h : Nx p R u j true N) (hj : j < R.length) : Nx p R u (j + 1) true (N ++ [less1 p u R[j]]) := by
  obtain ⟨K, hK, hx, hlo, rfl⟩ := h
  exact ⟨K, by omega, hx, hlo, put_more hK hj⟩
theorem Nx.pass {p : Int} {R : List Lin.V} {u : Lin.V} {j : Nat} {N : List Lin.V} (h : Nx p R u j false N) (hj : j < R.length) (hlt : Lin.ld R[j] < Lin.ld u) : Nx p R u (j + 1) false (N ++ [less1 p u R[j]]) := by
  obtain ⟨hlo, rfl⟩ := h
  refine ⟨fun w hw => ?_, ?_⟩
  · rw [List.take_succ_eq_append_getElem hj] at hw
    rcases List.mem_append.1 hw with h1 | h1
    · exact hlo w h1
    · rw [List.mem_singleton.1 h1]; exact hlt
  · rw [List.take_succ_eq_append_getElem hj, List.map_append]
    rfl
theorem Nx.in' {p : Int} {R : List Lin.V} {u : Lin.V} {j : Nat} {N : List Lin.V} (h : Nx p R u j false N) (hj : j < R.length) (hlt : Lin.ld u < Lin.ld R[j]) : Nx p R u (j + 1) true (N ++ [u] ++ [less1 p u R[j]]) := by
  obtain ⟨hlo, rfl⟩ := h
  have hl : (R.take j).length = j := by simp; omega
  refine ⟨j, by omega, ⟨hj, hlt⟩, hlo, ?_⟩
  have e := put_last (p := p) (R := R.take j) (u := u)
  rw [e, hl]
  exact put_more (Nat.le_refl _) hj
theorem Nx.done {p : Int} {R : List Lin.V} {u : Lin.V} {N : List Lin.V} (hR : Lin.Red p R) (h : Nx p R u R.length true N) : ∃ K, K ≤ R.length ∧ N = Lin.put p R K u ∧ (∀ w ∈ R.take K, Lin.ld w < Lin.ld u) ∧ ∀ w ∈ R.drop K, ¬ Lin.ld w < Lin.ld u := by
  obtain ⟨K, hK, ⟨hk, hx⟩, hlo, rfl⟩ := h
  refine ⟨K, hK, by rw [List.take_of_length_le (Nat.le_refl _)], hlo, fun w hw => ?_⟩
  rw [List.drop_eq_getElem_cons hk] at hw
  have hp := hR.inc
  rw [← List.take_append_drop K R, List.drop_eq_getElem_cons hk] at hp
  have h2 := (List.pairwise_append.1 hp).2.1
  rcases List.mem_cons.1 hw with rfl | hw
  · omega
  · have := (List.pairwise_cons.1 h2).1 w hw
    omega
theorem Nx.end {p : Int} {R : List Lin.V} {u : Lin.V} {N : List Lin.V} (h : Nx p R u R.length false N) : ∃ K, K ≤ R.length ∧ N ++ [u] = Lin.put p R K u ∧ (∀ w ∈ R.take K, Lin.ld w < Lin.ld u) ∧ ∀ w ∈ R.drop K, ¬ Lin.ld w < Lin.ld u := by
  obtain ⟨hlo, rfl⟩ := h
  refine ⟨R.length, Nat.le_refl _, ?_, hlo, ?_⟩
  · rw [List.take_of_length_le (Nat.le_refl _)]
    exact put_last
  · rw [List.drop_of_length_le (Nat.le_refl _)]
    simp
theorem Nx.length {p : Int} {R : List Lin.V} {u : Lin.V} {j : Nat} {pt : Bool} {N : List Lin.V} (h : Nx p R u j pt N) (hj : j ≤ R.length) : N.length ≤ j + 1 := by
  have hl : (R.take j).length = j := by simp; omega
  cases pt with
  | true =>
    obtain ⟨K, hK, _, _, rfl⟩ := h
    rw [put_length p _ K u (by omega)]
    omega
  | false =>
    obtain ⟨_, rfl⟩ := h
    rw [List.length_map]
    omega
/-- A unit row's lead is none of the list's. -/
theorem lead_apart {p : Int} {R : List Lin.V} {v r u w : Lin.V} (hr : Lin.Rest p R v R.length r) (hu : Lin.Unit p r u) (hw : w ∈ R) : Lin.ld w ≠ Lin.ld u := fun e => by
  have h0 := hu.at0 _ (hr.off w (by rw [List.take_of_length_le (Nat.le_refl _)]; exact hw))
  rw [e, hu.one] at h0
  exact absurd h0 (by decide)
theorem nx_md {p : Int} {u : Lin.V} {n : Nat} (hp : 0 < p) (hu : Lin.Wd n u) (w : Lin.V) (hw : Lin.Wd n w) : Lin.Md p (less1 p u w) ∧ Lin.Wd n (less1 p u w) := ⟨Lin.add_md hp _ _ _, Lin.add_wd _ hw hu⟩
/-- The remainder as the reference model takes it. -/
theorem mod_twice {p x : Int} (hp : 0 < p) : (x.tmod p + p).tmod p = x % p := by
  have h1 : 0 ≤ x.tmod p + p := by
    have := Int.lt_tmod_of_pos x hp
    omega
  rw [Int.tmod_eq_emod_of_nonneg h1, Int.add_emod_right]
  rcases Int.le_total 0 x with h | h
  · rw [Int.tmod_eq_emod_of_nonneg h, Int.emod_emod_of_dvd x (Int.dvd_refl p)]
  · have e := Int.mul_tdiv_add_tmod x p
    have : x.tmod p = x + p * (-(x.tdiv p)) := by rw [Int.mul_neg]; omega
    rw [this, Int.add_mul_emod_self_left]
end Go.Proofs.Ytlbalcckjokeiaa
