/-
  The rank between two levels in plain words.
-/
import Derived.Test.YtchijefibiaphaaBim
import Derived.Test.YtchijefibiaphaaDrm
namespace Go.Proofs.Ytchijefibiaphaa
open Go.RowKit

/-- The basis vectors of levels of at most q, among the first k. -/
def fqL (l : List Int) (q : Int) (k : Nat) : List Lin.V := ((List.range k).filter fun i => decide (l.getD i 0 ≤ q)).map unitV
theorem fqL_yes {l : List Int} {q : Int} {k : Nat} (h : l.getD k 0 ≤ q) : fqL l q (k + 1) = fqL l q k ++ [unitV k] := by
  unfold fqL
  rw [List.range_succ, List.filter_append, List.map_append]
  congr 1
  have e : decide (l.getD k 0 ≤ q) = true := decide_eq_true h
  simp only [List.filter_cons, e, if_true, List.filter_nil, List.map_cons, List.map_nil]
theorem fqL_no {l : List Int} {q : Int} {k : Nat} (h : ¬ l.getD k 0 ≤ q) : fqL l q (k + 1) = fqL l q k := by
  unfold fqL
  rw [List.range_succ, List.filter_append, List.map_append]
  have e : decide (l.getD k 0 ≤ q) = false := decide_eq_false h
  simp only [List.filter_cons, e, List.filter_nil, List.map_nil, List.append_nil, if_false, Bool.false_eq_true]
theorem fqL_mem {l : List Int} {q : Int} {k : Nat} {u : Lin.V} (h : u ∈ fqL l q k) : ∃ i, i < k ∧ l.getD i 0 ≤ q ∧ u = unitV i := by
  obtain ⟨i, hi, rfl⟩ := List.mem_map.1 h
  obtain ⟨h1, h2⟩ := List.mem_filter.1 hi
  exact ⟨i, List.mem_range.1 h1, of_decide_eq_true h2, rfl⟩
theorem fqL_md {p : Int} (hp : 1 < p) {l : List Int} {q : Int} {k : Nat} : ∀ u ∈ fqL l q k, Lin.Md p u := fun u hu => by
  obtain ⟨i, _, _, rfl⟩ := fqL_mem hu
  exact unitV_md hp i
theorem fqL_wd {l : List Int} {q : Int} {k n : Nat} (h : k ≤ n) : ∀ u ∈ fqL l q k, Lin.Wd n u := fun u hu => by
  obtain ⟨i, hi, _, rfl⟩ := fqL_mem hu
  exact unitV_wd (by omega)
theorem fqL_len (l : List Int) (q : Int) (k : Nat) : (fqL l q k).length ≤ k := by
  unfold fqL
  rw [List.length_map]
  exact Nat.le_trans (List.length_filter_le _ _) (by simp)
/-- Vectors of levels of at most q. -/
def FqS (p : Int) (d : Nat) (l : List Int) (q : Int) (v : Lin.V) : Prop := Lin.Md p v ∧ Lin.Wd d v ∧ ∀ i, i < d → q < l.getD i 0 → v i = 0
theorem fq_of {p : Int} (hp : 1 < p) {d : Nat} {l : List Int} {q : Int} {v : Lin.V} (h : Lin.Sp p (fqL l q d) v) : FqS p d l q v := by
  refine ⟨Lin.Sp.md (by omega) h, Lin.Sp.wd (fqL_wd (Nat.le_refl _)) h, ?_⟩
  induction h with
  | zero => exact fun _ _ _ => rfl
  | step c _ hw ih =>
    intro i hi hq
    obtain ⟨j, _, hj, rfl⟩ := fqL_mem hw
    have hne : ¬ i = j := fun e => by subst e; omega
    simp only [Lin.add, unitV]
    rw [ih i hi hq, if_neg hne]
    simp
theorem fq_part {p : Int} {d : Nat} {l : List Int} {q : Int} {v : Lin.V} (h : FqS p d l q v) : ∀ k, k ≤ d → Lin.Sp p (fqL l q k) (fun i => if i < k then v i else 0) := by
  intro k
  induction k with
  | zero =>
    intro _
    have e : (fun i => if i < 0 then v i else 0) = Lin.zv := by funext i; simp [Lin.zv]
    rw [e]
    exact .zero
  | succ k ih =>
    intro hk
    have ih := ih (by omega)
    have hv := h.1
    by_cases hl : l.getD k 0 ≤ q
    · have e : (fun i => if i < k + 1 then v i else 0) = Lin.add p (fun i => if i < k then v i else 0) (v k) (unitV k) := by
        funext i
        simp only [Lin.add, unitV]
        by_cases h1 : i < k
        · rw [if_pos (by omega), if_pos h1, if_neg (by omega), Int.mul_zero, Int.add_zero, Int.emod_eq_of_lt (hv i).1 (hv i).2]
        · rw [if_neg h1]
          by_cases h2 : i = k
          · subst h2
            rw [if_pos (by omega), if_pos rfl, Int.mul_one, Int.zero_add, Int.emod_eq_of_lt (hv i).1 (hv i).2]
          · rw [if_neg (by omega), if_neg h2]
            simp
      rw [fqL_yes hl, e]
      exact .step _ (Lin.Sp.mono (fun w hw => List.mem_append_left _ hw) ih) (List.mem_append_right _ (by simp))
    · have e : (fun i => if i < k + 1 then v i else 0) = (fun i => if i < k then v i else 0) := by
        funext i
        by_cases h1 : i < k
        · rw [if_pos (by omega), if_pos h1]
        · rw [if_neg h1]
          by_cases h2 : i = k
          · subst h2
            rw [if_pos (by omega)]
            exact h.2.2 i (by omega) (by omega)
          · rw [if_neg (by omega)]
      rw [fqL_no hl, e]
      exact ih
theorem fq_span {p : Int} (hp : 1 < p) {d : Nat} {l : List Int} {q : Int} (v : Lin.V) : Lin.Sp p (fqL l q d) v ↔ FqS p d l q v := by
  refine ⟨fq_of hp, fun h => ?_⟩
  have := fq_part h d (Nat.le_refl _)
  have e : (fun i => if i < d then v i else 0) = v := by
    funext i
    by_cases h1 : i < d
    · rw [if_pos h1]
    · rw [if_neg h1, h.2.1 i (by omega)]
  rwa [e] at this
section
variable {p : Int} {ds : List Int} {ms : List (List (List Int))} {ls : List (List Int)}
theorem lev_low (hf : IsFil p ds ms ls) {k : Nat} (hk : k < ds.length) {j : Nat} (hj : j < cycM ds k) : 0 ≤ (ls.getD (k - 1) []).getD j 0 := by
  have hk0 : k ≠ 0 := fun e => by subst e; simp [cycM] at hj
  obtain ⟨m, rfl⟩ : ∃ m, k = m + 1 := ⟨k - 1, by omega⟩
  have hml : m < ls.length := by have := hf.2.len; omega
  have h1 := hf.2.lvs m hml
  have h2 := (dimN_le8 hf.1 m).2
  simp only [cycM, Nat.add_sub_cancel] at hj
  rw [if_neg (by omega)] at hj
  rw [Nat.add_sub_cancel]
  have hjl : j < (ls.getD m []).length := by have := h1.1; omega
  have := h1.2 _ (List.getElem_mem hjl)
  rw [← getD_of_lt 0 hjl] at this
  omega
theorem meet_zc (hf : IsFil p ds ms ls) {k : Nat} (hk : k < ds.length) {q : Int} {A : List Lin.V} (hA : SpF p (dimN ds (k : Int)) (CycS p (dimN ds (k : Int)) (cycM ds k) (cycT ds ms k)) A) (v : Lin.V) :
    MeetS p A (fqL (ls.getD k []) q (dimN ds (k : Int))) v ↔ ZcD p ds ms ls k q (-1) v := by
  have hp := hf.1.1.prime.lo1
  unfold MeetS
  rw [hA.2.2 v, fq_span hp]
  constructor
  · rintro ⟨h1, h2⟩
    exact ⟨h1.1, h1.2.1, h2.2.2, fun j hj _ => h1.2.2 j hj⟩
  · intro h
    exact ⟨⟨h.md, h.wd, fun j hj => h.dn j hj (by have := lev_low hf hk hj; omega)⟩, h.md, h.wd, h.up⟩
/-- In a filtered complex differentials do not go up. -/
theorem zc_full (hf : IsFil p ds ms ls) {k : Nat} (hk : k + 1 < ds.length) {s : Int} (v : Lin.V) : ZcD p ds ms ls (k + 1) s s v ↔ FqS p (dimN ds ((k + 1 : Nat) : Int)) (ls.getD (k + 1) []) s v := by
  constructor
  · exact fun h => ⟨h.md, h.wd, h.up⟩
  · intro h
    refine ⟨h.1, h.2.1, h.2.2, fun j hj hs => ?_⟩
    have hmk : k < ms.length := by have := hf.1.1.mlen; omega
    have e : cycT ds ms (k + 1) = ms.getD k [] := cycT_succ hf.1 hk
    have htab := hf.1.1.tabs k hmk
    have hd1 := (dimN_le8 hf.1 (k + 1)).2
    rw [Lin.dot_nil (fun i hi => ?_)]
    · simp
    · by_cases hv : v i = 0
      · rw [hv, Int.mul_zero]
      · have hlev : (ls.getD (k + 1) []).getD i 0 ≤ s := Classical.byContradiction fun hn => hv (h.2.2 i hi (by omega))
        have hil : i < (ms.getD k []).length := by have := htab.1; omega
        simp only [Lin.col, e]
        have hb := hf.2.bel k hmk i hil
        by_cases hjr : j < ((ms.getD k []).getD i []).length
        · have hz : ((ms.getD k []).getD i [])[j] = 0 := Classical.byContradiction fun hn => by
            have := hb j hjr hn
            simp only [Nat.add_sub_cancel] at hs
            omega
          rw [ofL_at hjr, hz, Int.zero_mul]
        · rw [ofL_wd (n := ((ms.getD k []).getD i []).length) (Nat.le_refl _) j (by omega), Int.zero_mul]
/-- The differentials of the basis vectors of levels of at most s, of the degree above. -/
def bdL (p : Int) (ds : List Int) (ms : List (List (List Int))) (ls : List (List Int)) (k : Nat) (s : Int) : List Lin.V := (fqL (ls.getD (k + 1) []) s (dimN ds ((k + 1 : Nat) : Int))).map (dimg p (dimN ds ((k + 1 : Nat) : Int)) (cycT ds ms (k + 1)))
theorem bdL_md (hp : 0 < p) (k : Nat) (s : Int) : ∀ u ∈ bdL p ds ms ls k s, Lin.Md p u := fun u hu => by
  obtain ⟨y, _, rfl⟩ := List.mem_map.1 hu
  exact dimg_md hp _ _ _
theorem bd_eqv (hf : IsFil p ds ms ls) {k : Nat} {s : Int} {R : List Lin.V} (hR : UpP p ds ms ls (k + 1) s s R) : Lin.Eqv p (dimgs p ds ms (k + 1) R) (bdL p ds ms ls k s) := by
  have hp := hf.1.1.prime.lo1
  by_cases hk : k + 1 < ds.length
  · have hR := hR.1 hk
    refine Lin.Eqv.of (by omega) (fun w hw => ?_) (fun w hw => ?_)
    · obtain ⟨u, hu, rfl⟩ := List.mem_map.1 hw
      have h1 := (zc_full hf hk u).1 ((hR.2.2 u).1 (Lin.Sp.mem hu (hR.1.md u hu)))
      exact dimg_sp ((fq_span hp u).2 h1)
    · obtain ⟨u, hu, rfl⟩ := List.mem_map.1 hw
      have h1 := fq_of hp (Lin.Sp.mem hu (fqL_md hp u hu))
      exact dimg_sp ((hR.2.2 u).2 ((zc_full hf hk u).2 h1))
  · have hR := hR.2 hk
    have e : dimN ds ((k + 1 : Nat) : Int) = 0 := by
      unfold dimN
      rw [Int.toNat_natCast, List.getD_eq_getElem?_getD, List.getElem?_eq_none (by omega)]
      rfl
    subst hR
    unfold bdL dimgs
    rw [e]
    exact Lin.Eqv.refl _ _
/-- The rank between two levels. -/
def RkBet (p : Int) (ds : List Int) (ms : List (List (List Int))) (ls : List (List Int)) (k : Nat) (q s x : Int) : Prop :=
  ∃ C B E, SpF p (dimN ds (k : Int)) (ZcD p ds ms ls k q (-1)) C ∧ SpF p (dimN ds (k : Int)) (Lin.Sp p (bdL p ds ms ls k s)) B ∧ SpF p (dimN ds (k : Int)) (Lin.Sp p (C ++ B)) E ∧ x = (E.length : Int) - (B.length : Int)
theorem RkBet.unique {k : Nat} {q s x y : Int} (hp : 1 < p) (h : RkBet p ds ms ls k q s x) (h' : RkBet p ds ms ls k q s y) : x = y := by
  obtain ⟨C, B, E, c, b, e, rfl⟩ := h
  obtain ⟨C', B', E', c', b', e', rfl⟩ := h'
  obtain rfl := c.unique' hp c'
  obtain rfl := b.unique' hp b'
  rw [e.unique' hp e']
theorem bdL_wd (hf : IsFil p ds ms ls) {k : Nat} {s : Int} : ∀ u ∈ bdL p ds ms ls k s, Lin.Wd (dimN ds (k : Int)) u := fun u hu => by
  obtain ⟨y, hy, rfl⟩ := List.mem_map.1 hu
  by_cases hk : k + 1 < ds.length
  · have hok := cyc_ok hf.1 hk
    have e : cycM ds (k + 1) = dimN ds (k : Int) := by simp [cycM]
    rw [e] at hok
    exact dimg_wd hok.1 hok.2.1 y
  · have e : dimN ds ((k + 1 : Nat) : Int) = 0 := by
      unfold dimN
      rw [Int.toNat_natCast, List.getD_eq_getElem?_getD, List.getElem?_eq_none (by omega)]
      rfl
    rw [e] at hy
    simp [fqL] at hy
theorem bd_sp (hf : IsFil p ds ms ls) {k : Nat} {s : Int} {R B : List Lin.V} (hR : UpP p ds ms ls (k + 1) s s R) (hr : Lin.Red p B) (he : Lin.Eqv p B (dimgs p ds ms (k + 1) R)) : SpF p (dimN ds (k : Int)) (Lin.Sp p (bdL p ds ms ls k s)) B := by
  have h := he.trans (bd_eqv hf hR)
  exact ⟨hr, fun u hu => Lin.Sp.wd (bdL_wd hf) ((h u).1 (Lin.Sp.mem hu (hr.md u hu))), h⟩
end
end Go.Proofs.Ytchijefibiaphaa
