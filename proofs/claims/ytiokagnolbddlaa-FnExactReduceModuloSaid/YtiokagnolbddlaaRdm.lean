/-
  The reduction of a whole complex modulo a prime, in plain words.
-/
import Derived.Test.YtiokagnolbddlaaWsp
import Derived.Test.YtiokagnolbddlaaCpc
namespace Go.Proofs.Ytiokagnolbddlaa
open Go.RowKit

def rdT (p : Int) (t : List (List Int)) : List (List Int) := t.map fun r => r.map (· % p)
def rdM (p : Int) (ms : List (List (List Int))) : List (List (List Int)) := ms.map (rdT p)
def rdO (p : Int) (ds : List Int) (ms : List (List (List Int))) : Co := (p, ds, rdM p ms)
theorem rdM_length (p : Int) (ms : List (List (List Int))) : (rdM p ms).length = ms.length := by simp [rdM]
theorem rdM_at {p : Int} {ms : List (List (List Int))} {j : Nat} (h : j < (rdM p ms).length) (h2 : j < ms.length) : (rdM p ms)[j] = rdT p ms[j] := by simp [rdM]
theorem rdM_take {p : Int} {ms : List (List (List Int))} {k : Nat} (h : k < ms.length) : (rdM p ms).take (k + 1) = (rdM p ms).take k ++ [rdT p ms[k]] := by
  rw [List.take_succ_eq_append_getElem (by rw [rdM_length]; exact h), rdM_at _ h]
open Classical in
noncomputable def rdCode (p : Int) (ds : List Int) (ms : List (List (List Int))) : Int := if WhOk ds ms then (if IsP p then 0 else 2) else 1
theorem rdCode_1 {p : Int} {ds : List Int} {ms : List (List (List Int))} (h : ¬ WhOk ds ms) : rdCode p ds ms = 1 := if_neg h
theorem rdCode_2 {p : Int} {ds : List Int} {ms : List (List (List Int))} (h : WhOk ds ms) (hp : ¬ IsP p) : rdCode p ds ms = 2 := by unfold rdCode; rw [if_pos h, if_neg hp]
theorem rdCode_0 {p : Int} {ds : List Int} {ms : List (List (List Int))} (h : WhOk ds ms) (hp : IsP p) : rdCode p ds ms = 0 := by unfold rdCode; rw [if_pos h, if_pos hp]
theorem rdCode_zero {p : Int} {ds : List Int} {ms : List (List (List Int))} (h : rdCode p ds ms = 0) : WhOk ds ms ∧ IsP p := by
  by_cases hc : WhOk ds ms
  · by_cases hp : IsP p
    · exact ⟨hc, hp⟩
    · rw [rdCode_2 hc hp] at h; cases h
  · rw [rdCode_1 hc] at h; cases h
theorem rd_tab {p : Int} {ds : List Int} {ms : List (List (List Int))} (h : SzOk ds ms) {j : Nat} (hj : j < (rdM p ms).length) : (rdM p ms)[j] = tableOf (cpR ms j) (cpC ds j) (cpZ p ms j) := by
  have hj' : j < ms.length := by rw [rdM_length] at hj; exact hj
  have ht := h.tabs j hj'
  have hd := h.dim j
  rw [rdM_at hj hj']
  rw [getD_of_lt _ hj'] at ht
  refine List.ext_getElem (by simp [rdT, tableOf, cpR, hj']) fun a h1 h2 => ?_
  have ha : a < (ms[j]).length := by simpa [rdT] using h1
  have hra := ht.2 _ (List.getElem_mem ha)
  simp only [rdT, tableOf, List.getElem_map, List.getElem_range]
  refine List.ext_getElem (by simp only [List.length_map, List.length_range, cpC]; omega) fun b h3 h4 => ?_
  have hb : b < ((ms[j])[a]).length := by simpa using h3
  simp only [List.getElem_map, List.getElem_range, cpZ, scZ]
  rw [getD_of_lt _ hj', getD_of_lt _ ha, getD_of_lt _ hb, Int.one_mul]
theorem rd_bd {p : Int} {ds : List Int} {ms : List (List (List Int))} (hb : WhB 1048576 ds ms) : CoB (rdO p ds ms) := by
  refine ⟨hb.bd, by show (rdM p ms).length ≤ _; rw [rdM_length]; exact hb.bm.1, fun t ht => ?_⟩
  obtain ⟨t0, h0, rfl⟩ := List.mem_map.1 (show t ∈ rdM p ms from ht)
  have h1 := hb.bm.2 t0 h0
  refine ⟨by simp only [rdT, List.length_map]; exact h1.1, fun r hr => ?_⟩
  obtain ⟨r0, h2, rfl⟩ := List.mem_map.1 (show r ∈ rdT p t0 from hr)
  show List.length _ ≤ _
  rw [List.length_map]
  exact h1.2 r0 h2
theorem WhOk.bd {ds : List Int} {ms : List (List (List Int))} (h : WhOk ds ms) : WhB 1048576 ds ms := by
  refine ⟨by show ds.length ≤ _; have := h.1.len1; omega, by show ms.length ≤ _; have := h.1.len1; have := h.1.mlen; omega, fun t ht => ?_⟩
  obtain ⟨k, hk, rfl⟩ := List.getElem_of_mem ht
  have h1 := h.1.tabs k hk
  have d0 := h.1.dim6 k
  have d1 := h.1.dim6 (k + 1)
  rw [getD_of_lt _ hk] at h1
  refine ⟨by have := h1.1; omega, fun r hr => ?_⟩
  have := (h1.2 r hr).1
  show r.length ≤ _
  omega
theorem WhOk.num {ds : List Int} {ms : List (List (List Int))} (h : WhOk ds ms) : ∀ t ∈ ms, ∀ r ∈ t, ∀ z ∈ r, -1048576 ≤ z ∧ z ≤ 1048576 := fun t ht r hr z hz => by
  obtain ⟨k, hk, rfl⟩ := List.getElem_of_mem ht
  have h1 := h.1.tabs k hk
  rw [getD_of_lt _ hk] at h1
  have := (h1.2 r hr).2 z hz
  omega
theorem cpR_8 {ds : List Int} {ms : List (List (List Int))} (h : SzOk ds ms) (j : Nat) : cpR ms j ≤ 1048576 := by
  unfold cpR
  by_cases hj : j < ms.length
  · have := (h.tabs j hj).1
    have := h.dim (j + 1)
    omega
  · rw [List.getD_eq_getElem?_getD, List.getElem?_eq_none (by omega)]
    simp
theorem cpC_8 {ds : List Int} {ms : List (List (List Int))} (h : SzOk ds ms) (j : Nat) : cpC ds j ≤ 1048576 := by
  unfold cpC
  have := h.dim j
  omega

/-- The table while its rests are being taken: rows below i are done, of row i the first q numbers. -/
def rdK (p : Int) (t : List (List Int)) (i q : Nat) : List (List Int) := (List.range t.length).map fun a => (List.range (t.getD a []).length).map fun b => if a < i ∨ (a = i ∧ b < q) then (t.getD a []).getD b 0 % p else (t.getD a []).getD b 0
theorem rdK_length (p : Int) (t : List (List Int)) (i q : Nat) : (rdK p t i q).length = t.length := by simp [rdK]
theorem rdK_row {p : Int} {t : List (List Int)} {i q a : Nat} (h : a < (rdK p t i q).length) (ha : a < t.length) : ((rdK p t i q)[a]).length = (t[a]).length := by simp [rdK, ha]
theorem rdK_num {p : Int} {t : List (List Int)} {i q a b : Nat} (h : a < (rdK p t i q).length) (ha : a < t.length) (h2 : b < ((rdK p t i q)[a]).length) (hb : b < (t[a]).length) : ((rdK p t i q)[a])[b] = if a < i ∨ (a = i ∧ b < q) then (t[a])[b] % p else (t[a])[b] := by
  simp only [rdK, List.getElem_map, List.getElem_range]
  rw [getD_of_lt _ ha, getD_of_lt _ hb]
theorem rdK_ext {p : Int} {t s : List (List Int)} {i q : Nat} (hl : s.length = t.length) (hr : ∀ a (h1 : a < s.length) (h2 : a < t.length), (s[a]).length = (t[a]).length)
    (hn : ∀ a b (h1 : a < s.length) (h2 : a < t.length) (h3 : b < (s[a]).length) (h4 : b < (t[a]).length), (s[a])[b] = if a < i ∨ (a = i ∧ b < q) then (t[a])[b] % p else (t[a])[b]) : s = rdK p t i q := by
  refine List.ext_getElem (by rw [rdK_length, hl]) fun a h1 h2 => ?_
  have ha : a < t.length := by omega
  refine List.ext_getElem (by rw [rdK_row h2 ha, hr a h1 ha]) fun b h3 h4 => ?_
  have hb : b < (t[a]).length := by rw [← hr a h1 ha]; exact h3
  rw [hn a b h1 ha h3 hb, rdK_num h2 ha h4 hb]
theorem rdK_start (p : Int) (t : List (List Int)) : t = rdK p t 0 0 := rdK_ext rfl (fun _ _ _ => rfl) (fun a b _ _ _ _ => by rw [if_neg (by omega)])
theorem rdK_next {p : Int} {t : List (List Int)} {i : Nat} (hi : i < t.length) : rdK p t i (t[i]).length = rdK p t (i + 1) 0 :=
  rdK_ext (rdK_length ..) (fun a h1 h2 => rdK_row h1 h2) (fun a b h1 h2 h3 h4 => by
    rw [rdK_num h1 h2 h3 h4]
    by_cases e : a < i
    · rw [if_pos (Or.inl e), if_pos (Or.inl (by omega))]
    · by_cases e2 : a = i
      · subst e2
        rw [if_pos (Or.inr ⟨rfl, h4⟩), if_pos (Or.inl (by omega))]
      · rw [if_neg (by omega), if_neg (by omega)])
theorem rdK_done (p : Int) (t : List (List Int)) : rdT p t = rdK p t t.length 0 :=
  rdK_ext (by simp [rdT]) (fun a h1 h2 => by simp [rdT]) (fun a b h1 h2 h3 h4 => by
    rw [if_pos (Or.inl h2)]
    simp [rdT])
theorem rdK_put {p : Int} {t : List (List Int)} {i q : Nat} (hi : i < t.length) (hq : q < (t[i]).length) (h1 : i < (rdK p t i q).length) : (rdK p t i q).set i (((rdK p t i q)[i]).set q ((t[i])[q] % p)) = rdK p t i (q + 1) :=
  rdK_ext (by rw [List.length_set, rdK_length]) (fun a h2 h3 => by
    rw [List.getElem_set]
    by_cases e : i = a
    · subst e
      rw [if_pos rfl, List.length_set, rdK_row h1 h3]
    · rw [if_neg e, rdK_row _ h3]) (fun a b h2 h3 h4 h5 => by
    by_cases e : i = a
    · subst e
      have h6 : b < ((rdK p t i q)[i]).length := by rw [rdK_row h1 h3]; exact h5
      have : (((rdK p t i q).set i (((rdK p t i q)[i]).set q ((t[i])[q] % p)))[i])[b] = (((rdK p t i q)[i]).set q ((t[i])[q] % p))[b]'(by rw [List.length_set]; exact h6) := by simp
      rw [this, List.getElem_set]
      by_cases e2 : q = b
      · subst e2
        rw [if_pos rfl, if_pos (Or.inr ⟨rfl, by omega⟩)]
      · rw [if_neg e2, rdK_num h1 h3 h6 h5]
        by_cases e3 : b < q
        · rw [if_pos (Or.inr ⟨rfl, e3⟩), if_pos (Or.inr ⟨rfl, by omega⟩)]
        · rw [if_neg (by omega), if_neg (by omega)]
    · have h7 : a < (rdK p t i q).length := by rw [rdK_length]; exact h3
      have h6 : b < ((rdK p t i q)[a]).length := by rw [rdK_row h7 h3]; exact h5
      have : (((rdK p t i q).set i (((rdK p t i q)[i]).set q ((t[i])[q] % p)))[a])[b] = ((rdK p t i q)[a])[b] := by simp [e]
      rw [this, rdK_num h7 h3 h6 h5]
      by_cases e3 : a < i
      · rw [if_pos (Or.inl e3), if_pos (Or.inl e3)]
      · rw [if_neg (by omega), if_neg (by omega)])
theorem rdK_now {p : Int} {t : List (List Int)} {i q : Nat} (hi : i < t.length) (hq : q < (t[i]).length) (h1 : i < (rdK p t i q).length) (h2 : q < ((rdK p t i q)[i]).length) : ((rdK p t i q)[i])[q] = (t[i])[q] := by
  rw [rdK_num h1 hi h2 hq, if_neg (by omega)]
end Go.Proofs.Ytiokagnolbddlaa
