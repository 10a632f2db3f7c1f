/-
  Tables as answers; the page differential in plain words.
-/
import Derived.Test.YtpdkfidmmjlmnabPba
namespace Go.Proofs.Ytpdkfidmmjlmnab
open Go.RowKit

/-- What a function with a table answers: the table, or a code. -/
structure TbOut (P : List (List Int) → Prop) (c0 : Int) (out : List (List Int)) (c : Int) : Prop where
  good : c0 = 0 → P out
  bad : c0 ≠ 0 → out = []
  code : c = c0
theorem TbOut.unique {P : List (List Int) → Prop} {c0 : Int} {o1 o2 : List (List Int)} {c1 c2 : Int} (hu : c0 = 0 → ∀ a b, P a → P b → a = b) (h1 : TbOut P c0 o1 c1) (h2 : TbOut P c0 o2 c2) : o1 = o2 ∧ c1 = c2 := by
  refine ⟨?_, h1.code.trans h2.code.symm⟩
  by_cases h0 : c0 = 0
  · exact hu h0 _ _ (h1.good h0) (h2.good h0)
  · rw [h1.bad h0, h2.bad h0]
theorem TbOut.bd {P : List (List Int) → Prop} {c0 : Int} {o : List (List Int)} {c : Int} (h : TbOut P c0 o c) (hb : c0 = 0 → ∀ a, P a → Bd2 1048576 a) : Bd2 1048576 o := by
  by_cases h0 : c0 = 0
  · exact hb h0 _ (h.good h0)
  · rw [h.bad h0]
    exact ⟨by simp, by simp⟩
theorem TbOut.of_no {P : List (List Int) → Prop} {c0 : Int} (h : c0 ≠ 0) : TbOut P c0 [] c0 := ⟨fun h0 => absurd h0 h, fun _ => rfl, rfl⟩
theorem TbOut.of_yes {P : List (List Int) → Prop} {c0 : Int} {o : List (List Int)} (h : c0 = 0) (hp : P o) : TbOut P c0 o 0 := ⟨fun _ => hp, fun hh => absurd h hh, h.symm⟩
def TbW (P : List (List Int) → Prop) (c0 : Int) (w : World) (e : Ending) (w' : World) : Prop :=
  ∃ (u : Value) (out : List (List Int)) (c : Int), e = .returned (.tuple #[u, .int .i64 c]) ∧ TW w.heap.size w'.heap.size w' u out ∧ Below w.heap.size w w' ∧ TbOut P c0 out c
def TbS (P : List (List Int) → Prop) (c0 : Int) (w : World) (e : Ending) (w' : World) : Prop :=
  ∃ (u : Value) (out : List (List Int)) (c : Int), e = .returned (.tuple #[u, .int .i64 c]) ∧ L2 0 w' u out ∧ Below w.heap.size w w' ∧ TbOut P c0 out c
/-- A table alone. -/
def TbR (P : List (List Int) → Prop) (w : World) (e : Ending) (w' : World) : Prop :=
  ∃ (u : Value) (out : List (List Int)), e = .returned u ∧ TW w.heap.size w'.heap.size w' u out ∧ Below w.heap.size w w' ∧ P out

/-- The numbers at the leads of a list. -/
noncomputable def leadRow (W : List Lin.V) (r : Lin.V) : List Int := W.map fun w => r (Lin.ld w)
/-- The rests of vectors behind a list. -/
structure ImRests (p : Int) (B M rs : List Lin.V) : Prop where
  len : rs.length = M.length
  at' : ∀ i (h : i < M.length) (h' : i < rs.length), Lin.RestE p B M[i] B.length rs[i]
theorem ImRests.unique {p : Int} (hp : 0 < p) {B M rs rs' : List Lin.V} (hB : Lin.Red p B) (h : ImRests p B M rs) (h' : ImRests p B M rs') : rs = rs' :=
  List.ext_getElem (by rw [h.len, h'.len]) fun i h1 h2 => Lin.RestE.unique hp hB (h.at' i (by rw [← h.len]; exact h1) h1) (h'.at' i (by rw [← h.len]; exact h1) h2)

/-- The table of the page differential. -/
def PdT (p : Int) (ds : List Int) (ms : List (List (List Int))) (ls : List (List Int)) (k : Nat) (r q : Int) (out : List (List Int)) : Prop :=
  ∃ P, SpF p (dimN ds (k : Int)) (PgS p ds ms ls k r q) P ∧
    (((k = 0 ∨ q < r) ∧ out = P.map fun _ => []) ∨
     (¬ (k = 0 ∨ q < r) ∧ ∃ B W rs, SpF p (dimN ds ((k - 1 : Nat) : Int)) (BotS p ds ms ls (k - 1) r (q - r)) B ∧ SpF p (dimN ds ((k - 1 : Nat) : Int)) (PgS p ds ms ls (k - 1) r (q - r)) W ∧ ImRests p B (dimgs p ds ms k P) rs ∧ out = rs.map (leadRow W)))
theorem PdT.unique {p : Int} (hp : 1 < p) {ds : List Int} {ms : List (List (List Int))} {ls : List (List Int)} {k : Nat} {r q : Int} {a b : List (List Int)} (h : PdT p ds ms ls k r q a) (h' : PdT p ds ms ls k r q b) : a = b := by
  obtain ⟨P, hP, h⟩ := h
  obtain ⟨P', hP', h'⟩ := h'
  obtain rfl : P = P' := hP.unique' hp hP'
  rcases h with ⟨h0, rfl⟩ | ⟨h0, B, W, rs, hB, hW, hr, rfl⟩
  · rcases h' with ⟨_, rfl⟩ | ⟨h1, _⟩
    · rfl
    · exact absurd h0 h1
  · rcases h' with ⟨h1, _⟩ | ⟨_, B', W', rs', hB', hW', hr', rfl⟩
    · exact absurd h1 h0
    · obtain rfl : B = B' := hB.unique' hp hB'
      obtain rfl : W = W' := hW.unique' hp hW'
      rw [hr.unique (by omega) hB.1 hr']
theorem PdT.bd {p : Int} {ds : List Int} {ms : List (List (List Int))} {ls : List (List Int)} (hcx : IsCx p ds ms) {k : Nat} {r q : Int} {a : List (List Int)} (h : PdT p ds ms ls k r q a) : Bd2 1048576 a := by
  obtain ⟨P, hP, h⟩ := h
  have h8 := (dimN_le8 hcx k).1
  have hl := hP.short
  rcases h with ⟨_, rfl⟩ | ⟨_, B, W, rs, hB, hW, hr, rfl⟩
  · refine ⟨by rw [List.length_map]; omega, fun x hx => ?_⟩
    obtain ⟨_, _, rfl⟩ := List.mem_map.1 hx
    simp [Bd1]
  · have h8' := (dimN_le8 hcx (k - 1)).1
    have hl' := hW.short
    refine ⟨by rw [List.length_map, hr.len]; simp only [dimgs, List.length_map]; omega, fun x hx => ?_⟩
    obtain ⟨y, _, rfl⟩ := List.mem_map.1 hx
    simp only [Bd1, leadRow, List.length_map]
    omega

/-- Below all levels there is nothing. -/
theorem pd_low {p : Int} {ds : List Int} {ms : List (List (List Int))} {ls : List (List Int)} (hf : IsFil p ds ms ls) {k : Nat} (hk : k < ds.length) {q t : Int} (hq : q < 0) {v : Lin.V} (h : ZcD p ds ms ls k q t v) : v = Lin.zv := funext fun i => by
  by_cases hi : i < dimN ds (k : Int)
  · refine h.up i hi (Int.lt_of_lt_of_le hq ?_)
    by_cases hx : i < (ls.getD k []).length
    · rw [getD_of_lt 0 hx]
      exact ((hf.2.lvs k (by rw [hf.2.len]; exact hk)).2 _ (List.getElem_mem hx)).1
    · rw [List.getD_eq_getElem?_getD, List.getElem?_eq_none (by omega)]
      exact Int.le_refl _
  · exact h.wd i (by omega)
theorem red_nil_of {p : Int} {R : List Lin.V} (hR : Lin.Red p R) (h : ∀ u ∈ R, u = Lin.zv) : R = [] := by
  cases R with
  | nil => rfl
  | cons u R => exact absurd (h u (by simp)) (hR.ne (by simp))
theorem pg_low {p : Int} {ds : List Int} {ms : List (List (List Int))} {ls : List (List Int)} (hf : IsFil p ds ms ls) {k : Nat} (hk : k < ds.length) {r q : Int} (hq : q < 0) {W : List Lin.V} (h : SpF p (dimN ds (k : Int)) (PgS p ds ms ls k r q) W) : W = [] := by
  have hp := hf.1.1.prime.lo1
  refine red_nil_of h.1 (fun u hu => ?_)
  obtain ⟨C, B, hC, hB, hs, h0⟩ := (h.2.2 u).1 (Lin.Sp.mem hu (h.1.md u hu))
  have hC0 : C = [] := red_nil_of hC.1 (fun v hv => pd_low hf hk hq ((hC.2.2 v).1 (Lin.Sp.mem hv (hC.1.md v hv))))
  subst hC0
  exact hB.1.zero_of (by omega) (by simpa using hs) h0
/-- A list of zeros spans nothing. -/
theorem red_zeros {p : Int} {R : List Lin.V} {n : Nat} (hR : Lin.Red p R) (h : Lin.Eqv p R (List.replicate n Lin.zv)) : R = [] := by
  refine red_nil_of hR (fun u hu => ?_)
  have hs := (h u).1 (Lin.Sp.mem hu (hR.md u hu))
  have hw : Lin.Wd 0 u := Lin.Sp.wd (fun w hw => by rw [(List.mem_replicate.1 hw).2]; exact Lin.zv_wd 0) hs
  exact funext fun i => hw i (Nat.zero_le _)
end Go.Proofs.Ytpdkfidmmjlmnab
