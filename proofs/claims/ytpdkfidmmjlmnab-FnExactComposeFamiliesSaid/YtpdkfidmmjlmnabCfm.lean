/-
  Compositions of families: codes, values, and the path of two maps.
-/
import Derived.Test.YtpdkfidmmjlmnabLds
import Derived.Test.YtpdkfidmmjlmnabEnn
import Derived.Test.YtpdkfidmmjlmnabFam
namespace Go.Proofs.Ytpdkfidmmjlmnab
open Go.RowKit

def s3 {α : Type} (a b c : α) (j : Nat) : α := if j = 0 then a else if j = 1 then b else c
theorem s3_all {α : Type} {a b c : α} {Q : Nat → α → Prop} (h0 : Q 0 a) (h1 : Q 1 b) (h2 : Q 2 c) : ∀ j, j < 3 → Q j (s3 a b c j) := fun j hj => by
  match j, hj with
  | 0, _ => exact h0
  | 1, _ => exact h1
  | 2, _ => exact h2
open Classical in
/-- The code of ComposeFamilies. -/
noncomputable def cfCode (p p2 p3 : Int) (ds : List Int) (ms : List (List (List Int))) (ds2 : List Int) (ms2 : List (List (List Int))) (ds3 : List Int) (ms3 : List (List (List Int))) (fs gs : List (List (List Int))) : Int :=
  if endCodeN 3 (s3 p p2 p3) (s3 ds ds2 ds3) (s3 ms ms2 ms3) = 0 then (if FamOk p ds ds2 0 fs ∧ FamOk p2 ds2 ds3 0 gs then 0 else 2) else endCodeN 3 (s3 p p2 p3) (s3 ds ds2 ds3) (s3 ms ms2 ms3)
structure Ok3 (p p2 p3 : Int) (ds : List Int) (ms : List (List (List Int))) (ds2 : List Int) (ms2 : List (List (List Int))) (ds3 : List Int) (ms3 : List (List (List Int))) : Prop where
  xy : EndOk p p2 ds ms ds2 ms2
  yz : EndOk p2 p3 ds2 ms2 ds3 ms3
theorem ok3_of {p p2 p3 : Int} {ds : List Int} {ms : List (List (List Int))} {ds2 : List Int} {ms2 : List (List (List Int))} {ds3 : List Int} {ms3 : List (List (List Int))} (h : endCodeN 3 (s3 p p2 p3) (s3 ds ds2 ds3) (s3 ms ms2 ms3) = 0) : Ok3 p p2 p3 ds ms ds2 ms2 ds3 ms3 := by
  have hE := endCodeN_zero h
  have x := hE.cx 0 (by omega)
  have y := hE.cx 1 (by omega)
  have z := hE.cx 2 (by omega)
  have p1 := hE.prime 1 (by omega)
  have q1 := hE.prime 2 (by omega)
  have l1 := hE.len 1 (by omega)
  have l2 := hE.len 2 (by omega)
  simp only [s3] at x y z p1 q1 l1 l2
  simp at x y z p1 q1 l1 l2
  exact ⟨⟨x, y, p1.symm, l1.symm⟩, ⟨y, z, by rw [p1, q1], by rw [l1, l2]⟩⟩
theorem Ok3.code {p p2 p3 : Int} {ds : List Int} {ms : List (List (List Int))} {ds2 : List Int} {ms2 : List (List (List Int))} {ds3 : List Int} {ms3 : List (List (List Int))} (h : Ok3 p p2 p3 ds ms ds2 ms2 ds3 ms3) : endCodeN 3 (s3 p p2 p3) (s3 ds ds2 ds3) (s3 ms ms2 ms3) = 0 := by
  have e1 := h.xy.prime
  have e2 := h.yz.prime
  have l1 := h.xy.len
  have l2 := h.yz.len
  have hp : prCodeN 3 (s3 p p2 p3) (s3 ds ds2 ds3) (s3 ms ms2 ms3) = 0 := by
    unfold prCodeN
    rw [if_pos, if_pos]
    · intro j hj
      match j, hj with
      | 0, _ => rfl
      | 1, _ => exact e1.symm
      | 2, _ => exact (e1.trans e2).symm
    · intro j hj
      match j, hj with
      | 0, _ => exact h.xy.x
      | 1, _ => exact h.xy.y
      | 2, _ => exact h.yz.y
  unfold endCodeN
  rw [if_pos hp, if_pos]
  intro j hj
  match j, hj with
  | 0, _ => rfl
  | 1, _ => exact l1.symm
  | 2, _ => exact (l1.trans l2).symm
/-- The codes of both pairs tell the code of the three. -/
theorem code3_no {p p2 p3 : Int} {ds : List Int} {ms : List (List (List Int))} {ds2 : List Int} {ms2 : List (List (List Int))} {ds3 : List Int} {ms3 : List (List (List Int))} (h : ¬ (IsCx p ds ms ∧ IsCx p2 ds2 ms2 ∧ IsCx p3 ds3 ms3)) : endCodeN 3 (s3 p p2 p3) (s3 ds ds2 ds3) (s3 ms ms2 ms3) = 1 := by
  have hp : prCodeN 3 (s3 p p2 p3) (s3 ds ds2 ds3) (s3 ms ms2 ms3) = 1 := by
    unfold prCodeN
    rw [if_neg]
    intro k
    exact h ⟨k 0 (by omega), k 1 (by omega), k 2 (by omega)⟩
  unfold endCodeN
  rw [if_neg (by rw [hp]; decide), hp]
theorem code3_two {p p2 p3 : Int} {ds : List Int} {ms : List (List (List Int))} {ds2 : List Int} {ms2 : List (List (List Int))} {ds3 : List Int} {ms3 : List (List (List Int))} (h : IsCx p ds ms ∧ IsCx p2 ds2 ms2 ∧ IsCx p3 ds3 ms3) (hn : ¬ Ok3 p p2 p3 ds ms ds2 ms2 ds3 ms3) : endCodeN 3 (s3 p p2 p3) (s3 ds ds2 ds3) (s3 ms ms2 ms3) = 2 := by
  by_cases h0 : endCodeN 3 (s3 p p2 p3) (s3 ds ds2 ds3) (s3 ms ms2 ms3) = 0
  · exact absurd (ok3_of h0) hn
  · have hall : ∀ j, j < 3 → IsCx (s3 p p2 p3 j) (s3 ds ds2 ds3 j) (s3 ms ms2 ms3 j) := fun j hj => by
      match j, hj with
      | 0, _ => exact h.1
      | 1, _ => exact h.2.1
      | 2, _ => exact h.2.2
    have hp : prCodeN 3 (s3 p p2 p3) (s3 ds ds2 ds3) (s3 ms ms2 ms3) = 0 ∨ prCodeN 3 (s3 p p2 p3) (s3 ds ds2 ds3) (s3 ms ms2 ms3) = 2 := by
      unfold prCodeN
      rw [if_pos hall]
      split
      · exact Or.inl rfl
      · exact Or.inr rfl
    unfold endCodeN at h0 ⊢
    rcases hp with e | e
    · rw [if_pos e] at h0 ⊢
      split at h0
      · exact absurd rfl h0
      · rename_i hh
        rw [if_neg hh]
    · rw [if_neg (by rw [e]; decide), e]
theorem endCode_one {p p2 : Int} {ds : List Int} {ms : List (List (List Int))} {ds2 : List Int} {ms2 : List (List (List Int))} : endCode p p2 ds ms ds2 ms2 = 1 ↔ ¬ (IsCx p ds ms ∧ IsCx p2 ds2 ms2) := by
  constructor
  · intro h hn
    unfold endCode at h
    rw [if_neg (fun k => k hn)] at h
    split at h <;> cases h
  · intro h
    unfold endCode
    rw [if_pos h]
/-- Number q of row i of table n of the composition. -/
def cfZ (p : Int) (ds3 : List Int) (fs gs : List (List (List Int))) (n i q : Nat) : Int := (apT p (csF ds3 0 n) ((fs.getD n []).getD i []) (gs.getD n [])).getD q 0
def CfFam (p : Int) (ds ds3 : List Int) (fs gs out : List (List (List Int))) : Prop := out = famL ds.length (rsF ds) (csF ds3 0) (cfZ p ds3 fs gs)
theorem cf_ap {p : Int} {ds : List Int} {ms : List (List (List Int))} {ds2 : List Int} {ms2 : List (List (List Int))} {ds3 : List Int} {ms3 fs gs : List (List (List Int))} (hcx : IsCx p ds ms) (hcy : IsCx p ds2 ms2) (hcz : IsCx p ds3 ms3) (hl : ds.length = ds2.length) (hof : FamOk p ds ds2 0 fs) (hog : FamOk p ds2 ds3 0 gs) {n i : Nat} (hn : n < ds.length) (hi : i < rsF ds n) :
    ApOk p (csF ds3 0 n) ((fs.getD n []).getD i []) (gs.getD n []) ∧ n < gs.length ∧ dimZ ds3 (n : Int) = (csF ds3 0 n : Int) := by
  have hz := dimZ_8 hcz ((n : Int) + 0)
  have hy := dimZ_8 hcy ((n : Int) + 0)
  obtain ⟨_, _, _, h4⟩ := fam_row hof hn hi (hcx.1.dim n).1 hy.1
  have hn2 : n < ds2.length := by omega
  have h0 : (n : Int) + 0 = (n : Int) := Int.add_zero _
  have e2 : (csF ds2 0 n : Int) = ds2.getD n 0 := by
    have hd : dimZ ds2 (n : Int) = ds2.getD n 0 := by
      unfold dimZ
      rw [if_pos ⟨by omega, by omega⟩, Int.toNat_natCast]
    simp only [csF]
    rw [h0, hd] at hy ⊢
    omega
  rw [e2] at h4
  have e3 : dimZ ds3 ((n : Int) + 0) = (csF ds3 0 n : Int) := by simp only [csF]; omega
  have := fam_ap hcx.1.prime hog hn2 h4 e3
  exact ⟨this.1, this.2, by rw [h0] at e3; exact e3⟩
theorem cfL_bd {p p2 p3 : Int} {ds : List Int} {ms : List (List (List Int))} {ds2 : List Int} {ms2 : List (List (List Int))} {ds3 : List Int} {ms3 fs gs : List (List (List Int))} (h : cfCode p p2 p3 ds ms ds2 ms2 ds3 ms3 fs gs = 0) : Bd3 1048576 (famL ds.length (rsF ds) (csF ds3 0) (cfZ p ds3 fs gs)) := by
  have hO : Ok3 p p2 p3 ds ms ds2 ms2 ds3 ms3 := by
    unfold cfCode at h
    by_cases h0 : endCodeN 3 (s3 p p2 p3) (s3 ds ds2 ds3) (s3 ms ms2 ms3) = 0
    · exact ok3_of h0
    · rw [if_neg h0] at h
      exact absurd h h0
  have h6 := hO.xy.x.1.len1
  refine ⟨by rw [famL_length]; omega, fun t ht => ?_⟩
  obtain ⟨n, _, rfl⟩ := List.mem_map.1 ht
  have h1 := hO.xy.x.1.dim n
  have h3 := dimZ_8 hO.yz.y ((n : Int) + 0)
  refine ⟨by simp only [tableOf, List.length_map, List.length_range, rsF]; omega, fun r hr => ?_⟩
  obtain ⟨j, _, rfl⟩ := List.mem_map.1 hr
  simp only [Bd1, List.length_map, List.length_range, csF]
  omega
theorem pathsC_any (p : Int) (bp ba : Nat) (dv mv dv2 mv2 dv3 mv3 fv gv : Value) (ds : List Int) (ms : List (List (List Int))) (ds2 : List Int) (ms2 : List (List (List Int))) (ds3 : List Int) (ms3 : List (List (List Int))) (fs gs : List (List (List Int))) (w : World) (h : Cx 0 w dv mv ds ms) (h2 : Cx 0 w dv2 mv2 ds2 ms2) (h3 : Cx 0 w dv3 mv3 ds3 ms3) (hf : L3 0 w fv fs) (hg : L3 0 w gv gs) (hcx : IsCx p ds ms) (hcy : IsCx p ds2 ms2) (hcz : IsCx p ds3 ms3) (hl : ds.length = ds2.length) (hof : FamOk p ds ds2 0 fs) (hog : FamOk p ds2 ds3 0 gs)
    (c0 : w.cell? ⟨bp, 0, none⟩ = some (.int .i64 1)) (c1 : w.cell? ⟨bp, 1, none⟩ = some (.slice (some ⟨ba, 0, none⟩) 2 2))
    (ha : w.cell? ⟨ba, 0, none⟩ = some (.func (.func 122) #[.agg #[.int .i64 p, dv2, mv2, .int .i64 0, fv]] #[])) (hb : w.cell? ⟨ba, 1, none⟩ = some (.func (.func 122) #[.agg #[.int .i64 p, dv3, mv3, .int .i64 0, gv]] #[])) :
    Calls Try.prog 127 #[.agg #[.int .i64 p, dv, mv], .agg #[.int .i64 p, dv3, mv3], .int .i64 0, .slice (some ⟨bp, 0, none⟩) 1 1] w (Fam3R (famL ds.length (rsF ds) (csF ds3 0) (cfZ p ds3 fs gs)) w) := by
  have hp7 := hcx.1.prime.hi
  have hp2 := hcx.1.prime.lo
  have hl6 := hcx.1.len1
  have := sumOfPaths_any p p 0 1 bp 1 (fun _ => 1) (fun _ => [.agg #[.int .i64 p, dv2, mv2, .int .i64 0, fv], .agg #[.int .i64 p, dv3, mv3, .int .i64 0, gv]]) (fun n i _ => apT p (csF ds3 0 n) ((fs.getD n []).getD i []) (gs.getD n [])) dv mv dv3 mv3 ds ms ds3 ms3 w h h3 hcx hcz (by omega) ?_ (fun _ _ => by omega) (by omega) ?_ ?_
  · refine this.mono ?_
    rintro e w' ⟨u, rfl, hu, hb'⟩
    refine ⟨u, rfl, ?_, hb'⟩
    rwa [famL_congr (Z' := cfZ p ds3 fs gs)] at hu
    intro n hn i hi q _
    have ok := (cf_ap hcx hcy hcz hl hof hog hn hi).1
    have hb := apTo_mod ok (Nat.le_refl _) q
    simp only [pS, addMod, cfZ, Int.zero_add, Int.one_mul]
    exact Int.emod_eq_of_lt hb.1 (by have := hb.2; simp only [apT]; omega)
  · intro j hj
    obtain rfl : j = 0 := by omega
    refine ⟨_, c0, c1, ⟨ba, 0, 2, rfl, fun q hq => ?_⟩, by simp, by simp⟩
    match q, hq with
    | 0, _ => exact ha
    | 1, _ => exact hb
  · intro n hn i hi j _
    obtain ⟨ok, hgl, hd⟩ := cf_ap hcx hcy hcz hl hof hog hn hi
    have hgm : gs.length ≤ 1048576 := by have := hog.1; omega
    have hvm := fam_vec hcx hcy hof hn hi
    exact ⟨_, Chain.cons (chain_of h2 hf hcx hcy hof hn hi) (Chain.cons (led_of h3 hg hcz hgl (by omega) hd ok hgm (by rw [hvm.1]; simp only [csF]; have := dimZ_8 hcy ((n : Int) + 0); omega)) (Chain.nil _ _))⟩
  · intro n hn i hi j _
    have ok := (cf_ap hcx hcy hcz hl hof hog hn hi).1
    have hl := apTo_length ok (Nat.le_refl _)
    refine ⟨hl, fun y hy => ?_⟩
    obtain ⟨q, hq, rfl⟩ := List.getElem_of_mem hy
    have hb := apTo_mod ok (Nat.le_refl _) q
    have e : (apTo p (csF ds3 0 n) ((fs.getD n []).getD i []) (gs.getD n []) ((fs.getD n []).getD i []).length).getD q 0 = (apT p (csF ds3 0 n) ((fs.getD n []).getD i []) (gs.getD n []))[q] := getD_of_lt 0 hq
    rw [e] at hb
    omega
end Go.Proofs.Ytpdkfidmmjlmnab
