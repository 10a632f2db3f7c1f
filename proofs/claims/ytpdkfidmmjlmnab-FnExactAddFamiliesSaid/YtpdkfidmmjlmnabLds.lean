/-
  What families make of basis vectors: their rows; sums of two families; impl.along and the maps of families by contract.
-/
import Derived.Test.YtpdkfidmmjlmnabSop
namespace Go.Proofs.Ytpdkfidmmjlmnab
open Go.RowKit

theorem unitL_length (d i : Nat) : (unitL d i).length = d := by simp [unitL]
theorem unitL_getD {d i k : Nat} (hk : k < d) : (unitL d i).getD k 0 = if k = i then 1 else 0 := by
  rw [getD_of_lt _ (by rw [unitL_length]; exact hk)]
  simp [unitL]
theorem unitL_ok {p : Int} (hp : 2 ≤ p) (d i : Nat) : ∀ x ∈ unitL d i, 0 ≤ x ∧ x ≤ p - 1 := fun x hx => by
  obtain ⟨q, _, rfl⟩ := List.mem_map.1 hx
  split <;> omega
theorem unit_apOk {p c : Int} {cn d i : Nat} {t : List (List Int)} (hp : IsP p) (hc : c = (cn : Int)) (ht : TabOk p (d : Int) c t) : ApOk p cn (unitL d i) t := by
  refine ⟨hp, ?_, unitL_ok hp.lo d i, fun r hr => by have := ht.2 r hr; rwa [hc] at this⟩
  rw [unitL_length]
  have := ht.1
  omega
theorem unit_apTo {p : Int} {c d i : Nat} {t : List (List Int)} (ok : ApOk p c (unitL d i) t) (hi : i < d) : ∀ k, k ≤ d → ∀ q, q < c → (apTo p c (unitL d i) t k).getD q 0 = if k ≤ i then 0 else (t.getD i []).getD q 0 := by
  intro k
  induction k with
  | zero => intro _ q hq; simp [apTo, hq]
  | succ k ih =>
    intro hk q hq
    have hkl : k < (unitL d i).length := by rw [unitL_length]; omega
    rw [apTo_at ok hkl hq, ih (by omega) q hq, unitL_getD (by omega)]
    have hp := ok.prime.lo
    have hrow := ok.row hkl
    have hil : i < (unitL d i).length := by rw [unitL_length]; omega
    have hri := ok.row hil
    have hb : 0 ≤ (t.getD i []).getD q 0 ∧ (t.getD i []).getD q 0 ≤ p - 1 := by
      have hl : q < (t.getD i []).length := by have := hri.1; omega
      rw [getD_of_lt _ hl]
      exact hri.2 _ (List.getElem_mem hl)
    by_cases e : k = i
    · subst e
      rw [if_pos (Nat.le_refl _), if_pos rfl, if_neg (by omega), Int.zero_add, Int.one_mul]
      exact Int.emod_eq_of_lt hb.1 (by omega)
    · rw [if_neg e, Int.zero_mul, Int.add_zero]
      by_cases e2 : k < i
      · rw [if_pos (by omega), if_pos (by omega), Int.zero_emod]
      · rw [if_neg (by omega), if_neg (by omega)]
        exact Int.emod_eq_of_lt hb.1 (by omega)
theorem unit_apT {p : Int} {c d i : Nat} {t : List (List Int)} (ok : ApOk p c (unitL d i) t) (hi : i < d) : apT p c (unitL d i) t = t.getD i [] := by
  have hil : i < (unitL d i).length := by rw [unitL_length]; omega
  have hri := ok.row hil
  have hl : (apT p c (unitL d i) t).length = c := apTo_length ok (Nat.le_refl _)
  refine List.ext_getElem (by rw [hl]; have := hri.1; omega) fun q h1 h2 => ?_
  have hq : q < c := by omega
  have := unit_apTo ok hi d (Nat.le_refl _) q hq
  rw [if_neg (by omega)] at this
  rw [← getD_of_lt 0 h1, ← getD_of_lt 0 h2, ← this]
  simp only [apT, unitL_length]

/-- A family's map leads as its tables say. -/
theorem led_of {p2 : Int} {n c2 : Nat} {dv2 mv2 fv : Value} {ds2 : List Int} {ms2 fs : List (List (List Int))} {vs : List Int} {w : World} (h2 : Cx 0 w dv2 mv2 ds2 ms2) (hf : L3 0 w fv fs) (hcy : IsCx p2 ds2 ms2) (hn : n < fs.length) (hnb : n ≤ 100) (hc2 : dimZ ds2 (n : Int) = (c2 : Int)) (ok : ApOk p2 c2 vs (fs.getD n [])) (hmf : fs.length ≤ 1048576) (hmv : vs.length ≤ 1048576) :
    Led w (.agg #[.int .i64 p2, dv2, mv2, .int .i64 0, fv]) (n : Int) vs (n : Int) (apT p2 c2 vs (fs.getD n [])) := fun W vv hb hv => by
  have h0 : (n : Int) + 0 = (n : Int) := Int.add_zero _
  have := lead_any p2 0 n c2 dv2 mv2 fv vv ds2 ms2 fs vs W (h2.below hb) (hf.below hb) hv hcy hn hnb (by omega) (by rw [h0]; exact hc2) ok hmf hmv
  rwa [h0] at this
theorem along_any (f : Int) (ad : Option Addr) (n c : Nat) (w : World) : Calls Try.prog 128 #[.int .i64 f, .slice ad n c] w (BR (.agg #[.int .i64 f, .slice ad n c]) w) := by
  have HRES : Hid (Try.f128.results = #[.cell 4 129]) := Lib.hid (by kernel_rfl)
  go_enter Try.func128, Try.ntmps128
  go_wp2
  refine bodyPost_ret (v := .agg #[.int .i64 f, .slice ad n c]) ?_ rfl ⟨rfl, ?_⟩
  · simp only [results, HRES.out]
    go_simp
  · first | exact below_alloc1 _ _ | exact (((Below.refl _ _).alloc (Nat.le_refl _) _).setCell (Nat.le_refl _) _).setCell (Nat.le_refl _) _

/-- The sum of a family and k times another one. -/
def afZ (p k : Int) (fs gs : List (List (List Int))) (n i q : Nat) : Int := (((fs.getD n []).getD i []).getD q 0 + k * ((gs.getD n []).getD i []).getD q 0) % p
theorem famL_congr {m : Nat} {rs cs : Nat → Nat} {Z Z' : Nat → Nat → Nat → Int} (h : ∀ n, n < m → ∀ i, i < rs n → ∀ q, q < cs n → Z n i q = Z' n i q) : famL m rs cs Z = famL m rs cs Z' := by
  unfold famL
  refine List.map_congr_left fun n hn => ?_
  unfold tableOf
  refine List.map_congr_left fun i hi => List.map_congr_left fun q hq => ?_
  exact h n (List.mem_range.1 hn) i (List.mem_range.1 hi) q (List.mem_range.1 hq)
theorem fam_row {p s : Int} {ds ds2 : List Int} {fs : List (List (List Int))} (hF : FamOk p ds ds2 s fs) {n i : Nat} (hn : n < ds.length) (hi : i < rsF ds n) (hds : 0 ≤ ds.getD n 0) (hc0 : 0 ≤ dimZ ds2 ((n : Int) + s)) :
    n < fs.length ∧ TabOk p (rsF ds n : Int) (csF ds2 s n : Int) (fs.getD n []) ∧ i < (fs.getD n []).length ∧ RowOk p (csF ds2 s n : Int) ((fs.getD n []).getD i []) := by
  have hl : n < fs.length := by have := hF.1; omega
  have e1 : (rsF ds n : Int) = ds.getD n 0 := by simp only [rsF]; omega
  have e2 : (csF ds2 s n : Int) = dimZ ds2 ((n : Int) + s) := by simp only [csF]; omega
  have ht := hF.2 n hl
  rw [← e1, ← e2] at ht
  have hil : i < (fs.getD n []).length := by have := ht.1; omega
  refine ⟨hl, ht, hil, ?_⟩
  rw [getD_of_lt _ hil]
  exact ht.2 _ (List.getElem_mem hil)
theorem chain_of {p : Int} {n i : Nat} {dv2 mv2 fv : Value} {ds : List Int} {ms : List (List (List Int))} {ds2 : List Int} {ms2 fs : List (List (List Int))} {w : World} (h2 : Cx 0 w dv2 mv2 ds2 ms2) (hf : L3 0 w fv fs) (hcx : IsCx p ds ms) (hcy : IsCx p ds2 ms2) (hF : FamOk p ds ds2 0 fs) (hn : n < ds.length) (hi : i < rsF ds n) :
    Led w (.agg #[.int .i64 p, dv2, mv2, .int .i64 0, fv]) (n : Int) (unitL (rsF ds n) i) (n : Int) ((fs.getD n []).getD i []) := by
  have hl6 := hcx.1.len1
  have hz := dimZ_8 hcy ((n : Int) + 0)
  obtain ⟨h1, h3, h4, h5⟩ := fam_row hF hn hi (hcx.1.dim n).1 hz.1
  have ok := unit_apOk (i := i) hcx.1.prime (cn := csF ds2 0 n) rfl h3
  have hd := hcx.1.dim n
  have := led_of (n := n) (c2 := csF ds2 0 n) h2 hf hcy h1 (by omega) (by have h0 : (n : Int) + 0 = (n : Int) := Int.add_zero _; simp only [csF]; rw [h0] at hz ⊢; omega) ok (by have := hF.1; omega) (by rw [unitL_length]; simp only [rsF]; omega)
  rwa [unit_apT ok hi] at this
theorem fam_vec {p : Int} {n i : Nat} {ds : List Int} {ms : List (List (List Int))} {ds2 : List Int} {ms2 fs : List (List (List Int))} (hcx : IsCx p ds ms) (hcy : IsCx p ds2 ms2) (hF : FamOk p ds ds2 0 fs) (hn : n < ds.length) (hi : i < rsF ds n) :
    ((fs.getD n []).getD i []).length = csF ds2 0 n ∧ ∀ y ∈ (fs.getD n []).getD i [], 0 ≤ y ∧ y ≤ 6 := by
  obtain ⟨_, _, _, h5⟩ := fam_row hF hn hi (hcx.1.dim n).1 (dimZ_8 hcy ((n : Int) + 0)).1
  have hp := hcx.1.prime.hi
  refine ⟨by have := h5.1; omega, fun y hy => ?_⟩
  have := h5.2 y hy
  omega
theorem paths2_any (p k : Int) (bp ba bb : Nat) (dv mv dv2 mv2 fv gv : Value) (ds : List Int) (ms : List (List (List Int))) (ds2 : List Int) (ms2 : List (List (List Int))) (fs gs : List (List (List Int))) (w : World) (h : Cx 0 w dv mv ds ms) (h2 : Cx 0 w dv2 mv2 ds2 ms2) (hf : L3 0 w fv fs) (hg : L3 0 w gv gs) (hcx : IsCx p ds ms) (hcy : IsCx p ds2 ms2) (hof : FamOk p ds ds2 0 fs) (hog : FamOk p ds ds2 0 gs) (hk : 0 ≤ k ∧ k ≤ p - 1)
    (c0 : w.cell? ⟨bp, 0, none⟩ = some (.int .i64 1)) (c1 : w.cell? ⟨bp, 1, none⟩ = some (.slice (some ⟨ba, 0, none⟩) 1 1)) (c2 : w.cell? ⟨bp, 2, none⟩ = some (.int .i64 k)) (c3 : w.cell? ⟨bp, 3, none⟩ = some (.slice (some ⟨bb, 0, none⟩) 1 1))
    (ha : w.cell? ⟨ba, 0, none⟩ = some (.func (.func 122) #[.agg #[.int .i64 p, dv2, mv2, .int .i64 0, fv]] #[])) (hb : w.cell? ⟨bb, 0, none⟩ = some (.func (.func 122) #[.agg #[.int .i64 p, dv2, mv2, .int .i64 0, gv]] #[])) :
    Calls Try.prog 127 #[.agg #[.int .i64 p, dv, mv], .agg #[.int .i64 p, dv2, mv2], .int .i64 0, .slice (some ⟨bp, 0, none⟩) 2 2] w (Fam3R (famL ds.length (rsF ds) (csF ds2 0) (afZ p k fs gs)) w) := by
  have hp7 := hcx.1.prime.hi
  have := sumOfPaths_any p p 0 2 bp 2 (fun j => if j = 0 then 1 else k) (fun j => if j = 0 then [.agg #[.int .i64 p, dv2, mv2, .int .i64 0, fv]] else [.agg #[.int .i64 p, dv2, mv2, .int .i64 0, gv]]) (fun n i j => if j = 0 then (fs.getD n []).getD i [] else (gs.getD n []).getD i []) dv mv dv2 mv2 ds ms ds2 ms2 w h h2 hcx hcy (by omega) ?_ ?_ (by omega) ?_ ?_
  · refine this.mono ?_
    rintro e w' ⟨u, rfl, hu, hb'⟩
    refine ⟨u, rfl, ?_, hb'⟩
    rwa [famL_congr (Z' := afZ p k fs gs)] at hu
    intro n _ i _ q _
    simp [pS, addMod, afZ]
  · intro j hj
    by_cases e : j = 0
    · subst e
      refine ⟨_, c0, c1, ⟨ba, 0, 1, rfl, fun q hq => ?_⟩, by simp, by simp⟩
      obtain rfl : q = 0 := by simpa using hq
      exact ha
    · obtain rfl : j = 1 := by omega
      refine ⟨_, c2, c3, ⟨bb, 0, 1, rfl, fun q hq => ?_⟩, by simp, by simp⟩
      obtain rfl : q = 0 := by simpa using hq
      exact hb
  · intro j _
    show 0 ≤ (if j = 0 then (1 : Int) else k) ∧ (if j = 0 then (1 : Int) else k) ≤ 6
    split <;> omega
  · intro n hn i hi j _
    by_cases e : j = 0
    · subst e
      exact ⟨_, Chain.cons (chain_of h2 hf hcx hcy hof hn hi) (Chain.nil _ _)⟩
    · simp only [if_neg e]
      exact ⟨_, Chain.cons (chain_of h2 hg hcx hcy hog hn hi) (Chain.nil _ _)⟩
  · intro n hn i hi j _
    by_cases e : j = 0
    · subst e
      exact fam_vec hcx hcy hof hn hi
    · simp only [if_neg e]
      exact fam_vec hcx hcy hog hn hi

end Go.Proofs.Ytpdkfidmmjlmnab
