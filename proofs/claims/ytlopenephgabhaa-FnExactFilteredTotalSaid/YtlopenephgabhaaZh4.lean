/-
  Texts that ProofFtl needs, part 4.
-/
import Derived.Test.YtlopenephgabhaaZh3
import Derived.Lib.AppendZerosOnto
import Derived.Deep.RegionHeld3
import Derived.Maps.AppendAt
import Derived.Laws.EntriesVeiled
import Derived.Deep.Cut
import Derived.Deep.CutRange
import Derived.StillTailTactics
namespace Go.Proofs.Ytlopenephgabhaa
open Go.RowKit

def cdim (ds : List (List Int)) (c : Nat × Nat) : Nat := ((ds.getD c.1 []).getD c.2 0).toNat
def dgn (ds : List (List Int)) (n : Nat) : List (Nat × Nat) := (cellsTo ds ds.length).filter fun c => c.1 + c.2 == n
def tbl (x : List (List (List (List Int)))) (c : Nat × Nat) : List (List Int) := (x.getD c.1 []).getD c.2 []
/-- The part in the cell c of the differential of the basis vector r of the cell f. -/
def prt (ds : List (List Int)) (ac dn : List (List (List (List Int)))) (f : Nat × Nat) (r : Nat) (c : Nat × Nat) : List Int :=
  if c.1 + 1 = f.1 ∧ c.2 = f.2 then (tbl ac f).getD r [] else if c.1 = f.1 ∧ c.2 + 1 = f.2 then (tbl dn f).getD r [] else List.replicate (cdim ds c) 0
def trow (ds : List (List Int)) (ac dn : List (List (List (List Int)))) (n : Nat) (f : Nat × Nat) (r : Nat) : List Int := (dgn ds n).flatMap (prt ds ac dn f r)
def ttab (ds : List (List Int)) (ac dn : List (List (List (List Int)))) (n : Nat) : List (List Int) := (dgn ds (n + 1)).flatMap fun f => (List.range (cdim ds f)).map fun r => trow ds ac dn n f r
def tdim (ds : List (List Int)) (n : Nat) : Nat := ((dgn ds n).map (cdim ds)).sum
/-- The sum of the first d products. -/
def mts (v : List Int) (t : List (List Int)) (d j : Nat) : Int := ((List.range d).map fun s => v.getD s 0 * (t.getD s []).getD j 0).sum

theorem mts_succ (v : List Int) (t : List (List Int)) (d j : Nat) : mts v t (d + 1) j = mts v t d j + v.getD d 0 * (t.getD d []).getD j 0 := by
  simp [mts, List.range_succ]
theorem apTo_mts {p : Int} {c : Nat} {v : List Int} {t : List (List Int)} (h : ApOk p c v t) {q : Nat} (hq : q < c) : ∀ {k : Nat}, k ≤ v.length → (apTo p c v t k).getD q 0 = mts v t k q % p := by
  intro k
  induction k with
  | zero => intro _; simp [apTo, mts, List.getD, hq]
  | succ k ih =>
    intro hk
    rw [apTo_at h (by omega) hq, ih (by omega), mts_succ, Int.emod_add_emod]
theorem apT_mts {p : Int} {c : Nat} {v : List Int} {t : List (List Int)} (h : ApOk p c v t) {q : Nat} (hq : q < c) : (apT p c v t).getD q 0 = mts v t v.length q % p := apTo_mts h hq (Nat.le_refl _)
theorem apT_null {p : Int} {c : Nat} {v : List Int} {t : List (List Int)} (h : ApOk p c v t) : (∀ x ∈ apT p c v t, x = 0) ↔ ∀ q, q < c → mts v t v.length q % p = 0 := by
  have hl := apT_length h
  constructor
  · intro hz q hq
    rw [← apT_mts h hq, getD_of_lt _ (by omega)]
    exact hz _ (List.getElem_mem _)
  · intro hz x hx
    obtain ⟨q, hq, rfl⟩ := List.getElem_of_mem hx
    have := hz q (by omega)
    rwa [← apT_mts h (by omega), getD_of_lt _ hq] at this

theorem mem_cells {ds : List (List Int)} {m : Nat} {c : Nat × Nat} : c ∈ cellsTo ds m ↔ c.1 < m ∧ c.2 < (ds.getD c.1 []).length := by
  constructor
  · exact cells_fst
  · rintro ⟨h1, h2⟩
    unfold cellsTo rowCells
    simp only [List.mem_flatMap, List.mem_range, List.mem_map]
    exact ⟨c.1, h1, c.2, h2, rfl⟩
theorem mem_dgn {ds : List (List Int)} {n : Nat} {c : Nat × Nat} : c ∈ dgn ds n ↔ (c.1 < ds.length ∧ c.2 < (ds.getD c.1 []).length) ∧ c.1 + c.2 = n := by
  unfold dgn
  rw [List.mem_filter, mem_cells]
  simp
theorem cells_nodup (ds : List (List Int)) : ∀ m, (cellsTo ds m).Nodup
  | 0 => by simp [cellsTo]
  | m + 1 => by
    rw [cellsTo_succ]
    refine List.nodup_append.2 ⟨cells_nodup ds m, ?_, ?_⟩
    · unfold rowCells
      refine List.pairwise_map.2 ((List.nodup_range).imp ?_)
      intro a b hab e
      exact hab (by cases e; rfl)
    · intro a ha b hb e
      have h1 := (mem_cells.1 ha).1
      unfold rowCells at hb
      obtain ⟨j, _, rfl⟩ := List.mem_map.1 hb
      rw [e] at h1
      exact absurd h1 (Nat.lt_irrefl _)
theorem dgn_nodup (ds : List (List Int)) (n : Nat) : (dgn ds n).Nodup := (cells_nodup ds _).filter _

theorem sum_flat {α β : Type} (f : α → List β) (g : β → Int) : ∀ L : List α, ((L.flatMap f).map g).sum = (L.map fun c => ((f c).map g).sum).sum
  | [] => rfl
  | c :: L => by simp [sum_flat f g L]
theorem sum_zero {α : Type} (f : α → Int) : ∀ L : List α, (∀ c ∈ L, f c = 0) → (L.map f).sum = 0
  | [], _ => rfl
  | c :: L, h => by
    rw [List.map_cons, List.sum_cons, h c (by simp), sum_zero f L (fun d hd => h d (by simp [hd]))]
    rfl
/-- A sum with one place that counts. -/
theorem sum_one (f : Nat × Nat → Int) (a : Nat × Nat) : ∀ L : List (Nat × Nat), L.Nodup → (∀ c ∈ L, c ≠ a → f c = 0) → (L.map f).sum = if a ∈ L then f a else 0
  | [], _, _ => by simp
  | c :: L, hn, h => by
    rw [List.map_cons, List.sum_cons]
    have hn' := List.nodup_cons.1 hn
    by_cases e : c = a
    · subst e
      rw [sum_zero f L (fun d hd => h d (by simp [hd]) (fun e => hn'.1 (e ▸ hd)))]
      simp
    · rw [h c (by simp) e, sum_one f a L hn'.2 (fun d hd => h d (by simp [hd]))]
      by_cases ha : a ∈ L
      · simp [ha]
      · simp [ha, Ne.symm e]
/-- .. with two. -/
theorem sum_two (f : Nat × Nat → Int) {a b : Nat × Nat} (hab : a ≠ b) : ∀ L : List (Nat × Nat), L.Nodup → (∀ c ∈ L, c ≠ a → c ≠ b → f c = 0) → (L.map f).sum = (if a ∈ L then f a else 0) + (if b ∈ L then f b else 0)
  | [], _, _ => by simp
  | c :: L, hn, h => by
    rw [List.map_cons, List.sum_cons]
    have hn' := List.nodup_cons.1 hn
    by_cases e : c = a
    · subst e
      rw [sum_one f b L hn'.2 (fun d hd hb => h d (by simp [hd]) (fun e => hn'.1 (e ▸ hd)) hb)]
      simp [Ne.symm hab]
    · by_cases e2 : c = b
      · subst e2
        rw [sum_one f a L hn'.2 (fun d hd ha => h d (by simp [hd]) ha (fun e => hn'.1 (e ▸ hd)))]
        have : a ≠ c := hab
        simp [this]
        by_cases ha : a ∈ L <;> simp [ha] <;> omega
      · rw [h c (by simp) e e2, sum_two f hab L hn'.2 (fun d hd => h d (by simp [hd]))]
        simp [Ne.symm e, Ne.symm e2]

theorem getD_appL {xs ys : List Int} {j : Nat} (h : j < xs.length) : (xs ++ ys).getD j 0 = xs.getD j 0 := by simp [List.getD, List.getElem?_append_left h]
theorem getD_appR {xs ys : List Int} {j : Nat} (h : xs.length ≤ j) : (xs ++ ys).getD j 0 = ys.getD (j - xs.length) 0 := by simp [List.getD, List.getElem?_append_right h]
/-- Sums over rows in blocks are 0 where those of the blocks are. -/
theorem blocks_null {α : Type} {p : Int} {d : α → Nat} (K : List (Int × (α → List Int))) : ∀ L : List α, (∀ k ∈ K, ∀ c ∈ L, (k.2 c).length = d c) →
    ((∀ j, j < (L.map d).sum → (K.map fun k => k.1 * (L.flatMap k.2).getD j 0).sum % p = 0) ↔ ∀ c ∈ L, ∀ t, t < d c → (K.map fun k => k.1 * (k.2 c).getD t 0).sum % p = 0)
  | [], _ => by simp
  | c :: L, h => by
    have ih := blocks_null (p := p) K L (fun k hk e he => h k hk e (by simp [he]))
    have hl : ∀ j, j < d c → (K.map fun k => k.1 * ((c :: L).flatMap k.2).getD j 0) = K.map fun k => k.1 * (k.2 c).getD j 0 := fun j hj => List.map_congr_left (fun k hk => by
      rw [List.flatMap_cons, getD_appL (by rw [h k hk c (by simp)]; exact hj)])
    have hr : ∀ j, d c ≤ j → (K.map fun k => k.1 * ((c :: L).flatMap k.2).getD j 0) = K.map fun k => k.1 * (L.flatMap k.2).getD (j - d c) 0 := fun j hj => List.map_congr_left (fun k hk => by
      rw [List.flatMap_cons, getD_appR (by rw [h k hk c (by simp)]; exact hj), h k hk c (by simp)])
    rw [List.map_cons, List.sum_cons]
    constructor
    · intro hz e he t ht
      rcases List.mem_cons.1 he with rfl | he
      · have := hz t (by omega)
        rwa [hl t ht] at this
      · exact (ih.1 (fun j hj => by have := hz (d c + j) (by omega); rwa [hr _ (by omega), Nat.add_sub_cancel_left] at this)) e he t ht
    · intro hz j hj
      by_cases hjc : j < d c
      · rw [hl j hjc]; exact hz c (by simp) j hjc
      · rw [hr j (by omega)]
        exact ih.2 (fun e he => hz e (by simp [he])) _ (by omega)

theorem zip_flat {α β γ : Type} (f : α → List β) (g : α → List γ) : ∀ L : List α, (∀ c ∈ L, (f c).length = (g c).length) → (L.flatMap f).zip (L.flatMap g) = L.flatMap fun c => (f c).zip (g c)
  | [], _ => rfl
  | c :: L, h => by
    rw [List.flatMap_cons, List.flatMap_cons, List.flatMap_cons, List.zip_append (h c (by simp)), zip_flat f g L (fun d hd => h d (by simp [hd]))]
theorem mts_zip {v : List Int} {t : List (List Int)} (h : v.length ≤ t.length) (j : Nat) : mts v t v.length j = ((v.zip t).map fun a => a.1 * a.2.getD j 0).sum := by
  unfold mts
  congr 1
  refine List.ext_getElem (by simp [List.length_zip]; omega) (fun i h1 h2 => ?_)
  simp at h1
  simp [h1, show i < t.length by omega]
section
variable {p : Int} {ds : List (List Int)} {ac dn : List (List (List (List Int)))}
theorem dcl_nat (ds : List (List Int)) (a b : Nat) : dcl ds a b = (ds.getD a []).getD b 0 := by
  unfold dcl
  rw [if_neg (by omega)]
  simp
theorem cdim_cast (hok : DclOk ds) {c : Nat × Nat} (h : c ∈ cellsTo ds ds.length) : ((cdim ds c : Nat) : Int) = dcl ds c.1 c.2 ∧ cdim ds c ≤ 4 := by
  obtain ⟨h1, h2⟩ := mem_cells.1 h
  have hm : (ds.getD c.1 []).getD c.2 0 ∈ ds.getD c.1 [] := by rw [getD_of_lt _ h2]; exact List.getElem_mem _
  have hr : ds.getD c.1 [] ∈ ds := by rw [getD_of_lt _ h1]; exact List.getElem_mem _
  have := (hok.col _ hr).2 _ hm
  rw [dcl_nat]
  unfold cdim
  omega
theorem cell_left (hok : DclOk ds) {a b : Nat} (h : (a + 1, b) ∈ cellsTo ds ds.length) : (a, b) ∈ cellsTo ds ds.length := by
  obtain ⟨h1, h2⟩ := mem_cells.1 h
  dsimp only at h1 h2
  refine mem_cells.2 ⟨show a < _ by omega, ?_⟩
  dsimp only
  rw [getD_of_lt _ h1] at h2
  rw [getD_of_lt _ (show a < ds.length by omega), (hok.col _ (List.getElem_mem _)).1]
  rwa [(hok.col _ (List.getElem_mem _)).1] at h2
theorem cell_low {a b : Nat} (h : (a, b + 1) ∈ cellsTo ds ds.length) : (a, b) ∈ cellsTo ds ds.length := by
  obtain ⟨h1, h2⟩ := mem_cells.1 h
  exact mem_cells.2 ⟨h1, by dsimp only at h2 ⊢; omega⟩

theorem prt_a {f c : Nat × Nat} (r : Nat) (h : c.1 + 1 = f.1 ∧ c.2 = f.2) : prt ds ac dn f r c = (tbl ac f).getD r [] := if_pos h
theorem prt_d {f c : Nat × Nat} (r : Nat) (h : c.1 = f.1 ∧ c.2 + 1 = f.2) : prt ds ac dn f r c = (tbl dn f).getD r [] := by
  unfold prt
  rw [if_neg (by omega), if_pos h]
theorem prt_o {f c : Nat × Nat} (r : Nat) (h : ¬ (c.1 + 1 = f.1 ∧ c.2 = f.2)) (h2 : ¬ (c.1 = f.1 ∧ c.2 + 1 = f.2)) : prt ds ac dn f r c = List.replicate (cdim ds c) 0 := by
  unfold prt
  rw [if_neg h, if_neg h2]
theorem rep_getD (n j : Nat) : (List.replicate n (0 : Int)).getD j 0 = 0 := by
  by_cases h : j < n
  · simp [List.getD, h]
  · simp [List.getD, h]

/-- A part is a row of numbers modulo p, as long as its cell says. -/
theorem prt_ok (hp : IsP p) (hok : DclOk ds) (ht : TbsOk p ds ac dn) {f c : Nat × Nat} (hf : f ∈ cellsTo ds ds.length) (hc : c ∈ cellsTo ds ds.length) {r : Nat} (hr : r < cdim ds f) : RowOk p (cdim ds c) (prt ds ac dn f r c) := by
  have hp0 := hp.lo
  obtain ⟨ta, td⟩ := ht.tab f hf
  have hcf := (cdim_cast hok hf).1
  have hcc := (cdim_cast hok hc).1
  by_cases h1 : c.1 + 1 = f.1 ∧ c.2 = f.2
  · rw [prt_a r h1]
    have hl := ta.1
    have hr' : r < (tbl ac f).length := by unfold tbl; omega
    rw [getD_of_lt _ hr']
    have := ta.2 _ (List.getElem_mem hr')
    rwa [show ((f.1 : Int) - 1) = (c.1 : Int) by omega, ← h1.2, ← hcc] at this
  · by_cases h2 : c.1 = f.1 ∧ c.2 + 1 = f.2
    · rw [prt_d r h2]
      have hl := td.1
      have hr' : r < (tbl dn f).length := by unfold tbl; omega
      rw [getD_of_lt _ hr']
      have := td.2 _ (List.getElem_mem hr')
      rwa [show ((f.2 : Int) - 1) = (c.2 : Int) by omega, ← h2.1, ← hcc] at this
    · rw [prt_o r h1 h2]
      refine ⟨by simp, fun x hx => ?_⟩
      rw [List.eq_of_mem_replicate hx]
      omega
theorem trow_ok (hp : IsP p) (hok : DclOk ds) (ht : TbsOk p ds ac dn) {f : Nat × Nat} (hf : f ∈ cellsTo ds ds.length) {r : Nat} (hr : r < cdim ds f) (n : Nat) : RowOk p (tdim ds n) (trow ds ac dn n f r) := by
  have hpr : ∀ c ∈ dgn ds n, RowOk p (cdim ds c) (prt ds ac dn f r c) := fun c hc => prt_ok hp hok ht hf (mem_cells.2 (mem_dgn.1 hc).1) hr
  refine ⟨?_, fun x hx => ?_⟩
  · unfold trow tdim
    rw [List.length_flatMap, List.map_congr_left (g := cdim ds) (fun c hc => by have := (hpr c hc).1; omega)]
  · unfold trow at hx
    obtain ⟨c, hc, hx⟩ := List.mem_flatMap.1 hx
    exact (hpr c hc).2 x hx
theorem ttab_mem {n : Nat} {x : List Int} (h : x ∈ ttab ds ac dn n) : ∃ f r, f ∈ dgn ds (n + 1) ∧ r < cdim ds f ∧ x = trow ds ac dn n f r := by
  unfold ttab at h
  obtain ⟨f, hf, h⟩ := List.mem_flatMap.1 h
  obtain ⟨r, hr, rfl⟩ := List.mem_map.1 h
  exact ⟨f, r, hf, List.mem_range.1 hr, rfl⟩
theorem ttab_ok (hp : IsP p) (hok : DclOk ds) (ht : TbsOk p ds ac dn) (n : Nat) : TabOk p (tdim ds (n + 1)) (tdim ds n) (ttab ds ac dn n) := by
  refine ⟨?_, fun x hx => ?_⟩
  · unfold ttab tdim
    rw [List.length_flatMap, List.map_congr_left (g := cdim ds) (fun c _ => by simp)]
  · obtain ⟨f, r, hf, hr, rfl⟩ := ttab_mem hx
    exact trow_ok hp hok ht (mem_cells.2 (mem_dgn.1 hf).1) hr n
theorem tot_ap (hp : IsP p) (hok : DclOk ds) (ht : TbsOk p ds ac dn) {f : Nat × Nat} (hf : f ∈ cellsTo ds ds.length) {r : Nat} (hr : r < cdim ds f) (q : Nat) : ApOk p (tdim ds q) (trow ds ac dn (q + 1) f r) (ttab ds ac dn q) := by
  have h1 := trow_ok hp hok ht hf hr (q + 1)
  have h2 := ttab_ok hp hok ht q
  exact ⟨hp, by have e1 := h1.1; have e2 := h2.1; omega, h1.2, h2.2⟩

/-- What the way through the cell c adds at the place t of the cell e. -/
def thr (ds : List (List Int)) (ac dn : List (List (List (List Int)))) (f : Nat × Nat) (r : Nat) (e : Nat × Nat) (t : Nat) (c : Nat × Nat) : Int :=
  ((List.range (cdim ds c)).map fun s => (prt ds ac dn f r c).getD s 0 * (prt ds ac dn c s e).getD t 0).sum

theorem tot_null (hp : IsP p) (hok : DclOk ds) (ht : TbsOk p ds ac dn) {f : Nat × Nat} (hf : f ∈ cellsTo ds ds.length) {r : Nat} (hr : r < cdim ds f) (q : Nat) :
    (∀ x ∈ apT p (tdim ds q) (trow ds ac dn (q + 1) f r) (ttab ds ac dn q), x = 0) ↔ ∀ e ∈ dgn ds q, ∀ t, t < cdim ds e → ((dgn ds (q + 1)).map (thr ds ac dn f r e t)).sum % p = 0 := by
  have hpr : ∀ c ∈ dgn ds (q + 1), RowOk p (cdim ds c) (prt ds ac dn f r c) := fun c hc => prt_ok hp hok ht hf (mem_cells.2 (mem_dgn.1 hc).1) hr
  have hap := tot_ap hp hok ht hf hr q
  rw [apT_null hap]
  have hK : ∀ j, mts (trow ds ac dn (q + 1) f r) (ttab ds ac dn q) (trow ds ac dn (q + 1) f r).length j =
      (((dgn ds (q + 1)).flatMap fun c => (List.range (cdim ds c)).map fun s => ((prt ds ac dn f r c).getD s 0, prt ds ac dn c s)).map fun k => k.1 * ((dgn ds q).flatMap k.2).getD j 0).sum := fun j => by
    rw [mts_zip hap.len]
    unfold trow ttab
    rw [zip_flat _ _ _ (fun c hc => by have := (hpr c hc).1; simp; omega), sum_flat, sum_flat]
    congr 1
    refine List.map_congr_left (fun c hc => ?_)
    congr 1
    have hl := (hpr c hc).1
    refine List.ext_getElem (by simp; omega) (fun i h1 h2 => ?_)
    simp at h1 h2
    simp [trow, show i < (prt ds ac dn f r c).length by omega]
  have hlen : ∀ k ∈ ((dgn ds (q + 1)).flatMap fun c => (List.range (cdim ds c)).map fun s => ((prt ds ac dn f r c).getD s 0, prt ds ac dn c s)), ∀ e ∈ dgn ds q, (k.2 e).length = cdim ds e := fun k hk e he => by
    obtain ⟨c, hc, hk⟩ := List.mem_flatMap.1 hk
    obtain ⟨s, hs, rfl⟩ := List.mem_map.1 hk
    have := (prt_ok hp hok ht (mem_cells.2 (mem_dgn.1 hc).1) (mem_cells.2 (mem_dgn.1 he).1) (List.mem_range.1 hs)).1
    dsimp only
    omega
  rw [show (∀ j, j < tdim ds q → mts (trow ds ac dn (q + 1) f r) (ttab ds ac dn q) (trow ds ac dn (q + 1) f r).length j % p = 0) ↔
      (∀ j, j < ((dgn ds q).map (cdim ds)).sum → (((dgn ds (q + 1)).flatMap fun c => (List.range (cdim ds c)).map fun s => ((prt ds ac dn f r c).getD s 0, prt ds ac dn c s)).map fun k => k.1 * ((dgn ds q).flatMap k.2).getD j 0).sum % p = 0) from by
    constructor
    · intro h j hj; rw [← hK j]; exact h j hj
    · intro h j hj; rw [hK j]; exact h j hj]
  rw [blocks_null _ _ hlen]
  have he : ∀ e t, (((dgn ds (q + 1)).flatMap fun c => (List.range (cdim ds c)).map fun s => ((prt ds ac dn f r c).getD s 0, prt ds ac dn c s)).map fun k => k.1 * (k.2 e).getD t 0).sum = ((dgn ds (q + 1)).map (thr ds ac dn f r e t)).sum := fun e t => by
    rw [sum_flat]
    congr 1
    refine List.map_congr_left (fun c _ => ?_)
    unfold thr
    rw [List.map_map]
    rfl
  constructor
  · intro h e hem t ht'
    rw [← he]; exact h e hem t ht'
  · intro h e hem t ht'
    rw [he]; exact h e hem t ht'

theorem thr_o {f c e : Nat × Nat} {r t : Nat} (h : ∀ s, (prt ds ac dn f r c).getD s 0 * (prt ds ac dn c s e).getD t 0 = 0) : thr ds ac dn f r e t c = 0 := sum_zero _ _ (fun s _ => h s)
/-- The ways are two. -/
theorem ways {f e : Nat × Nat} {q r t : Nat} (hf : f.1 + f.2 = q + 2) : ((dgn ds (q + 1)).map (thr ds ac dn f r e t)).sum =
    (if (f.1 - 1, f.2) ∈ dgn ds (q + 1) then thr ds ac dn f r e t (f.1 - 1, f.2) else 0) + (if (f.1, f.2 - 1) ∈ dgn ds (q + 1) then thr ds ac dn f r e t (f.1, f.2 - 1) else 0) := by
  refine sum_two (thr ds ac dn f r e t) (fun h => ?_) _ (dgn_nodup ds _) (fun c _ ha hb => thr_o (fun s => ?_))
  · injection h with h1 h2
    omega
  · rw [prt_o r (fun h => ha (by ext <;> simp <;> omega)) (fun h => hb (by ext <;> simp <;> omega)), rep_getD, Int.zero_mul]

/-- When the squares of the total are 0. -/
structure CndOk (p : Int) (ds : List (List Int)) (ac dn : List (List (List (List Int)))) : Prop where
  aa : ∀ a j r t, (a + 2, j) ∈ cellsTo ds ds.length → r < cdim ds (a + 2, j) → t < cdim ds (a, j) → mts ((tbl ac (a + 2, j)).getD r []) (tbl ac (a + 1, j)) (cdim ds (a + 1, j)) t % p = 0
  dd : ∀ i b r t, (i, b + 2) ∈ cellsTo ds ds.length → r < cdim ds (i, b + 2) → t < cdim ds (i, b) → mts ((tbl dn (i, b + 2)).getD r []) (tbl dn (i, b + 1)) (cdim ds (i, b + 1)) t % p = 0
  ad : ∀ a b r t, (a + 1, b + 1) ∈ cellsTo ds ds.length → r < cdim ds (a + 1, b + 1) → t < cdim ds (a, b) →
    (mts ((tbl ac (a + 1, b + 1)).getD r []) (tbl dn (a, b + 1)) (cdim ds (a, b + 1)) t + mts ((tbl dn (a + 1, b + 1)).getD r []) (tbl ac (a + 1, b)) (cdim ds (a + 1, b)) t) % p = 0

theorem way_aa {a j r t : Nat} (hok : DclOk ds) (hc : (a + 2, j) ∈ cellsTo ds ds.length) : ((dgn ds (a + j + 1)).map (thr ds ac dn (a + 2, j) r (a, j) t)).sum = mts ((tbl ac (a + 2, j)).getD r []) (tbl ac (a + 1, j)) (cdim ds (a + 1, j)) t := by
  have hm : (a + 1, j) ∈ dgn ds (a + j + 1) := mem_dgn.2 ⟨mem_cells.1 (cell_left hok hc), by dsimp only; omega⟩
  rw [ways (by dsimp only; omega)]
  dsimp only
  rw [show a + 2 - 1 = a + 1 by omega, if_pos hm]
  have h2 : (if (a + 2, j - 1) ∈ dgn ds (a + j + 1) then thr ds ac dn (a + 2, j) r (a, j) t (a + 2, j - 1) else 0) = 0 := by
    split
    · refine thr_o (fun s => ?_)
      rw [prt_o (f := (a + 2, j - 1)) (c := (a, j)) s (by dsimp only; omega) (by dsimp only; omega), rep_getD, Int.mul_zero]
    · rfl
  rw [h2, Int.add_zero]
  unfold thr mts
  congr 1
  refine List.map_congr_left (fun s _ => ?_)
  rw [prt_a r (by dsimp only; omega), prt_a s (by dsimp only; omega)]
theorem way_dd {i b r t : Nat} (hc : (i, b + 2) ∈ cellsTo ds ds.length) : ((dgn ds (i + b + 1)).map (thr ds ac dn (i, b + 2) r (i, b) t)).sum = mts ((tbl dn (i, b + 2)).getD r []) (tbl dn (i, b + 1)) (cdim ds (i, b + 1)) t := by
  have hm : (i, b + 1) ∈ dgn ds (i + b + 1) := mem_dgn.2 ⟨mem_cells.1 (cell_low hc), by dsimp only; omega⟩
  rw [ways (by dsimp only; omega)]
  dsimp only
  rw [show b + 2 - 1 = b + 1 by omega, if_pos hm]
  have h2 : (if (i - 1, b + 2) ∈ dgn ds (i + b + 1) then thr ds ac dn (i, b + 2) r (i, b) t (i - 1, b + 2) else 0) = 0 := by
    split
    · refine thr_o (fun s => ?_)
      rw [prt_o (f := (i - 1, b + 2)) (c := (i, b)) s (by dsimp only; omega) (by dsimp only; omega), rep_getD, Int.mul_zero]
    · rfl
  rw [h2, Int.zero_add]
  unfold thr mts
  congr 1
  refine List.map_congr_left (fun s _ => ?_)
  rw [prt_d r (by dsimp only; omega), prt_d s (by dsimp only; omega)]
theorem way_ad {a b r t : Nat} (hok : DclOk ds) (hc : (a + 1, b + 1) ∈ cellsTo ds ds.length) : ((dgn ds (a + b + 1)).map (thr ds ac dn (a + 1, b + 1) r (a, b) t)).sum =
    mts ((tbl ac (a + 1, b + 1)).getD r []) (tbl dn (a, b + 1)) (cdim ds (a, b + 1)) t + mts ((tbl dn (a + 1, b + 1)).getD r []) (tbl ac (a + 1, b)) (cdim ds (a + 1, b)) t := by
  have hm1 : (a, b + 1) ∈ dgn ds (a + b + 1) := mem_dgn.2 ⟨mem_cells.1 (cell_left hok hc), by dsimp only; omega⟩
  have hm2 : (a + 1, b) ∈ dgn ds (a + b + 1) := mem_dgn.2 ⟨mem_cells.1 (cell_low hc), by dsimp only; omega⟩
  rw [ways (by dsimp only; omega)]
  dsimp only
  rw [Nat.add_sub_cancel, Nat.add_sub_cancel, if_pos hm1, if_pos hm2]
  unfold thr mts
  refine congr (congrArg HAdd.hAdd (congrArg List.sum (List.map_congr_left fun s _ => ?_))) (congrArg List.sum (List.map_congr_left fun s _ => ?_))
  · rw [prt_a r (by dsimp only; omega), prt_d s (by dsimp only; omega)]
  · rw [prt_d r (by dsimp only; omega), prt_a s (by dsimp only; omega)]

/-- **The total's squares are 0 where the cells say so.** -/
theorem square_iff (hp : IsP p) (hok : DclOk ds) (ht : TbsOk p ds ac dn) :
    (∀ q f r, f ∈ dgn ds (q + 2) → r < cdim ds f → ∀ x ∈ apT p (tdim ds q) (trow ds ac dn (q + 1) f r) (ttab ds ac dn q), x = 0) ↔ CndOk p ds ac dn := by
  constructor
  · intro h
    have h' : ∀ q f r, f ∈ dgn ds (q + 2) → r < cdim ds f → ∀ e ∈ dgn ds q, ∀ t, t < cdim ds e → ((dgn ds (q + 1)).map (thr ds ac dn f r e t)).sum % p = 0 := fun q f r hf hr =>
      (tot_null hp hok ht (mem_cells.2 (mem_dgn.1 hf).1) hr q).1 (h q f r hf hr)
    refine ⟨fun a j r t hc hr ht' => ?_, fun i b r t hc hr ht' => ?_, fun a b r t hc hr ht' => ?_⟩
    · rw [← way_aa (dn := dn) hok hc]
      exact h' _ _ r (mem_dgn.2 ⟨mem_cells.1 hc, by dsimp only; omega⟩) hr _ (mem_dgn.2 ⟨mem_cells.1 (cell_left hok (cell_left hok hc)), by dsimp only⟩) t ht'
    · rw [← way_dd (ac := ac) hc]
      exact h' _ _ r (mem_dgn.2 ⟨mem_cells.1 hc, by dsimp only; omega⟩) hr _ (mem_dgn.2 ⟨mem_cells.1 (cell_low (cell_low hc)), by dsimp only⟩) t ht'
    · rw [← way_ad hok hc]
      exact h' _ _ r (mem_dgn.2 ⟨mem_cells.1 hc, by dsimp only; omega⟩) hr _ (mem_dgn.2 ⟨mem_cells.1 (cell_low (cell_left hok hc)), by dsimp only⟩) t ht'
  · intro h q f r hf hr
    have hfc := mem_cells.2 (mem_dgn.1 hf).1
    refine (tot_null hp hok ht hfc hr q).2 (fun e he t ht' => ?_)
    obtain ⟨i, j⟩ := f
    obtain ⟨a, b⟩ := e
    have hs := (mem_dgn.1 hf).2
    have hse := (mem_dgn.1 he).2
    dsimp only at hs hse
    by_cases h1 : a + 2 = i
    · obtain rfl : j = b := by omega
      subst h1
      rw [← hse, way_aa hok hfc]
      exact h.aa a j r t hfc hr ht'
    · by_cases h2 : a + 1 = i
      · subst h2
        obtain rfl : j = b + 1 := by omega
        rw [← hse, way_ad hok hfc]
        exact h.ad a b r t hfc hr ht'
      · by_cases h3 : a = i
        · subst h3
          obtain rfl : j = b + 2 := by omega
          rw [← hse, way_dd hfc]
          exact h.dd a b r t hfc hr ht'
        · have h0 : ((dgn ds (q + 1)).map (thr ds ac dn (i, j) r (a, b) t)).sum = 0 := by
            rw [ways (by dsimp only; omega)]
            dsimp only
            have e1 : thr ds ac dn (i, j) r (a, b) t (i - 1, j) = 0 := thr_o (fun s => by
              rw [prt_o (f := (i - 1, j)) (c := (a, b)) s (by dsimp only; omega) (by dsimp only; omega), rep_getD, Int.mul_zero])
            have e2 : thr ds ac dn (i, j) r (a, b) t (i, j - 1) = 0 := thr_o (fun s => by
              rw [prt_o (f := (i, j - 1)) (c := (a, b)) s (by dsimp only; omega) (by dsimp only; omega), rep_getD, Int.mul_zero])
            rw [e1, e2]
            simp
          rw [h0]
          simp
end
end Go.Proofs.Ytlopenephgabhaa


namespace Go.Proofs.Ytlopenephgabhaa
open Go.RowKit Go.Shelf
attribute [local go_sem] Oper.semAt_some

def DgIn (ds : List (List Int)) (n : Nat) : Type := { c : Nat × Nat // c ∈ dgn ds n }
def dgV {ds : List (List Int)} {n : Nat} (x : DgIn ds n) : Value := .agg #[.int .i64 (x.1.1 : Int), .int .i64 (x.1.2 : Int)]
def onD (n : Nat) (c : Nat × Nat) : Bool := c.1 + c.2 == n
theorem dgn_eq (ds : List (List Int)) (n : Nat) : dgn ds n = (cellsTo ds ds.length).filter (onD n) := rfl

theorem filt_in {ds : List (List Int)} {n : Nat} (pre : List (CellIn ds)) (c : Nat × Nat) (h : c ∈ cellsTo ds ds.length) : ((pre ++ ([⟨c, h⟩] : List (CellIn ds))).map (·.1)).filter (onD n) = (pre.map (·.1)).filter (onD n) ++ if onD n c then [c] else [] := by
  rw [List.map_append, List.filter_append]
  refine congrArg _ ?_
  show List.filter (onD n) [c] = _
  by_cases h : onD n c <;> simp [h]
theorem yieldAt_wide {l0 m m2 : Nat} {P : Program} {l : Nat} {args : Array Value} {W : World} {R : Ending → World → Prop} (h : YieldAt Fence.wide m P l args W R) : YieldAt (Fence.wide.inRound l0) m2 P l args W R := by
  obtain ⟨fn, tmps, assign, body, hy, hR⟩ := h
  exact ⟨fn, tmps, assign, body, hy, trivial, fun c cs _ => hR.2 c cs (fun d h => by cases h)⟩

set_option maxRecDepth 100000 in
theorem diagonalOf_any (p n : Int) (dv av vv : Value) (w : World) :
    Calls Try.prog 120 #[.agg #[.int .i64 p, dv, av, vv], .int .i64 n] w fun e w' => e = .returned (.func (.func 131) #[] #[.pointer (some ⟨w.heap.size, 0, none⟩), .pointer (some ⟨w.heap.size + 1, 0, none⟩)]) ∧ w' = (w.alloc (.cells #[.int .i64 p, dv, av, vv] 28)).alloc (.cells #[.int .i64 n] 2) := by
  go_enter Try.func120, Try.ntmps120
  go_wp2
  go_ret
  exact ⟨by simp, rfl⟩

theorem new_c1 (W : World) (p : Int) (dv av vv : Value) : (W.alloc (.cells #[.int .i64 p, dv, av, vv] 28)).cell? ⟨W.heap.size, 1, none⟩ = some dv := by simp
/-- What a body may do to the iterator's boxes. -/
structure DgK (Kp : World → World → Prop) (w : World) (bn : Nat) (n : Int) (dv : Value) (ds : List (List Int)) : Prop where
  refl : ∀ A, Kp A A
  trans : ∀ {A B C : World}, Kp A B → Kp B C → Kp A C
  dims : ∀ {A B : World}, Below w.heap.size w A → Kp A B → L2 0 B dv ds
  num : ∀ {A B : World}, Go.Boxed A bn 2 (.int .i64 n) → Kp A B → Go.Boxed B bn 2 (.int .i64 n)
  fns : ∀ {A B : World} {k : Nat} {v : Value}, Go.Boxed A k 121 v → Kp A B → Go.Boxed B k 121 v
  put : ∀ (A : World) (k : Nat) (o o' : Obj), w.heap.size ≤ k → A.heap[k]? = some o → o.isCells = false → Kp A (A.putObj k o')
  alloc : ∀ (A : World) (o : Obj), w.heap.size ≤ A.heap.size → Kp A (A.alloc o)

set_option maxRecDepth 100000 in
set_option maxHeartbeats 4000000 in
theorem diag_seq (m : Nat) (hm : 3 ≤ m) (p : Int) (n : Nat) (hn : n ≤ 1000) (bx bn : Nat) (dv av vv : Value) (ds : List (List Int)) (hl1 : ds.length ≤ 1000) (hl2 : ∀ r ∈ ds, r.length ≤ 1000) (Kp : World → World → Prop) (w : World) (hK : DgK Kp w bn n dv ds)
    (hbx : bx < w.heap.size) (c0 : w.cell? ⟨bx, 0, none⟩ = some (.int .i64 p)) (c1 : w.cell? ⟨bx, 1, none⟩ = some dv) (c2 : w.cell? ⟨bx, 2, none⟩ = some av) (c3 : w.cell? ⟨bx, 3, none⟩ = some vv) (hbn : Go.Boxed w bn 2 (.int .i64 (n : Int))) :
    SeqO Fence.wide m Try.prog 131 #[.pointer (some ⟨bx, 0, none⟩), .pointer (some ⟨bn, 0, none⟩)] (fun x : DgIn ds n => #[dgV x]) Kp (fun ys => ys.map (·.1) = dgn ds n) (fun _ => True) (cellsTo ds ds.length).length w := by
  intro l J Jx W hW hJ hJx hY h0
  have HK := Lib.hid hK
  have HJ := Lib.hid hJ
  have HJX := Lib.hid hJx
  have HY := Lib.hid hY
  have HW := Lib.hid hW
  have d0 := (hW.cell (p := ⟨bx, 0, none⟩) hbx).trans c0
  have d1 := (hW.cell (p := ⟨bx, 1, none⟩) hbx).trans c1
  have d2 := (hW.cell (p := ⟨bx, 2, none⟩) hbx).trans c2
  have d3 := (hW.cell (p := ⟨bx, 3, none⟩) hbx).trans c3
  have hbl : bx < W.heap.size := Nat.lt_of_lt_of_le hbx hW.size
  have HBN : Hid (Go.Boxed W bn 2 (.int .i64 (n : Int))) := Lib.hid ((hW.block bn hbn.lt).trans hbn)
  have H0 := Lib.hid h0
  have hws := hW.size
  clear hK hJ hJx hY c0 c1 c2 c3 hW h0 hbn
  refine callsIn_of_wp_marks Try.func131 rfl trivial ?_
  simp only [Try.ntmps131, List.size_toArray, List.length_cons, List.length_nil, Nat.reduceAdd, Nat.reduceSub, Array.replicate_succ, Array.replicate_zero, List.push_toArray, List.append_toArray, List.nil_append, List.cons_append]
  gi_wp2_with fail
  refine ⟨trivial, (fun h => by cases h), (callsIn_wide.2 (cellsOf_any p dv av vv _)).mono ?_⟩
  rintro e w2 ⟨rfl, rfl⟩
  dsimp only
  gi_wp2
  rw [World.size_alloc]
  have hs0 : ((W.alloc (.cells #[.func (.yield l) #[] #[]] 121)).alloc (.cells #[.int .i64 p, dv, av, vv] 28)).heap.size = W.heap.size + 2 := by simp
  have hB0 : Below W.heap.size W ((W.alloc (.cells #[.func (.yield l) #[] #[]] 121)).alloc (.cells #[.int .i64 p, dv, av, vv] 28)) := ((Below.refl _ _).alloc (Nat.le_refl _) _).alloc (by simp) _
  have hd0 : ((W.alloc (.cells #[.func (.yield l) #[] #[]] 121)).alloc (.cells #[.int .i64 p, dv, av, vv] 28)).cell? ⟨W.heap.size + 1, 1, none⟩ = some dv := by
    have := new_c1 (W.alloc (.cells #[.func (.yield l) #[] #[]] 121)) p dv av vv
    rwa [World.size_alloc] at this
  have HBY : Hid (Go.Boxed ((W.alloc (.cells #[.func (.yield l) #[] #[]] 121)).alloc (.cells #[.int .i64 p, dv, av, vv] 28)) W.heap.size 121 (.func (.yield l) #[] #[])) := Lib.hid ((Go.Boxed.new W _ _).alloc _)
  have HJ0 : Hid (J [] ((W.alloc (.cells #[.func (.yield l) #[] #[]] 121)).alloc (.cells #[.int .i64 p, dv, av, vv] 28))) := Lib.hid (HJ.out.alloc _ (HJ.out.alloc _ H0.out))
  obtain ⟨W0, hW0⟩ : ∃ W0, W0 = (W.alloc (.cells #[.func (.yield l) #[] #[]] 121)).alloc (.cells #[.int .i64 p, dv, av, vv] 28) := ⟨_, rfl⟩
  rw [← hW0] at hs0 hB0 hd0 HBY HJ0 ⊢
  clear hW0
  have HB0 := Lib.hid hB0
  have HS0 := Lib.hid hs0
  have hst := cells_stopsK Fence.wide (m - 1) trivial rfl (by omega) (W.heap.size + 1) dv ds (by omega) (fun r hr => by have := hl2 r hr; omega) Kp HK.out.refl (fun h k => HK.out.trans h k) W0 (by omega) hd0
    (fun A B hA hAB => HK.out.dims (HW.out.trans ((hB0.trans (hA.mono hB0.size)).mono hws)) hAB)
  refine wpIn_rangeFunc_cell rfl (by omega : 1 ≤ m) (gf := 118) (lb := #[.pointer (some ⟨W.heap.size + 1, 0, none⟩)]) rfl trivial (enters_of Try.func118 (by kernel_rfl) rfl)
    hst (fun h k => HK.out.trans h k) (fun A k o o' hk ho hc _ => HK.out.put A k o o' (by omega) ho hc) (Below.refl _ _) (fun _ => rfl)
    (fun pre A => (∃ ys : List (DgIn ds n), ys.map (·.1) = (pre.map (·.1)).filter (onD n) ∧ J ys A) ∧ Go.Boxed A W.heap.size 121 (.func (.yield l) #[] #[]) ∧ Go.Boxed A bn 2 (.int .i64 (n : Int)))
    (fun c _ A => c = .ret ∧ ∃ ys : List (DgIn ds n), Jx ys A)
    (OwnFrom.and (fun pre A B row ⟨ys, hys, hj⟩ hg hr => ⟨ys, hys, HJ.out ys A B row hj hg (fun r e => ⟨by have := (hr r e).1; omega, (hr r e).2⟩)⟩)
      (OwnFrom.and (Own.from (boxed_own (β := List (CellIn ds)) _ _ (fun _ => Value.func (.yield l) #[] #[])) _) (Own.from (boxed_own (β := List (CellIn ds)) _ _ (fun _ => Value.int .i64 (n : Int))) _)))
    (fun c pre A B row ⟨hc, ys, hj⟩ hg hr => ⟨hc, ys, HJX.out ys A B row hj hg (fun r e => ⟨by have := (hr r e).1; omega, (hr r e).2⟩)⟩)
    ⟨⟨[], rfl, HJ0.out⟩, HBY.out, (HB0.out.block bn HBN.out.lt).trans HBN.out⟩
    (fun x => #[.int .i64 (x.1.1 : Int), .int .i64 (x.1.2 : Int)]) 4 101 (W.heap.size + 1)
    ?assign ?body ?done ?stop
  case assign =>
    rintro l2 pre x A K ⟨⟨ys, hys, hj⟩, hby, hbn⟩ hKK
    simp only [cellV] at hKK ⊢
    have hsz := hby.lt
    gi_wp2
    have hk := hKK A.heap.size _ hsz (World.alloc_heap_new A _) ((KeepsOthers.alloc _ _).from _) (HK.out.alloc A _ (by omega)) ⟨⟨ys, hys, HJ.out.alloc _ hj⟩, hby.alloc _, hbn.alloc _⟩
    · simp at hk
      refine Eq.mp ?_ hk
      congr 1
      all_goals (try congr 1)
  case body =>
    rintro l2 pre x Bx A hl ⟨r, hr⟩ ⟨⟨ys, hys, hJy⟩, hby, hbn⟩ hBx hX hlt
    obtain ⟨⟨i, j⟩, hxm⟩ := x
    dsimp only at hX
    have hxc := cells_fst hxm
    dsimp only at hxc
    have hi1 : i ≤ 1000 := by have := hxc.1; omega
    have hj1 : j ≤ 1000 := by
      have h1 := hxc.2
      rw [getD_of_lt _ hxc.1] at h1
      have := hl2 _ (List.getElem_mem hxc.1)
      omega
    have x0 : A.cell? ⟨Bx, 0, none⟩ = some (.int .i64 (i : Int)) := by simp [World.cell?, hX]
    have x1 : A.cell? ⟨Bx, 1, none⟩ = some (.int .i64 (j : Int)) := by simp [World.cell?, hX]
    have y0 := hby.cell
    have n0 := hbn.cell
    have hylen : ys.length < (cellsTo ds ds.length).length := by
      have h1 := congrArg List.length hys
      rw [List.length_map] at h1
      have h2 := List.length_filter_le (onD n) (pre.map (·.1))
      rw [List.length_map] at h2
      omega
    have HBYA := Lib.hid hby
    have HBNA := Lib.hid hbn
    have HYS := Lib.hid hys
    have HJY := Lib.hid hJy
    clear hX hr hby hbn hys hJy hlt hBx hl
    by_cases hd : i + j = n
    · have hq : (((i : Int) + (j : Int)) == (n : Int)) = true := by simp; omega
      have hmem : (i, j) ∈ dgn ds n := by rw [dgn_eq]; exact List.mem_filter.2 ⟨hxm, by simp [onD, hd]⟩
      obtain ⟨fn, tmps, assign, body, hy, hR⟩ := yieldAt_wide (l0 := l2) (m2 := m - 1 - 1 - 1) (HY.out ys ⟨(i, j), hmem⟩ A HJY.out hylen)
      dsimp only [dgV] at hy
      have hnext : ∀ W3, KeepsFrom W.heap.size A W3 → J (ys ++ [⟨(i, j), hmem⟩]) W3 → Kp A W3 →
          KeepsFrom W0.heap.size A W3 ∧ Kp A W3 ∧ (∃ ys : List (DgIn ds n), ys.map (·.1) = ((pre ++ ([⟨(i, j), hxm⟩] : List (CellIn ds))).map (·.1)).filter (onD n) ∧ J ys W3) ∧ Go.Boxed W3 W.heap.size 121 (.func (.yield l) #[] #[]) ∧ Go.Boxed W3 bn 2 (.int .i64 (n : Int)) := fun W3 hk hj hkp =>
        ⟨kf_narrow hk (by have := HS0.out; omega), hkp, ⟨_, by rw [filt_in, if_pos (by simp [onD, hd]), ← HYS.out, List.map_append]; rfl, hj⟩, HK.out.fns HBYA.out hkp, HK.out.num HBNA.out hkp⟩
      have HNEXT := Lib.hid hnext
      clear hnext
      have HS0' := HS0
      gi_wp2
      refine ⟨(fun h => by cases h), hR.mono ?_⟩
      rintro e W3 ⟨hk, (⟨rfl, hJ3, hkp⟩ | ⟨rfl, hJx3⟩)⟩
      · have HF := Lib.hid (HNEXT.out W3 hk hJ3 hkp)
        clear hk hJ3 hkp
        gi_wp2
        exact HF.out
      · have HF : Hid (KeepsFrom W0.heap.size A W3 ∧ Jx (ys ++ [⟨(i, j), hmem⟩]) W3) := Lib.hid ⟨kf_narrow hk (by have := HS0.out; omega), hJx3⟩
        clear hk hJx3
        gi_wp2
        exact ⟨HF.out.1, rfl, _, HF.out.2⟩
    · have hq : (((i : Int) + (j : Int)) == (n : Int)) = false := by simp; omega
      have HF : Hid (KeepsFrom W0.heap.size A A ∧ Kp A A ∧ (∃ ys : List (DgIn ds n), ys.map (·.1) = ((pre ++ ([⟨(i, j), hxm⟩] : List (CellIn ds))).map (·.1)).filter (onD n) ∧ J ys A) ∧ Go.Boxed A W.heap.size 121 (.func (.yield l) #[] #[]) ∧ Go.Boxed A bn 2 (.int .i64 (n : Int))) :=
        Lib.hid ⟨KeepsFrom.refl _ _, HK.out.refl _, ⟨ys, by rw [filt_in, if_neg (by simp [onD, hd]), List.append_nil, HYS.out], HJY.out⟩, HBYA.out, HBNA.out⟩
      gi_wp2
      refine ⟨fun _ h => (by cases h), ?_⟩
      gi_wp2
      exact HF.out
  case done =>
    rintro D zs A hD hS ⟨⟨ys, hys, hJy⟩, _, _⟩ hKD
    have HJY := Lib.hid hJy
    have HYS : Hid (ys.map (·.1) = dgn ds n) := Lib.hid (by rw [hys, hS]; rfl)
    have HKD := Lib.hid hKD
    have hDW : W.heap.size ≤ D := by have := HS0.out; omega
    clear hKD hJy hys hS
    gi_wp2
    refine ⟨by simp, .inl ⟨_, _, rfl, run_takeDeferred HKD.out, ?_⟩⟩
    exact ⟨_, results_none rfl _ _ _, ⟨_, rfl⟩, .inl ⟨ys, HYS.out, HJ.out.putObj _ HJY.out hDW HKD.out rfl⟩⟩
  case stop =>
    rintro D c pre A hD _ ⟨rfl, ys, hj⟩ hKD
    have HJY := Lib.hid hj
    have HKD := Lib.hid hKD
    have hDW : W.heap.size ≤ D := by have := HS0.out; omega
    clear hKD hj
    gi_wp2
    refine ⟨by simp, .inl ⟨_, _, rfl, run_takeDeferred HKD.out, ?_⟩⟩
    exact ⟨_, results_none rfl _ _ _, ⟨_, rfl⟩, .inr ⟨ys, HJX.out.putObj _ HJY.out hDW HKD.out rfl⟩⟩
end Go.Proofs.Ytlopenephgabhaa


namespace Go.Proofs.Ytlopenephgabhaa
open Go.RowKit

set_option maxRecDepth 100000 in
set_option maxHeartbeats 4000000 in
/-- Down: from the cell (i, j + 1) to the cell (i, j). -/
theorem partOfRow_down (p : Int) (i j r : Nat) (dv av vv : Value) (ds : List (List Int)) (ac dn : List (List (List (List Int)))) (w : World) (h : Dx 0 w dv av vv ds ac dn) (hi : i < dn.length) (hj : j + 1 < (dn[i]).length) (hr : r < ((dn[i])[j + 1]).length) (hi1 : i ≤ 1000) (hj1 : j ≤ 1000) (_ : r ≤ 1000) :
    Calls Try.prog 121 #[.agg #[.int .i64 p, dv, av, vv], .agg #[.int .i64 (i : Int), .int .i64 ((j : Int) + 1)], .int .i64 (r : Int), .agg #[.int .i64 (i : Int), .int .i64 (j : Int)]] w fun e w' => ∃ v, e = .returned v ∧ L1 0 w' v (((dn[i])[j + 1])[r]) ∧ Below w.heap.size w w' := by
  have hx0 := DBx.start (p := p) 28 h
  obtain ⟨ad, cd, rfl⟩ := Sl.shape h.dims
  obtain ⟨aa, ca, rfl⟩ := Sl.shape h.across
  rcases h.down with ⟨hx, _⟩ | ⟨bd, od, cv, rfl, _, _, hcl⟩
  · exact absurd (hx ▸ hi) (Nat.not_lt_zero _)
  obtain ⟨u1, hu1, hr1'⟩ := hcl i hi
  rcases hr1' with ⟨hx, _⟩ | ⟨b2, o2, c2, rfl, _, _, hcl2⟩
  · rw [hx] at hj; exact absurd hj (Nat.not_lt_zero _)
  obtain ⟨u2, hu2, hr2'⟩ := hcl2 (j + 1) hj
  rcases hr2' with ⟨hx, _⟩ | ⟨b3, o3, c3, rfl, _, _, hcl3⟩
  · rw [hx] at hr; exact absurd hr (Nat.not_lt_zero _)
  obtain ⟨u3, hu3, hr3⟩ := hcl3 r hr
  have HR3 := Lib.hid hr3
  have hB : Below w.heap.size w (((w.alloc (.cells #[.int .i64 p, .slice ad ds.length cd, .slice aa ac.length ca, .slice (some ⟨bd, od, none⟩) dn.length cv] 28)).alloc (.cells #[.int .i64 (i : Int), .int .i64 ((j : Int) + 1)] 101)).alloc (.cells #[.int .i64 (i : Int), .int .i64 (j : Int)] 101)) := (((Below.refl _ _).alloc (Nat.le_refl _) _).alloc (by simp) _).alloc (by simp; omega) _
  have hv1 := later hB (Nat.le_refl _) hu1
  have hv2 := later hB (Nat.le_refl _) hu2
  have hv3 := later hB (Nat.le_refl _) hu3
  obtain ⟨n0, hn0⟩ : ∃ n, n = ds.length := ⟨_, rfl⟩
  obtain ⟨n1, hn1⟩ : ∃ n, n = ac.length := ⟨_, rfl⟩
  obtain ⟨n2, hn2⟩ : ∃ n, n = dn.length := ⟨_, rfl⟩
  obtain ⟨n3, hn3⟩ : ∃ n, n = (dn[i]).length := ⟨_, rfl⟩
  obtain ⟨n4, hn4⟩ : ∃ n, n = ((dn[i])[j + 1]).length := ⟨_, rfl⟩
  obtain ⟨row, hrow⟩ : ∃ x, x = ((dn[i])[j + 1])[r] := ⟨_, rfl⟩
  rw [← hrow] at HR3 ⊢
  have hi' := hi
  rw [← hn2] at hi'
  have hj' := hj
  rw [← hn3] at hj'
  have hr' := hr
  rw [← hn4] at hr'
  rw [← hn0, ← hn1, ← hn2] at hB hv1 hv2 hv3 ⊢
  rw [← hn3] at hv1
  rw [← hn4] at hv2
  clear hx0 hcl hcl2 hcl3 hr3 hu1 hu2 hu3 hn0 hn1 hn2 hn3 hn4 hrow
  have hr := hr'
  have hj := hj'
  have hi := hi'
  have hjj : (((j : Int) + 1).toNat) = j + 1 := by omega
  go_enter Try.func121, Try.ntmps121
  go_wp2
  go_region
  go_wp2
  go_ret
  exact ⟨_, rfl, L1.below HR3.out hB.drew, hB.drew⟩
set_option maxRecDepth 100000 in
set_option maxHeartbeats 4000000 in
/-- Across: from the cell (i + 1, j) to the cell (i, j). -/
theorem partOfRow_across (p : Int) (i j r : Nat) (dv av vv : Value) (ds : List (List Int)) (ac dn : List (List (List (List Int)))) (w : World) (h : Dx 0 w dv av vv ds ac dn) (hi : i + 1 < ac.length) (hj : j < (ac[i + 1]).length) (hr : r < ((ac[i + 1])[j]).length) (hi1 : i ≤ 1000) (_ : j ≤ 1000) (_ : r ≤ 1000) :
    Calls Try.prog 121 #[.agg #[.int .i64 p, dv, av, vv], .agg #[.int .i64 ((i : Int) + 1), .int .i64 (j : Int)], .int .i64 (r : Int), .agg #[.int .i64 (i : Int), .int .i64 (j : Int)]] w fun e w' => ∃ v, e = .returned v ∧ L1 0 w' v (((ac[i + 1])[j])[r]) ∧ Below w.heap.size w w' := by
  have hx0 := DBx.start (p := p) 28 h
  obtain ⟨ad, cd, rfl⟩ := Sl.shape h.dims
  obtain ⟨aa, ca, rfl⟩ := Sl.shape h.down
  rcases h.across with ⟨hx, _⟩ | ⟨bd, od, cv, rfl, _, _, hcl⟩
  · exact absurd (hx ▸ hi) (Nat.not_lt_zero _)
  obtain ⟨u1, hu1, hr1'⟩ := hcl (i + 1) hi
  rcases hr1' with ⟨hx, _⟩ | ⟨b2, o2, c2, rfl, _, _, hcl2⟩
  · rw [hx] at hj; exact absurd hj (Nat.not_lt_zero _)
  obtain ⟨u2, hu2, hr2'⟩ := hcl2 j hj
  rcases hr2' with ⟨hx, _⟩ | ⟨b3, o3, c3, rfl, _, _, hcl3⟩
  · rw [hx] at hr; exact absurd hr (Nat.not_lt_zero _)
  obtain ⟨u3, hu3, hr3⟩ := hcl3 r hr
  have HR3 := Lib.hid hr3
  have hB : Below w.heap.size w (((w.alloc (.cells #[.int .i64 p, .slice ad ds.length cd, .slice (some ⟨bd, od, none⟩) ac.length cv, .slice aa dn.length ca] 28)).alloc (.cells #[.int .i64 ((i : Int) + 1), .int .i64 (j : Int)] 101)).alloc (.cells #[.int .i64 (i : Int), .int .i64 (j : Int)] 101)) := (((Below.refl _ _).alloc (Nat.le_refl _) _).alloc (by simp) _).alloc (by simp; omega) _
  have hv1 := later hB (Nat.le_refl _) hu1
  have hv2 := later hB (Nat.le_refl _) hu2
  have hv3 := later hB (Nat.le_refl _) hu3
  obtain ⟨n0, hn0⟩ : ∃ n, n = ds.length := ⟨_, rfl⟩
  obtain ⟨n1, hn1⟩ : ∃ n, n = ac.length := ⟨_, rfl⟩
  obtain ⟨n2, hn2⟩ : ∃ n, n = dn.length := ⟨_, rfl⟩
  obtain ⟨n3, hn3⟩ : ∃ n, n = (ac[i + 1]).length := ⟨_, rfl⟩
  obtain ⟨n4, hn4⟩ : ∃ n, n = ((ac[i + 1])[j]).length := ⟨_, rfl⟩
  obtain ⟨row, hrow⟩ : ∃ x, x = ((ac[i + 1])[j])[r] := ⟨_, rfl⟩
  rw [← hrow] at HR3 ⊢
  have hi' := hi
  rw [← hn1] at hi'
  have hj' := hj
  rw [← hn3] at hj'
  have hr' := hr
  rw [← hn4] at hr'
  rw [← hn0, ← hn1, ← hn2] at hB hv1 hv2 hv3 ⊢
  rw [← hn3] at hv1
  rw [← hn4] at hv2
  clear hx0 hcl hcl2 hcl3 hr3 hu1 hu2 hu3 hn0 hn1 hn2 hn3 hn4 hrow
  have hr := hr'
  have hj := hj'
  have hi := hi'
  have hjj : (((i : Int) + 1).toNat) = i + 1 := by omega
  go_enter Try.func121, Try.ntmps121
  go_wp2
  go_region
  go_wp2
  go_ret
  exact ⟨_, rfl, L1.below HR3.out hB.drew, hB.drew⟩
end Go.Proofs.Ytlopenephgabhaa


namespace Go.Proofs.Ytlopenephgabhaa
open Go.RowKit

theorem l1_zeros (W : World) (q : Nat) : L1 0 (W.alloc (.cells (madeCells #[.int .i64 0] q) 2)) (.slice (some ⟨W.heap.size, 0, none⟩) q q) (List.replicate q 0) := by
  by_cases h : q = 0
  · subst h; exact .inl ⟨rfl, _, _, rfl⟩
  · refine .inr ⟨W.heap.size, 0, q, by simp, Nat.zero_le _, by simp; omega, fun k hk => ⟨.int .i64 0, ?_, by simp [IsI]⟩⟩
    simp at hk
    rw [Nat.zero_add]
    exact (World.rowIs_made W (.int .i64 0) q _).cell hk

set_option maxRecDepth 100000 in
set_option maxHeartbeats 4000000 in
theorem partOfRow_zero (p : Int) (i j a b r : Nat) (dv av vv : Value) (ds : List (List Int)) (ac dn : List (List (List (List Int)))) (w : World) (h : Dx 0 w dv av vv ds ac dn) (hok : DclOk ds) (hc : (a, b) ∈ cellsTo ds ds.length) (h1 : ¬ (a + 1 = i ∧ b = j)) (h2 : ¬ (a = i ∧ b + 1 = j)) (hi1 : i ≤ 1000) (hj1 : j ≤ 1000) :
    Calls Try.prog 121 #[.agg #[.int .i64 p, dv, av, vv], .agg #[.int .i64 (i : Int), .int .i64 (j : Int)], .int .i64 (r : Int), .agg #[.int .i64 (a : Int), .int .i64 (b : Int)]] w fun e w' => ∃ v, e = .returned v ∧ L1 0 w' v (List.replicate (cdim ds (a, b)) 0) ∧ Below w.heap.size w w' := by
  have hcd := cdim_cast hok hc
  have hm := mem_cells.1 hc
  dsimp only at hm hcd
  have hm1 : a ≤ 1000 := by have := hok.len1; omega
  have hm2 : b ≤ 1000 := by
    have h2 := hm.2
    rw [getD_of_lt _ hm.1, (hok.col _ (List.getElem_mem hm.1)).1] at h2
    have := hok.h1
    omega
  have hd4 : cdim ds (a, b) ≤ 1000 := by omega
  have HD : Hid (∀ W, Below w.heap.size w W → Calls Try.prog 95 #[.agg #[.int .i64 p, dv, av, vv], .agg #[.int .i64 (a : Int), .int .i64 (b : Int)]] W fun e w' => e = .returned (.int .i64 ((cdim ds (a, b) : Nat) : Int)) ∧ Below w.heap.size w w') := Lib.hid (fun W hb => by
    rw [hcd.1]
    exact (dimOfCell_any p a b _ _ _ ds W (h.dims.below hb) ⟨by have := hok.len1; omega, fun r hr => by have := (hok.col r hr).1; have := hok.h1; show r.length ≤ _; omega⟩ (by omega) (by omega) (by omega) (fun _ => by simp only [Int.toNat_natCast]; exact Int.ofNat_lt.2 hm.2)).mono fun _ _ hh => ⟨hh.1, hb.trans (hh.2.mono hb.size)⟩)
  obtain ⟨ad, cd, rfl⟩ := Sl.shape h.dims
  obtain ⟨aa, ca, rfl⟩ := Sl.shape h.across
  obtain ⟨ae, ce, rfl⟩ := Sl.shape h.down
  clear h
  obtain ⟨n0, hn0⟩ : ∃ n, n = ds.length := ⟨_, rfl⟩
  obtain ⟨n1, hn1⟩ : ∃ n, n = ac.length := ⟨_, rfl⟩
  obtain ⟨n2, hn2⟩ : ∃ n, n = dn.length := ⟨_, rfl⟩
  rw [← hn0, ← hn1, ← hn2] at HD ⊢
  obtain ⟨q, hq⟩ : ∃ q, q = cdim ds (a, b) := ⟨_, rfl⟩
  rw [← hq] at HD hd4 ⊢
  clear hn0 hn1 hn2 hcd hm hq hok hc
  have hmk := run_make_row' (P := Try.prog) 35 2 (.int .i64 0) 8 Try.underlying35 Try.infoI rfl .i64 .i64 q (by omega) (by omega)
  have HEND : Hid (∀ W1 : World, Below w.heap.size w W1 → ∃ v, Ending.returned (Value.slice (some ⟨W1.heap.size, 0, none⟩) q q) = .returned v ∧ L1 0 (W1.alloc (.cells (madeCells #[.int .i64 0] q) 2)) v (List.replicate q 0) ∧ Below w.heap.size w (W1.alloc (.cells (madeCells #[.int .i64 0] q) 2))) := Lib.hid (fun W1 hb => ⟨_, rfl, l1_zeros _ _, hb.alloc hb.size _⟩)
  by_cases e1 : a + 1 = i
  · subst e1
    have e2 : ¬ ((b : Int) = (j : Int)) := by omega
    go_enter Try.func121, Try.ntmps121
    go_wp2_with fail
    refine (HD.out _ ?_).mono ?_
    · exact (((Below.refl _ _).alloc (Nat.le_refl _) _).alloc (by simp) _).alloc (by simp; omega) _
    rintro e w2 ⟨rfl, hb2⟩
    go_wp2
    go_ret
    exact HEND.out w2 hb2
  · by_cases e3 : a = i
    · subst e3
      have e2 : ¬ ((b : Int) = (j : Int) - 1) := by omega
      go_enter Try.func121, Try.ntmps121
      go_wp2_with fail
      refine (HD.out _ ?_).mono ?_
      · exact (((Below.refl _ _).alloc (Nat.le_refl _) _).alloc (by simp) _).alloc (by simp; omega) _
      rintro e w2 ⟨rfl, hb2⟩
      go_wp2
      go_ret
      exact HEND.out w2 hb2
    · have e2 : ¬ ((a : Int) = (i : Int) - 1) := by omega
      have e4 : ¬ ((a : Int) = (i : Int)) := by omega
      go_enter Try.func121, Try.ntmps121
      go_wp2_with fail
      refine (HD.out _ ?_).mono ?_
      · exact (((Below.refl _ _).alloc (Nat.le_refl _) _).alloc (by simp) _).alloc (by simp; omega) _
      rintro e w2 ⟨rfl, hb2⟩
      go_wp2
      go_ret
      exact HEND.out w2 hb2

/-- The part, as a whole. -/
theorem partOfRow_any (p : Int) (f c : Nat × Nat) (r : Nat) (dv av vv : Value) (ds : List (List Int)) (ac dn : List (List (List (List Int)))) (w : World) (h : Dx 0 w dv av vv ds ac dn) (hok : DclOk ds) (ht : TbsOk p ds ac dn) (hf : f ∈ cellsTo ds ds.length) (hc : c ∈ cellsTo ds ds.length) (hr : r < cdim ds f) :
    Calls Try.prog 121 #[.agg #[.int .i64 p, dv, av, vv], .agg #[.int .i64 (f.1 : Int), .int .i64 (f.2 : Int)], .int .i64 (r : Int), .agg #[.int .i64 (c.1 : Int), .int .i64 (c.2 : Int)]] w fun e w' => ∃ v, e = .returned v ∧ L1 0 w' v (prt ds ac dn f r c) ∧ Below w.heap.size w w' := by
  obtain ⟨i, j⟩ := f
  obtain ⟨a, b⟩ := c
  dsimp only
  have hmf := mem_cells.1 hf
  dsimp only at hmf
  have hi1 : i ≤ 1000 := by have := hok.len1; omega
  have hcol : (ds.getD i []).length = (ds.getD 0 []).length := by rw [getD_of_lt _ hmf.1]; exact (hok.col _ (List.getElem_mem hmf.1)).1
  have hj1 : j ≤ 1000 := by have := hok.h1; omega
  have hcd := cdim_cast hok hf
  obtain ⟨ta, td⟩ := ht.tab _ hf
  dsimp only at hcd ta td
  have hr1 : r ≤ 1000 := by omega
  by_cases h1 : a + 1 = i ∧ b = j
  · obtain ⟨rfl, rfl⟩ := h1
    have hia : a + 1 < ac.length := by rw [ht.la]; exact hmf.1
    have hj : b < (ac[a + 1]).length := by have := ht.ca (a + 1) hmf.1; rw [getD_of_lt _ hia] at this; rw [this]; exact hmf.2
    have hl := ta.1
    rw [getD_of_lt _ hia, getD_of_lt _ hj] at hl
    have hr' : r < ((ac[a + 1])[b]).length := by omega
    rw [prt_a (f := (a + 1, b)) (c := (a, b)) r ⟨rfl, rfl⟩]
    unfold tbl
    dsimp only
    rw [getD_of_lt _ hia, getD_of_lt _ hj, getD_of_lt _ hr']
    exact partOfRow_across p a b r dv av vv ds ac dn w h hia hj hr' (by omega) (by omega) hr1
  · by_cases h2 : a = i ∧ b + 1 = j
    · obtain ⟨rfl, rfl⟩ := h2
      have hia : a < dn.length := by rw [ht.ld]; exact hmf.1
      have hj : b + 1 < (dn[a]).length := by have := ht.cd a hmf.1; rw [getD_of_lt _ hia] at this; rw [this]; exact hmf.2
      have hl := td.1
      rw [getD_of_lt _ hia, getD_of_lt _ hj] at hl
      have hr' : r < ((dn[a])[b + 1]).length := by omega
      rw [prt_d (f := (a, b + 1)) (c := (a, b)) r ⟨rfl, rfl⟩]
      unfold tbl
      dsimp only
      rw [getD_of_lt _ hia, getD_of_lt _ hj, getD_of_lt _ hr']
      exact partOfRow_down p a b r dv av vv ds ac dn w h hia hj hr' (by omega) (by omega) hr1
    · rw [prt_o (f := (i, j)) (c := (a, b)) r h1 h2]
      exact partOfRow_zero p i j a b r dv av vv ds ac dn w h hok hc h1 h2 hi1 hj1
end Go.Proofs.Ytlopenephgabhaa


namespace Go.Proofs.Ytlopenephgabhaa
open Go.RowKit

theorem run_append_zeros {base : Nat} (w : World) (ty : TypeId) (v : Value) (xs : List Int) (hown : Gb base w v xs) (kq : IntKind) (k : Nat) (h63 : xs.length + k ≤ 2097152) (hb : base ≤ w.heap.size) :
    ∃ v' w', (Builtin.append_ #[35, 2] ty #[v, .int kq (k : Int)]).run Try.prog w = .ok v' w' ∧ Gb base w' v' (xs ++ List.replicate k 0) ∧ w.grownBy w' v.ownBlock := by
  obtain ⟨i, hi, hz, hs, hbt⟩ := info_parts Try.infoI
  have ht := Try.underlying35
  have htn := Try.underlying2
  have hw : IntKind.i64.wrap (k : Int) = k := IntWalk.i64_in _ (by omega)
  have hneg : ¬ ((k : Int) < 0) := by omega
  have h48i : ¬ (281474976710656 < (k : Int) * 8) := by omega
  have hzc : (Builtin.zeroCells (Value.int .i64 0).cells k) = (List.replicate k (Value.int .i64 0)).toArray := by
    refine Array.ext (by simp [Builtin.zeroCells, Value.cells]) fun j h1 h2 => ?_
    simp [Builtin.zeroCells, Value.cells, Nat.mod_one]
  have hw0 : IntKind.i64.wrap 0 = 0 := by decide
  have hown' := hown
  obtain ⟨hl, h2⟩ := hown'
  by_cases hk : k = 0
  · subst hk
    refine ⟨v, w, ?_, by simpa using hown, ⟨rfl, rfl, rfl, Nat.le_refl _, fun _ _ _ => rfl⟩⟩
    rcases h2 with ⟨rfl, h0⟩ | ⟨g, cap, cur, rfl, hbg, hg, hnc, hcm, hcs, htake⟩
    · simp [Builtin.append_, run_underlying ht, run_underlying htn, sizeOf, typeInfo, hi, hbt, asInt, asIntOf, hw0, Builtin.firstCells]
    · simp [Builtin.append_, run_underlying ht, run_underlying htn, sizeOf, typeInfo, hi, hbt, asInt, asIntOf, hw0, hnc, storeCells]
  · rcases h2 with ⟨rfl, h0⟩ | ⟨g, cap, cur, rfl, hbg, hg, hnc, hcm, hcs, htake⟩
    · have hx : xs = [] := List.eq_nil_of_length_eq_zero h0
      subst hx
      have hr := Lib.run_append_nil_zeros (P := Try.prog) w 35 2 ty 2 i _ kq .i64 ht htn hi hz k (by omega) (by omega) (by omega) (by rw [hbt]; omega)
      refine ⟨_, _, hr, ⟨by simp, Or.inr ⟨w.heap.size, _, _, by simp, hb, heap_alloc_new w.drew _, ?_, grownCap_le_maxLen w k 0 2 (by unfold maxLen; simp at h63; omega), ?_, ?_⟩⟩, ⟨rfl, rfl, rfl, by simp, fun j hj _ => heap_alloc_old w.drew _ hj⟩⟩
      · have := grownCap_ge w k 0 2
        simp
        omega
      · have := grownCap_ge w k 0 2
        simp [Builtin.zeroCells, Value.cells]
        omega
      · rw [hzc]
        simp
    · by_cases hroom : xs.length + k ≤ cap
      · have hst := run_storeCells_at Try.prog g xs.length 2 (List.replicate k (Value.int .i64 0)) 0 cur w hg (by simp; omega) (fun u hu => by rw [(List.mem_replicate.1 hu).2]; rfl)
        simp only [Nat.add_zero] at hst
        refine ⟨.slice (some ⟨g, 0, none⟩) (xs.length + k) cap, w.setRow g (cur.toList.take xs.length ++ List.replicate k (Value.int .i64 0) ++ cur.toList.drop (xs.length + (List.replicate k (Value.int .i64 0)).length)).toArray, ?_, ⟨by simp, Or.inr ⟨g, cap, _, by simp, hbg, setRow_heap w g cur _ _ _ hg, by simpa using hroom, hcm, ?_, ?_⟩⟩, ⟨rfl, rfl, rfl, by simp, fun j _ hj => setRow_other w g j _ (fun e => hj (by simp [Value.ownBlock, e]))⟩⟩
        · have hcw : (xs.length : Int) + (k : Int) ≤ (cap : Int) := by omega
          simp [Builtin.append_, run_underlying ht, run_underlying htn, sizeOf, typeInfo, zeroValue, hi, hz, hs, hbt, asInt, asIntOf, hw, hneg, h48i, hroom, hk, hzc, Addr.add_lit, hst]
        · simp
          simp at hcs
          omega
        · simp only [Nat.mul_one] at htake ⊢
          rw [htake, List.map_append, List.map_replicate]
          exact List.take_left' (by simp)
      · have holds : ∀ j u, (xs.map (Value.int .i64))[j]? = some u → w.cell? ((⟨g, 0, none⟩ : Addr).add j) = some u := hown.cells (g := g) rfl
        have hfc := run_firstCells_some (P := Try.prog) w.drew i.size xs.length ⟨g, 0, none⟩ xs.length cap (xs.map (Value.int .i64)) (by simp [hs]) holds
        have hr := Lib.run_append_grow_zeros (P := Try.prog) w 35 2 ty 2 i _ kq .i64 ht htn hi hz (some ⟨g, 0, none⟩) xs.length cap (xs.map (Value.int .i64)) hfc k (by omega) (by omega) (by omega) (by omega) (by rw [hbt]; omega) (growslice_fits (by omega) (by rw [hbt]; omega))
        refine ⟨_, _, hr, ⟨by simp, Or.inr ⟨w.heap.size, _, _, by simp, hb, heap_alloc_new w.drew _, ?_, grownCap_le_maxLen w (xs.length + k) cap 2 (by unfold maxLen; omega), ?_, ?_⟩⟩, ⟨rfl, rfl, rfl, by simp, fun j hj _ => heap_alloc_old w.drew _ hj⟩⟩
        · have := grownCap_ge w (xs.length + k) cap 2
          simp
          omega
        · have := grownCap_ge w (xs.length + k) cap 2
          simp [Builtin.zeroCells, Value.cells]
          omega
        · rw [hzc]
          simp [List.take_append]
          exact List.take_of_length_le (by simp)
end Go.Proofs.Ytlopenephgabhaa


namespace Go.Proofs.Ytlopenephgabhaa
open Go.RowKit

/-- Approximate cycles: no numbers at levels above q, and a differential without numbers at levels above q0. -/
structure ZcS (p : Int) (d m : Nat) (t : List (List Int)) (l l0 : List Int) (q q0 : Int) (v : Lin.V) : Prop where
  md : Lin.Md p v
  wd : Lin.Wd d v
  up : ∀ i, i < d → q < l.getD i 0 → v i = 0
  dn : ∀ j, j < m → q0 < l0.getD j 0 → Lin.dot d (Lin.col (fun i => ofL (t.getD i [])) j) v % p = 0

theorem ZcS.zv {p : Int} (hp : 0 < p) (d m : Nat) (t : List (List Int)) (l l0 : List Int) (q q0 : Int) : ZcS p d m t l l0 q q0 Lin.zv :=
  ⟨Lin.zv_md hp, Lin.zv_wd d, fun _ _ _ => rfl, fun j _ _ => by rw [Lin.dot_nil (fun i _ => by simp [Lin.zv])]; rfl⟩
theorem ZcS.add {p : Int} (hp : 0 < p) {d m : Nat} {t : List (List Int)} {l l0 : List Int} {q q0 : Int} {v w : Lin.V} (hv : ZcS p d m t l l0 q q0 v) (c : Int) (hw : ZcS p d m t l l0 q q0 w) : ZcS p d m t l l0 q q0 (Lin.add p v c w) := by
  refine ⟨Lin.add_md hp _ _ _, Lin.add_wd c hv.wd hw.wd, fun i hi h => ?_, fun j hj h => ?_⟩
  · simp [Lin.add, hv.up i hi h, hw.up i hi h]
  · rw [Lin.dot_add]
    have h1 := hv.dn j hj h
    have h2 := hw.dn j hj h
    generalize Lin.dot d (Lin.col (fun i => ofL (t.getD i [])) j) v = a at *
    generalize Lin.dot d (Lin.col (fun i => ofL (t.getD i [])) j) w = b at *
    obtain ⟨x, hx⟩ : ∃ x, a = p * x := Int.dvd_of_emod_eq_zero h1
    obtain ⟨y, hy⟩ : ∃ y, b = p * y := Int.dvd_of_emod_eq_zero h2
    rw [hx, hy, Lin.cg (b := 0) (x + c * y) (by grind)]
    rfl
theorem ZcS.sp {p : Int} (hp : 0 < p) {d m : Nat} {t : List (List Int)} {l l0 : List Int} {q q0 : Int} {O : List Lin.V} (h : ∀ u ∈ O, ZcS p d m t l l0 q q0 u) {v : Lin.V} (hv : Lin.Sp p O v) : ZcS p d m t l l0 q q0 v := by
  induction hv with
  | zero => exact ZcS.zv hp _ _ _ _ _ _ _
  | step c _ hw ih => exact ih.add hp c (h _ hw)

/-! ### The conditions of the program. -/
/-! ### What a test keeps of the places. -/
def kept (P : Nat → Bool) (d : Nat) : List Nat := (List.range d).filter P
/-- Approximate cycles of a degree, by the levels. -/
def ZcD (p : Int) (ds : List Int) (ms : List (List (List Int))) (ls : List (List Int)) (n : Nat) (q q0 : Int) : Lin.V → Prop := ZcS p (dimN ds (n : Int)) (cycM ds n) (cycT ds ms n) (ls.getD n []) (ls.getD (n - 1) []) q q0
end Go.Proofs.Ytlopenephgabhaa

namespace Go.Proofs.Ytlopenephgabhaa
open Go.RowKit

end Go.Proofs.Ytlopenephgabhaa

namespace Go.Proofs.Ytlopenephgabhaa
open Go.RowKit

end Go.Proofs.Ytlopenephgabhaa

namespace Go.Proofs.Ytlopenephgabhaa
open Go.RowKit

end Go.Proofs.Ytlopenephgabhaa

namespace Go.Proofs.Ytlopenephgabhaa
open Go.RowKit

end Go.Proofs.Ytlopenephgabhaa

namespace Go.Proofs.Ytlopenephgabhaa
open Go.RowKit

end Go.Proofs.Ytlopenephgabhaa

namespace Go.Proofs.Ytlopenephgabhaa
open Go.RowKit

end Go.Proofs.Ytlopenephgabhaa

namespace Go.Proofs.Ytlopenephgabhaa
open Go.RowKit

end Go.Proofs.Ytlopenephgabhaa


namespace Go.Proofs.Ytlopenephgabhaa
open Go.RowKit

section
variable {md : Region.Mode} {ops : Array Oper} {Q : Exit → Act → World → Prop} {S : World → Prop}
end
/-- Cycles of levels of at most q together with all boundaries. -/
def LimD (p : Int) (ds : List Int) (ms : List (List (List Int))) (ls : List (List Int)) (k : Nat) (q : Int) (v : Lin.V) : Prop :=
  ∃ Z B, SpF p (dimN ds (k : Int)) (ZcD p ds ms ls k q (-1)) Z ∧ SpF p (dimN ds (k : Int)) (Lin.Sp p ((tabN ms k).map ofL)) B ∧ Lin.Sp p (Z ++ B) v
def LDim (p : Int) (ds : List Int) (ms : List (List (List Int))) (ls : List (List Int)) (k : Nat) (q x : Int) : Prop := ∃ E, SpF p (dimN ds (k : Int)) (LimD p ds ms ls k q) E ∧ x = (E.length : Int)
theorem SpF.unique' {p : Int} {n : Nat} {S : Lin.V → Prop} {R R' : List Lin.V} (hp : 1 < p) (h : SpF p n S R) (k : SpF p n S R') : R = R' := Lin.Red.unique hp h.1 k.1 (fun v => (h.2.2 v).trans (k.2.2 v).symm)
theorem LDim.unique {p : Int} {ds : List Int} {ms : List (List (List Int))} {ls : List (List Int)} {k : Nat} {q x y : Int} (hp : 1 < p) (h : LDim p ds ms ls k q x) (h' : LDim p ds ms ls k q y) : x = y := by
  obtain ⟨A, a, rfl⟩ := h
  obtain ⟨B, b, rfl⟩ := h'
  rw [a.unique' hp b]
theorem LDim.bd {p : Int} {ds : List Int} {ms : List (List (List Int))} {ls : List (List Int)} {k : Nat} {q x : Int} (hcx : IsCx p ds ms) (h : LDim p ds ms ls k q x) : 0 ≤ x ∧ x ≤ 8 := by
  obtain ⟨A, a, rfl⟩ := h
  have := a.short
  have := (dimN_le8 hcx k).1
  omega
/-- The limit number. -/
def LimNum (p : Int) (ds : List Int) (ms : List (List (List Int))) (ls : List (List Int)) (k : Nat) (q x : Int) : Prop := ∃ a b, LDim p ds ms ls k q a ∧ LDim p ds ms ls k (q - 1) b ∧ x = a - b
theorem LimNum.unique {p : Int} {ds : List Int} {ms : List (List (List Int))} {ls : List (List Int)} {k : Nat} {q x y : Int} (hp : 1 < p) (h : LimNum p ds ms ls k q x) (h' : LimNum p ds ms ls k q y) : x = y := by
  obtain ⟨a, b, ha, hb, rfl⟩ := h
  obtain ⟨c, d, hc, hd, rfl⟩ := h'
  rw [ha.unique hp hc, hb.unique hp hd]
/-- A number and a code. -/
structure NOut (P : Int → Prop) (c0 x c : Int) : Prop where
  code : c = c0
  bad : c0 ≠ 0 → x = 0
  good : c0 = 0 → P x
theorem NOut.unique {P : Int → Prop} {c0 x c y d : Int} (hu : c0 = 0 → ∀ a b, P a → P b → a = b) (h : NOut P c0 x c) (k : NOut P c0 y d) : x = y ∧ c = d := by
  refine ⟨?_, h.code.trans k.code.symm⟩
  by_cases h0 : c0 = 0
  · exact hu h0 _ _ (h.good h0) (k.good h0)
  · rw [h.bad h0, k.bad h0]
end Go.Proofs.Ytlopenephgabhaa


namespace Go.Proofs.Ytlopenephgabhaa
open Go.RowKit

/-- Approximate cycles of the degree above, none beyond the degrees. -/
def UpP (p : Int) (ds : List Int) (ms : List (List (List Int))) (ls : List (List Int)) (k : Nat) (q q0 : Int) (R : List Lin.V) : Prop := (k < ds.length → SpF p (dimN ds (k : Int)) (ZcD p ds ms ls k q q0) R) ∧ (¬ k < ds.length → R = [])
theorem UpP.unique {p : Int} {ds : List Int} {ms : List (List (List Int))} {ls : List (List Int)} {k : Nat} {q q0 : Int} {R R' : List Lin.V} (hp : 1 < p) (h : UpP p ds ms ls k q q0 R) (h' : UpP p ds ms ls k q q0 R') : R = R' := by
  by_cases hk : k < ds.length
  · exact (h.1 hk).unique' hp (h'.1 hk)
  · rw [h.2 hk, h'.2 hk]
theorem UpP.short {p : Int} {ds : List Int} {ms : List (List (List Int))} {ls : List (List Int)} (hcx : IsCx p ds ms) {k : Nat} {q q0 : Int} {R : List Lin.V} (h : UpP p ds ms ls k q q0 R) : R.length ≤ 8 := by
  by_cases hk : k < ds.length
  · have := (h.1 hk).short
    have := (dimN_le8 hcx k).1
    omega
  · rw [h.2 hk]; simp
end Go.Proofs.Ytlopenephgabhaa


namespace Go.Proofs.Ytlopenephgabhaa
open Go.RowKit

section
variable {md : Region.Mode} {ops : Array Oper} {Q : Exit → Act → World → Prop} {S : World → Prop}
end

/-- Gathered rows of a table behind one another. -/
structure CatA (base : Nat) (w : World) (v : Value) (tb : List (List Int)) (xs : List Value) : Prop where
  own : w.ownsRow base 35 1 v tb.length xs
  len : xs.length = tb.length
  rows : ∀ k (h1 : k < xs.length) (h2 : k < tb.length), G1 w xs[k] tb[k]
theorem CatA.below {base : Nat} {w w' : World} {v : Value} {tb : List (List Int)} {xs : List Value} (h : CatA base w v tb xs) (hb : Below w.heap.size w w') : CatA base w' v tb xs := ⟨owns_below h.own hb, h.len, fun k h1 h2 => (h.rows k h1 h2).below hb⟩
theorem CatA.gs {base : Nat} {w : World} {v : Value} {tb : List (List Int)} {xs : List Value} (h : CatA base w v tb xs) : Gs base w v tb := ⟨xs, h.own, h.rows⟩
/-- behind the append of a gathered table. -/
theorem CatA.add {base : Nat} {w w' : World} {v v' : Value} {ta tb : List (List Int)} {xs ys : List Value} (h : CatA base w v ta xs) (hb : ∀ k (h1 : k < ys.length) (h2 : k < tb.length), G1 w ys[k] tb[k]) (hl : ys.length = tb.length)
    (ho : w'.ownsRow base 35 1 v' (ta.length + tb.length) (xs ++ ys)) (hg : w.grownBy w' v.ownBlock) : CatA base w' v' (ta ++ tb) (xs ++ ys) := by
  have h1 := h.len
  refine ⟨by rw [List.length_append]; exact ho, by simp; omega, fun k hk hk2 => ?_⟩
  by_cases e : k < xs.length
  · rw [List.getElem_append_left e, List.getElem_append_left (by omega)]
    exact owns_grown (h.rows k e (by omega)) h.own (by decide) hg
  · rw [List.getElem_append_right (by omega), List.getElem_append_right (by omega)]
    have h3 : k - xs.length < ys.length := by rw [List.length_append] at hk; omega
    have : G1 w' ys[k - xs.length] (tb[k - xs.length]'(by omega)) := owns_grown (hb (k - xs.length) h3 (by omega)) h.own (by decide) hg
    simpa [h1] using this
end Go.Proofs.Ytlopenephgabhaa


namespace Go.Proofs.Ytlopenephgabhaa
open Go.RowKit

theorem run_append_row {base : Nat} (w : World) (ty : TypeId) (v : Value) (xs : List Int) (hown : Gb base w v xs) (u : Value) (ys : List Int) (hy : L1 0 w u ys) (h63 : xs.length + ys.length ≤ 2097152) (hb : base ≤ w.heap.size) :
    ∃ v' w', (Builtin.append_ #[35, 35] ty #[v, u]).run Try.prog w = .ok v' w' ∧ Gb base w' v' (xs ++ ys) ∧ w.grownBy w' v.ownBlock := by
  obtain ⟨i, hi, hz, hs, hbt⟩ := info_parts Try.infoI
  rcases hy with ⟨rfl, ad, cap, rfl⟩ | ⟨b, o, cap, rfl, _, _, hc⟩
  · exact ⟨v, w, run_append_none' w _ _ _ i Try.underlying35 hi hown ad cap, by rw [List.append_nil]; exact hown, ⟨rfl, rfl, rfl, Nat.le_refl _, fun _ _ _ => rfl⟩⟩
  · obtain ⟨v', w', hr, h2, h3, _⟩ := run_append_own (P := Try.prog) w base 35 ty 2 i _ 1 8 Try.underlying35 hi hz hs hbt (by rfl) (by decide) v xs.length (xs.map (Value.int .i64)) hown ⟨b, o, none⟩ ys.length cap (ys.map (Value.int .i64)) (by simp)
      (fun j u hj => by
        have hj' : j < ys.length := by have := (List.getElem?_eq_some_iff.1 hj).1; simpa using this
        obtain ⟨u2, hu2, hr2⟩ := hc j hj'
        rw [Addr.add_mid, hu2, hr2]
        simp [hj'] at hj
        rw [← hj]) (fun u hu => by
        obtain ⟨y, _, rfl⟩ := List.mem_map.1 hu
        rfl) (by unfold maxLen; omega) (by omega) hb
    exact ⟨v', w', hr, by simpa [Gb] using h2, h3⟩
end Go.Proofs.Ytlopenephgabhaa


namespace Go.Proofs.Ytlopenephgabhaa
open Go.RowKit

section
variable {P : Program} {ops : Array Oper} {Q : Exit → Act → World → Prop} {md : Region.Mode} {S : World → Prop}
/-- A drawn region within a round, its last operation apart. -/
theorem wpIn_region_last {l m id : Nat} {a : Act} {w : World} {on : Oper} (S : World → Prop) (n : Nat) (hm : P.follows .mixedOrders = true) (hd : noDefer ops = true) (hno : ¬ LetsOut Q) (hn : ops[n]? = some on) (hB : lastB .any ops n = true)
    (h : wpAnyH P .any (ops.setIfInBounds n (calmOp on)) (lastQ P ops n Q) S ops.size (Array.replicate ops.size false) a { w with drawn := w.drawn + 1 }) : (Code.region id ops true).wpIn (Fence.wide.inRound l) m P Q a w := by
  have hl := lastB_ok hn hB
  refine wpIn_region_any hm (wpAnyIn_of (noDefer_spec hd) hno _ _ _ _ (any_of_calm (S := S) hl _ _ _ _ (by simp) ?_ h))
  have := hl.size
  have hlt : n < ops.size := by omega
  simp [hlt]
/-- append, by the run's equation. -/
theorem held_app {i : Nat} {oi : Oper} {fuel : Nat} {listed : Array Bool} {a : Act} {w w' : World} {v x y : Value} (d : Option Tmp) (ta : Array TypeId) (l c : Operand) (hr : Region.ready md ops listed = [i]) (hi : ops[i]? = some oi) (hg : oi.guard = none) (hd : oi.dst = d)
    (ho : oi.op = .call { callee := .builtin .append, args := #[l, c], argTypes := ta }) (hl : a.eval l = x) (hc : a.eval c = y) (h : ∀ ty, (Builtin.append_ ta ty #[x, y]).run P w = .ok v w') (hS : S w') (hh : wpAnyH P md ops Q S fuel (listed.setIfInBounds i true) (a.put d v) w') : wpAnyH P md ops Q S (fuel + 1) listed a w :=
  held_mem d hr hi hg hd (by simp [execOp, ho, resolve, invoke, builtin, hl, hc, h, Result.andThen]) hS hh
end
section
variable {ops : Array Oper} {Q : Exit → Act → World → Prop} {n : Nat}
theorem lastQ_storeN {on : Oper} {a : Act} {w : World} (hn : ops[n]? = some on) (hg : on.guard = none) (_ : on.dst = none) (x y : Operand) (ho : on.op = .store 35 x y)
    (b o : Nat) (ad : Option Addr) (l c : Nat) (u : Value) (hx : a.eval x = .pointer (some ⟨b, o, none⟩)) (hy : a.eval y = .slice ad l c) (hc : w.cell? ⟨b, o, none⟩ = some u) (hf : w.frozen? ⟨b, o, none⟩ = false)
    (h : Q .normal a (w.setCell ⟨b, o, none⟩ (.slice ad l c))) : lastQ Try.prog ops n Q .normal a w :=
  lastQ_of hn hg (by
    unfold Oper.wp execOp
    simp only [ho, hx, hy]
    go_simp
    exact h)
end

/-- append of a row: where the new one lies. -/
theorem run_append_at {base : Nat} (w : World) (ty : TypeId) (v : Value) (xs : List Int) (hown : Gb base w v xs) (u : Value) (ys : List Int) (hy : L1 0 w u ys) (h63 : xs.length + ys.length ≤ 2097152) (hb : base ≤ w.heap.size) :
    ∃ v' w', (Builtin.append_ #[35, 35] ty #[v, u]).run Try.prog w = .ok v' w' ∧ Gb base w' v' (xs ++ ys) ∧ w.grownBy w' v.ownBlock ∧ (v'.ownBlock = v.ownBlock ∨ v'.ownBlock = some w.heap.size) := by
  obtain ⟨i, hi, hz, hs, hbt⟩ := info_parts Try.infoI
  rcases hy with ⟨rfl, ad, cap, rfl⟩ | ⟨b, o, cap, rfl, _, hpos, hc⟩
  · exact ⟨v, w, run_append_none' w _ _ _ i Try.underlying35 hi hown ad cap, by rw [List.append_nil]; exact hown, ⟨rfl, rfl, rfl, Nat.le_refl _, fun _ _ _ => rfl⟩, .inl rfl⟩
  · obtain ⟨g, cp, w', hr, h2, h3, h4, _⟩ := run_append_lies (P := Try.prog) (w := w) 35 ty base 2 i _ 1 8 Try.underlying35 hi hz hs hbt (by rfl) (by decide) v xs.length (xs.map (Value.int .i64)) hown ⟨b, o, none⟩ ys.length cap (ys.map (Value.int .i64)) (by simp)
      (fun j u hj => by
        have hj' : j < ys.length := by have := (List.getElem?_eq_some_iff.1 hj).1; simpa using this
        obtain ⟨u2, hu2, hr2⟩ := hc j hj'
        rw [Addr.add_mid, hu2, hr2]
        simp [hj'] at hj
        rw [← hj]) (fun u hu => by
        obtain ⟨y, _, rfl⟩ := List.mem_map.1 hu
        rfl) hpos (by unfold maxLen; omega) (by omega) hb w.heap.size rfl
    refine ⟨_, w', hr, by simpa [Gb] using h2, h3, ?_⟩
    rcases h4 with h4 | h4
    · exact .inl h4.symm
    · exact .inr (by rw [h4]; rfl)

/-- What a block that a list of numbers owns is. -/
theorem own_cells {base : Nat} {W : World} {v : Value} {xs : List Int} (h : Gb base W v xs) {g : Nat} (hg : v.ownBlock = some g) : ∃ c, W.heap[g]? = some (.cells c 2 (0, 0)) ∧ base ≤ g := by
  rcases h.2 with ⟨rfl, _⟩ | ⟨g', cap, cur, rfl, hb, hgb, _⟩
  · cases hg
  · obtain rfl : g' = g := by simpa [Value.ownBlock] using hg
    exact ⟨cur, hgb, hb⟩
theorem own_lt {base : Nat} {W : World} {v : Value} {xs : List Int} (h : Gb base W v xs) {g : Nat} (hg : v.ownBlock = some g) : g < W.heap.size := by
  obtain ⟨c, hc, _⟩ := own_cells h hg
  exact (Array.getElem?_eq_some_iff.1 hc).1
theorem off_type {base : Nat} {W : World} {v : Value} {xs : List Int} (h : Gb base W v xs) {b : Nat} {c : Array Value} {t : TypeId} {f : Nat × Nat} (hb : W.heap[b]? = some (.cells c t f)) (ht : t ≠ 2) : some b ≠ v.ownBlock := fun e => by
  obtain ⟨c', hc, _⟩ := own_cells h e.symm
  rw [hc] at hb
  cases hb
  exact ht rfl
theorem off_other {base : Nat} {W : World} {v : Value} {xs : List Int} (h : Gb base W v xs) {b : Nat} {o : Obj} (hb : W.heap[b]? = some o) (ho : o.isCells = false) : some b ≠ v.ownBlock := fun e => by
  obtain ⟨c', hc, _⟩ := own_cells h e.symm
  rw [hc] at hb
  cases hb
  cases ho
theorem off_low {base : Nat} {W : World} {v : Value} {xs : List Int} (h : Gb base W v xs) {b : Nat} (hb : b < base) : some b ≠ v.ownBlock := fun e => by
  obtain ⟨_, _, h2⟩ := own_cells h e.symm
  omega
theorem off_new {base : Nat} {W : World} {v : Value} {xs : List Int} (h : Gb base W v xs) {b : Nat} (hb : W.heap.size ≤ b) : some b ≠ v.ownBlock := fun e => by
  have := own_lt h e.symm
  omega

/-- The list in its box. -/
structure Tn (Bn base : Nat) (W : World) (v : Value) (xs : List Int) : Prop where
  box : Go.Boxed W Bn 35 v
  row : Gb base W v xs
/-- Nothing changed but the box and the block that its value owns. -/
structure Stp (Bn : Nat) (A W : World) (v v' : Value) : Prop where
  os : W.os = A.os
  tape : W.tape = A.tape
  output : W.output = A.output
  size : A.heap.size ≤ W.heap.size
  block : ∀ k, k < A.heap.size → k ≠ Bn → some k ≠ v.ownBlock → W.heap[k]? = A.heap[k]?
  own : v'.ownBlock = v.ownBlock ∨ ∃ g, v'.ownBlock = some g ∧ A.heap.size ≤ g
theorem Stp.refl (Bn : Nat) (A : World) (v : Value) : Stp Bn A A v v := ⟨rfl, rfl, rfl, Nat.le_refl _, fun _ _ _ _ => rfl, .inl rfl⟩
theorem Stp.off {Bn : Nat} {A W : World} {v v' : Value} (h : Stp Bn A W v v') {b : Nat} (hb : b < A.heap.size) (ho : some b ≠ v.ownBlock) : some b ≠ v'.ownBlock := fun e => by
  rcases h.own with h1 | ⟨g, h1, h2⟩
  · exact ho (e.trans h1)
  · rw [h1] at e
    cases e
    omega
theorem Stp.trans {Bn : Nat} {A B C : World} {u v z : Value} (h : Stp Bn A B u v) (k : Stp Bn B C v z) : Stp Bn A C u z :=
  ⟨k.os.trans h.os, k.tape.trans h.tape, k.output.trans h.output, Nat.le_trans h.size k.size, fun i hi hn ho => (k.block i (Nat.lt_of_lt_of_le hi h.size) hn (h.off hi ho)).trans (h.block i hi hn ho), by
    rcases k.own with h1 | ⟨g, h1, h2⟩
    · rcases h.own with h3 | ⟨g, h3, h4⟩
      · exact .inl (h1.trans h3)
      · exact .inr ⟨g, h1.trans h3, h4⟩
    · exact .inr ⟨g, h1, Nat.le_trans h.size h2⟩⟩
theorem Stp.of_below {Bn : Nat} {A W : World} (v : Value) (h : Below A.heap.size A W) : Stp Bn A W v v := ⟨h.os, h.tape, h.output, h.size, fun k hk _ _ => h.block k hk, .inl rfl⟩
theorem Stp.put {Bn : Nat} {A W : World} {v v' : Value} (h : Stp Bn A W v v') {l : Nat} (hl : A.heap.size ≤ l) (o : Obj) : Stp Bn A (W.putObj l o) v v' :=
  ⟨h.os, h.tape, h.output, by simpa using h.size, fun k hk hn ho => (World.putObj_heap_other (by omega)).trans (h.block k hk hn ho), h.own⟩
/-- One append and its store. -/
theorem Stp.app {Bn : Nat} {A X W : World} {v v' : Value} (h : Below A.heap.size A X) (hg : X.grownBy W v.ownBlock) (ho : v'.ownBlock = v.ownBlock ∨ v'.ownBlock = some X.heap.size) : Stp Bn A (W.setCell ⟨Bn, 0, none⟩ v') v v' :=
  ⟨hg.os.trans h.os, hg.tape.trans h.tape, hg.output.trans h.output, by simpa [World.setCell] using Nat.le_trans h.size hg.size, fun k hk hn hk2 =>
    ((Below.heap_setCell W ⟨Bn, 0, none⟩ v' k (by exact hn)).trans (hg.block k (Nat.lt_of_lt_of_le hk h.size) hk2)).trans (h.block k hk), by
    rcases ho with ho | ho
    · exact .inl ho
    · exact .inr ⟨_, ho, h.size⟩⟩
theorem Stp.low {Bn base n0 : Nat} {A W : World} {v v' : Value} {xs : List Int} (h : Stp Bn A W v v') (hr : Gb base A v xs) (h1 : n0 ≤ Bn) (h2 : n0 ≤ base) (h3 : n0 ≤ A.heap.size) : Below n0 A W :=
  ⟨h.os, h.tape, h.output, h.size, fun k hk => h.block k (by omega) (by omega) (off_low hr (by omega))⟩
theorem Stp.keeps {Bn base B : Nat} {A W : World} {v v' : Value} {xs : List Int} (h : Stp Bn A W v v') (hr : Tn Bn base A v xs) : KeepsFrom B A W :=
  ⟨h.size, fun k o _ hk ho => (h.block k (Array.getElem?_eq_some_iff.1 hk).1 (fun e => by
    subst e
    rw [show A.heap[k]? = _ from hr.box] at hk
    cases hk
    cases ho) (off_other hr.row hk ho)).trans hk⟩
theorem Tn.below {Bn base : Nat} {W W' : World} {v : Value} {xs : List Int} (h : Tn Bn base W v xs) (hb : Below W.heap.size W W') : Tn Bn base W' v xs := ⟨(hb.block _ h.box.lt).trans h.box, h.row.below hb⟩
theorem Tn.kept {Bn base : Nat} {W W' : World} {v : Value} {xs : List Int} {row : Option Nat} (h : Tn Bn base W v xs) (hg : W.grownBy W' row) (hr : ∀ r, row = some r → ∃ o : Obj, W.heap[r]? = some o ∧ o.isCells = false) : Tn Bn base W' v xs := by
  refine ⟨h.box.kept hg (fun e => ?_), h.row.kept hg ?_⟩
  · obtain ⟨o, ho, hc⟩ := hr _ e.symm
    rw [show W.heap[Bn]? = _ from h.box] at ho
    cases ho
    cases hc
  · cases hv : v.ownBlock with
    | none => exact .inl rfl
    | some g =>
      refine .inr (fun e => ?_)
      obtain ⟨o, ho, hc⟩ := hr g e.symm
      obtain ⟨c, hcc, _⟩ := own_cells h.row hv
      rw [hcc] at ho
      cases ho
      cases hc
/-- The two together abide turns of blocks beyond the beginning. -/
theorem tn_own {β : Type} {Bn base : Nat} {A : World} {v0 : Value} (f : β → List Int) : OwnFrom A.heap.size (fun (s : β) W => ∃ v, Tn Bn base W v (f s) ∧ Stp Bn A W v0 v) := fun s X Y row ⟨v, ht, hs⟩ hg hr =>
  ⟨v, ht.kept hg (fun r e => (hr r e).2), ⟨hg.os.trans hs.os, hg.tape.trans hs.tape, hg.output.trans hs.output, Nat.le_trans hs.size hg.size, fun k hk hn ho =>
    (hg.block k (Nat.lt_of_lt_of_le hk hs.size) (fun e => by have := (hr k e.symm).1; omega)).trans (hs.block k hk hn ho), hs.own⟩⟩

/-- What the bodies keep of the iterator's boxes. -/
structure Kd (n0 bn : Nat) (A W : World) : Prop where
  bel : Below n0 A W
  num : W.heap[bn]? = A.heap[bn]?
  fns : ∀ k v, Go.Boxed A k 121 v → Go.Boxed W k 121 v
theorem Stp.kd {Bn base n0 bn : Nat} {A W : World} {v v' : Value} {xs : List Int} (h : Stp Bn A W v v') (hr : Tn Bn base A v xs) (h1 : n0 ≤ Bn) (h2 : n0 ≤ base) (h3 : n0 ≤ A.heap.size) (h4 : bn ≠ Bn) (h5 : some bn ≠ v.ownBlock) (h6 : bn < A.heap.size) : Kd n0 bn A W :=
  ⟨h.low hr.row h1 h2 h3, h.block bn h6 h4 h5, fun k u hu => (h.block k hu.lt (fun e => by
    subst e
    have := (show A.heap[k]? = _ from hu).symm.trans hr.box
    simp at this) (off_type hr.row hu (by decide))).trans hu⟩
theorem kd_dgk {n0 bn : Nat} {n : Int} {dv : Value} {ds : List (List Int)} {w0 w : World} (h0 : w0.heap.size = n0) (hl : L2 0 w0 dv ds) (hb : Below n0 w0 w) (hbn : bn < w.heap.size) : DgK (Kd n0 bn) w bn n dv ds where
  refl A := ⟨Below.refl _ _, rfl, fun _ _ h => h⟩
  trans h k := ⟨h.bel.trans k.bel, k.num.trans h.num, fun i v hv => k.fns i v (h.fns i v hv)⟩
  dims hA hAB := by
    subst h0
    exact hl.below ((hb.trans (hA.mono hb.size)).trans hAB.bel)
  num h k := k.num.trans h
  fns h k := k.fns _ _ h
  put A k o o' hk ho hc := by
    have hs := hb.size
    refine ⟨⟨rfl, rfl, rfl, by simp, fun i hi => World.putObj_heap_other (by omega)⟩, World.putObj_heap_other (by omega), fun i v hv => ?_⟩
    refine (World.putObj_heap_other (fun e => ?_)).trans hv
    subst e
    rw [show A.heap[_]? = _ from hv] at ho
    cases ho
    cases hc
  alloc A o hA := by
    have hs := hb.size
    exact ⟨(Below.refl _ _).alloc (by omega) _, Below.heap_alloc A o bn (by omega), fun i v hv => hv.alloc _⟩
end Go.Proofs.Ytlopenephgabhaa


namespace Go.Proofs.Ytlopenephgabhaa
open Go.RowKit Go.Shelf
attribute [local go_sem] Oper.semAt_some

/-- The numbers of the rows of some cells. -/
def tnum (ds : List (List Int)) (ac dn : List (List (List (List Int)))) (q : Nat) (fs : List (Nat × Nat)) : List Int := fs.flatMap fun f => (List.range (cdim ds f)).flatMap fun r => trow ds ac dn q f r
theorem flat_le {α β : Type} (f : α → List β) (m : Nat) : ∀ L : List α, (∀ c ∈ L, (f c).length ≤ m) → (L.flatMap f).length ≤ m * L.length
  | [], _ => by simp
  | c :: L, h => by
    rw [List.flatMap_cons, List.length_append, List.length_cons, Nat.mul_succ]
    have h1 := h c (by simp)
    have h2 := flat_le f m L (fun d hd => h d (by simp [hd]))
    omega
theorem cells_le {ds : List (List Int)} (hok : DclOk ds) : (cellsTo ds ds.length).length ≤ 16 := by
  have h := flat_le (rowCells ds) 4 (List.range ds.length) (fun i hi => by
    have hi := List.mem_range.1 hi
    unfold rowCells
    rw [List.length_map, List.length_range, getD_of_lt _ hi, (hok.col _ (List.getElem_mem hi)).1]
    exact hok.h1)
  rw [List.length_range] at h
  have := hok.len1
  unfold cellsTo
  omega
theorem dgn_le {ds : List (List Int)} (hok : DclOk ds) (n : Nat) : (dgn ds n).length ≤ 16 := Nat.le_trans (List.length_filter_le _ _) (cells_le hok)
theorem prt_le {p : Int} {ds : List (List Int)} {ac dn : List (List (List (List Int)))} (hp : IsP p) (hok : DclOk ds) (ht : TbsOk p ds ac dn) {f c : Nat × Nat} (hf : f ∈ cellsTo ds ds.length) (hc : c ∈ cellsTo ds ds.length) {r : Nat} (hr : r < cdim ds f) : (prt ds ac dn f r c).length ≤ 4 := by
  have h1 := (prt_ok hp hok ht hf hc hr).1
  have h2 := (cdim_cast hok hc).2
  omega
theorem pre_le {p : Int} {ds : List (List Int)} {ac dn : List (List (List (List Int)))} (hp : IsP p) (hok : DclOk ds) (ht : TbsOk p ds ac dn) {f : Nat × Nat} (hf : f ∈ cellsTo ds ds.length) {r : Nat} (hr : r < cdim ds f) {n : Nat} (pre : List (DgIn ds n)) : ((pre.map (·.1)).flatMap (prt ds ac dn f r)).length ≤ 4 * pre.length := by
  have h := flat_le (prt ds ac dn f r) 4 (pre.map (·.1)) (fun c hc => by
    obtain ⟨x, _, rfl⟩ := List.mem_map.1 hc
    exact prt_le hp hok ht hf (mem_cells.2 (mem_dgn.1 x.2).1) hr)
  rwa [List.length_map] at h
theorem trow_le {p : Int} {ds : List (List Int)} {ac dn : List (List (List (List Int)))} (hp : IsP p) (hok : DclOk ds) (ht : TbsOk p ds ac dn) {f : Nat × Nat} (hf : f ∈ cellsTo ds ds.length) {r : Nat} (hr : r < cdim ds f) (q : Nat) : (trow ds ac dn q f r).length ≤ 64 := by
  have h := flat_le (prt ds ac dn f r) 4 (dgn ds q) (fun c hc => prt_le hp hok ht hf (mem_cells.2 (mem_dgn.1 hc).1) hr)
  have := dgn_le hok q
  unfold trow
  omega
theorem rows_le {p : Int} {ds : List (List Int)} {ac dn : List (List (List (List Int)))} (hp : IsP p) (hok : DclOk ds) (ht : TbsOk p ds ac dn) {f : Nat × Nat} (hf : f ∈ cellsTo ds ds.length) (q : Nat) {k : Nat} (hk : k ≤ cdim ds f) : ((List.range k).flatMap fun r => trow ds ac dn q f r).length ≤ 64 * k := by
  have h := flat_le (fun r => trow ds ac dn q f r) 64 (List.range k) (fun r hr => trow_le hp hok ht hf (by have := List.mem_range.1 hr; omega) q)
  rwa [List.length_range] at h
theorem tnum_le {p : Int} {ds : List (List Int)} {ac dn : List (List (List (List Int)))} (hp : IsP p) (hok : DclOk ds) (ht : TbsOk p ds ac dn) (q : Nat) {n : Nat} (pre : List (DgIn ds n)) : (tnum ds ac dn q (pre.map (·.1))).length ≤ 256 * pre.length := by
  have h := flat_le (fun f => (List.range (cdim ds f)).flatMap fun r => trow ds ac dn q f r) 256 (pre.map (·.1)) (fun f hf => by
    obtain ⟨x, _, rfl⟩ := List.mem_map.1 hf
    have hc := mem_cells.2 (mem_dgn.1 x.2).1
    have h1 := rows_le hp hok ht hc q (Nat.le_refl _)
    have h2 := (cdim_cast hok hc).2
    omega)
  rwa [List.length_map] at h
theorem tnum_snoc (ds : List (List Int)) (ac dn : List (List (List (List Int)))) (q : Nat) (fs : List (Nat × Nat)) (f : Nat × Nat) : tnum ds ac dn q (fs ++ [f]) = tnum ds ac dn q fs ++ (List.range (cdim ds f)).flatMap fun r => trow ds ac dn q f r := by
  simp [tnum]

set_option maxRecDepth 100000 in
set_option maxHeartbeats 8000000 in
theorem totalNumbers_any (p : Int) (hp : IsP p) (dv av vv : Value) (ds : List (List Int)) (ac dn : List (List (List (List Int)))) (q : Nat) (hq : q + 1 ≤ 1000) (w : World) (h : Dx 0 w dv av vv ds ac dn) (hok : DclOk ds) (ht : TbsOk p ds ac dn) :
    Calls Try.prog 100 #[.agg #[.int .i64 p, dv, av, vv], .int .i64 ((q + 1 : Nat) : Int)] w fun e w' => ∃ v, e = .returned v ∧ Gb w.heap.size w' v (tnum ds ac dn q (dgn ds (q + 1))) ∧ Below w.heap.size w w' := by
  have HP := Lib.hid hp
  have HOK := Lib.hid hok
  have HT := Lib.hid ht
  have HX := Lib.hid h
  obtain ⟨n, hn⟩ : ∃ n, n = q + 1 := ⟨_, rfl⟩
  rw [← hn] at hq ⊢
  have HN := Lib.hid hn
  clear hp hok ht h hn
  refine (callsIn_wide (n := 8)).1 ?_
  refine callsIn_of_wp_marks Try.func100 rfl trivial ?_
  simp only [Try.ntmps100, List.size_toArray, List.length_cons, List.length_nil, Nat.reduceAdd, Nat.reduceSub, Array.replicate_succ, Array.replicate_zero, List.push_toArray, List.append_toArray, List.nil_append, List.cons_append]
  gi_wp2_with fail
  refine ⟨trivial, (callsIn_wide.2 (diagonalOf_any p n dv av vv _)).mono ?_⟩
  rintro e w2 ⟨rfl, rfl⟩
  dsimp only
  gi_wp2
  have hsA : (((w.alloc (.cells #[.int .i64 p, dv, av, vv] 28)).alloc (.cells #[.int .i64 (n : Int)] 2)).alloc (.cells #[.slice none 0 0] 35)).heap.size = w.heap.size + 3 := by simp
  have hBA : Below w.heap.size w (((w.alloc (.cells #[.int .i64 p, dv, av, vv] 28)).alloc (.cells #[.int .i64 (n : Int)] 2)).alloc (.cells #[.slice none 0 0] 35)) := (((Below.refl _ _).alloc (Nat.le_refl _) _).alloc (by simp) _).alloc (by simp; omega) _
  have hx0 := ((DBx.start (p := p) 28 HX.out).next ((Below.refl _ _).alloc (Nat.le_refl _) (.cells #[.int .i64 (n : Int)] 2))).next ((Below.refl _ _).alloc (Nat.le_refl _) (.cells #[.slice none 0 0] 35))
  have hn0 := (Go.Boxed.new (w.alloc (.cells #[.int .i64 p, dv, av, vv] 28)) 2 (.int .i64 (n : Int))).alloc (.cells #[.slice none 0 0] 35)
  have hz0 := Go.Boxed.new ((w.alloc (.cells #[.int .i64 p, dv, av, vv] 28)).alloc (.cells #[.int .i64 (n : Int)] 2)) 35 (.slice none 0 0)
  rw [World.size_alloc] at hn0
  rw [World.size_alloc, World.size_alloc] at hz0
  obtain ⟨WA, hWA⟩ : ∃ WA, WA = ((w.alloc (.cells #[.int .i64 p, dv, av, vv] 28)).alloc (.cells #[.int .i64 (n : Int)] 2)).alloc (.cells #[.slice none 0 0] 35) := ⟨_, rfl⟩
  rw [← hWA] at hsA hBA hx0 hn0 hz0 ⊢
  clear hWA
  have hs1 : ((WA.alloc (.cells #[.int .i64 p, dv, av, vv] 28)).alloc (.cells #[.int .i64 (n : Int)] 2)).heap.size = WA.heap.size + 2 := by simp
  have hB1 : Below WA.heap.size WA ((WA.alloc (.cells #[.int .i64 p, dv, av, vv] 28)).alloc (.cells #[.int .i64 (n : Int)] 2)) := ((Below.refl _ _).alloc (Nat.le_refl _) _).alloc (by simp) _
  have hy1 := (DBx.start (p := p) 28 (HX.out.below hBA)).next ((Below.refl _ _).alloc (Nat.le_refl _) (.cells #[.int .i64 (n : Int)] 2))
  have hm1 := Go.Boxed.new (WA.alloc (.cells #[.int .i64 p, dv, av, vv] 28)) 2 (.int .i64 (n : Int))
  rw [World.size_alloc] at hm1
  have hx1 := hx0.next hB1
  have hn1 : Go.Boxed ((WA.alloc (.cells #[.int .i64 p, dv, av, vv] 28)).alloc (.cells #[.int .i64 (n : Int)] 2)) (w.heap.size + 1) 2 (.int .i64 (n : Int)) := (hB1.block _ hn0.lt).trans hn0
  have hz1 : Go.Boxed ((WA.alloc (.cells #[.int .i64 p, dv, av, vv] 28)).alloc (.cells #[.int .i64 (n : Int)] 2)) (w.heap.size + 1 + 1) 35 (.slice none 0 0) := (hB1.block _ hz0.lt).trans hz0
  obtain ⟨W1, hW1⟩ : ∃ W1, W1 = (WA.alloc (.cells #[.int .i64 p, dv, av, vv] 28)).alloc (.cells #[.int .i64 (n : Int)] 2) := ⟨_, rfl⟩
  rw [← hW1] at hs1 hB1 hy1 hm1 hx1 hn1 hz1 ⊢
  clear hW1 hx0 hn0 hz0
  have hBW := hBA.trans (hB1.mono hBA.size)
  have HB1 := Lib.hid hBW
  have hdk := kd_dgk (n0 := w.heap.size) (bn := WA.heap.size + 1) (n := (n : Int)) (w := W1) rfl HX.out.dims hBW (by omega)
  have HDK := Lib.hid hdk
  have HS1 := Lib.hid hs1
  have HSA := Lib.hid hsA
  have HT1 : Hid (Tn (w.heap.size + 1 + 1) (w.heap.size + 1 + 1) W1 (.slice none 0 0) []) := Lib.hid ⟨hz1, by simp [Gb, World.ownsRow]⟩
  have HCTX : Hid (∀ W v, Stp (w.heap.size + 1 + 1) W1 W (.slice none 0 0) v → DBx w W w.heap.size p dv av vv ds ac dn ∧ Go.Boxed W (w.heap.size + 1) 2 (.int .i64 (n : Int))) := Lib.hid (fun W v hs => by
    have hk : ∀ b, b < W1.heap.size → b ≠ w.heap.size + 1 + 1 → W.heap[b]? = W1.heap[b]? := fun b hb hne => hs.block b hb hne (by simp [Value.ownBlock])
    have hbw : Below w.heap.size w W := hBW.trans (hs.low HT1.out.row (by omega) (by omega) hBW.size)
    have hc : ∀ o, W.cell? ⟨w.heap.size, o, none⟩ = W1.cell? ⟨w.heap.size, o, none⟩ := fun o => World.cell?_of_block (hk w.heap.size hx1.lt (by omega))
    exact ⟨⟨hbw, (hc 0).trans hx1.c0, (hc 1).trans hx1.c1, (hc 2).trans hx1.c2, (hc 3).trans hx1.c3, Nat.lt_of_lt_of_le hx1.lt hs.size, HX.out.below hbw⟩, (hk _ hn1.lt (by omega)).trans hn1⟩)
  have hl1 : ds.length ≤ 1000 := by have := HOK.out.len1; omega
  have hl2 : ∀ r ∈ ds, r.length ≤ 1000 := fun r hr => by have := (HOK.out.col r hr).1; have := HOK.out.h1; omega
  have hseq := diag_seq 7 (by decide) p n hq WA.heap.size (WA.heap.size + 1) dv av vv ds hl1 hl2 (Kd w.heap.size (WA.heap.size + 1)) W1 hdk (by omega) hy1.c0 hy1.c1 hy1.c2 hy1.c3 hm1
  clear hy1 hm1 hx1 hn1 hz1 hBA hB1 hBW hdk hs1 hsA
  refine wpIn_rangeO_cell rfl (by decide : 1 ≤ 8) (gf := 131) (lb := #[.pointer (some ⟨WA.heap.size, 0, none⟩), .pointer (some ⟨WA.heap.size + 1, 0, none⟩)]) rfl trivial (enters_of Try.func131 (by kernel_rfl) rfl)
    hseq (fun h k => HDK.out.trans h k) (fun A l o o' hl ho hc => HDK.out.put A l o o' hl ho hc) (Below.refl _ _) (fun _ => rfl)
    (fun pre W => ∃ v, Tn (w.heap.size + 1 + 1) (w.heap.size + 1 + 1) W v (tnum ds ac dn q (pre.map (·.1))) ∧ Stp (w.heap.size + 1 + 1) W1 W (.slice none 0 0) v)
    (fun _ _ _ => False) (tn_own (fun pre : List (DgIn ds n) => tnum ds ac dn q (pre.map (·.1)))) (fun _ _ _ _ _ h _ _ => h)
    ⟨_, HT1.out, Stp.refl _ _ _⟩
    (fun x => #[.int .i64 (x.1.1 : Int), .int .i64 (x.1.2 : Int)]) 6 101 W1.heap.size
    ?assign ?body ?done ?stop
  case assign =>
    rintro l pre x A K ⟨v, htn, hst⟩ hKK
    simp only [dgV] at hKK ⊢
    have hsz := hst.size
    gi_wp2
    have hba : Below A.heap.size A (A.alloc (.cells #[.int .i64 (x.1.1 : Int), .int .i64 (x.1.2 : Int)] 101)) := (Below.refl _ _).alloc (Nat.le_refl _) _
    have hk := hKK A.heap.size _ hsz (World.alloc_heap_new A _) ((KeepsOthers.alloc _ _).from _) (HDK.out.alloc A _ hsz) ⟨v, htn.below hba, hst.trans (Stp.of_below v hba)⟩
    simp at hk
    refine Eq.mp ?_ hk
    congr 1
    all_goals (try congr 1)
  case body =>
    rintro l pre x Bx A hl ⟨r, hr⟩ ⟨v, htn, hst⟩ hD hX hlt
    obtain ⟨⟨i, j⟩, hxm⟩ := x
    dsimp only at hX
    have hfc : (i, j) ∈ cellsTo ds ds.length := mem_cells.2 (mem_dgn.1 hxm).1
    have HFC := Lib.hid hfc
    have hmf := mem_cells.1 hfc
    dsimp only at hmf
    obtain ⟨hxA, _⟩ := HCTX.out A v hst
    obtain ⟨d, hd⟩ : ∃ d, d = cdim ds (i, j) := ⟨_, rfl⟩
    have hd4 : d ≤ 4 := by rw [hd]; exact (cdim_cast HOK.out hfc).2
    have HD := Lib.hid hd
    have HDC : Hid (Calls Try.prog 95 #[.agg #[.int .i64 p, dv, av, vv], .agg #[.int .i64 (i : Int), .int .i64 (j : Int)]] A fun e w' => e = .returned (.int .i64 (d : Int)) ∧ Below A.heap.size A w') := Lib.hid (by
      rw [hd, (cdim_cast HOK.out hfc).1]
      exact dimOfCell_any p i j _ _ _ ds A hxA.dx.dims ⟨by have := HOK.out.len1; omega, fun r hr => by have := hl2 r hr; show r.length ≤ _; omega⟩ (by omega) (by omega) (by omega) (fun _ => by simp only [Int.toNat_natCast]; exact Int.ofNat_lt.2 hmf.2))
    have x0 : A.cell? ⟨Bx, 0, none⟩ = some (.int .i64 (i : Int)) := by simp [World.cell?, hX]
    have x1 : A.cell? ⟨Bx, 1, none⟩ = some (.int .i64 (j : Int)) := by simp [World.cell?, hX]
    have c0 := hxA.c0
    have c1 := hxA.c1
    have c2 := hxA.c2
    have c3 := hxA.c3
    have HTN := Lib.hid htn
    have HST := Lib.hid hst
    have HXB := Lib.hid hX
    have HR := Lib.hid hr
    clear hd htn hst hX hr hxA hfc
    gi_wp2_with fail
    refine ⟨trivial, (CallsIn.inRound l (callsIn_wide.2 HDC.out)).mono ?_⟩
    rintro e A2 ⟨rfl, hb2⟩
    clear HDC c0 c1 c2 c3 x0 x1
    have HB2 := Lib.hid hb2
    clear hb2
    gi_wp2
    gi_loopw [16] (fun i' wr => ∃ k : Nat, k ≤ d ∧ i' = .int .i64 k ∧ ∃ v', Hid (Tn (w.heap.size + 1 + 1) (w.heap.size + 1 + 1) wr v' (tnum ds ac dn q (pre.map (·.1)) ++ (List.range k).flatMap fun r => trow ds ac dn q (i, j) r)) ∧ Hid (Stp (w.heap.size + 1 + 1) A wr v v')) (fun i' _ => d - (intOf i').toNat)
    case atStart => exact ⟨0, Nat.zero_le _, rfl, v, Lib.hid (by simpa using HTN.out.below HB2.out), Lib.hid (Stp.of_below v HB2.out)⟩
    case round =>
      obtain ⟨k, hk, rfl, v2, HTN2, HST2⟩ := hrel
      by_cases hlk : k < d
      · have hnq : IntKind.i64.wrap ((n : Int) - 1) = (q : Int) := by rw [IntWalk.i64_in _ (by omega)]; have := HN.out; omega
        obtain ⟨hxr, hnr⟩ := HCTX.out wr v2 (HST.out.trans HST2.out)
        have c0 := hxr.c0
        have c1 := hxr.c1
        have c2 := hxr.c2
        have c3 := hxr.c3
        have nb := hnr.cell
        have hxl := hxr.lt
        have hnl := hnr.lt
        have HXR := Lib.hid hxr
        have xb : wr.heap[Bx]? = some (.cells #[.int .i64 (i : Int), .int .i64 (j : Int)] 101 (0, 0)) := (HST2.out.block Bx (Array.getElem?_eq_some_iff.1 HXB.out).1 (fun e => by
          have h1 := HTN.out.box
          rw [← e] at h1
          have := (show A.heap[Bx]? = _ from h1).symm.trans HXB.out
          simp at this) (off_type HTN.out.row HXB.out (by decide))).trans HXB.out
        have HXR2 := Lib.hid xb
        clear hxr hnr xb
        gi_wp2_with fail
        refine ⟨trivial, (CallsIn.inRound l (callsIn_wide.2 (diagonalOf_any p q dv av vv _))).mono ?_⟩
        rintro e w3 ⟨rfl, rfl⟩
        dsimp only
        gi_wp2
        have hsR : (wr.alloc (.cells #[.int .i64 (k : Int)] 2)).heap.size = wr.heap.size + 1 := by simp
        have hBR : Below wr.heap.size wr (wr.alloc (.cells #[.int .i64 (k : Int)] 2)) := (Below.refl _ _).alloc (Nat.le_refl _) _
        have hrR := Go.Boxed.new wr 2 (.int .i64 (k : Int))
        obtain ⟨WR, hWR⟩ : ∃ WR, WR = wr.alloc (.cells #[.int .i64 (k : Int)] 2) := ⟨_, rfl⟩
        rw [← hWR] at hsR hBR hrR ⊢
        clear hWR
        have hs3 : ((WR.alloc (.cells #[.int .i64 p, dv, av, vv] 28)).alloc (.cells #[.int .i64 (q : Int)] 2)).heap.size = WR.heap.size + 2 := by simp
        have hB3 : Below WR.heap.size WR ((WR.alloc (.cells #[.int .i64 p, dv, av, vv] 28)).alloc (.cells #[.int .i64 (q : Int)] 2)) := ((Below.refl _ _).alloc (Nat.le_refl _) _).alloc (by simp) _
        have hy3 := (DBx.start (p := p) 28 (HXR.out.dx.below hBR)).next ((Below.refl _ _).alloc (Nat.le_refl _) (.cells #[.int .i64 (q : Int)] 2))
        have hm3 := Go.Boxed.new (WR.alloc (.cells #[.int .i64 p, dv, av, vv] 28)) 2 (.int .i64 (q : Int))
        rw [World.size_alloc] at hm3
        obtain ⟨A3, hA3⟩ : ∃ A3, A3 = (WR.alloc (.cells #[.int .i64 p, dv, av, vv] 28)).alloc (.cells #[.int .i64 (q : Int)] 2) := ⟨_, rfl⟩
        rw [← hA3] at hs3 hB3 hy3 hm3 ⊢
        clear hA3
        have hBr3 : Below wr.heap.size wr A3 := hBR.trans (hB3.mono (by omega))
        have HBR3 := Lib.hid hBr3
        have HTN3 := Lib.hid (HTN2.out.below hBr3)
        have HST3 := Lib.hid (HST2.out.trans (Stp.of_below v2 hBr3))
        have HRB3 : Hid (Go.Boxed A3 wr.heap.size 2 (.int .i64 (k : Int))) := Lib.hid ((hB3.block _ hrR.lt).trans hrR)
        have HXB3 : Hid (A3.heap[Bx]? = some (.cells #[.int .i64 (i : Int), .int .i64 (j : Int)] 101 (0, 0))) := Lib.hid ((hBr3.block Bx (Array.getElem?_eq_some_iff.1 HXR2.out).1).trans HXR2.out)
        have hlo : A3.heap[l]? = some (.loop r) := (HST3.out.keeps (B := 0) HTN.out).same l _ (Nat.zero_le _) HR.out rfl
        have hBw3 : Below w.heap.size w A3 := HXR.out.below.trans (hBr3.mono HXR.out.below.size)
        have hdk := kd_dgk (n0 := w.heap.size) (bn := WR.heap.size + 1) (n := (q : Int)) (w := A3) rfl HX.out.dims hBw3 (by omega)
        have HDK3 := Lib.hid hdk
        have HS3 := Lib.hid hs3
        have HSR := Lib.hid hsR
        have hwr : w.heap.size ≤ wr.heap.size := HXR.out.below.size
        have hseq := diag_seq 5 (by decide) p q (by have := HN.out; omega) WR.heap.size (WR.heap.size + 1) dv av vv ds hl1 hl2 (Kd w.heap.size (WR.heap.size + 1)) A3 hdk (by omega) hy3.c0 hy3.c1 hy3.c2 hy3.c3 hm3
        clear hy3 hm3 hrR hBR hB3 hBr3 hBw3 hdk hs3 hsR c0 c1 c2 c3 nb
        refine wpIn_rangeOin_cell (lo := l) (r0 := r) rfl hlo (by decide : 1 ≤ 6) (gf := 131) (lb := #[.pointer (some ⟨WR.heap.size, 0, none⟩), .pointer (some ⟨WR.heap.size + 1, 0, none⟩)]) rfl trivial (enters_of Try.func131 (by kernel_rfl) rfl)
          (hseq.inRound l) (fun h k => HDK3.out.trans h k) (fun A l o o' hl ho hc => HDK3.out.put A l o o' hl ho hc) (Below.refl _ _) (fun _ => rfl)
          (fun pre2 W => ∃ v', Tn (w.heap.size + 1 + 1) (w.heap.size + 1 + 1) W v' ((tnum ds ac dn q (pre.map (·.1)) ++ (List.range k).flatMap fun r => trow ds ac dn q (i, j) r) ++ (pre2.map (·.1)).flatMap (prt ds ac dn (i, j) k)) ∧ Stp (w.heap.size + 1 + 1) A3 W v2 v')
          (fun _ _ _ => False) (tn_own (fun pre2 : List (DgIn ds q) => (tnum ds ac dn q (pre.map (·.1)) ++ (List.range k).flatMap fun r => trow ds ac dn q (i, j) r) ++ (pre2.map (·.1)).flatMap (prt ds ac dn (i, j) k))) (fun _ _ _ _ _ h _ _ => h)
          ⟨v2, by simpa using HTN3.out, Stp.refl _ _ _⟩
          (fun x => #[.int .i64 (x.1.1 : Int), .int .i64 (x.1.2 : Int)]) 8 101 A3.heap.size
          ?assign2 ?body2 ?done2 ?stop2
        case assign2 =>
          rintro l2 pre2 x B K ⟨v3, htn3, hst3⟩ hKK
          simp only [dgV] at hKK ⊢
          have hsz := hst3.size
          gi_wp2
          have hba : Below B.heap.size B (B.alloc (.cells #[.int .i64 (x.1.1 : Int), .int .i64 (x.1.2 : Int)] 101)) := (Below.refl _ _).alloc (Nat.le_refl _) _
          have hk := hKK B.heap.size _ hsz (World.alloc_heap_new B _) ((KeepsOthers.alloc _ _).from _) (HDK3.out.alloc B _ hsz) ⟨v3, htn3.below hba, hst3.trans (Stp.of_below v3 hba)⟩
          simp at hk
          refine Eq.mp ?_ hk
          congr 1
          all_goals (try congr 1)
        case body2 =>
          rintro l2 pre2 y By B hl2' ⟨r2, hr2⟩ ⟨v3, htn3, hst3⟩ hDy hY hlt2
          obtain ⟨⟨a, b⟩, hym⟩ := y
          dsimp only at hY
          have hyc : (a, b) ∈ cellsTo ds ds.length := mem_cells.2 (mem_dgn.1 hym).1
          have hkd : k < cdim ds (i, j) := by rw [← HD.out]; exact hlk
          obtain ⟨hxB, _⟩ := HCTX.out B v3 (HST.out.trans (HST3.out.trans hst3))
          have hrB : Go.Boxed B wr.heap.size 2 (.int .i64 (k : Int)) := (hst3.block _ HRB3.out.lt (by have := HST3.out.size; have h1 := HTN2.out.box.lt; omega) (off_new HTN2.out.row (Nat.le_refl _))).trans HRB3.out
          have hfB : B.heap[Bx]? = some (.cells #[.int .i64 (i : Int), .int .i64 (j : Int)] 101 (0, 0)) := (hst3.block Bx (Array.getElem?_eq_some_iff.1 HXB3.out).1 (fun e => by
            have h1 := HTN3.out.box
            rw [← e] at h1
            have := (show A3.heap[Bx]? = _ from h1).symm.trans HXB3.out
            simp at this) (off_type HTN3.out.row HXB3.out (by decide))).trans HXB3.out
          have HCALL : Hid (∀ X, Below B.heap.size B X → Calls Try.prog 121 #[.agg #[.int .i64 p, dv, av, vv], .agg #[.int .i64 (i : Int), .int .i64 (j : Int)], .int .i64 (k : Int), .agg #[.int .i64 (a : Int), .int .i64 (b : Int)]] X fun e w' => ∃ v, e = .returned v ∧ L1 0 w' v (prt ds ac dn (i, j) k (a, b)) ∧ Below X.heap.size X w') :=
            Lib.hid (fun X hb => partOfRow_any p (i, j) (a, b) k dv av vv ds ac dn X (hxB.dx.below hb) HOK.out HT.out HFC.out hyc hkd)
          have hoff : ∀ {b : Nat}, b < B.heap.size → some b ≠ v3.ownBlock → ∀ X, B.grownBy X v3.ownBlock → ∀ o, X.cell? ⟨b, o, none⟩ = B.cell? ⟨b, o, none⟩ := fun hb hne X hg o => World.cell?_of_block (hg.block _ hb hne)
          have ox : some w.heap.size ≠ v3.ownBlock := off_low htn3.row (by omega)
          have on : some (w.heap.size + 1 + 1) ≠ v3.ownBlock := off_type htn3.row htn3.box (by decide)
          have of : some Bx ≠ v3.ownBlock := off_type htn3.row hfB (by decide)
          have oy : some By ≠ v3.ownBlock := off_type htn3.row hY (by decide)
          have or : some wr.heap.size ≠ v3.ownBlock := hst3.off HRB3.out.lt (off_new HTN2.out.row (Nat.le_refl _))
          have HL0 : Hid (∀ X, B.grownBy X v3.ownBlock → (Instr.loadAt 35 (.pointer (some ⟨w.heap.size + 1 + 1, 0, none⟩))).run Try.prog X = .ok v3 X) := Lib.hid (fun X hg => by
            have hc := (hoff htn3.box.lt on X hg 0).trans htn3.box.cell
            obtain ⟨a3, c3, hv3⟩ := Sl.shape htn3.row.l1
            subst hv3
            go_simp)
          have HL1 : Hid (∀ X, B.grownBy X v3.ownBlock → (Instr.loadAt 28 (.pointer (some ⟨w.heap.size, 0, none⟩))).run Try.prog X = .ok (.agg #[.int .i64 p, dv, av, vv]) X) := Lib.hid (fun X hg => by
            have c0 := (hoff hxB.lt ox X hg 0).trans hxB.c0
            have c1 := (hoff hxB.lt ox X hg 1).trans hxB.c1
            have c2 := (hoff hxB.lt ox X hg 2).trans hxB.c2
            have c3 := (hoff hxB.lt ox X hg 3).trans hxB.c3
            go_simp)
          have HL2 : Hid (∀ X, B.grownBy X v3.ownBlock → (Instr.loadAt 101 (.pointer (some ⟨Bx, 0, none⟩))).run Try.prog X = .ok (.agg #[.int .i64 (i : Int), .int .i64 (j : Int)]) X) := Lib.hid (fun X hg =>
            hloadCe X ((hoff (Array.getElem?_eq_some_iff.1 hfB).1 of X hg 0).trans (by simp [World.cell?, hfB])) ((hoff (Array.getElem?_eq_some_iff.1 hfB).1 of X hg 1).trans (by simp [World.cell?, hfB])))
          have HL3 : Hid (∀ X, B.grownBy X v3.ownBlock → (Instr.loadAt 2 (.pointer (some ⟨wr.heap.size, 0, none⟩))).run Try.prog X = .ok (.int .i64 (k : Int)) X) := Lib.hid (fun X hg => hloadIn X ((hoff hrB.lt or X hg 0).trans hrB.cell))
          have HL4 : Hid (∀ X, B.grownBy X v3.ownBlock → (Instr.loadAt 101 (.pointer (some ⟨By, 0, none⟩))).run Try.prog X = .ok (.agg #[.int .i64 (a : Int), .int .i64 (b : Int)]) X) := Lib.hid (fun X hg =>
            hloadCe X ((hoff (Array.getElem?_eq_some_iff.1 hY).1 oy X hg 0).trans (by simp [World.cell?, hY])) ((hoff (Array.getElem?_eq_some_iff.1 hY).1 oy X hg 1).trans (by simp [World.cell?, hY])))
          have HTNB := Lib.hid htn3
          have HSTB := Lib.hid hst3
          have hxs : (((tnum ds ac dn q (pre.map (·.1)) ++ (List.range k).flatMap fun r => trow ds ac dn q (i, j) r) ++ (pre2.map (·.1)).flatMap (prt ds ac dn (i, j) k))).length + (prt ds ac dn (i, j) k (a, b)).length ≤ 2097152 := by
            have h1 := tnum_le HP.out HOK.out HT.out q pre
            have h2 := rows_le HP.out HOK.out HT.out HFC.out q (Nat.le_of_lt hkd)
            have h3 := pre_le HP.out HOK.out HT.out HFC.out hkd pre2
            have h4 := prt_le HP.out HOK.out HT.out HFC.out hyc hkd
            have h5 := cells_le HOK.out
            simp only [List.length_append]
            omega
          have HXS := Lib.hid hxs
          have HFIN : Hid (∀ W v', Gb (w.heap.size + 1 + 1) W v' (((tnum ds ac dn q (pre.map (·.1)) ++ (List.range k).flatMap fun r => trow ds ac dn q (i, j) r) ++ (pre2.map (·.1)).flatMap (prt ds ac dn (i, j) k)) ++ prt ds ac dn (i, j) k (a, b)) → Go.Boxed W (w.heap.size + 1 + 1) 35 v' → Stp (w.heap.size + 1 + 1) B W v3 v' →
              KeepsFrom A3.heap.size B W ∧ Kd w.heap.size (WR.heap.size + 1) B W ∧ ∃ v', Tn (w.heap.size + 1 + 1) (w.heap.size + 1 + 1) W v' ((tnum ds ac dn q (pre.map (·.1)) ++ (List.range k).flatMap fun r => trow ds ac dn q (i, j) r) ++ ((pre2 ++ ([⟨(a, b), hym⟩] : List (DgIn ds q))).map (·.1)).flatMap (prt ds ac dn (i, j) k)) ∧ Stp (w.heap.size + 1 + 1) A3 W v2 v') := Lib.hid (fun W v' hg hb hs => by
            have hs3 := HS3.out
            have hsr := HSR.out
            have hsz := HSTB.out.size
            have hbl := HTN2.out.box.lt
            refine ⟨hs.keeps HTNB.out, hs.kd HTNB.out (by omega) (by omega) (by omega) (by omega) (HSTB.out.off (by omega) (off_new HTN2.out.row (by omega))) (by omega), v', ⟨hb, ?_⟩, HSTB.out.trans hs⟩
            have e : ((pre2 ++ ([⟨(a, b), hym⟩] : List (DgIn ds q))).map (·.1)).flatMap (prt ds ac dn (i, j) k) = (pre2.map (·.1)).flatMap (prt ds ac dn (i, j) k) ++ prt ds ac dn (i, j) k (a, b) := by
              rw [List.map_append, List.flatMap_append]
              refine congrArg _ ?_
              show List.flatMap _ [(a, b)] = _
              simp
            rw [e, ← List.append_assoc]
            exact hg)
          clear hoff hxs hxB hrB hfB htn3 hst3 hY hr2 ox on of oy or hlt2
          gi_wp2_with fail
          refine wpIn_region_last (fun X => B.grownBy X v3.ownBlock) 7 (by kernel_rfl) (by kernel_rfl) (fun ⟨_, _, h⟩ => h) rfl (by kernel_rfl) ?_
          have S0 : B.grownBy B.drew v3.ownBlock := ⟨rfl, rfl, rfl, Nat.le_refl _, fun _ _ _ => rfl⟩
          have hbd : Below B.heap.size B B.drew := (Below.refl _ _).drew
          change wpAnyH _ _ _ _ _ _ _ _ B.drew
          generalize B.drew = wd at *
          refine held_take (i := 0) (v := v3) (some 24) rfl rfl (by kernel_rfl) (by kernel_rfl) (by kernel_rfl) (fun _ _ _ h => h) (yieldsIf_cell (by kernel_rfl) rfl (by kernel_rfl) HL0.out) S0 ?_
          refine held_take (i := 1) (v := .agg #[.int .i64 p, dv, av, vv]) (some 25) rfl rfl (by kernel_rfl) (by kernel_rfl) (by kernel_rfl) (fun _ _ _ h => h) (yieldsIf_cell (by kernel_rfl) rfl (by kernel_rfl) HL1.out) S0 ?_
          refine held_take (i := 2) (v := .agg #[.int .i64 (i : Int), .int .i64 (j : Int)]) (some 26) rfl rfl (by kernel_rfl) (by kernel_rfl) (by kernel_rfl) (fun _ _ _ h => h) (yieldsIf_cell (by kernel_rfl) rfl (by kernel_rfl) HL2.out) S0 ?_
          refine held_take (i := 3) (v := .int .i64 (k : Int)) (some 27) rfl rfl (by kernel_rfl) (by kernel_rfl) (by kernel_rfl) (fun _ _ _ h => h) (yieldsIf_cell (by kernel_rfl) rfl (by kernel_rfl) HL3.out) S0 ?_
          refine held_take (i := 4) (v := .agg #[.int .i64 (a : Int), .int .i64 (b : Int)]) (some 28) rfl rfl (by kernel_rfl) (by kernel_rfl) (by kernel_rfl) (fun _ _ _ h => h) (yieldsIf_cell (by kernel_rfl) rfl (by kernel_rfl) HL4.out) S0 ?_
          refine held_enter (i := 5) (some 29) (f := 121) (args := #[.agg #[.int .i64 p, dv, av, vv], .agg #[.int .i64 (i : Int), .int .i64 (j : Int)], .int .i64 (k : Int), .agg #[.int .i64 (a : Int), .int .i64 (b : Int)]]) (by kernel_rfl) rfl rfl rfl (by kernel_rfl) (HCALL.out wd hbd) ?_ (fun c w' h => by obtain ⟨_, h, _⟩ := h; cases h) (fun w' h => by obtain ⟨_, h, _⟩ := h; cases h)
          rintro u6 w6 ⟨u, hu, hl6, hb6⟩
          injection hu with hu
          subst hu
          have hbB : Below B.heap.size B w6 := hbd.trans (hb6.mono hbd.size)
          have S6 : B.grownBy w6 v3.ownBlock := ⟨hbB.os, hbB.tape, hbB.output, hbB.size, fun k hk _ => hbB.block k hk⟩
          refine ⟨S6, ?_⟩
          have ht6 := HTNB.out.below hbB
          have hb0 : w.heap.size + 1 + 1 ≤ w6.heap.size := Nat.le_of_lt ht6.box.lt
          obtain ⟨v7, W7, hrun, hg7, hgr7, hown7⟩ := run_append_at w6 35 v3 _ ht6.row u6 _ hl6 HXS.out hb0
          have S7 : B.grownBy W7 v3.ownBlock := ⟨hgr7.os.trans S6.os, hgr7.tape.trans S6.tape, hgr7.output.trans S6.output, Nat.le_trans S6.size hgr7.size, fun k hk hne => (hgr7.block k (Nat.lt_of_lt_of_le hk S6.size) hne).trans (S6.block k hk hne)⟩
          refine held_app (i := 6) (some 30) #[35, 35] (.tmp 24) (.tmp 29) (by kernel_rfl) rfl rfl rfl rfl (by kernel_rfl) (by kernel_rfl) (fun _ => hrun) S7 ?_
          have hbx7 : Go.Boxed W7 (w.heap.size + 1 + 1) 35 v3 := ht6.box.kept hgr7 (off_type ht6.row ht6.box (by decide))
          have hfin := HFIN.out (W7.setCell ⟨w.heap.size + 1 + 1, 0, none⟩ v7) v7 (hg7.kept (grownBy_setCell' W7 _ _) (by
            cases hv : v7.ownBlock with
            | none => exact .inl rfl
            | some g => exact .inr (fun e => off_type hg7 hbx7 (by decide) (e.symm.trans hv.symm)))) (hbx7.set v7) (Stp.app hbB hgr7 hown7)
          obtain ⟨a7, c7, hv7⟩ := Sl.shape hg7.l1
          generalize hn7 : (((tnum ds ac dn q (pre.map (·.1)) ++ (List.range k).flatMap fun r => trow ds ac dn q (i, j) r) ++ (pre2.map (·.1)).flatMap (prt ds ac dn (i, j) k)) ++ prt ds ac dn (i, j) k (a, b)).length = n7 at hv7
          subst hv7
          have HFI := Lib.hid hfin
          have zc := hbx7.cell
          have zf := hbx7.frozen
          clear hfin hg7 hgr7 hown7 hbx7 ht6 hn7 hrun
          refine held_none (i := 7) (v := .bool false) rfl rfl (by kernel_rfl) (by kernel_rfl) (by kernel_rfl) (fun _ _ _ h => h) (yieldsIf_move (by kernel_rfl) rfl (by kernel_rfl)) S7 ?_
          refine wpAnyH_done (by kernel_rfl) (lastQ_storeN rfl (by kernel_rfl) (by kernel_rfl) (.tmp 5) (.tmp 30) (by kernel_rfl) (w.heap.size + 1 + 1) 0 a7 n7 c7 _ (by kernel_rfl) (by kernel_rfl) zc zf ?_) _
          exact HFI.out
        case done2 =>
          rintro zs B hS ⟨v3, htn3, hst3⟩
          have HF : Hid (Tn (w.heap.size + 1 + 1) (w.heap.size + 1 + 1) B v3 (tnum ds ac dn q (pre.map (·.1)) ++ (List.range (k + 1)).flatMap fun r => trow ds ac dn q (i, j) r)) := Lib.hid (by
            rw [hS, List.append_assoc] at htn3
            rw [List.range_succ, List.flatMap_append]
            simpa [trow] using htn3)
          have HG := Lib.hid (HST3.out.trans hst3)
          clear hS htn3 hst3
          gi_wp2
          go_roundw
          case rel => exact ⟨k + 1, by omega, by go_num, v3, HF, HG⟩
          case measure => simp [intOf]; omega
        case stop2 =>
          rintro c pre2 B _ hf
          exact hf.elim
      · obtain rfl : k = d := by omega
        have HF : Hid (KeepsFrom W1.heap.size A wr ∧ Kd w.heap.size (WA.heap.size + 1) A wr ∧ ∃ v', Tn (w.heap.size + 1 + 1) (w.heap.size + 1 + 1) wr v' (tnum ds ac dn q ((pre ++ ([⟨(i, j), hxm⟩] : List (DgIn ds n))).map (·.1))) ∧ Stp (w.heap.size + 1 + 1) W1 wr (.slice none 0 0) v') := Lib.hid (by
          have hs1 := HS1.out
          have hsa := HSA.out
          have hsz := HST.out.size
          refine ⟨HST2.out.keeps HTN.out, HST2.out.kd HTN.out (by omega) (by omega) (by omega) (by omega) (HST.out.off (by omega) (by simp [Value.ownBlock])) (by omega), v2, ?_, HST.out.trans HST2.out⟩
          rw [List.map_append]
          have h2 := HTN2.out
          rw [HD.out, ← tnum_snoc] at h2
          exact h2)
        gi_wp2
        exact HF.out
  case done =>
    rintro D zs A hD hS ⟨v, htn, hst⟩ hKD
    have hdq : tnum ds ac dn q (zs.map (·.1)) = tnum ds ac dn q (dgn ds n) := by rw [hS]
    rw [hdq] at htn
    have HTN := Lib.hid htn
    have HST := Lib.hid hst
    have HKD := Lib.hid hKD
    obtain ⟨av', cv', hv'⟩ := Sl.shape htn.row.l1
    have zc := htn.box.cell
    subst hv'
    clear htn hst hKD hS hdq
    gi_wp2
    refine ⟨by simp, .inl ⟨_, _, rfl, run_takeDeferred HKD.out, ?_⟩⟩
    have HG : Gb w.heap.size (A.putObj D (.deferred none)) (.slice av' (tnum ds ac dn q (dgn ds n)).length cv') (tnum ds ac dn q (dgn ds n)) := Gb.mono (ownsRow_putObj HTN.out.row _ HKD.out rfl) (by omega)
    exact ⟨_, results_tmp rfl _ _ _, .slice av' (tnum ds ac dn q (dgn ds n)).length cv', rfl, HG,
      ((HB1.out.trans (HST.out.low HT1.out.row (by omega) (by omega) HB1.out.size)).trans (belowK_b (w := W1) HB1.out.size _ D _ _ hD HKD.out rfl rfl))⟩
  case stop =>
    rintro D c pre A hD _ hf hKD
    exact hf.elim
end Go.Proofs.Ytlopenephgabhaa


namespace Go.Proofs.Ytlopenephgabhaa
open Go.RowKit

/-- The row k of a list that is cut into rows of c numbers. -/
def cutV (ad : Option Addr) (c k : Nat) : Value := .slice (if c = 0 then ad else ad.map (·.add (k * c))) c c
def cutL (xs : List Int) (n c : Nat) : List (List Int) := (List.range n).map fun k => (xs.drop (k * c)).take c
/-- n rows of a table's top laid, each a part. -/
structure CuTo (w wr : World) (ad : Option Addr) (c n k : Nat) : Prop where
  below : Below w.heap.size w wr
  top : wr.rowIs w.heap.size 35 n (fun j => if j < k then cutV ad c j else .slice none 0 0)
theorem CuTo.step {w wr : World} {ad : Option Addr} {c n k : Nat} (h : CuTo w wr ad c n k) : CuTo w (wr.setCell ⟨w.heap.size, k, none⟩ (cutV ad c k)) ad c n (k + 1) := by
  refine ⟨h.below.setCell (Nat.le_refl _) _, (h.top.set k _).congr (fun j hj => ?_)⟩
  by_cases e : j = k
  · subst e
    rw [if_pos rfl, if_pos (by omega)]
  · rw [if_neg e]
    by_cases h2 : j < k
    · rw [if_pos h2, if_pos (by omega)]
    · rw [if_neg h2, if_neg (by omega)]
theorem cu_bd {k n c : Nat} (h : k ≤ n) : k * c ≤ n * c := Nat.mul_le_mul_right c h

set_option maxRecDepth 100000 in
set_option maxHeartbeats 2000000 in
theorem cutRows_at (ad : Option Addr) (m cap n c : Nat) (w : World) (hn : n ≤ 1000) (hc : c ≤ 1000) (hm : m = n * c) (hcap : m ≤ cap) :
    Calls Try.prog 99 #[.slice ad m cap, .int .i64 (n : Int), .int .i64 (c : Int)] w fun e w' => e = .returned (.slice (some ⟨w.heap.size, 0, none⟩) n n) ∧ CuTo w w' ad c n n := by
  have hmk := run_make_row' (P := Try.prog) 22 35 (.slice none 0 0) 24 Try.underlying22 Try.infoS rfl .i64 .i64 n (by omega) (by omega)
  have HM := Lib.hid hm
  clear hm
  go_enter Try.func99, Try.ntmps99
  go_wp2
  clear hmk
  go_loopw [8, 9, 10, 14] (fun _ _ _ i wr => ∃ (k : Nat), k ≤ n ∧ i = .int .i64 k ∧ Hid (CuTo w wr ad c n k)) (fun _ _ _ i _ => n - (intOf i).toNat)
  case atStart => exact ⟨0, Nat.zero_le _, rfl, Lib.hid ⟨below_alloc1 _ _, (World.rowIs_made w (.slice none 0 0) n 35).congr (fun j _ => by simp)⟩⟩
  case round =>
    obtain ⟨k, hk, rfl, HC⟩ := hrel
    by_cases hlt : k < n
    · have hkl : (k : Int) < (n : Int) := by omega
      have h0 : wr.cell? ⟨w.heap.size, k, none⟩ = some (.slice none 0 0) := by rw [HC.out.top.cell hlt, if_neg (Nat.lt_irrefl _)]
      have hf := HC.out.top.frozen k
      obtain ⟨lo, hlo⟩ : ∃ lo, lo = k * c := ⟨_, rfl⟩
      obtain ⟨hi, hhi⟩ : ∃ hi, hi = (k + 1) * c := ⟨_, rfl⟩
      have hs : hi = lo + c := by rw [hhi, hlo, Nat.succ_mul]
      have hb : hi ≤ m := by rw [hhi, HM.out]; exact cu_bd (show k + 1 ≤ n by omega)
      have hb2 : hi ≤ 1000000 := by
        have : hi ≤ 1000 * 1000 := by rw [hhi]; exact Nat.mul_le_mul (by omega) hc
        omega
      have w1 : IntKind.i64.wrap ((k : Int) * (c : Int)) = (lo : Int) := by rw [show (k : Int) * (c : Int) = (lo : Int) by rw [hlo]; simp]; exact IntWalk.i64_in _ (by omega)
      have w2 : IntKind.i64.wrap ((k : Int) + 1) = ((k + 1 : Nat) : Int) := by rw [show (k : Int) + 1 = ((k + 1 : Nat) : Int) by omega]; exact IntWalk.i64_in _ (by omega)
      have w3 : IntKind.i64.wrap (((k : Int) + 1) * (c : Int)) = (hi : Int) := by rw [show ((k : Int) + 1) * (c : Int) = (hi : Int) by rw [hhi]; simp]; exact IntWalk.i64_in _ (by omega)
      have s1 : (lo : Int) ≤ (hi : Int) := by omega
      have s2 : (hi : Int) ≤ (cap : Int) := by omega
      have s0 : (0 : Int) ≤ (lo : Int) := by omega
      have HS : Hid (CuTo w (wr.setCell ⟨w.heap.size, k, none⟩ (.slice (if hi = lo then ad else ad.map (·.add lo)) (hi - lo) (hi - lo))) ad c n (k + 1)) := Lib.hid (by
        have e : Value.slice (if hi = lo then ad else ad.map (·.add lo)) (hi - lo) (hi - lo) = cutV ad c k := by
          unfold cutV
          rw [show hi - lo = c by omega, hlo]
          by_cases hz : c = 0
          · rw [if_pos hz, if_pos (by omega)]
          · rw [if_neg hz, if_neg (by omega)]
        rw [e]
        exact HC.out.step)
      clear HC hs hlo hhi hb
      go_wp2
      exact ⟨⟨k + 1, by omega, by go_num, HS⟩, by simp [intOf]; omega⟩
    · have hkn : ¬ (k : Int) < (n : Int) := by omega
      obtain rfl : k = n := by omega
      go_wp2
      go_ret
      exact ⟨rfl, HC.out⟩

theorem cut_len {xs : List Int} {n c k : Nat} (hl : xs.length = n * c) (hk : k < n) : ((xs.drop (k * c)).take c).length = c := by
  have h := cu_bd (c := c) (show k + 1 ≤ n by omega)
  rw [Nat.succ_mul] at h
  rw [List.length_take, List.length_drop, hl]
  omega
theorem drop_flat {c : Nat} : ∀ (t : List (List Int)), (∀ r ∈ t, r.length = c) → ∀ k, k ≤ t.length → t.flatten.drop (k * c) = (t.drop k).flatten
  | t, _, 0, _ => by simp
  | [], _, k + 1, hk => by simp at hk
  | r :: t, h, k + 1, hk => by
    have hr := h r (by simp)
    rw [List.flatten_cons, Nat.succ_mul, Nat.add_comm, ← List.drop_drop, show (r ++ t.flatten).drop c = t.flatten by rw [← hr]; simp]
    exact drop_flat t (fun x hx => h x (by simp [hx])) k (by simpa using hk)
theorem cut_flat {c : Nat} {t : List (List Int)} (h : ∀ r ∈ t, r.length = c) : cutL t.flatten t.length c = t := by
  unfold cutL
  refine List.ext_getElem (by simp) (fun k h1 h2 => ?_)
  rw [List.getElem_map, List.getElem_range, drop_flat t h k (Nat.le_of_lt h2), List.drop_eq_getElem_cons h2, List.flatten_cons]
  have hr := h _ (List.getElem_mem h2)
  rw [List.take_append_of_le_length (by omega), List.take_of_length_le (by omega)]
theorem flat_len {c : Nat} : ∀ {t : List (List Int)}, (∀ r ∈ t, r.length = c) → t.flatten.length = t.length * c
  | [], _ => by simp
  | r :: t, h => by
    rw [List.flatten_cons, List.length_append, List.length_cons, Nat.succ_mul, h r (by simp), flat_len (fun x hx => h x (by simp [hx]))]
    omega
theorem ttab_flat (ds : List (List Int)) (ac dn : List (List (List (List Int)))) (q : Nat) : (ttab ds ac dn q).flatten = tnum ds ac dn q (dgn ds (q + 1)) := by
  unfold ttab tnum
  generalize dgn ds (q + 1) = L
  induction L with
  | nil => rfl
  | cons f L ih => rw [List.flatMap_cons, List.flatMap_cons, List.flatten_append, ih]; rfl
end Go.Proofs.Ytlopenephgabhaa


namespace Go.Proofs.Ytlopenephgabhaa
open Go.RowKit

theorem Gb.parts {lo : Nat} {w : World} {ad : Option Addr} {m cap : Nat} {xs : List Int} (h : Gb lo w (.slice ad m cap) xs) (hp : 0 < xs.length) : ∃ b, ad = some ⟨b, 0, none⟩ ∧ lo ≤ b ∧ b < w.heap.size ∧ ∀ i (hi : i < xs.length), w.cell? ⟨b, i, none⟩ = some (.int .i64 xs[i]) ∧ w.frozen? ⟨b, i, none⟩ = false := by
  rcases h.2 with ⟨_, h0⟩ | ⟨g, cp, cur, hv, hb, hgb, h1, h2, h3, h4⟩
  · omega
  · injection hv with e1 _ _
    refine ⟨g, e1, hb, (Array.getElem?_eq_some_iff.1 hgb).1, fun i hi => ⟨?_, by simp [World.frozen?, hgb]⟩⟩
    have h5 : (cur.toList.take (xs.length * 1))[i]? = (xs.map (Value.int .i64))[i]? := by rw [h4]
    rw [List.getElem?_take, if_pos (by omega), List.getElem?_map, List.getElem?_eq_getElem hi] at h5
    simp [World.cell?, hgb]
    simpa using h5

theorem CuTo.rw2 {w wr : World} {ad : Option Addr} {c n m cap lo : Nat} {xs : List Int} (h : CuTo w wr ad c n n) (hn : n ≤ 1000) (hc : c ≤ 1000) (hg : Gb lo w (.slice ad m cap) xs) (hl : xs.length = n * c) (hlo : lo ≤ w.heap.size) :
    Rw2 lo wr.heap.size wr (.slice (some ⟨w.heap.size, 0, none⟩) n n) (cutL xs n c) := by
  have hlt := h.top.lt
  by_cases hz : n * c = 0
  · have hr : ∀ k, k < n → c = 0 := fun k hk => by
      rcases Nat.mul_eq_zero.1 hz with h1 | h1
      · omega
      · exact h1
    refine ⟨?_, ?_⟩
    · by_cases h0 : n = 0
      · subst h0
        exact Or.inl ⟨rfl, _, _, rfl⟩
      · have hc0 := hr 0 (by omega)
        refine Or.inr ⟨w.heap.size, 0, n, by simp [cutL], hlo, hlt, by simp [cutL]; omega, fun k hk => ?_, fun k _ => h.top.frozen _⟩
        have hk' : k < n := by simpa [cutL] using hk
        refine ⟨cutV ad c k, by rw [Nat.zero_add, h.top.cell hk', if_pos hk'], ?_⟩
        simp only [cutL, List.getElem_map, List.getElem_range]
        subst hc0
        exact Or.inl ⟨by simp, _, _, rfl⟩
    · refine ⟨flat (fun _ => []) n, ⟨some ⟨w.heap.size, 0, none⟩, n, n, fun j => cutV ad c j, fun _ => [], rfl, by omega, rfl, fun j hj => Or.inl ?_, fun _ => ⟨w.heap.size, 0, rfl, hlo, hlt, fun j hj => by rw [Nat.zero_add, h.top.cell hj, if_pos hj]⟩⟩, nums_flat (fun j _ x hx => absurd hx (by simp)), ?_, ?_⟩
      · rw [hr j hj]
        exact ⟨rfl, _, _, rfl⟩
      · have : flat (fun _ => ([] : List Iv)) n = [] := by simp [flat]
        rw [this]
        exact List.Pairwise.nil
      · have := size_spans (J := fun _ => []) (n := n) (B := 0) (fun j _ => by simp [ivSize])
        omega
  · have hc0 : c ≠ 0 := fun e => hz (by rw [e, Nat.mul_zero])
    obtain ⟨b, rfl, hlb, hb, hcz⟩ := hg.parts (by omega)
    have hv : ∀ j, cutV (some ⟨b, 0, none⟩) c j = .slice (some ⟨b, j * c, none⟩) c c := fun j => by
      unfold cutV
      rw [if_neg hc0, Option.map_some, Addr.add_mid, Nat.zero_add]
    have hz' : ∀ i (hi : i < xs.length), wr.cell? ⟨b, i, none⟩ = some (.int .i64 xs[i]) ∧ wr.frozen? ⟨b, i, none⟩ = false := fun i hi => ⟨(h.below.cell (p := ⟨b, i, none⟩) hb).trans (hcz i hi).1, (h.below.frozen (p := ⟨b, i, none⟩) hb).trans (hcz i hi).2⟩
    have hbr : b < wr.heap.size := by have := h.below.size; omega
    have hin : ∀ {j i : Nat}, j < n → i < c → j * c + i < xs.length := fun {j i} hj hi => by
      have := cu_bd (c := c) (show j + 1 ≤ n by omega)
      rw [Nat.succ_mul] at this
      omega
    refine ⟨?_, ?_⟩
    · have h0 : n ≠ 0 := fun e => hz (by rw [e, Nat.zero_mul])
      refine Or.inr ⟨w.heap.size, 0, n, by simp [cutL], hlo, hlt, by simp [cutL]; omega, fun k hk => ?_, fun k _ => h.top.frozen _⟩
      have hk' : k < n := by simpa [cutL] using hk
      refine ⟨.slice (some ⟨b, k * c, none⟩) c c, by rw [Nat.zero_add, h.top.cell hk', if_pos hk', hv], ?_⟩
      simp only [cutL, List.getElem_map, List.getElem_range]
      have hlen := cut_len hl hk'
      refine Or.inr ⟨b, k * c, c, by rw [hlen], hlb, hbr, by rw [hlen]; omega, fun i hi => ?_, fun i hi => ?_⟩
      · rw [hlen] at hi
        refine ⟨_, (hz' (k * c + i) (hin hk' hi)).1, ?_⟩
        simp only [IsI, List.getElem_take, List.getElem_drop]
      · rw [hlen] at hi
        exact (hz' (k * c + i) (hin hk' hi)).2
    · refine ⟨flat (fun j => [(b, j * c, c)]) n, ⟨some ⟨w.heap.size, 0, none⟩, n, n, fun j => .slice (some ⟨b, j * c, none⟩) c c, fun j => [(b, j * c, c)], rfl, by omega, rfl, fun j _ => Or.inr ⟨b, j * c, c, c, rfl, by omega, by omega, hlb, hbr, rfl⟩, fun _ => ⟨w.heap.size, 0, rfl, hlo, hlt, fun j hj => by rw [Nat.zero_add, h.top.cell hj, if_pos hj, hv]⟩⟩, nums_flat (fun j hj x hx => ?_), ?_, ?_⟩
      · obtain rfl : x = (b, j * c, c) := by simpa using hx
        exact ⟨hlb, hbr, fun i hi => by
          have hi' : i < c := hi
          exact ⟨⟨_, (hz' (j * c + i) (hin hj hi')).1⟩, (hz' (j * c + i) (hin hj hi')).2⟩⟩
      · have hgen : ∀ q, Disj (flat (fun j => [(b, j * c, c)]) q) := fun q => by
          induction q with
          | zero => exact List.Pairwise.nil
          | succ q ih =>
            rw [flat_succ]
            refine List.pairwise_append.2 ⟨ih, List.pairwise_singleton _ _, fun x hx y hy => Or.inr (Or.inl ?_)⟩
            obtain rfl : y = (b, q * c, c) := by simpa using hy
            obtain ⟨j, hj, hx⟩ := List.mem_flatMap.1 hx
            obtain rfl : x = (b, j * c, c) := by simpa using hx
            have := cu_bd (c := c) (show j + 1 ≤ q by have := List.mem_range.1 hj; omega)
            rw [Nat.succ_mul] at this
            exact this
        exact hgen n
      · have h1 := size_spans (J := fun j => [(b, j * c, c)]) (n := n) (B := 1000) (fun j _ => by simp [ivSize]; omega)
        omega
end Go.Proofs.Ytlopenephgabhaa


namespace Go.Proofs.Ytlopenephgabhaa
open Go.RowKit

theorem disj_flat {J : Nat → List Iv} : ∀ {n : Nat}, (∀ j, j < n → Disj (J j)) → (∀ i j, i < n → j < n → i ≠ j → ∀ x ∈ J i, ∀ y ∈ J j, x.1 ≠ y.1) → Disj (flat J n)
  | 0, _, _ => by simp [flat, Disj]
  | n + 1, h1, h2 => by
    rw [flat_succ]
    refine List.pairwise_append.2 ⟨disj_flat (fun j hj => h1 j (by omega)) (fun i j hi hj => h2 i j (by omega) (by omega)), h1 n (by omega), fun x hx y hy => .inl ?_⟩
    obtain ⟨j, hj, hx⟩ := List.mem_flatMap.1 hx
    have hj := List.mem_range.1 hj
    exact h2 j n (by omega) (by omega) (by omega) x hx y hy
/-- A row as an interval, and as owned. -/
theorem gb_iv {lo : Nat} {w : World} {v : Value} {xs : List Int} (h : Gb lo w v xs) (hl : xs.length ≤ 1048576) : W1 lo w.heap.size w v xs ∧ ∃ I, S1 lo w.heap.size w v I ∧ Nums lo w.heap.size w I ∧ Disj I ∧ ivSize I ≤ 1048576 ∧ ∀ x ∈ I, v.ownBlock = some x.1 := by
  obtain ⟨ad, cap, rfl⟩ := Sl.shape h.l1
  by_cases h0 : xs.length = 0
  · have e := List.eq_nil_of_length_eq_zero h0
    subst e
    exact ⟨.inl ⟨rfl, _, _, rfl⟩, [], .inl ⟨rfl, _, _, rfl⟩, fun x hx => absurd hx (by simp), by simp [Disj], by simp [ivSize], fun x hx => absurd hx (by simp)⟩
  · obtain ⟨b, rfl, hb1, hb2, hc⟩ := h.parts (by omega)
    refine ⟨.inr ⟨b, 0, cap, rfl, hb1, hb2, by omega, fun k hk => ⟨_, by rw [Nat.zero_add]; exact (hc k hk).1, rfl⟩, fun k hk => by rw [Nat.zero_add]; exact (hc k hk).2⟩, [(b, 0, xs.length)], .inr ⟨b, 0, _, cap, rfl, by omega, hl, hb1, hb2, rfl⟩, fun x hx => ?_, by simp [Disj], by simp [ivSize]; omega, fun x hx => ?_⟩
    · rw [List.mem_singleton.1 hx]
      refine ⟨hb1, hb2, fun i hi => ?_⟩
      have hi' : i < xs.length := hi
      exact ⟨⟨_, by show w.cell? ⟨b, 0 + i, none⟩ = _; rw [Nat.zero_add]; exact (hc i hi').1⟩, by show w.frozen? ⟨b, 0 + i, none⟩ = _; rw [Nat.zero_add]; exact (hc i hi').2⟩
    · rw [List.mem_singleton.1 hx]; rfl
theorem Gqv.rw2 {lo g n cap : Nat} {w : World} {vs : List Value} {t : List (List Int)} (h : Gqv lo w (.slice (some ⟨g, 0, none⟩) n cap) vs t) (hn : t.length ≤ 1048576) (hr : ∀ x ∈ t, x.length ≤ 1048576) : Rw2 lo w.heap.size w (.slice (some ⟨g, 0, none⟩) n cap) t := by
  have hl := h.len
  rcases h.own with ⟨hl2, h2⟩
  rcases h2 with ⟨h0, _⟩ | ⟨g', c', cur, hv, hlo, hh, hnc, hcm, hcs, htk⟩
  · cases h0
  injection hv with e1 e2 e3
  injection e1 with e1
  injection e1 with e1
  subst e1 e3
  subst e2
  have hgl : g < w.heap.size := (Array.getElem?_eq_some_iff.1 hh).1
  have hcell : ∀ j (hj : j < vs.length), w.cell? ⟨g, j, none⟩ = some vs[j] := fun j hj => by
    have h5 : (cur.toList.take (t.length * 1))[j]? = vs[j]? := by rw [htk]
    rw [List.getElem?_take, if_pos (by omega), List.getElem?_eq_getElem hj] at h5
    simp [World.cell?, hh]
    simpa using h5
  have hiv : ∀ j (hj : j < t.length), _ := fun j hj => gb_iv (h.rows j (by omega) hj) (hr _ (List.getElem_mem hj))
  have hex : ∀ j, j < t.length → ∃ I, S1 lo w.heap.size w (vs.getD j undef) I ∧ Nums lo w.heap.size w I ∧ Disj I ∧ ivSize I ≤ 1048576 ∧ ∀ x ∈ I, (vs.getD j undef).ownBlock = some x.1 := fun j hj => by
    rw [getD_of_lt _ (by omega : j < vs.length)]
    exact (hiv j hj).2
  obtain ⟨J, hJ⟩ := choose2 hex
  refine ⟨?_, flat J t.length, ⟨some ⟨g, 0, none⟩, t.length, cap, fun j => vs.getD j undef, J, rfl, hn, rfl, fun j hj => (hJ j hj).1, fun _ => ⟨g, 0, rfl, hlo, hgl, fun j hj => by show w.cell? ⟨g, 0 + j, none⟩ = some (vs.getD j undef); rw [Nat.zero_add, getD_of_lt _ (by omega : j < vs.length)]; exact hcell j (by omega)⟩⟩, nums_flat (fun j hj => (hJ j hj).2.1), disj_flat (fun j hj => (hJ j hj).2.2.1) (fun i j hi hj hij x hx y hy e => ?_), ?_⟩
  · by_cases h0 : t.length = 0
    · exact .inl ⟨List.eq_nil_of_length_eq_zero h0, _, _, by rw [h0]⟩
    · refine .inr ⟨g, 0, cap, rfl, hlo, hgl, by omega, fun k hk => ⟨vs[k], by rw [Nat.zero_add]; exact hcell k (by omega), (hiv k hk).1⟩, fun k hk => by simp [World.frozen?, hh]⟩
  · have a1 := (hJ i hi).2.2.2.2 x hx
    have a2 := (hJ j hj).2.2.2.2 y hy
    rw [getD_of_lt _ (by omega : i < vs.length)] at a1
    rw [getD_of_lt _ (by omega : j < vs.length), ← e] at a2
    exact h.ap i j (by omega) (by omega) hij _ a1 a2
  · have h2 := size_spans (J := J) (n := t.length) (B := 1048576) (fun j hj => (hJ j hj).2.2.2.1)
    have h3 : 1048576 * t.length ≤ 1048576 * 1048576 := Nat.mul_le_mul (Nat.le_refl _) hn
    omega
theorem Gqv.kept {lo : Nat} {w w' : World} {u : Value} {vs : List Value} {t : List (List Int)} {row : Option Nat} (h : Gqv lo w u vs t) (hg : w.grownBy w' row) (hr : ∀ r, row = some r → ∃ o : Obj, w.heap[r]? = some o ∧ o.isCells = false) : Gqv lo w' u vs t := by
  have hk : ∀ {e : TypeId} {v : Value} {n : Nat} {xs : List Value}, w.ownsRow lo e 1 v n xs → w'.ownsRow lo e 1 v n xs := fun {e v n xs} ho => by
    refine ho.kept hg ?_
    cases hv : v.ownBlock with
    | none => exact .inl rfl
    | some g =>
      refine .inr (fun e => ?_)
      obtain ⟨o, hoo, hc⟩ := hr g e.symm
      rcases ho.2 with ⟨h0, _⟩ | ⟨g', c', cur, hu, _, hh, _⟩
      · rw [h0] at hv; simp [Value.ownBlock] at hv
      · rw [hu] at hv
        simp [Value.ownBlock] at hv
        subst hv
        rw [hh] at hoo
        cases hoo
        cases hc
  exact ⟨hk h.own, fun k h1 h2 => hk (h.rows k h1 h2), h.ap⟩
end Go.Proofs.Ytlopenephgabhaa


namespace Go.Proofs.Ytlopenephgabhaa
open Go.RowKit

section
variable {P : Program} {ops : Array Oper} {Q : Exit → Act → World → Prop} {md : Region.Mode} {S : World → Prop}
theorem held_one {i : Nat} {fuel : Nat} {listed : Array Bool} {a : Act} {w : World} (hr : Region.ready md ops listed = [i])
    (h1 : wpOp P ops Q i (fun a' w' => S w' ∧ wpAnyH P md ops Q S fuel (listed.setIfInBounds i true) a' w') a w) : wpAnyH P md ops Q S (fuel + 1) listed a w :=
  wpAnyH_all hr (by simp) (fun k hk => by obtain rfl := List.mem_singleton.1 hk; exact h1)
theorem held_two {i j : Nat} {fuel : Nat} {listed : Array Bool} {a : Act} {w : World} (hr : Region.ready md ops listed = [i, j])
    (h1 : wpOp P ops Q i (fun a' w' => S w' ∧ wpAnyH P md ops Q S fuel (listed.setIfInBounds i true) a' w') a w)
    (h2 : wpOp P ops Q j (fun a' w' => S w' ∧ wpAnyH P md ops Q S fuel (listed.setIfInBounds j true) a' w') a w) : wpAnyH P md ops Q S (fuel + 1) listed a w :=
  wpAnyH_all hr (by simp) (fun k hk => by
    rcases List.mem_cons.1 hk with rfl | hk
    · exact h1
    · obtain rfl := List.mem_singleton.1 hk; exact h2)
theorem held_three {i j l : Nat} {fuel : Nat} {listed : Array Bool} {a : Act} {w : World} (hr : Region.ready md ops listed = [i, j, l])
    (h1 : wpOp P ops Q i (fun a' w' => S w' ∧ wpAnyH P md ops Q S fuel (listed.setIfInBounds i true) a' w') a w)
    (h2 : wpOp P ops Q j (fun a' w' => S w' ∧ wpAnyH P md ops Q S fuel (listed.setIfInBounds j true) a' w') a w)
    (h3 : wpOp P ops Q l (fun a' w' => S w' ∧ wpAnyH P md ops Q S fuel (listed.setIfInBounds l true) a' w') a w) : wpAnyH P md ops Q S (fuel + 1) listed a w :=
  wpAnyH_all hr (by simp) (fun k hk => by
    rcases List.mem_cons.1 hk with rfl | hk
    · exact h1
    · rcases List.mem_cons.1 hk with rfl | hk
      · exact h2
      · obtain rfl := List.mem_singleton.1 hk; exact h3)
theorem op_plain {i : Nat} {oi : Oper} {K : Act → World → Prop} {a : Act} {w : World} (hi : ops[i]? = some oi) (hg : oi.guard = none) (h : oi.wp P a w K Q) : wpOp P ops Q i K a w := by
  unfold wpOp
  rw [hi]
  have hw : Region.wanted oi (yielded ops a.tmps) = true := by unfold Region.wanted; rw [hg]
  simp only [hw, if_true]
  exact Or.inl h
theorem op_enter {i : Nat} {oi : Oper} {K : Act → World → Prop} {a : Act} {w : World} (d : Option Tmp) {f : FuncId} {args : Array Value} (hi : ops[i]? = some oi) (hg : oi.guard = none) (hd : oi.dst = d)
    (h : (execOp a.eval oi).run P w = .ok (.enter f args) w) {R : Ending → World → Prop} (hc : Calls P f args w R) (hR : ∀ v w', R (.returned v) w' → K (a.put d v) w') (h2 : ∀ c w', ¬ R (.panicked c) w') (h3 : ∀ w', ¬ R .outgrown w') : wpOp P ops Q i K a w :=
  op_plain hi hg (wp_enter h hc (fun v w' hv => by rw [hd]; exact hR v w' hv) h2 h3)
theorem op_mem {i : Nat} {oi : Oper} {K : Act → World → Prop} {a : Act} {w w' : World} {v : Value} (d : Option Tmp) (hi : ops[i]? = some oi) (hg : oi.guard = none) (hd : oi.dst = d)
    (h : (execOp a.eval oi).run P w = .ok (.value v) w') (hK : K (a.put d v) w') : wpOp P ops Q i K a w := by
  subst hd
  refine op_plain hi hg ?_
  unfold Oper.wp
  rw [h]
  exact hK
theorem op_row {i : Nat} {oi : Oper} {K : Act → World → Prop} {a : Act} {w : World} (hi : ops[i]? = some oi) (hgd : oi.guard = none) (hd : oi.dst = none) (ty : TypeId) (x y : Operand) (ho : oi.op = .store ty x y)
    (g : Nat) (cells : Array Value) (hx : a.eval x = .pointer (some ⟨g, 0, none⟩)) (hy : a.eval y = .agg cells) (t : TypeId) (old : Array Value) (hg : w.heap[g]? = some (.cells old t (0, 0))) (hs : (P.info? ty).map (·.size) = some cells.size)
    (hold : old.size = cells.size) (h1 : cells.all (·.oneCell') = true) (hK : K a (w.setRow g cells)) : wpOp P ops Q i K a w :=
  op_plain hi hgd (wp_store_row ty x y ho g cells hx hy t old hg hs hold h1 (by rw [hd]; exact hK))
end
/-- A block of cells that may be written. -/
def Rz (W : World) (g : Nat) (t : TypeId) (cs : Array Value) : Prop := W.heap[g]? = some (.cells cs t (0, 0))
theorem Rz.lt {W : World} {g : Nat} {t : TypeId} {cs : Array Value} (h : Rz W g t cs) : g < W.heap.size := (Array.getElem?_eq_some_iff.1 h).1
theorem Rz.next {W W' : World} {g : Nat} {t : TypeId} {cs : Array Value} (h : Rz W g t cs) (hb : Below W.heap.size W W') : Rz W' g t cs := (hb.block g h.lt).trans h
theorem Rz.new (W : World) (t : TypeId) (cs : Array Value) : Rz (W.alloc (.cells cs t)) W.heap.size t cs := by simpa [Rz] using heap_alloc_new W (.cells cs t)
theorem Rz.set {W : World} {g : Nat} {t : TypeId} {cs : Array Value} (h : Rz W g t cs) (x : Array Value) : Rz (W.setRow g x) g t x := setRow_heap W g cs x t _ h
theorem Rz.off {W : World} {g g' : Nat} {t : TypeId} {cs : Array Value} (h : Rz W g t cs) (hne : g ≠ g') (x : Array Value) : Rz (W.setRow g' x) g t cs := (setRow_other W g' g x hne).trans h
theorem Rz.cell {W : World} {g : Nat} {t : TypeId} {cs : Array Value} (h : Rz W g t cs) {i : Nat} {v : Value} (hv : cs[i]? = some v) : W.cell? ⟨g, i, none⟩ = some v := by
  have h' : W.heap[g]? = some (.cells cs t (0, 0)) := h
  simp [World.cell?, h', hv]
end Go.Proofs.Ytlopenephgabhaa


namespace Go.Proofs.Ytlopenephgabhaa
open Go.RowKit
theorem haddA {a b s : Int} (h : IntKind.i64.wrap (a + b) = s) (w : World) : (binOp .add 2 (.int .i64 a) (.int .i64 b)).run Try.prog w = .ok (.int .i64 s) w := by go_simp
theorem hloadD (w : World) {b o : Nat} {x : Value} (h : w.cell? ⟨b, o, none⟩ = some x) : (Instr.loadAt 35 (.pointer (some ⟨b, o, none⟩))).run Try.prog w = .ok x w := by go_simp
theorem hloadM (w : World) {b o : Nat} {x : Value} (h : w.cell? ⟨b, o, none⟩ = some x) : (Instr.loadAt 36 (.pointer (some ⟨b, o, none⟩))).run Try.prog w = .ok x w := by go_simp
theorem hsubA {a b s : Int} (h : IntKind.i64.wrap (a - b) = s) (w : World) : (binOp .sub 2 (.int .i64 a) (.int .i64 b)).run Try.prog w = .ok (.int .i64 s) w := by go_simp
section
variable {P : Program} {ops : Array Oper} {Q : Exit → Act → World → Prop} {md : Region.Mode} {S : World → Prop}
theorem op_make {i : Nat} {oi : Oper} {K : Act → World → Prop} {a : Act} {w w' : World} {v x y : Value} (d : Option Tmp) (t : TypeId) (l c : Operand) (hi : ops[i]? = some oi) (hg : oi.guard = none) (hd : oi.dst = d) (ho : oi.op = .makeSlice t l c) (hl : a.eval l = x) (hc : a.eval c = y)
    (h : (Instr.makeSlice t x y).run P w = .ok v w') (hK : K (a.put d v) w') : wpOp P ops Q i K a w :=
  op_mem d hi hg hd (by simp [execOp, ho, hl, hc, h, Result.andThen]) hK
end
theorem infoCo (y0 y1 y2 : Value) : (Try.prog.info? 38).map (·.size) = some (#[y0, y1, y2] : Array Value).size := by kernel_rfl
end Go.Proofs.Ytlopenephgabhaa


namespace Go.Proofs.Ytlopenephgabhaa
open Go.RowKit

def tdl (ds : List (List Int)) (L : List (Nat × Nat)) (s : Nat) : Nat := ((L.filter (onD s)).map (cdim ds)).sum
theorem tdl_snoc (ds : List (List Int)) (L : List (Nat × Nat)) (c : Nat × Nat) (s : Nat) : tdl ds (L ++ [c]) s = tdl ds L s + if onD s c then cdim ds c else 0 := by
  unfold tdl
  rw [List.filter_append, List.map_append, List.sum_append]
  by_cases h : onD s c <;> simp [h]
theorem sum_le4 {α : Type} (f : α → Nat) : ∀ L : List α, (∀ c ∈ L, f c ≤ 4) → (L.map f).sum ≤ 4 * L.length
  | [], _ => by simp
  | c :: L, h => by
    rw [List.map_cons, List.sum_cons, List.length_cons]
    have h1 := h c (by simp)
    have h2 := sum_le4 f L (fun d hd => h d (by simp [hd]))
    omega
theorem tdl_le {ds : List (List Int)} (hok : DclOk ds) (pre : List (CellIn ds)) (s : Nat) : tdl ds (pre.map (·.1)) s ≤ 4 * pre.length := by
  unfold tdl
  have h := sum_le4 (cdim ds) ((pre.map (·.1)).filter (onD s)) (fun c hc => by
    obtain ⟨x, _, rfl⟩ := List.mem_map.1 (List.mem_filter.1 hc).1
    exact (cdim_cast hok x.2).2)
  have h2 := List.length_filter_le (onD s) (pre.map (·.1))
  rw [List.length_map] at h2
  omega
theorem tdim_le {ds : List (List Int)} (hok : DclOk ds) (s : Nat) : tdim ds s ≤ 64 := by
  have h := sum_le4 (cdim ds) (dgn ds s) (fun c hc => (cdim_cast hok (mem_cells.2 (mem_dgn.1 hc).1)).2)
  have h2 := dgn_le hok s
  unfold tdim
  omega
/-- The degrees of the total. -/
def ttop (ds : List (List Int)) : Nat := ds.length + (ds.getD 0 []).length - 2
def tD (ds : List (List Int)) : List Int := (List.range (ttop ds + 1)).map fun s => ((tdim ds s : Nat) : Int)
def tM (ds : List (List Int)) (ac dn : List (List (List (List Int)))) : List (List (List Int)) := (List.range (ttop ds)).map (ttab ds ac dn)
theorem tD_len (ds : List (List Int)) : (tD ds).length = ttop ds + 1 := by simp [tD]
theorem tM_len (ds : List (List Int)) (ac dn : List (List (List (List Int)))) : (tM ds ac dn).length = ttop ds := by simp [tM]
theorem tD_at {ds : List (List Int)} {s : Nat} (h : s < ttop ds + 1) : (tD ds).getD s 0 = ((tdim ds s : Nat) : Int) := by simp [tD, h]
theorem tM_at {ds : List (List Int)} {ac dn : List (List (List (List Int)))} {s : Nat} (h : s < ttop ds) : (tM ds ac dn).getD s [] = ttab ds ac dn s := by simp [tM, h]

theorem gen_rc {lo : Nat} {W : World} {D : List Int} {M : List (List (List Int))} {bd bm n m : Nat} {f : Nat → Value} {b : Nat → Nat} (hm : m = M.length) (hn : n = D.length) (hb : n ≤ 1048576) (hb2 : m ≤ 1048576)
    (hdim : W.rowIs bd 2 n (fun j => .int .i64 (D.getD j 0))) (hfill : Fill3 W bm m m f b M) (l1 : lo ≤ bd) (l2 : lo ≤ bm) (l3 : bd < b 0) :
    RcW lo W.heap.size W (.slice (some ⟨bd, 0, none⟩) n n) (.slice (some ⟨bm, 0, none⟩) m m) D M := by
  obtain ⟨q3, J, s3, n3, d3, z3⟩ := hfill.parts hm hb2
  obtain ⟨q1, I, s1, n1, b1, z1⟩ := row_rc (xs := D) hdim hn.symm (fun i hi => by rw [getD_of_lt _ hi]) hb l1
  refine ⟨⟨q1, q3.wider l2 (Nat.le_refl _)⟩, I, J, s1, s3.wider l2 (Nat.le_refl _), n1, n3.wider ?_ (Nat.le_refl _), d3, fun x hx y hy => Or.inl ?_, z1, z3⟩
  · omega
  · have h1 := b1 x hx
    have h2 := (n3 y hy).1
    rw [h1]
    omega
theorem fill3_put {W : World} {g n k D : Nat} {f : Nat → Value} {b : Nat → Nat} {ts : List (List (List Int))} (h : Fill3 W g n k f b ts) (hD : D < b 0) (hg : D ≠ g) (o : Obj) : Fill3 (W.putObj D o) g n k f b ts := by
  have hb : ∀ i, i ≠ D → (W.putObj D o).heap[i]? = W.heap[i]? := fun i hi => World.putObj_heap_other (by omega)
  have h0 : ∀ j, j ≤ k → b 0 ≤ b j := by
    intro j
    induction j with
    | zero => intro _; exact Nat.le_refl _
    | succ j ih => intro hj; exact Nat.le_trans (ih (by omega)) (h.inc j (by omega))
  refine ⟨h.row.of_block (hb g (Ne.symm hg)), h.lo, h.inc, by simpa using h.hi, fun j hj hk => (h.at' j hj hk).same (fun i hi _ => hb i ?_)⟩
  have := h0 j (by omega)
  omega
theorem results_cx {fn : Func} {t : Tmp} (h : fn.results = #[.cell t 38]) (tmps : Array Value) (B : Nat) (x0 x1 x2 : Value) (W : World) (ht : tmps.getD t undef = .pointer (some ⟨B, 0, none⟩)) (c0 : W.cell? ⟨B, 0, none⟩ = some x0) (c1 : W.cell? ⟨B, 1, none⟩ = some x1) (c2 : W.cell? ⟨B, 2, none⟩ = some x2) :
    (results fn tmps).run Try.prog W = .ok (.agg #[x0, x1, x2]) W := by
  simp only [Array.getD_eq_getD_getElem?] at ht
  simp [results, h, ht, go_sem, c0, c1, c2]
theorem du_own {β : Type} {wB : World} {g bd bm n t B : Nat} {p : Int} (D : β → Nat → Value) (M : Nat → Value) (h0 : wB.heap.size ≤ B) (h1 : g < B) (h2 : bd < B) (h3 : bm < B) : OwnFrom B (fun (s : β) W => Du wB W g bd bm n t p (D s) M) := fun s X Y row h hg hr => by
  have hb : ∀ k, k < B → k < X.heap.size → Y.heap[k]? = X.heap[k]? := fun k hk hl => hg.block k hl (fun e => by have := (hr k e.symm).1; omega)
  exact ⟨⟨hg.os.trans h.below.os, hg.tape.trans h.below.tape, hg.output.trans h.below.output, Nat.le_trans h.below.size hg.size, fun k hk => (hb k (by omega) (by have := h.below.size; omega)).trans (h.below.block k hk)⟩,
    h.lo, h.ne, h.box.of_block (hb g h1 h.box.lt), h.dims.of_block (hb bd h2 h.dims.lt), h.maps.of_block (hb bm h3 h.maps.lt)⟩

section
variable {ops : Array Oper} {Q : Exit → Act → World → Prop} {n : Nat}
theorem lastQ_storeJ {on : Oper} {a : Act} {w : World} (hn : ops[n]? = some on) (hg : on.guard = none) (_ : on.dst = none) (x y : Operand) (ho : on.op = .store 2 x y)
    (b o : Nat) (z : Int) (u : Value) (hx : a.eval x = .pointer (some ⟨b, o, none⟩)) (hy : a.eval y = .int .i64 z) (hc : w.cell? ⟨b, o, none⟩ = some u) (hf : w.frozen? ⟨b, o, none⟩ = false)
    (h : Q .normal a (w.setCell ⟨b, o, none⟩ (.int .i64 z))) : lastQ Try.prog ops n Q .normal a w :=
  lastQ_of hn hg (by
    unfold Oper.wp execOp
    simp only [ho, hx, hy]
    go_simp
    exact h)
end
/-- No panic is left open. -/
def calmQ (Q : Exit → Act → World → Prop) : Exit → Act → World → Prop
  | .panic _, _, _ => False
  | .outgrown, _, _ => False
  | .normal, a, w => Q .normal a w
  | .ret, a, w => Q .ret a w
  | .exit i, a, w => Q (.exit i) a w
  | .goto t, a, w => Q (.goto t) a w
theorem wpIn_calm {F : Fence} {n : Nat} {P : Program} {c : Code} {Q : Exit → Act → World → Prop} {a : Act} {w : World} (h : c.wpIn F n P (calmQ Q) a w) : c.wpIn F n P Q a w :=
  wpIn_mono h (fun e _ _ h => by cases e <;> first | exact h | exact h.elim)
theorem calm_normal (Q : Exit → Act → World → Prop) (a : Act) (w : World) : calmQ Q .normal a w = Q .normal a w := rfl
theorem calm_ret (Q : Exit → Act → World → Prop) (a : Act) (w : World) : calmQ Q .ret a w = Q .ret a w := rfl
end Go.Proofs.Ytlopenephgabhaa


namespace Go.Proofs.Ytlopenephgabhaa
open Go.RowKit Go.Shelf
attribute [local go_sem] Oper.semAt_some calm_normal calm_ret

set_option maxHeartbeats 12800000 in
set_option maxRecDepth 100000 in
theorem totalComplex_any (p : Int) (hp : IsP p) (dv av vv : Value) (ds : List (List Int)) (ac dn : List (List (List (List Int)))) (w : World) (h : Dx 0 w dv av vv ds ac dn) (hok : DclOk ds) (ht : TbsOk p ds ac dn) :
    Calls Try.prog 48 #[.agg #[.int .i64 p, dv, av, vv]] w fun e w' => ∃ u, e = .returned u ∧ RwC w.heap.size w'.heap.size w' u (p, tD ds, tM ds ac dn) ∧ Below w.heap.size w w' := by
  have hres : Try.f48.results = #[.cell 2 38] := by kernel_rfl
  have HRES := Lib.hid hres
  clear hres
  have HP := Lib.hid hp
  have HOK := Lib.hid hok
  have HT := Lib.hid ht
  have HX := Lib.hid h
  have hl0 := hok.len0
  have hl4 := hok.len1
  have hq0 := hok.h0
  have hq4 := hok.h1
  obtain ⟨m, hm⟩ : ∃ m, m = ds.length := ⟨_, rfl⟩
  obtain ⟨q, hq⟩ : ∃ q, q = (ds.getD 0 []).length := ⟨_, rfl⟩
  obtain ⟨t, htt⟩ : ∃ t, t = ttop ds := ⟨_, rfl⟩
  have htm : t + 2 = m + q := by rw [htt, hm, hq]; unfold ttop; omega
  rw [← hm] at hl0 hl4
  rw [← hq] at hq0 hq4
  have HM := Lib.hid hm
  have HQ := Lib.hid hq
  have HTT := Lib.hid htt
  clear hm hq htt hp hok ht
  have hx0 := (DBx.start (p := p) 28 h).next ((Below.refl _ _).alloc (Nat.le_refl _) (.cells #[.int .i64 0, .slice none 0 0, .slice none 0 0] 38))
  clear h
  obtain ⟨w1, hw1⟩ : ∃ w1, w1 = (w.alloc (.cells #[.int .i64 p, dv, av, vv] 28)).alloc (.cells #[.int .i64 0, .slice none 0 0, .slice none 0 0] 38) := ⟨_, rfl⟩
  have hs1 : w1.heap.size = w.heap.size + 2 := by rw [hw1]; simp
  have HR0 : Hid (Rz w1 (w.heap.size + 1) 38 #[.int .i64 0, .slice none 0 0, .slice none 0 0]) := Lib.hid (by rw [hw1]; have := Rz.new (w.alloc (.cells #[.int .i64 p, dv, av, vv] 28)) 38 #[.int .i64 0, .slice none 0 0, .slice none 0 0]; rwa [World.size_alloc] at this)
  rw [← hw1] at hx0
  have HX1 := Lib.hid hx0
  have c0 := hx0.c0
  have c1 := hx0.c1
  have c2 := hx0.c2
  have c3 := hx0.c3
  clear hx0
  have HNX : Hid (∀ W, Below w1.heap.size w1 W → DBx w W w.heap.size p dv av vv ds ac dn ∧ Rz W (w.heap.size + 1) 38 #[.int .i64 0, .slice none 0 0, .slice none 0 0]) := Lib.hid (fun W hb => ⟨HX1.out.next hb, HR0.out.next hb⟩)
  have HWI : Hid (∀ W, Below w1.heap.size w1 W → Calls Try.prog 58 #[.agg #[.int .i64 p, dv, av, vv]] W fun e w' => e = .returned (.int .i64 (m : Int)) ∧ Below w1.heap.size w1 w') := Lib.hid (fun W hb => by rw [HM.out]; exact (widthOf_any p dv av vv ds W (HX.out.dims.below (HX1.out.below.trans (hb.mono HX1.out.below.size)))).mono fun _ _ hh => ⟨hh.1, hb.trans (hh.2.mono hb.size)⟩)
  have HHE : Hid (∀ W, Below w1.heap.size w1 W → Calls Try.prog 93 #[.agg #[.int .i64 p, dv, av, vv]] W fun e w' => e = .returned (.int .i64 (q : Int)) ∧ Below w1.heap.size w1 w') := Lib.hid (fun W hb => by rw [HQ.out]; exact (heightOf_any p dv av vv ds W (HX.out.dims.below (HX1.out.below.trans (hb.mono HX1.out.below.size))) HOK.out.len0).mono fun _ _ hh => ⟨hh.1, hb.trans (hh.2.mono hb.size)⟩)
  refine (callsIn_wide (n := 8)).1 ?_
  refine callsIn_of_wp_marks Try.func48 rfl trivial ?_
  simp only [Try.ntmps48, List.size_toArray, List.length_cons, List.length_nil, Nat.reduceAdd, Nat.reduceSub, Array.replicate_succ, Array.replicate_zero, List.push_toArray, List.append_toArray, List.nil_append, List.cons_append]
  refine wpIn_calm ?_
  refine wpIn_wide.2 ?_
  go_upto_region 1 with fail
  rw [← hw1]
  clear hw1 c0 c1 c2 c3
  refine wp_region_held (S := fun W => Below w1.heap.size w1 W) (by kernel_rfl) ?_
  have S0 : Below w1.heap.size w1 w1.drew := (Below.refl _ _).drew
  change wpAnyH _ _ _ _ _ _ _ _ w1.drew
  obtain ⟨wd, hwd⟩ : ∃ wd, wd = w1.drew := ⟨_, rfl⟩
  rw [← hwd] at S0 ⊢
  clear hwd
  refine held_take (i := 0) (v := .agg #[.int .i64 p, dv, av, vv]) (some 7) rfl rfl (by kernel_rfl) (by kernel_rfl) (by kernel_rfl) (fun _ _ _ h => h) (yieldsIf_cell (by kernel_rfl) rfl (by kernel_rfl) (fun W h => hloadDb W (HNX.out W h).1)) S0 ?_
  refine held_take (i := 2) (v := .agg #[.int .i64 p, dv, av, vv]) (some 9) rfl rfl (by kernel_rfl) (by kernel_rfl) (by kernel_rfl) (fun _ _ _ h => h) (yieldsIf_cell (by kernel_rfl) rfl (by kernel_rfl) (fun W h => hloadDb W (HNX.out W h).1)) S0 ?_
  refine held_enter (i := 1) (some 8) (f := 58) (args := #[.agg #[.int .i64 p, dv, av, vv]]) (by kernel_rfl) rfl rfl rfl (by kernel_rfl) (HWI.out _ S0) ?_ (fun c w' h => by cases h.1) (fun w' h => by cases h.1)
  rintro e3 W3 ⟨he3, S1⟩
  injection he3 with he3
  subst he3
  refine ⟨S1, ?_⟩
  refine held_enter (i := 3) (some 10) (f := 93) (args := #[.agg #[.int .i64 p, dv, av, vv]]) (by kernel_rfl) rfl rfl rfl (by kernel_rfl) (HHE.out _ S1) ?_ (fun c w' h => by cases h.1) (fun w' h => by cases h.1)
  rintro e4 W4 ⟨he4, S2⟩
  injection he4 with he4
  subst he4
  refine ⟨S2, ?_⟩
  refine held_take (i := 4) (v := .int .i64 ((m : Int) + (q : Int))) (some 11) rfl rfl (by kernel_rfl) (by kernel_rfl) (by kernel_rfl) (fun _ _ _ h => h) (yieldsIf_bin (by kernel_rfl) rfl (by kernel_rfl) (by kernel_rfl) (fun _ => rfl) (haddA (IntWalk.i64_in _ (by omega)))) S2 ?_
  refine held_take (i := 5) (v := .int .i64 (t : Int)) (some 12) rfl rfl (by kernel_rfl) (by kernel_rfl) (by kernel_rfl) (fun _ _ _ h => h) (yieldsIf_bin (by kernel_rfl) rfl (by kernel_rfl) (by kernel_rfl) (fun _ => rfl) (hsubA (by rw [show (m : Int) + (q : Int) - 2 = (t : Int) by omega]; exact IntWalk.i64_in _ (by omega)))) S2 ?_
  refine held_take (i := 6) (v := .int .i64 (t : Int)) (some 3) rfl rfl (by kernel_rfl) (by kernel_rfl) (by kernel_rfl) (fun _ _ _ h => h) (yieldsIf_assign (by kernel_rfl) rfl (by kernel_rfl)) S2 ?_
  refine wpAnyH_done (by kernel_rfl) ?_ _
  simp only [Act.put, List.setIfInBounds_toArray, List.set_cons_zero, List.set_cons_succ]
  have HBB := Lib.hid S2
  have hsB := S2.size
  clear S0 S1 S2
  obtain ⟨wB, hwB⟩ : ∃ wB : World, wB = W4 := ⟨_, rfl⟩
  rw [← hwB] at HBB hsB ⊢
  clear hwB
  obtain ⟨n, hn⟩ : ∃ n, n = t + 1 := ⟨_, rfl⟩
  have HN := Lib.hid hn
  have ht6 : t ≤ 6 := by omega
  have hn7 : n ≤ 7 := by omega
  have hwn : IntKind.i64.wrap ((t : Int) + 1) = (n : Int) := by rw [show (t : Int) + 1 = (n : Int) by omega]; exact IntWalk.i64_in _ (by omega)
  have hmk := run_make_row' (P := Try.prog) 35 2 (.int .i64 0) 8 Try.underlying35 Try.infoI rfl .i64 .i64 n (by omega) (by omega)
  have hmk2 := run_make_row' (P := Try.prog) 36 22 (.slice none 0 0) 24 Try.underlying36 Try.infoSS rfl .i64 .i64 t (by omega) (by omega)
  have HNB : Hid (∀ W, Below wB.heap.size wB W → DBx w W w.heap.size p dv av vv ds ac dn ∧ Rz W (w.heap.size + 1) 38 #[.int .i64 0, .slice none 0 0, .slice none 0 0]) := Lib.hid (fun W hb => HNX.out _ (HBB.out.trans (hb.mono hsB)))
  clear hn
  go_upto_region 2 with fail
  go_cut [4] from 13 to 20 (fun s wx => ∃ g bd bm, s = .pointer (some ⟨g, 0, none⟩) ∧ Hid (Du wB wx g bd bm n t p (fun _ => .int .i64 0) (fun _ => .slice none 0 0)))
  case first =>
    go_wp2
    refine wp_region_held (S := fun W => Below (wB.heap.size) wB W) (by kernel_rfl) ?_
    have S0 : Below (wB.heap.size) wB wB.drew := (Below.refl _ _).drew
    have hsd : wB.heap.size ≤ wB.drew.heap.size := Nat.le_refl _
    have hB0 : wB.heap.size ≤ wB.heap.size := by first | exact Nat.le_refl _ | omega
    change wpAnyH _ _ _ _ _ _ _ _ wB.drew
    obtain ⟨wd, hwd⟩ : ∃ wd, wd = wB.drew := ⟨_, rfl⟩
    rw [← hwd] at S0 hsd ⊢
    clear hwd
    refine held_take (i := 0) (v := .pointer (some ⟨w.heap.size, 0, none⟩)) (some 13) rfl rfl (by kernel_rfl) (by kernel_rfl) (by kernel_rfl) (fun _ _ _ h => h) (yieldsIf_run (by kernel_rfl) (fun W _ => by kernel_rfl)) S0 ?_
    refine held_take (i := 1) (v := .int .i64 p) (some 14) rfl rfl (by kernel_rfl) (by kernel_rfl) (by kernel_rfl) (fun _ _ _ h => h) (yieldsIf_cell (by kernel_rfl) rfl (by kernel_rfl) (fun W h => hloadIn W ((HNB.out W h).1.c0))) S0 ?_
    refine held_take (i := 2) (v := .int .i64 (t : Int)) (some 15) rfl rfl (by kernel_rfl) (by kernel_rfl) (by kernel_rfl) (fun _ _ _ h => h) (yieldsIf_move (by kernel_rfl) rfl (by kernel_rfl)) S0 ?_
    refine held_take (i := 3) (v := .int .i64 (n : Int)) (some 16) rfl rfl (by kernel_rfl) (by kernel_rfl) (by kernel_rfl) (fun _ _ _ h => h) (yieldsIf_bin (by kernel_rfl) rfl (by kernel_rfl) (by kernel_rfl) (fun _ => rfl) (haddA hwn)) S0 ?_
    refine held_take (i := 5) (v := .int .i64 (t : Int)) (some 18) rfl rfl (by kernel_rfl) (by kernel_rfl) (by kernel_rfl) (fun _ _ _ h => h) (yieldsIf_move (by kernel_rfl) rfl (by kernel_rfl)) S0 ?_
    refine held_three (i := 4) (j := 6) (l := 8) (by kernel_rfl) ?_ ?_ ?_
    · obtain ⟨W1, hW1⟩ : ∃ W', W' = wd.alloc (.cells (madeCells #[.int .i64 0] n) 2) := ⟨_, rfl⟩
      have hb1 : Below wd.heap.size wd W1 := by rw [hW1]; exact below_alloc1 _ _
      have hz1 : W1.heap.size = wd.heap.size + 1 := by rw [hW1]; simp
      have S1 : Below (wB.heap.size) wB W1 := S0.trans (hb1.mono (by omega))
      have hD1 : W1.rowIs wd.heap.size 2 n (fun _ => .int .i64 0) := by rw [hW1]; exact World.rowIs_made wd _ _ _
      refine op_make (i := 4) (v := .slice (some ⟨wd.heap.size, 0, none⟩) n n) (w' := W1) (x := .int .i64 (n : Int)) (y := .int .i64 (n : Int)) (some 17) 35 (.tmp 16) (.tmp 16) rfl rfl rfl rfl (by kernel_rfl) (by kernel_rfl) (by rw [hW1]; exact hmk _) ?_
      refine ⟨S1, ?_⟩
      refine held_two (i := 6) (j := 8) (by kernel_rfl) ?_ ?_
      · obtain ⟨W2, hW2⟩ : ∃ W', W' = W1.alloc (.cells (madeCells #[.slice none 0 0] t) 22) := ⟨_, rfl⟩
        have hb2 : Below W1.heap.size W1 W2 := by rw [hW2]; exact below_alloc1 _ _
        have hz2 : W2.heap.size = W1.heap.size + 1 := by rw [hW2]; simp
        have S2 : Below (wB.heap.size) wB W2 := S1.trans (hb2.mono (by omega))
        have hD2 := hD1.of_block (hb2.block _ hD1.lt)
        have hM2 : W2.rowIs W1.heap.size 22 t (fun _ => .slice none 0 0) := by rw [hW2]; exact World.rowIs_made W1 _ _ _
        refine op_make (i := 6) (v := .slice (some ⟨W1.heap.size, 0, none⟩) t t) (w' := W2) (x := .int .i64 (t : Int)) (y := .int .i64 (t : Int)) (some 19) 36 (.tmp 18) (.tmp 18) rfl rfl rfl rfl (by kernel_rfl) (by kernel_rfl) (by rw [hW2]; exact hmk2 _) ?_
        refine ⟨S2, ?_⟩
        refine held_take (i := 7) (v := .agg #[.int .i64 p, .slice (some ⟨wd.heap.size, 0, none⟩) n n, .slice (some ⟨W1.heap.size, 0, none⟩) t t]) (some 20) rfl rfl (by kernel_rfl) (by kernel_rfl) (by kernel_rfl) (fun _ _ _ h => h) (yieldsIf_run (by kernel_rfl) (fun W _ => by kernel_rfl)) S2 ?_
        refine held_one (i := 8) (by kernel_rfl) ?_
        · obtain ⟨W3, hW3⟩ : ∃ W', W' = W2.alloc (.cells #[.int .i64 0, .slice none 0 0, .slice none 0 0] 38) := ⟨_, rfl⟩
          have hb3 : Below W2.heap.size W2 W3 := by rw [hW3]; exact below_alloc1 _ _
          have hz3 : W3.heap.size = W2.heap.size + 1 := by rw [hW3]; simp
          have S3 : Below (wB.heap.size) wB W3 := S2.trans (hb3.mono (by omega))
          have hD3 := hD2.of_block (hb3.block _ hD2.lt)
          have hM3 := hM2.of_block (hb3.block _ hM2.lt)
          have hR3 : Rz W3 W2.heap.size 38 #[.int .i64 0, .slice none 0 0, .slice none 0 0] := by rw [hW3]; exact Rz.new _ _ _
          refine op_mem (i := 8) (v := .pointer (some ⟨W2.heap.size, 0, none⟩)) (w' := W3) (some 4) rfl rfl rfl (by rw [hW3]; go_simp) ?_
          refine ⟨S3, ?_⟩
          have S9 : Below (wB.heap.size) wB (W3.setRow (W2.heap.size) #[.int .i64 p, .slice (some ⟨wd.heap.size, 0, none⟩) n n, .slice (some ⟨W1.heap.size, 0, none⟩) t t]) := below_setRow S3 (by omega) _
          refine held_one (i := 9) (by kernel_rfl) ?_
          refine op_row (i := 9) rfl rfl rfl 38 (.tmp 4) (.tmp 20) rfl (W2.heap.size) #[.int .i64 p, .slice (some ⟨wd.heap.size, 0, none⟩) n n, .slice (some ⟨W1.heap.size, 0, none⟩) t t] (by kernel_rfl) (by kernel_rfl) 38 _ hR3 (infoCo _ _ _) (by kernel_rfl) (by kernel_rfl) ?_
          refine ⟨S9, ?_⟩
          refine wpAnyH_done (by kernel_rfl) ?_ _
          simp only [Act.put, List.setIfInBounds_toArray, List.set_cons_zero, List.set_cons_succ]
          obtain ⟨WF, hWF⟩ : ∃ WF, WF = (W3.setRow (W2.heap.size) #[.int .i64 p, .slice (some ⟨wd.heap.size, 0, none⟩) n n, .slice (some ⟨W1.heap.size, 0, none⟩) t t]) := ⟨_, rfl⟩
          have hbF : Below (wB.heap.size) wB WF := by rw [hWF]; exact S9
          have hRF : Rz WF (W2.heap.size) 38 #[.int .i64 p, .slice (some ⟨wd.heap.size, 0, none⟩) n n, .slice (some ⟨W1.heap.size, 0, none⟩) t t] := by rw [hWF]; exact hR3.set _
          have hDF : WF.rowIs (wd.heap.size) 2 n (fun _ => .int .i64 0) := by rw [hWF]; exact hD3.of_block (setRow_other _ _ _ _ (by omega))
          have hMF : WF.rowIs (W1.heap.size) 22 t (fun _ => .slice none 0 0) := by rw [hWF]; exact hM3.of_block (setRow_other _ _ _ _ (by omega))
          have hG : (wB.heap.size ≤ W2.heap.size ∧ wB.heap.size ≤ wd.heap.size ∧ wB.heap.size ≤ W1.heap.size) ∧ W2.heap.size ≠ wd.heap.size ∧ W2.heap.size ≠ W1.heap.size ∧ wd.heap.size ≠ W1.heap.size := by omega
          rw [← hWF]
          clear hWF S9
          go_wp2
          go_meet
          exact ⟨_, _, _, rfl, Lib.hid ⟨hbF, hG.1, hG.2, rowIs3 hRF, hDF, hMF⟩⟩
      · obtain ⟨W4, hW4⟩ : ∃ W', W' = W1.alloc (.cells #[.int .i64 0, .slice none 0 0, .slice none 0 0] 38) := ⟨_, rfl⟩
        have hb4 : Below W1.heap.size W1 W4 := by rw [hW4]; exact below_alloc1 _ _
        have hz4 : W4.heap.size = W1.heap.size + 1 := by rw [hW4]; simp
        have S4 : Below (wB.heap.size) wB W4 := S1.trans (hb4.mono (by omega))
        have hD4 := hD1.of_block (hb4.block _ hD1.lt)
        have hR4 : Rz W4 W1.heap.size 38 #[.int .i64 0, .slice none 0 0, .slice none 0 0] := by rw [hW4]; exact Rz.new _ _ _
        refine op_mem (i := 8) (v := .pointer (some ⟨W1.heap.size, 0, none⟩)) (w' := W4) (some 4) rfl rfl rfl (by rw [hW4]; go_simp) ?_
        refine ⟨S4, ?_⟩
        refine held_one (i := 6) (by kernel_rfl) ?_
        · obtain ⟨W5, hW5⟩ : ∃ W', W' = W4.alloc (.cells (madeCells #[.slice none 0 0] t) 22) := ⟨_, rfl⟩
          have hb5 : Below W4.heap.size W4 W5 := by rw [hW5]; exact below_alloc1 _ _
          have hz5 : W5.heap.size = W4.heap.size + 1 := by rw [hW5]; simp
          have S5 : Below (wB.heap.size) wB W5 := S4.trans (hb5.mono (by omega))
          have hD5 := hD4.of_block (hb5.block _ hD4.lt)
          have hR5 := hR4.next hb5
          have hM5 : W5.rowIs W4.heap.size 22 t (fun _ => .slice none 0 0) := by rw [hW5]; exact World.rowIs_made W4 _ _ _
          refine op_make (i := 6) (v := .slice (some ⟨W4.heap.size, 0, none⟩) t t) (w' := W5) (x := .int .i64 (t : Int)) (y := .int .i64 (t : Int)) (some 19) 36 (.tmp 18) (.tmp 18) rfl rfl rfl rfl (by kernel_rfl) (by kernel_rfl) (by rw [hW5]; exact hmk2 _) ?_
          refine ⟨S5, ?_⟩
          refine held_take (i := 7) (v := .agg #[.int .i64 p, .slice (some ⟨wd.heap.size, 0, none⟩) n n, .slice (some ⟨W4.heap.size, 0, none⟩) t t]) (some 20) rfl rfl (by kernel_rfl) (by kernel_rfl) (by kernel_rfl) (fun _ _ _ h => h) (yieldsIf_run (by kernel_rfl) (fun W _ => by kernel_rfl)) S5 ?_
          have S9 : Below (wB.heap.size) wB (W5.setRow (W1.heap.size) #[.int .i64 p, .slice (some ⟨wd.heap.size, 0, none⟩) n n, .slice (some ⟨W4.heap.size, 0, none⟩) t t]) := below_setRow S5 (by omega) _
          refine held_one (i := 9) (by kernel_rfl) ?_
          refine op_row (i := 9) rfl rfl rfl 38 (.tmp 4) (.tmp 20) rfl (W1.heap.size) #[.int .i64 p, .slice (some ⟨wd.heap.size, 0, none⟩) n n, .slice (some ⟨W4.heap.size, 0, none⟩) t t] (by kernel_rfl) (by kernel_rfl) 38 _ hR5 (infoCo _ _ _) (by kernel_rfl) (by kernel_rfl) ?_
          refine ⟨S9, ?_⟩
          refine wpAnyH_done (by kernel_rfl) ?_ _
          simp only [Act.put, List.setIfInBounds_toArray, List.set_cons_zero, List.set_cons_succ]
          obtain ⟨WF, hWF⟩ : ∃ WF, WF = (W5.setRow (W1.heap.size) #[.int .i64 p, .slice (some ⟨wd.heap.size, 0, none⟩) n n, .slice (some ⟨W4.heap.size, 0, none⟩) t t]) := ⟨_, rfl⟩
          have hbF : Below (wB.heap.size) wB WF := by rw [hWF]; exact S9
          have hRF : Rz WF (W1.heap.size) 38 #[.int .i64 p, .slice (some ⟨wd.heap.size, 0, none⟩) n n, .slice (some ⟨W4.heap.size, 0, none⟩) t t] := by rw [hWF]; exact hR5.set _
          have hDF : WF.rowIs (wd.heap.size) 2 n (fun _ => .int .i64 0) := by rw [hWF]; exact hD5.of_block (setRow_other _ _ _ _ (by omega))
          have hMF : WF.rowIs (W4.heap.size) 22 t (fun _ => .slice none 0 0) := by rw [hWF]; exact hM5.of_block (setRow_other _ _ _ _ (by omega))
          have hG : (wB.heap.size ≤ W1.heap.size ∧ wB.heap.size ≤ wd.heap.size ∧ wB.heap.size ≤ W4.heap.size) ∧ W1.heap.size ≠ wd.heap.size ∧ W1.heap.size ≠ W4.heap.size ∧ wd.heap.size ≠ W4.heap.size := by omega
          rw [← hWF]
          clear hWF S9
          go_wp2
          go_meet
          exact ⟨_, _, _, rfl, Lib.hid ⟨hbF, hG.1, hG.2, rowIs3 hRF, hDF, hMF⟩⟩
    · obtain ⟨W6, hW6⟩ : ∃ W', W' = wd.alloc (.cells (madeCells #[.slice none 0 0] t) 22) := ⟨_, rfl⟩
      have hb6 : Below wd.heap.size wd W6 := by rw [hW6]; exact below_alloc1 _ _
      have hz6 : W6.heap.size = wd.heap.size + 1 := by rw [hW6]; simp
      have S6 : Below (wB.heap.size) wB W6 := S0.trans (hb6.mono (by omega))
      have hM6 : W6.rowIs wd.heap.size 22 t (fun _ => .slice none 0 0) := by rw [hW6]; exact World.rowIs_made wd _ _ _
      refine op_make (i := 6) (v := .slice (some ⟨wd.heap.size, 0, none⟩) t t) (w' := W6) (x := .int .i64 (t : Int)) (y := .int .i64 (t : Int)) (some 19) 36 (.tmp 18) (.tmp 18) rfl rfl rfl rfl (by kernel_rfl) (by kernel_rfl) (by rw [hW6]; exact hmk2 _) ?_
      refine ⟨S6, ?_⟩
      refine held_two (i := 4) (j := 8) (by kernel_rfl) ?_ ?_
      · obtain ⟨W7, hW7⟩ : ∃ W', W' = W6.alloc (.cells (madeCells #[.int .i64 0] n) 2) := ⟨_, rfl⟩
        have hb7 : Below W6.heap.size W6 W7 := by rw [hW7]; exact below_alloc1 _ _
        have hz7 : W7.heap.size = W6.heap.size + 1 := by rw [hW7]; simp
        have S7 : Below (wB.heap.size) wB W7 := S6.trans (hb7.mono (by omega))
        have hM7 := hM6.of_block (hb7.block _ hM6.lt)
        have hD7 : W7.rowIs W6.heap.size 2 n (fun _ => .int .i64 0) := by rw [hW7]; exact World.rowIs_made W6 _ _ _
        refine op_make (i := 4) (v := .slice (some ⟨W6.heap.size, 0, none⟩) n n) (w' := W7) (x := .int .i64 (n : Int)) (y := .int .i64 (n : Int)) (some 17) 35 (.tmp 16) (.tmp 16) rfl rfl rfl rfl (by kernel_rfl) (by kernel_rfl) (by rw [hW7]; exact hmk _) ?_
        refine ⟨S7, ?_⟩
        refine held_take (i := 7) (v := .agg #[.int .i64 p, .slice (some ⟨W6.heap.size, 0, none⟩) n n, .slice (some ⟨wd.heap.size, 0, none⟩) t t]) (some 20) rfl rfl (by kernel_rfl) (by kernel_rfl) (by kernel_rfl) (fun _ _ _ h => h) (yieldsIf_run (by kernel_rfl) (fun W _ => by kernel_rfl)) S7 ?_
        refine held_one (i := 8) (by kernel_rfl) ?_
        · obtain ⟨W8, hW8⟩ : ∃ W', W' = W7.alloc (.cells #[.int .i64 0, .slice none 0 0, .slice none 0 0] 38) := ⟨_, rfl⟩
          have hb8 : Below W7.heap.size W7 W8 := by rw [hW8]; exact below_alloc1 _ _
          have hz8 : W8.heap.size = W7.heap.size + 1 := by rw [hW8]; simp
          have S8 : Below (wB.heap.size) wB W8 := S7.trans (hb8.mono (by omega))
          have hM8 := hM7.of_block (hb8.block _ hM7.lt)
          have hD8 := hD7.of_block (hb8.block _ hD7.lt)
          have hR8 : Rz W8 W7.heap.size 38 #[.int .i64 0, .slice none 0 0, .slice none 0 0] := by rw [hW8]; exact Rz.new _ _ _
          refine op_mem (i := 8) (v := .pointer (some ⟨W7.heap.size, 0, none⟩)) (w' := W8) (some 4) rfl rfl rfl (by rw [hW8]; go_simp) ?_
          refine ⟨S8, ?_⟩
          have S9 : Below (wB.heap.size) wB (W8.setRow (W7.heap.size) #[.int .i64 p, .slice (some ⟨W6.heap.size, 0, none⟩) n n, .slice (some ⟨wd.heap.size, 0, none⟩) t t]) := below_setRow S8 (by omega) _
          refine held_one (i := 9) (by kernel_rfl) ?_
          refine op_row (i := 9) rfl rfl rfl 38 (.tmp 4) (.tmp 20) rfl (W7.heap.size) #[.int .i64 p, .slice (some ⟨W6.heap.size, 0, none⟩) n n, .slice (some ⟨wd.heap.size, 0, none⟩) t t] (by kernel_rfl) (by kernel_rfl) 38 _ hR8 (infoCo _ _ _) (by kernel_rfl) (by kernel_rfl) ?_
          refine ⟨S9, ?_⟩
          refine wpAnyH_done (by kernel_rfl) ?_ _
          simp only [Act.put, List.setIfInBounds_toArray, List.set_cons_zero, List.set_cons_succ]
          obtain ⟨WF, hWF⟩ : ∃ WF, WF = (W8.setRow (W7.heap.size) #[.int .i64 p, .slice (some ⟨W6.heap.size, 0, none⟩) n n, .slice (some ⟨wd.heap.size, 0, none⟩) t t]) := ⟨_, rfl⟩
          have hbF : Below (wB.heap.size) wB WF := by rw [hWF]; exact S9
          have hRF : Rz WF (W7.heap.size) 38 #[.int .i64 p, .slice (some ⟨W6.heap.size, 0, none⟩) n n, .slice (some ⟨wd.heap.size, 0, none⟩) t t] := by rw [hWF]; exact hR8.set _
          have hDF : WF.rowIs (W6.heap.size) 2 n (fun _ => .int .i64 0) := by rw [hWF]; exact hD8.of_block (setRow_other _ _ _ _ (by omega))
          have hMF : WF.rowIs (wd.heap.size) 22 t (fun _ => .slice none 0 0) := by rw [hWF]; exact hM8.of_block (setRow_other _ _ _ _ (by omega))
          have hG : (wB.heap.size ≤ W7.heap.size ∧ wB.heap.size ≤ W6.heap.size ∧ wB.heap.size ≤ wd.heap.size) ∧ W7.heap.size ≠ W6.heap.size ∧ W7.heap.size ≠ wd.heap.size ∧ W6.heap.size ≠ wd.heap.size := by omega
          rw [← hWF]
          clear hWF S9
          go_wp2
          go_meet
          exact ⟨_, _, _, rfl, Lib.hid ⟨hbF, hG.1, hG.2, rowIs3 hRF, hDF, hMF⟩⟩
      · obtain ⟨W9, hW9⟩ : ∃ W', W' = W6.alloc (.cells #[.int .i64 0, .slice none 0 0, .slice none 0 0] 38) := ⟨_, rfl⟩
        have hb9 : Below W6.heap.size W6 W9 := by rw [hW9]; exact below_alloc1 _ _
        have hz9 : W9.heap.size = W6.heap.size + 1 := by rw [hW9]; simp
        have S9 : Below (wB.heap.size) wB W9 := S6.trans (hb9.mono (by omega))
        have hM9 := hM6.of_block (hb9.block _ hM6.lt)
        have hR9 : Rz W9 W6.heap.size 38 #[.int .i64 0, .slice none 0 0, .slice none 0 0] := by rw [hW9]; exact Rz.new _ _ _
        refine op_mem (i := 8) (v := .pointer (some ⟨W6.heap.size, 0, none⟩)) (w' := W9) (some 4) rfl rfl rfl (by rw [hW9]; go_simp) ?_
        refine ⟨S9, ?_⟩
        refine held_one (i := 4) (by kernel_rfl) ?_
        · obtain ⟨W10, hW10⟩ : ∃ W', W' = W9.alloc (.cells (madeCells #[.int .i64 0] n) 2) := ⟨_, rfl⟩
          have hb10 : Below W9.heap.size W9 W10 := by rw [hW10]; exact below_alloc1 _ _
          have hz10 : W10.heap.size = W9.heap.size + 1 := by rw [hW10]; simp
          have S10 : Below (wB.heap.size) wB W10 := S9.trans (hb10.mono (by omega))
          have hM10 := hM9.of_block (hb10.block _ hM9.lt)
          have hR10 := hR9.next hb10
          have hD10 : W10.rowIs W9.heap.size 2 n (fun _ => .int .i64 0) := by rw [hW10]; exact World.rowIs_made W9 _ _ _
          refine op_make (i := 4) (v := .slice (some ⟨W9.heap.size, 0, none⟩) n n) (w' := W10) (x := .int .i64 (n : Int)) (y := .int .i64 (n : Int)) (some 17) 35 (.tmp 16) (.tmp 16) rfl rfl rfl rfl (by kernel_rfl) (by kernel_rfl) (by rw [hW10]; exact hmk _) ?_
          refine ⟨S10, ?_⟩
          refine held_take (i := 7) (v := .agg #[.int .i64 p, .slice (some ⟨W9.heap.size, 0, none⟩) n n, .slice (some ⟨wd.heap.size, 0, none⟩) t t]) (some 20) rfl rfl (by kernel_rfl) (by kernel_rfl) (by kernel_rfl) (fun _ _ _ h => h) (yieldsIf_run (by kernel_rfl) (fun W _ => by kernel_rfl)) S10 ?_
          have S9 : Below (wB.heap.size) wB (W10.setRow (W6.heap.size) #[.int .i64 p, .slice (some ⟨W9.heap.size, 0, none⟩) n n, .slice (some ⟨wd.heap.size, 0, none⟩) t t]) := below_setRow S10 (by omega) _
          refine held_one (i := 9) (by kernel_rfl) ?_
          refine op_row (i := 9) rfl rfl rfl 38 (.tmp 4) (.tmp 20) rfl (W6.heap.size) #[.int .i64 p, .slice (some ⟨W9.heap.size, 0, none⟩) n n, .slice (some ⟨wd.heap.size, 0, none⟩) t t] (by kernel_rfl) (by kernel_rfl) 38 _ hR10 (infoCo _ _ _) (by kernel_rfl) (by kernel_rfl) ?_
          refine ⟨S9, ?_⟩
          refine wpAnyH_done (by kernel_rfl) ?_ _
          simp only [Act.put, List.setIfInBounds_toArray, List.set_cons_zero, List.set_cons_succ]
          obtain ⟨WF, hWF⟩ : ∃ WF, WF = (W10.setRow (W6.heap.size) #[.int .i64 p, .slice (some ⟨W9.heap.size, 0, none⟩) n n, .slice (some ⟨wd.heap.size, 0, none⟩) t t]) := ⟨_, rfl⟩
          have hbF : Below (wB.heap.size) wB WF := by rw [hWF]; exact S9
          have hRF : Rz WF (W6.heap.size) 38 #[.int .i64 p, .slice (some ⟨W9.heap.size, 0, none⟩) n n, .slice (some ⟨wd.heap.size, 0, none⟩) t t] := by rw [hWF]; exact hR10.set _
          have hDF : WF.rowIs (W9.heap.size) 2 n (fun _ => .int .i64 0) := by rw [hWF]; exact hD10.of_block (setRow_other _ _ _ _ (by omega))
          have hMF : WF.rowIs (wd.heap.size) 22 t (fun _ => .slice none 0 0) := by rw [hWF]; exact hM10.of_block (setRow_other _ _ _ _ (by omega))
          have hG : (wB.heap.size ≤ W6.heap.size ∧ wB.heap.size ≤ W9.heap.size ∧ wB.heap.size ≤ wd.heap.size) ∧ W6.heap.size ≠ W9.heap.size ∧ W6.heap.size ≠ wd.heap.size ∧ W9.heap.size ≠ wd.heap.size := by omega
          rw [← hWF]
          clear hWF S9
          go_wp2
          go_meet
          exact ⟨_, _, _, rfl, Lib.hid ⟨hbF, hG.1, hG.2, rowIs3 hRF, hDF, hMF⟩⟩
    · obtain ⟨W11, hW11⟩ : ∃ W', W' = wd.alloc (.cells #[.int .i64 0, .slice none 0 0, .slice none 0 0] 38) := ⟨_, rfl⟩
      have hb11 : Below wd.heap.size wd W11 := by rw [hW11]; exact below_alloc1 _ _
      have hz11 : W11.heap.size = wd.heap.size + 1 := by rw [hW11]; simp
      have S11 : Below (wB.heap.size) wB W11 := S0.trans (hb11.mono (by omega))
      have hR11 : Rz W11 wd.heap.size 38 #[.int .i64 0, .slice none 0 0, .slice none 0 0] := by rw [hW11]; exact Rz.new _ _ _
      refine op_mem (i := 8) (v := .pointer (some ⟨wd.heap.size, 0, none⟩)) (w' := W11) (some 4) rfl rfl rfl (by rw [hW11]; go_simp) ?_
      refine ⟨S11, ?_⟩
      refine held_two (i := 4) (j := 6) (by kernel_rfl) ?_ ?_
      · obtain ⟨W12, hW12⟩ : ∃ W', W' = W11.alloc (.cells (madeCells #[.int .i64 0] n) 2) := ⟨_, rfl⟩
        have hb12 : Below W11.heap.size W11 W12 := by rw [hW12]; exact below_alloc1 _ _
        have hz12 : W12.heap.size = W11.heap.size + 1 := by rw [hW12]; simp
        have S12 : Below (wB.heap.size) wB W12 := S11.trans (hb12.mono (by omega))
        have hR12 := hR11.next hb12
        have hD12 : W12.rowIs W11.heap.size 2 n (fun _ => .int .i64 0) := by rw [hW12]; exact World.rowIs_made W11 _ _ _
        refine op_make (i := 4) (v := .slice (some ⟨W11.heap.size, 0, none⟩) n n) (w' := W12) (x := .int .i64 (n : Int)) (y := .int .i64 (n : Int)) (some 17) 35 (.tmp 16) (.tmp 16) rfl rfl rfl rfl (by kernel_rfl) (by kernel_rfl) (by rw [hW12]; exact hmk _) ?_
        refine ⟨S12, ?_⟩
        refine held_one (i := 6) (by kernel_rfl) ?_
        · obtain ⟨W13, hW13⟩ : ∃ W', W' = W12.alloc (.cells (madeCells #[.slice none 0 0] t) 22) := ⟨_, rfl⟩
          have hb13 : Below W12.heap.size W12 W13 := by rw [hW13]; exact below_alloc1 _ _
          have hz13 : W13.heap.size = W12.heap.size + 1 := by rw [hW13]; simp
          have S13 : Below (wB.heap.size) wB W13 := S12.trans (hb13.mono (by omega))
          have hR13 := hR12.next hb13
          have hD13 := hD12.of_block (hb13.block _ hD12.lt)
          have hM13 : W13.rowIs W12.heap.size 22 t (fun _ => .slice none 0 0) := by rw [hW13]; exact World.rowIs_made W12 _ _ _
          refine op_make (i := 6) (v := .slice (some ⟨W12.heap.size, 0, none⟩) t t) (w' := W13) (x := .int .i64 (t : Int)) (y := .int .i64 (t : Int)) (some 19) 36 (.tmp 18) (.tmp 18) rfl rfl rfl rfl (by kernel_rfl) (by kernel_rfl) (by rw [hW13]; exact hmk2 _) ?_
          refine ⟨S13, ?_⟩
          refine held_take (i := 7) (v := .agg #[.int .i64 p, .slice (some ⟨W11.heap.size, 0, none⟩) n n, .slice (some ⟨W12.heap.size, 0, none⟩) t t]) (some 20) rfl rfl (by kernel_rfl) (by kernel_rfl) (by kernel_rfl) (fun _ _ _ h => h) (yieldsIf_run (by kernel_rfl) (fun W _ => by kernel_rfl)) S13 ?_
          have S9 : Below (wB.heap.size) wB (W13.setRow (wd.heap.size) #[.int .i64 p, .slice (some ⟨W11.heap.size, 0, none⟩) n n, .slice (some ⟨W12.heap.size, 0, none⟩) t t]) := below_setRow S13 (by omega) _
          refine held_one (i := 9) (by kernel_rfl) ?_
          refine op_row (i := 9) rfl rfl rfl 38 (.tmp 4) (.tmp 20) rfl (wd.heap.size) #[.int .i64 p, .slice (some ⟨W11.heap.size, 0, none⟩) n n, .slice (some ⟨W12.heap.size, 0, none⟩) t t] (by kernel_rfl) (by kernel_rfl) 38 _ hR13 (infoCo _ _ _) (by kernel_rfl) (by kernel_rfl) ?_
          refine ⟨S9, ?_⟩
          refine wpAnyH_done (by kernel_rfl) ?_ _
          simp only [Act.put, List.setIfInBounds_toArray, List.set_cons_zero, List.set_cons_succ]
          obtain ⟨WF, hWF⟩ : ∃ WF, WF = (W13.setRow (wd.heap.size) #[.int .i64 p, .slice (some ⟨W11.heap.size, 0, none⟩) n n, .slice (some ⟨W12.heap.size, 0, none⟩) t t]) := ⟨_, rfl⟩
          have hbF : Below (wB.heap.size) wB WF := by rw [hWF]; exact S9
          have hRF : Rz WF (wd.heap.size) 38 #[.int .i64 p, .slice (some ⟨W11.heap.size, 0, none⟩) n n, .slice (some ⟨W12.heap.size, 0, none⟩) t t] := by rw [hWF]; exact hR13.set _
          have hDF : WF.rowIs (W11.heap.size) 2 n (fun _ => .int .i64 0) := by rw [hWF]; exact hD13.of_block (setRow_other _ _ _ _ (by omega))
          have hMF : WF.rowIs (W12.heap.size) 22 t (fun _ => .slice none 0 0) := by rw [hWF]; exact hM13.of_block (setRow_other _ _ _ _ (by omega))
          have hG : (wB.heap.size ≤ wd.heap.size ∧ wB.heap.size ≤ W11.heap.size ∧ wB.heap.size ≤ W12.heap.size) ∧ wd.heap.size ≠ W11.heap.size ∧ wd.heap.size ≠ W12.heap.size ∧ W11.heap.size ≠ W12.heap.size := by omega
          rw [← hWF]
          clear hWF S9
          go_wp2
          go_meet
          exact ⟨_, _, _, rfl, Lib.hid ⟨hbF, hG.1, hG.2, rowIs3 hRF, hDF, hMF⟩⟩
      · obtain ⟨W14, hW14⟩ : ∃ W', W' = W11.alloc (.cells (madeCells #[.slice none 0 0] t) 22) := ⟨_, rfl⟩
        have hb14 : Below W11.heap.size W11 W14 := by rw [hW14]; exact below_alloc1 _ _
        have hz14 : W14.heap.size = W11.heap.size + 1 := by rw [hW14]; simp
        have S14 : Below (wB.heap.size) wB W14 := S11.trans (hb14.mono (by omega))
        have hR14 := hR11.next hb14
        have hM14 : W14.rowIs W11.heap.size 22 t (fun _ => .slice none 0 0) := by rw [hW14]; exact World.rowIs_made W11 _ _ _
        refine op_make (i := 6) (v := .slice (some ⟨W11.heap.size, 0, none⟩) t t) (w' := W14) (x := .int .i64 (t : Int)) (y := .int .i64 (t : Int)) (some 19) 36 (.tmp 18) (.tmp 18) rfl rfl rfl rfl (by kernel_rfl) (by kernel_rfl) (by rw [hW14]; exact hmk2 _) ?_
        refine ⟨S14, ?_⟩
        refine held_one (i := 4) (by kernel_rfl) ?_
        · obtain ⟨W15, hW15⟩ : ∃ W', W' = W14.alloc (.cells (madeCells #[.int .i64 0] n) 2) := ⟨_, rfl⟩
          have hb15 : Below W14.heap.size W14 W15 := by rw [hW15]; exact below_alloc1 _ _
          have hz15 : W15.heap.size = W14.heap.size + 1 := by rw [hW15]; simp
          have S15 : Below (wB.heap.size) wB W15 := S14.trans (hb15.mono (by omega))
          have hR15 := hR14.next hb15
          have hM15 := hM14.of_block (hb15.block _ hM14.lt)
          have hD15 : W15.rowIs W14.heap.size 2 n (fun _ => .int .i64 0) := by rw [hW15]; exact World.rowIs_made W14 _ _ _
          refine op_make (i := 4) (v := .slice (some ⟨W14.heap.size, 0, none⟩) n n) (w' := W15) (x := .int .i64 (n : Int)) (y := .int .i64 (n : Int)) (some 17) 35 (.tmp 16) (.tmp 16) rfl rfl rfl rfl (by kernel_rfl) (by kernel_rfl) (by rw [hW15]; exact hmk _) ?_
          refine ⟨S15, ?_⟩
          refine held_take (i := 7) (v := .agg #[.int .i64 p, .slice (some ⟨W14.heap.size, 0, none⟩) n n, .slice (some ⟨W11.heap.size, 0, none⟩) t t]) (some 20) rfl rfl (by kernel_rfl) (by kernel_rfl) (by kernel_rfl) (fun _ _ _ h => h) (yieldsIf_run (by kernel_rfl) (fun W _ => by kernel_rfl)) S15 ?_
          have S9 : Below (wB.heap.size) wB (W15.setRow (wd.heap.size) #[.int .i64 p, .slice (some ⟨W14.heap.size, 0, none⟩) n n, .slice (some ⟨W11.heap.size, 0, none⟩) t t]) := below_setRow S15 (by omega) _
          refine held_one (i := 9) (by kernel_rfl) ?_
          refine op_row (i := 9) rfl rfl rfl 38 (.tmp 4) (.tmp 20) rfl (wd.heap.size) #[.int .i64 p, .slice (some ⟨W14.heap.size, 0, none⟩) n n, .slice (some ⟨W11.heap.size, 0, none⟩) t t] (by kernel_rfl) (by kernel_rfl) 38 _ hR15 (infoCo _ _ _) (by kernel_rfl) (by kernel_rfl) ?_
          refine ⟨S9, ?_⟩
          refine wpAnyH_done (by kernel_rfl) ?_ _
          simp only [Act.put, List.setIfInBounds_toArray, List.set_cons_zero, List.set_cons_succ]
          obtain ⟨WF, hWF⟩ : ∃ WF, WF = (W15.setRow (wd.heap.size) #[.int .i64 p, .slice (some ⟨W14.heap.size, 0, none⟩) n n, .slice (some ⟨W11.heap.size, 0, none⟩) t t]) := ⟨_, rfl⟩
          have hbF : Below (wB.heap.size) wB WF := by rw [hWF]; exact S9
          have hRF : Rz WF (wd.heap.size) 38 #[.int .i64 p, .slice (some ⟨W14.heap.size, 0, none⟩) n n, .slice (some ⟨W11.heap.size, 0, none⟩) t t] := by rw [hWF]; exact hR15.set _
          have hDF : WF.rowIs (W14.heap.size) 2 n (fun _ => .int .i64 0) := by rw [hWF]; exact hD15.of_block (setRow_other _ _ _ _ (by omega))
          have hMF : WF.rowIs (W11.heap.size) 22 t (fun _ => .slice none 0 0) := by rw [hWF]; exact hM15.of_block (setRow_other _ _ _ _ (by omega))
          have hG : (wB.heap.size ≤ wd.heap.size ∧ wB.heap.size ≤ W14.heap.size ∧ wB.heap.size ≤ W11.heap.size) ∧ wd.heap.size ≠ W14.heap.size ∧ wd.heap.size ≠ W11.heap.size ∧ W14.heap.size ≠ W11.heap.size := by omega
          rw [← hWF]
          clear hWF S9
          go_wp2
          go_meet
          exact ⟨_, _, _, rfl, Lib.hid ⟨hbF, hG.1, hG.2, rowIs3 hRF, hDF, hMF⟩⟩
  case rest =>
    obtain ⟨g, bd, bm, rfl, HDU⟩ := hcut
    clear hmk hmk2
    obtain ⟨wx, hwx⟩ : ∃ wx : World, wx = wc := ⟨_, rfl⟩
    subst hwx
    have hnx := HNB.out wx HDU.out.below
    have c0 := hnx.1.c0
    have c1 := hnx.1.c1
    have c2 := hnx.1.c2
    have c3 := hnx.1.c3
    have hxl := hnx.1.lt
    clear hnx
    go_wp2_with fail
    refine (cellsOf_any p dv av vv _).mono ?_
    rintro e w2 ⟨rfl, rfl⟩
    dsimp only
    go_wp2
    clear c0 c1 c2 c3
    have hB0 : Below wx.heap.size wx (wx.alloc (.cells #[.int .i64 p, dv, av, vv] 28)) := (Below.refl _ _).alloc (Nat.le_refl _) _
    have hd0 : (wx.alloc (.cells #[.int .i64 p, dv, av, vv] 28)).cell? ⟨wx.heap.size, 1, none⟩ = some dv := new_c1 wx p dv av vv
    have hs0 : (wx.alloc (.cells #[.int .i64 p, dv, av, vv] 28)).heap.size = wx.heap.size + 1 := by simp
    obtain ⟨W0, hW0⟩ : ∃ W0, W0 = wx.alloc (.cells #[.int .i64 p, dv, av, vv] 28) := ⟨_, rfl⟩
    rw [← hW0] at hB0 hd0 hs0 ⊢
    clear hW0
    have hdb := HDU.out.below.size
    have hgl := HDU.out.box.lt
    have hbdl := HDU.out.dims.lt
    have hbml := HDU.out.maps.lt
    have hBw : Below w.heap.size w W0 := (HX1.out.below.trans (HBB.out.mono HX1.out.below.size)).trans ((HDU.out.below.trans (hB0.mono hdb)).mono (by have := HX1.out.below.size; omega))
    have hst := cells_stops Fence.wide 7 trivial rfl (by decide) wx.heap.size dv ds (by have := HM.out; omega) (fun r hr => by have := (HOK.out.col r hr).1; have := HOK.out.h1; omega) w W0 (by omega) hd0 HX.out.dims hBw
    have HD0 : Hid (Du wB W0 g bd bm n t p (fun s => .int .i64 ((tdl ds [] s : Nat) : Int)) (fun _ => .slice none 0 0)) := Lib.hid ((HDU.out.next hB0).congr (fun j _ => by simp [tdl]))
    have HS0 := Lib.hid hs0
    have HBW := Lib.hid hBw
    have hwb1 := HX1.out.below.size
    have hlo := HDU.out.lo
    have hne := HDU.out.ne
    have hsw : wx.heap.size < W0.heap.size := by omega
    clear HDU hB0 hd0 hs0 hBw
    refine (wpIn_wide (n := 8)).1 ?_
    refine wpIn_rangeFunc_cell rfl (by decide : 1 ≤ 8) (gf := 118) (lb := #[.pointer (some ⟨wx.heap.size, 0, none⟩)]) rfl trivial (enters_of Try.func118 (by kernel_rfl) rfl)
      hst belowK_t (belowK_b (by omega)) (Below.refl _ _) (fun _ => rfl)
      (fun pre W => Du wB W g bd bm n t p (fun s => .int .i64 ((tdl ds (pre.map (·.1)) s : Nat) : Int)) (fun _ => .slice none 0 0)) (fun _ _ _ => False)
      (du_own (fun (pre : List (CellIn ds)) => (fun s => .int .i64 ((tdl ds (pre.map (·.1)) s : Nat) : Int))) _ (by omega) (by omega) (by omega) (by omega)) (fun _ _ _ _ _ h _ _ => h)
      HD0.out (fun x => #[.int .i64 (x.1.1 : Int), .int .i64 (x.1.2 : Int)]) 5 101 wB.heap.size
      ?assign ?body ?done ?stop
    case assign =>
      rintro l pre x A K hI hKK
      simp only [cellV] at hKK ⊢
      have hsz := hI.below.size
      gi_wp2
      have hk := hKK A.heap.size _ hsz (World.alloc_heap_new A _) ((KeepsOthers.alloc _ _).from _) ((Below.refl _ A).alloc (by omega) _) (hI.next ((Below.refl _ _).alloc (Nat.le_refl _) _))
      simp at hk
      refine Eq.mp ?_ hk
      congr 1
      all_goals (try congr 1)
    case body =>
      rintro l pre x Bx A hl ⟨r, hr⟩ hI hBx hX hlt
      obtain ⟨⟨i, j⟩, hxm⟩ := x
      dsimp only at hX
      have hmf := mem_cells.1 hxm
      dsimp only at hmf
      have hcol : (ds.getD i []).length = q := by rw [getD_of_lt _ hmf.1, (HOK.out.col _ (List.getElem_mem hmf.1)).1]; exact HQ.out.symm
      have hmm : ds.length = m := HM.out.symm
      obtain ⟨s, hs⟩ : ∃ s, s = i + j := ⟨_, rfl⟩
      have hst : s < n := by have := HN.out; omega
      have hi4 : i ≤ 4 := by omega
      have hj4 : j ≤ 4 := by omega
      obtain ⟨d, hd⟩ : ∃ d, d = cdim ds (i, j) := ⟨_, rfl⟩
      have hcd := cdim_cast HOK.out hxm
      rw [← hd] at hcd
      have hd4 := hcd.2
      obtain ⟨z, hz⟩ : ∃ z, z = tdl ds (pre.map (·.1)) s := ⟨_, rfl⟩
      have hz64 : z ≤ 64 := by rw [hz]; have h1 := tdl_le HOK.out pre s; have h2 := cells_le HOK.out; omega
      have HIA := Lib.hid hI
      have hsz := hI.below.size
      have HNA : Hid (∀ X, Below A.heap.size A X → DBx w X w.heap.size p dv av vv ds ac dn) := Lib.hid (fun X hb => (HNB.out X (HIA.out.below.trans (hb.mono hsz))).1)
      have HG1 : Hid (∀ X, Below A.heap.size A X → X.cell? ⟨g, 1, none⟩ = some (.slice (some ⟨bd, 0, none⟩) n n)) := Lib.hid (fun X hb => later hb (Nat.le_refl _) (HIA.out.box.cell (i := 1) (by omega)))
      have HDZ : Hid (∀ X, Below A.heap.size A X → X.cell? ⟨bd, 0 + s, none⟩ = some (.int .i64 (z : Int))) := Lib.hid (fun X hb => by rw [Nat.zero_add, hz]; exact later hb (Nat.le_refl _) (HIA.out.dims.cell hst))
      have x0 : A.cell? ⟨Bx, 0, none⟩ = some (.int .i64 (i : Int)) := by simp [World.cell?, hX]
      have x1 : A.cell? ⟨Bx, 1, none⟩ = some (.int .i64 (j : Int)) := by simp [World.cell?, hX]
      have HX0 : Hid (∀ X, Below A.heap.size A X → X.cell? ⟨Bx, 0, none⟩ = some (.int .i64 (i : Int)) ∧ X.cell? ⟨Bx, 1, none⟩ = some (.int .i64 (j : Int))) := Lib.hid (fun X hb => ⟨later hb (Nat.le_refl _) x0, later hb (Nat.le_refl _) x1⟩)
      have HDC : Hid (∀ X, Below A.heap.size A X → Calls Try.prog 95 #[.agg #[.int .i64 p, dv, av, vv], .agg #[.int .i64 (i : Int), .int .i64 (j : Int)]] X fun e w' => e = .returned (.int .i64 (d : Int)) ∧ Below A.heap.size A w') := Lib.hid (fun X hb => by
        rw [hcd.1]
        exact (dimOfCell_any p i j _ _ _ ds X (HNA.out X hb).dx.dims ⟨by omega, fun r hr => by have := (HOK.out.col r hr).1; have := HOK.out.h1; show r.length ≤ _; omega⟩ (by omega) (by omega) (by omega) (fun _ => by simp only [Int.toNat_natCast]; exact Int.ofNat_lt.2 hmf.2)).mono fun _ _ hh => ⟨hh.1, hb.trans (hh.2.mono hb.size)⟩)
      have HFIN : Hid (∀ X, Below A.heap.size A X → KeepsFrom W0.heap.size A (X.setCell ⟨bd, 0 + s, none⟩ (.int .i64 ((z : Int) + (d : Int)))) ∧ Below w.heap.size A (X.setCell ⟨bd, 0 + s, none⟩ (.int .i64 ((z : Int) + (d : Int)))) ∧ Du wB (X.setCell ⟨bd, 0 + s, none⟩ (.int .i64 ((z : Int) + (d : Int)))) g bd bm n t p (fun s => .int .i64 ((tdl ds ((pre ++ ([⟨(i, j), hxm⟩] : List (CellIn ds))).map (·.1)) s : Nat) : Int)) (fun _ => .slice none 0 0)) := Lib.hid (fun X hb => by
        rw [Nat.zero_add]
        refine ⟨(keepsFrom_below hb).trans ((KeepsOthers.setCell _ _ _).from _), (hb.mono (by omega)).setCell (p := ⟨bd, s, none⟩) (by show _ ≤ bd; omega) _, ((HIA.out.next hb).setD s _).congr (fun a ha => ?_)⟩
        have e : (pre ++ ([⟨(i, j), hxm⟩] : List (CellIn ds))).map (·.1) = pre.map (·.1) ++ [(i, j)] := by rw [List.map_append]; rfl
        rw [e, tdl_snoc, ← hd]
        by_cases ea : a = s
        · subst ea; rw [if_pos rfl, if_pos (by simp [onD, hs]), hz]; simp
        · rw [if_neg ea, if_neg (by simp [onD]; omega), Nat.add_zero])
      have hwij : IntKind.i64.wrap ((i : Int) + (j : Int)) = (s : Int) := by rw [show (i : Int) + (j : Int) = (s : Int) by omega]; exact IntWalk.i64_in _ (by omega)
      clear hI hX hr x0 x1 hd hcd hz hs hmf hcol hmm hlt hBx
      gi_wp2_with fail
      refine wpIn_region_last (fun X => Below A.heap.size A X) 14 (by kernel_rfl) (by kernel_rfl) (fun ⟨_, _, h⟩ => h) rfl (by kernel_rfl) ?_
      have S0 : Below A.heap.size A A.drew := (Below.refl _ _).drew
      change wpAnyH _ _ _ _ _ _ _ _ A.drew
      generalize A.drew = wd at *
      refine held_take (i := 0) (v := .pointer (some ⟨g, 1, none⟩)) (some 24) rfl rfl (by kernel_rfl) (by kernel_rfl) (by kernel_rfl) (fun _ _ _ h => h) (yieldsIf_run (by kernel_rfl) (fun W _ => by kernel_rfl)) S0 ?_
      refine held_take (i := 1) (v := .slice (some ⟨bd, 0, none⟩) n n) (some 25) rfl rfl (by kernel_rfl) (by kernel_rfl) (by kernel_rfl) (fun _ _ _ h => h) (yieldsIf_cell (by kernel_rfl) rfl (by kernel_rfl) (fun W h => hloadD W (HG1.out W h))) S0 ?_
      refine held_take (i := 2) (v := .pointer (some ⟨Bx, 0, none⟩)) (some 26) rfl rfl (by kernel_rfl) (by kernel_rfl) (by kernel_rfl) (fun _ _ _ h => h) (yieldsIf_run (by kernel_rfl) (fun W _ => by kernel_rfl)) S0 ?_
      refine held_take (i := 3) (v := .int .i64 (i : Int)) (some 27) rfl rfl (by kernel_rfl) (by kernel_rfl) (by kernel_rfl) (fun _ _ _ h => h) (yieldsIf_cell (by kernel_rfl) rfl (by kernel_rfl) (fun W h => hloadIn W (HX0.out W h).1)) S0 ?_
      refine held_take (i := 4) (v := .pointer (some ⟨Bx, 1, none⟩)) (some 28) rfl rfl (by kernel_rfl) (by kernel_rfl) (by kernel_rfl) (fun _ _ _ h => h) (yieldsIf_run (by kernel_rfl) (fun W _ => by kernel_rfl)) S0 ?_
      refine held_take (i := 5) (v := .int .i64 (j : Int)) (some 29) rfl rfl (by kernel_rfl) (by kernel_rfl) (by kernel_rfl) (fun _ _ _ h => h) (yieldsIf_cell (by kernel_rfl) rfl (by kernel_rfl) (fun W h => hloadIn W (HX0.out W h).2)) S0 ?_
      refine held_take (i := 6) (v := .int .i64 (s : Int)) (some 30) rfl rfl (by kernel_rfl) (by kernel_rfl) (by kernel_rfl) (fun _ _ _ h => h) (yieldsIf_bin (by kernel_rfl) rfl (by kernel_rfl) (by kernel_rfl) (fun _ => rfl) (haddA hwij)) S0 ?_
      refine held_take (i := 7) (v := .pointer (some ⟨bd, 0 + s, none⟩)) (some 31) rfl rfl (by kernel_rfl) (by kernel_rfl) (by kernel_rfl) (fun _ _ _ h => h) (yieldsIf_index (by kernel_rfl) rfl (by kernel_rfl) (by kernel_rfl) (hidxI bd 0 n hst)) S0 ?_
      refine held_take (i := 8) (v := .int .i64 (z : Int)) (some 32) rfl rfl (by kernel_rfl) (by kernel_rfl) (by kernel_rfl) (fun _ _ _ h => h) (yieldsIf_cell (by kernel_rfl) rfl (by kernel_rfl) (fun W h => hloadIn W (HDZ.out W h))) S0 ?_
      refine held_take (i := 9) (v := .agg #[.int .i64 p, dv, av, vv]) (some 33) rfl rfl (by kernel_rfl) (by kernel_rfl) (by kernel_rfl) (fun _ _ _ h => h) (yieldsIf_cell (by kernel_rfl) rfl (by kernel_rfl) (fun W h => hloadDb W (HNA.out W h))) S0 ?_
      refine held_take (i := 10) (v := .agg #[.int .i64 (i : Int), .int .i64 (j : Int)]) (some 34) rfl rfl (by kernel_rfl) (by kernel_rfl) (by kernel_rfl) (fun _ _ _ h => h) (yieldsIf_cell (by kernel_rfl) rfl (by kernel_rfl) (fun W h => hloadCe W (HX0.out W h).1 (HX0.out W h).2)) S0 ?_
      refine held_enter (i := 11) (some 35) (f := 95) (args := #[.agg #[.int .i64 p, dv, av, vv], .agg #[.int .i64 (i : Int), .int .i64 (j : Int)]]) (by kernel_rfl) rfl rfl rfl (by kernel_rfl) (HDC.out _ S0) ?_ (fun c w' h => by cases h.1) (fun w' h => by cases h.1)
      rintro e3 W3 ⟨he3, S1⟩
      injection he3 with he3
      subst he3
      refine ⟨S1, ?_⟩
      refine held_take (i := 12) (v := .int .i64 ((z : Int) + (d : Int))) (some 36) rfl rfl (by kernel_rfl) (by kernel_rfl) (by kernel_rfl) (fun _ _ _ h => h) (yieldsIf_bin (by kernel_rfl) rfl (by kernel_rfl) (by kernel_rfl) (fun _ => rfl) (haddA (IntWalk.i64_in _ (by omega)))) S1 ?_
      refine held_take (i := 13) (v := .pointer (some ⟨bd, 0 + s, none⟩)) (some 37) rfl rfl (by kernel_rfl) (by kernel_rfl) (by kernel_rfl) (fun _ _ _ h => h) (yieldsIf_index (by kernel_rfl) rfl (by kernel_rfl) (by kernel_rfl) (hidxI bd 0 n hst)) S1 ?_
      refine held_none (i := 14) (v := .bool false) rfl rfl (by kernel_rfl) (by kernel_rfl) (by kernel_rfl) (fun _ _ _ h => h) (yieldsIf_move (by kernel_rfl) rfl (by kernel_rfl)) S1 ?_
      have hac := HDZ.out _ S1
      have hfz : W3.frozen? ⟨bd, 0 + s, none⟩ = false := (HIA.out.next S1).dims.frozen _
      have HFI := HFIN.out _ S1
      refine wpAnyH_done (by kernel_rfl) (lastQ_storeJ rfl (by kernel_rfl) (by kernel_rfl) (.tmp 37) (.tmp 36) (by kernel_rfl) bd (0 + s) ((z : Int) + (d : Int)) _ (by kernel_rfl) (by kernel_rfl) hac hfz ?_) _
      exact HFI
    case done =>
      rintro D zs A hD hS hI hKD
      have HDU2 : Hid (Du wB A g bd bm n t p (fun j => .int .i64 ((tdim ds j : Nat) : Int)) (fun _ => .slice none 0 0)) := Lib.hid (hI.congr (fun j _ => by rw [hS]; rfl))
      have HKD := Lib.hid hKD
      have hDl : D < A.heap.size := (Array.getElem?_eq_some_iff.1 hKD).1
      have hDg : D ≠ g := by omega
      have hDd : D ≠ bd := by omega
      have hDm : D ≠ bm := by omega
      have HBO := Lib.hid HDU2.out.below
      have HBX := Lib.hid HDU2.out.box
      have HBD := Lib.hid HDU2.out.dims
      have hml := HDU2.out.maps.lt
      have HF0 : Hid (Fill3 A bm t 0 (fun _ => .slice none 0 0) (fun _ => A.heap.size) (tM ds ac dn)) := Lib.hid ⟨HDU2.out.maps, hml, fun _ h => absurd h (Nat.not_lt_zero _), Nat.le_refl _, fun _ _ h => absurd h (Nat.not_lt_zero _)⟩
      have hso := HBO.out.size
      clear hI hS hKD HDU2
      go_wp2
      go_loopw [6, 39] (fun _ i wr => ∃ (k : Nat) (f : Nat → Value) (b : Nat → Nat), k ≤ t ∧ i = .int .i64 (k : Int) ∧ Hid (Below wB.heap.size wB wr) ∧ Hid (wr.rowIs g 38 3 (box3 p (.slice (some ⟨bd, 0, none⟩) n n) (.slice (some ⟨bm, 0, none⟩) t t))) ∧ Hid (wr.rowIs bd 2 n (fun j => .int .i64 ((tdim ds j : Nat) : Int))) ∧ Hid (Fill3 wr bm t k f b (tM ds ac dn)) ∧ Hid (A.heap.size ≤ wr.heap.size ∧ A.heap.size ≤ b 0) ∧ Hid (wr.heap[D]? = some (.deferred (some [])))) (fun _ i _ => t - (intOf i).toNat)
      case atStart => exact ⟨0, _, _, Nat.zero_le _, rfl, HBO, HBX, HBD, HF0, Lib.hid ⟨Nat.le_refl _, Nat.le_refl _⟩, HKD⟩
      case round =>
        clear HBO HBX HBD HF0 HKD
        obtain ⟨k, f, b, hk, rfl, HB, HBX, HBD, HF, HLE, HKD⟩ := hrel
        obtain ⟨wy, hwy⟩ : ∃ wy : World, wy = wr := ⟨_, rfl⟩
        subst hwy
        by_cases hlk : k < t
        · have hkt : (k : Int) < (t : Int) := by omega
          have htk : k < ttop ds := by rw [← HTT.out]; exact hlk
          obtain ⟨r, hr⟩ : ∃ r, r = tdim ds (k + 1) := ⟨_, rfl⟩
          obtain ⟨c, hc⟩ : ∃ c, c = tdim ds k := ⟨_, rfl⟩
          have hr64 : r ≤ 64 := by rw [hr]; exact tdim_le HOK.out _
          have hc64 : c ≤ 64 := by rw [hc]; exact tdim_le HOK.out _
          have HTA := Lib.hid (ttab_ok HP.out HOK.out HT.out k)
          have HNY : Hid (∀ X, Below wy.heap.size wy X → DBx w X w.heap.size p dv av vv ds ac dn) := Lib.hid (fun X hb => (HNB.out X (HB.out.trans (hb.mono HB.out.size))).1)
          have HG2 : Hid (∀ X, Below wy.heap.size wy X → X.cell? ⟨g, 1, none⟩ = some (.slice (some ⟨bd, 0, none⟩) n n) ∧ X.cell? ⟨g, 2, none⟩ = some (.slice (some ⟨bm, 0, none⟩) t t)) := Lib.hid (fun X hb => ⟨later hb (Nat.le_refl _) (HBX.out.cell (i := 1) (by omega)), later hb (Nat.le_refl _) (HBX.out.cell (i := 2) (by omega))⟩)
          have HD1 : Hid (∀ X, Below wy.heap.size wy X → X.cell? ⟨bd, 0 + (k + 1), none⟩ = some (.int .i64 (r : Int)) ∧ X.cell? ⟨bd, 0 + k, none⟩ = some (.int .i64 (c : Int))) := Lib.hid (fun X hb => by
            rw [Nat.zero_add, Nat.zero_add, hr, hc]
            exact ⟨later hb (Nat.le_refl _) (HBD.out.cell (by have := HN.out; omega)), later hb (Nat.le_refl _) (HBD.out.cell (by have := HN.out; omega))⟩)
          have HNUM : Hid (∀ X, Below wy.heap.size wy X → Calls Try.prog 100 #[.agg #[.int .i64 p, dv, av, vv], .int .i64 ((k + 1 : Nat) : Int)] X fun e w' => ∃ v, e = .returned v ∧ Gb X.heap.size w' v (ttab ds ac dn k).flatten ∧ Below X.heap.size X w') := Lib.hid (fun X hb => by rw [ttab_flat]; exact totalNumbers_any p HP.out dv av vv ds ac dn k (by omega) X (HNY.out X hb).dx HOK.out HT.out)
          have hw1k : IntKind.i64.wrap ((k : Int) + 1) = ((k + 1 : Nat) : Int) := by rw [show (k : Int) + 1 = ((k + 1 : Nat) : Int) by omega]; exact IntWalk.i64_in _ (by omega)
          have hk1n : k + 1 < n := by have := HN.out; omega
          have hk0n : k < n := by omega
          have hlen : (ttab ds ac dn k).length = r := by have := HTA.out.1; omega
          have hcolm : ∀ x ∈ ttab ds ac dn k, x.length = c := fun x hx => by have := (HTA.out.2 x hx).1; omega
          have HLEN := Lib.hid hlen
          have HCOL := Lib.hid hcolm
          clear hr hc hlen hcolm
          go_upto_region 9 with fail
          refine wp_region_last (fun W => Below wy.heap.size wy W) 20 (by kernel_rfl) rfl (by kernel_rfl) ?_
          have S0 : Below wy.heap.size wy wy.drew := (Below.refl _ _).drew
          change wpAnyH _ _ _ _ _ _ _ _ wy.drew
          obtain ⟨wd, hwd⟩ : ∃ wd, wd = wy.drew := ⟨_, rfl⟩
          rw [← hwd] at S0 ⊢
          clear hwd
          refine held_take (i := 0) (v := .pointer (some ⟨g, 2, none⟩)) (some 42) rfl rfl (by kernel_rfl) (by kernel_rfl) (by kernel_rfl) (fun _ _ _ h => h) (yieldsIf_run (by kernel_rfl) (fun W _ => by kernel_rfl)) S0 ?_
          refine held_take (i := 1) (v := .slice (some ⟨bm, 0, none⟩) t t) (some 43) rfl rfl (by kernel_rfl) (by kernel_rfl) (by kernel_rfl) (fun _ _ _ h => h) (yieldsIf_cell (by kernel_rfl) rfl (by kernel_rfl) (fun W h => hloadM W (HG2.out W h).2)) S0 ?_
          refine held_take (i := 2) (v := .int .i64 (k : Int)) (some 44) rfl rfl (by kernel_rfl) (by kernel_rfl) (by kernel_rfl) (fun _ _ _ h => h) (yieldsIf_move (by kernel_rfl) rfl (by kernel_rfl)) S0 ?_
          refine held_take (i := 3) (v := .agg #[.int .i64 p, dv, av, vv]) (some 45) rfl rfl (by kernel_rfl) (by kernel_rfl) (by kernel_rfl) (fun _ _ _ h => h) (yieldsIf_cell (by kernel_rfl) rfl (by kernel_rfl) (fun W h => hloadDb W (HNY.out W h))) S0 ?_
          refine held_take (i := 4) (v := .int .i64 (k : Int)) (some 46) rfl rfl (by kernel_rfl) (by kernel_rfl) (by kernel_rfl) (fun _ _ _ h => h) (yieldsIf_move (by kernel_rfl) rfl (by kernel_rfl)) S0 ?_
          refine held_take (i := 5) (v := .int .i64 ((k + 1 : Nat) : Int)) (some 47) rfl rfl (by kernel_rfl) (by kernel_rfl) (by kernel_rfl) (fun _ _ _ h => h) (yieldsIf_bin (by kernel_rfl) rfl (by kernel_rfl) (by kernel_rfl) (fun _ => rfl) (haddA hw1k)) S0 ?_
          refine held_take (i := 7) (v := .pointer (some ⟨g, 1, none⟩)) (some 49) rfl rfl (by kernel_rfl) (by kernel_rfl) (by kernel_rfl) (fun _ _ _ h => h) (yieldsIf_run (by kernel_rfl) (fun W _ => by kernel_rfl)) S0 ?_
          refine held_take (i := 8) (v := .slice (some ⟨bd, 0, none⟩) n n) (some 50) rfl rfl (by kernel_rfl) (by kernel_rfl) (by kernel_rfl) (fun _ _ _ h => h) (yieldsIf_cell (by kernel_rfl) rfl (by kernel_rfl) (fun W h => hloadD W (HG2.out W h).1)) S0 ?_
          refine held_take (i := 9) (v := .int .i64 (k : Int)) (some 51) rfl rfl (by kernel_rfl) (by kernel_rfl) (by kernel_rfl) (fun _ _ _ h => h) (yieldsIf_move (by kernel_rfl) rfl (by kernel_rfl)) S0 ?_
          refine held_take (i := 10) (v := .int .i64 ((k + 1 : Nat) : Int)) (some 52) rfl rfl (by kernel_rfl) (by kernel_rfl) (by kernel_rfl) (fun _ _ _ h => h) (yieldsIf_bin (by kernel_rfl) rfl (by kernel_rfl) (by kernel_rfl) (fun _ => rfl) (haddA hw1k)) S0 ?_
          refine held_take (i := 11) (v := .pointer (some ⟨bd, 0 + (k + 1), none⟩)) (some 53) rfl rfl (by kernel_rfl) (by kernel_rfl) (by kernel_rfl) (fun _ _ _ h => h) (yieldsIf_index (by kernel_rfl) rfl (by kernel_rfl) (by kernel_rfl) (hidxI bd 0 n hk1n)) S0 ?_
          refine held_take (i := 12) (v := .int .i64 (r : Int)) (some 54) rfl rfl (by kernel_rfl) (by kernel_rfl) (by kernel_rfl) (fun _ _ _ h => h) (yieldsIf_cell (by kernel_rfl) rfl (by kernel_rfl) (fun W h => hloadIn W (HD1.out W h).1)) S0 ?_
          refine held_take (i := 13) (v := .pointer (some ⟨g, 1, none⟩)) (some 55) rfl rfl (by kernel_rfl) (by kernel_rfl) (by kernel_rfl) (fun _ _ _ h => h) (yieldsIf_run (by kernel_rfl) (fun W _ => by kernel_rfl)) S0 ?_
          refine held_take (i := 14) (v := .slice (some ⟨bd, 0, none⟩) n n) (some 56) rfl rfl (by kernel_rfl) (by kernel_rfl) (by kernel_rfl) (fun _ _ _ h => h) (yieldsIf_cell (by kernel_rfl) rfl (by kernel_rfl) (fun W h => hloadD W (HG2.out W h).1)) S0 ?_
          refine held_take (i := 15) (v := .int .i64 (k : Int)) (some 57) rfl rfl (by kernel_rfl) (by kernel_rfl) (by kernel_rfl) (fun _ _ _ h => h) (yieldsIf_move (by kernel_rfl) rfl (by kernel_rfl)) S0 ?_
          refine held_take (i := 16) (v := .pointer (some ⟨bd, 0 + k, none⟩)) (some 58) rfl rfl (by kernel_rfl) (by kernel_rfl) (by kernel_rfl) (fun _ _ _ h => h) (yieldsIf_index (by kernel_rfl) rfl (by kernel_rfl) (by kernel_rfl) (hidxI bd 0 n hk0n)) S0 ?_
          refine held_take (i := 17) (v := .int .i64 (c : Int)) (some 59) rfl rfl (by kernel_rfl) (by kernel_rfl) (by kernel_rfl) (fun _ _ _ h => h) (yieldsIf_cell (by kernel_rfl) rfl (by kernel_rfl) (fun W h => hloadIn W (HD1.out W h).2)) S0 ?_
          refine held_enter (i := 6) (some 48) (f := 100) (args := #[.agg #[.int .i64 p, dv, av, vv], .int .i64 ((k + 1 : Nat) : Int)]) (by kernel_rfl) rfl rfl rfl (by kernel_rfl) (HNUM.out _ S0) ?_ (fun c w' h => by obtain ⟨_, h, _⟩ := h; cases h) (fun w' h => by obtain ⟨_, h, _⟩ := h; cases h)
          rintro e4 W4 ⟨u4, he4, hg4, hb4⟩
          injection he4 with he4
          subst he4
          have S1 : Below wy.heap.size wy W4 := S0.trans (hb4.mono S0.size)
          refine ⟨S1, ?_⟩
          obtain ⟨a4, c4, hv4⟩ := Sl.shape hg4.l1
          obtain ⟨m4, hm4⟩ : ∃ m4, m4 = (ttab ds ac dn k).flatten.length := ⟨_, rfl⟩
          rw [← hm4] at hv4
          subst hv4
          have hmrc : m4 = r * c := by rw [hm4, flat_len HCOL.out, HLEN.out]
          have hcap : m4 ≤ c4 := by
            rcases hg4.2 with ⟨hx, _⟩ | ⟨_, _, _, hx, _, _, h1, _⟩
            · injection hx with _ h2 h3; omega
            · injection hx with _ h2 h3; omega
          have HCU : Hid (Calls Try.prog 99 #[.slice a4 m4 c4, .int .i64 (r : Int), .int .i64 (c : Int)] W4 fun e w' => e = .returned (.slice (some ⟨W4.heap.size, 0, none⟩) r r) ∧ CuTo W4 w' a4 c r r) := Lib.hid (cutRows_at a4 m4 c4 r c W4 (by omega) (by omega) hmrc hcap)
          refine held_enter (i := 18) (some 60) (f := 99) (args := #[.slice a4 m4 c4, .int .i64 (r : Int), .int .i64 (c : Int)]) (by kernel_rfl) rfl rfl rfl (by kernel_rfl) (HCU.out) ?_ (fun c w' h => by cases h.1) (fun w' h => by cases h.1)
          rintro e5 W5 ⟨he5, hcu⟩
          injection he5 with he5
          subst he5
          have hb5 : Below wd.heap.size wd W5 := hb4.trans (hcu.below.mono hb4.size)
          have S2 : Below wy.heap.size wy W5 := S0.trans (hb5.mono S0.size)
          refine ⟨S2, ?_⟩
          refine held_take (i := 19) (v := .pointer (some ⟨bm, 0 + k, none⟩)) (some 61) rfl rfl (by kernel_rfl) (by kernel_rfl) (by kernel_rfl) (fun _ _ _ h => h) (yieldsIf_index (by kernel_rfl) rfl (by kernel_rfl) (by kernel_rfl) (hidx3 bm 0 t hlk)) S2 ?_
          have hrw := hcu.rw2 (lo := wd.heap.size) (by omega) (by omega) hg4 (by rw [flat_len HCOL.out, HLEN.out]) hb4.size
          rw [show cutL (ttab ds ac dn k).flatten r c = ttab ds ac dn k by rw [← HLEN.out]; exact cut_flat HCOL.out] at hrw
          have HFP := Lib.hid (HF.out.below S0)
          have hst := HFP.out.step hb5 (show k < (tM ds ac dn).length by rw [tM_len]; exact htk) (by simp only [tM, List.getElem_map, List.getElem_range]; exact hrw)
          have hr4 := HFP.out.row.of_block (hb5.block _ HFP.out.row.lt)
          have q1 : W5.cell? ⟨bm, 0 + k, none⟩ = some (f k) := by rw [Nat.zero_add]; exact hr4.cell hlk
          have q2 : W5.frozen? ⟨bm, 0 + k, none⟩ = false := hr4.frozen _
          have HBN : Hid (Below wB.heap.size wB (W5.setCell ⟨bm, k, none⟩ (.slice (some ⟨W4.heap.size, 0, none⟩) r r))) := Lib.hid ((HB.out.trans (S2.mono HB.out.size)).setCell (p := ⟨bm, k, none⟩) (by show wB.heap.size ≤ bm; exact hlo.2.2) _)
          have HXN : Hid ((W5.setCell ⟨bm, k, none⟩ (.slice (some ⟨W4.heap.size, 0, none⟩) r r)).rowIs g 38 3 (box3 p (.slice (some ⟨bd, 0, none⟩) n n) (.slice (some ⟨bm, 0, none⟩) t t))) := Lib.hid ((HBX.out.of_block (S2.block _ HBX.out.lt)).setOther hne.2.1 _)
          have HDN : Hid ((W5.setCell ⟨bm, k, none⟩ (.slice (some ⟨W4.heap.size, 0, none⟩) r r)).rowIs bd 2 n (fun j => .int .i64 ((tdim ds j : Nat) : Int))) := Lib.hid ((HBD.out.of_block (S2.block _ HBD.out.lt)).setOther hne.2.2 _)
          have HKN : Hid ((W5.setCell ⟨bm, k, none⟩ (.slice (some ⟨W4.heap.size, 0, none⟩) r r)).heap[D]? = some (.deferred (some []))) := Lib.hid ((Below.heap_setCell W5 ⟨bm, k, none⟩ _ D (by show D ≠ bm; exact hDm)).trans ((S2.block D (by have := HLE.out.1; omega)).trans HKD.out))
          have hleP : wy.heap.size ≤ wd.heap.size := S0.size
          have hleQ : wy.heap.size ≤ W5.heap.size := S2.size
          have HLN : Hid (A.heap.size ≤ (W5.setCell ⟨bm, k, none⟩ (.slice (some ⟨W4.heap.size, 0, none⟩) r r)).heap.size ∧ A.heap.size ≤ (fun q => if q < k then b q else if q = k then wd.heap.size else W5.heap.size) 0) := Lib.hid (by
            have h0 := HLE.out
            refine ⟨by simp; omega, ?_⟩
            by_cases e : 0 < k
            · simp only [if_pos e]; exact h0.2
            · simp only [if_neg e, if_pos (show 0 = k by omega)]; omega)
          have HST := Lib.hid hst
          refine held_none (i := 20) (v := .bool false) rfl rfl (by kernel_rfl) (by kernel_rfl) (by kernel_rfl) (fun _ _ _ h => h) (yieldsIf_move (by kernel_rfl) rfl (by kernel_rfl)) S2 ?_
          refine wpAnyH_done (by kernel_rfl) (lastQ_of rfl (by kernel_rfl) ?_) _
          simp only [Act.put, List.setIfInBounds_toArray, List.set_cons_zero, List.set_cons_succ]
          rw [Nat.zero_add] at q1 q2
          go_simp
          obtain ⟨wn, hwn'⟩ : ∃ wn, wn = (W5.setCell ⟨bm, k, none⟩ (.slice (some ⟨W4.heap.size, 0, none⟩) r r)) := ⟨_, rfl⟩
          rw [← hwn'] at HST HBN HXN HDN HLN HKN ⊢
          clear hwn' q1 q2 hr4 hst hrw HFP hb4 hb5 hcu hg4 S0 S1 S2 HNUM HCU HB HBX HBD HF hm4 hmrc hcap hw1k
          go_wp2
          go_roundw
          case rel => exact ⟨k + 1, _, _, by omega, by go_num, HBN, HXN, HDN, HST, HLN, HKN⟩
          case measure => simp [intOf]; omega
        · have hkt : ¬ (k : Int) < (t : Int) := by omega
          have HF3 : Hid (Fill3 wy bm t t f b (tM ds ac dn)) := Lib.hid (by have h0 := HF.out; rwa [show k = t by omega] at h0)
          have x0' : wy.cell? ⟨g, 0, none⟩ = some (.int .i64 p) := HBX.out.cell (i := 0) (by omega)
          have x1' : wy.cell? ⟨g, 1, none⟩ = some (.slice (some ⟨bd, 0, none⟩) n n) := HBX.out.cell (i := 1) (by omega)
          have x2' : wy.cell? ⟨g, 2, none⟩ = some (.slice (some ⟨bm, 0, none⟩) t t) := HBX.out.cell (i := 2) (by omega)
          have HNF := Lib.hid (HNB.out _ HB.out)
          clear HF
          have HR1 : ∃ x0 x1 x2, wy.heap[w.heap.size + 1]? = some (.cells #[x0, x1, x2] 38) := ⟨_, _, _, HNF.out.2⟩
          obtain ⟨x0, x1, x2, hr⟩ := HR1
          have r0 : wy.rowIs (w.heap.size + 1) 38 3 (sel3 x0 x1 x2) := rowIs3 hr
          have q0 : wy.cell? ⟨w.heap.size + 1, 0, none⟩ = some x0 := r0.cell (i := 0) (by omega)
          have z0 : wy.frozen? ⟨w.heap.size + 1, 0, none⟩ = false := r0.frozen 0
          have r1 := r0.set 0 (.int .i64 p)
          have q1 : (wy.setCell ⟨w.heap.size + 1, 0, none⟩ (.int .i64 p)).cell? ⟨w.heap.size + 1, 1, none⟩ = some x1 := r1.cell (i := 1) (by omega)
          have z1 : (wy.setCell ⟨w.heap.size + 1, 0, none⟩ (.int .i64 p)).frozen? ⟨w.heap.size + 1, 1, none⟩ = false := r1.frozen 1
          have r2 := r1.set 1 (.slice (some ⟨bd, 0, none⟩) n n)
          have q2 : ((wy.setCell ⟨w.heap.size + 1, 0, none⟩ (.int .i64 p)).setCell ⟨w.heap.size + 1, 1, none⟩ (.slice (some ⟨bd, 0, none⟩) n n)).cell? ⟨w.heap.size + 1, 2, none⟩ = some x2 := r2.cell (i := 2) (by omega)
          have z2 : ((wy.setCell ⟨w.heap.size + 1, 0, none⟩ (.int .i64 p)).setCell ⟨w.heap.size + 1, 1, none⟩ (.slice (some ⟨bd, 0, none⟩) n n)).frozen? ⟨w.heap.size + 1, 2, none⟩ = false := r2.frozen 2
          have r3 := r2.set 2 (.slice (some ⟨bm, 0, none⟩) t t)
          obtain ⟨WF, hWF⟩ : ∃ W : World, W = (((wy.setCell ⟨w.heap.size + 1, 0, none⟩ (.int .i64 p)).setCell ⟨w.heap.size + 1, 1, none⟩ (.slice (some ⟨bd, 0, none⟩) n n)).setCell ⟨w.heap.size + 1, 2, none⟩ (.slice (some ⟨bm, 0, none⟩) t t)) := ⟨_, rfl⟩
          have hbWF : ∀ B (w0 : World), B ≤ w.heap.size + 1 → Below B w0 wy → Below B w0 WF := fun B w0 hl hb => by rw [hWF]; exact (((hb.setCell (by show B ≤ w.heap.size + 1; exact hl) _).setCell (by show B ≤ w.heap.size + 1; exact hl) _).setCell (by show B ≤ w.heap.size + 1; exact hl) _)
          have hsWF : ∀ lo hi, w.heap.size + 1 < lo ∨ hi ≤ w.heap.size + 1 → Same lo hi wy WF := fun lo hi hl => by rw [hWF]; exact (((Same.set _ hl).trans (Same.set _ hl)).trans (Same.set _ hl))
          have hzWF : WF.heap.size = wy.heap.size := by rw [hWF]; simp
          rw [← hWF] at r3
          have f0 : WF.cell? ⟨w.heap.size + 1, 0, none⟩ = some (.int .i64 p) := r3.cell (i := 0) (by omega)
          have f1 : WF.cell? ⟨w.heap.size + 1, 1, none⟩ = some (.slice (some ⟨bd, 0, none⟩) n n) := r3.cell (i := 1) (by omega)
          have f2 : WF.cell? ⟨w.heap.size + 1, 2, none⟩ = some (.slice (some ⟨bm, 0, none⟩) t t) := r3.cell (i := 2) (by omega)
          have HWWF := Lib.hid hWF
          clear hr r0 r1 r2 r3 hWF
          have hkF : WF.heap[D]? = some (.deferred (some [])) := (hsWF D (D + 1) (by omega) D (Nat.le_refl _) (Nat.lt_succ_self _)).trans HKD.out
          have hbF : ∀ i, i ≠ w.heap.size + 1 → WF.heap[i]? = wy.heap[i]? := fun i hi => hsWF i (i + 1) (by omega) i (Nat.le_refl _) (Nat.lt_succ_self _)
          have HKF := Lib.hid hkF
          have hple : w.heap.size + 1 < wB.heap.size := by omega
          have hD0 : D < b 0 := by have := HLE.out.2; omega
          have HFF : Hid (Fill3 (WF.putObj D (.deferred none)) bm t t f b (tM ds ac dn)) := Lib.hid (by
            refine fill3_put ⟨HF3.out.row.of_block (hbF bm (by omega)), HF3.out.lo, HF3.out.inc, by rw [hzWF]; exact HF3.out.hi, fun a ha hk => (HF3.out.at' a ha hk).same (hsWF _ _ (.inl ?_))⟩ hD0 hDm _
            have hi0 : ∀ e, e ≤ t → b 0 ≤ b e := by
              intro e
              induction e with
              | zero => intro _; exact Nat.le_refl _
              | succ e ih => intro he; exact Nat.le_trans (ih (by omega)) (HF3.out.inc e (by omega))
            have := hi0 a (by omega)
            omega)
          have hpo : ∀ i, i ≠ D → (WF.putObj D (.deferred none)).heap[i]? = WF.heap[i]? := fun i hi => World.putObj_heap_other (by omega)
          have HDF : Hid ((WF.putObj D (.deferred none)).rowIs bd 2 n (fun j => .int .i64 ((tD ds).getD j 0))) := Lib.hid ((((HBD.out.of_block (hbF bd (by omega))).of_block (hpo bd (by omega)))).congr (fun j hj => by rw [tD_at (by rw [← HTT.out]; have := HN.out; omega)]))
          have HRC := Lib.hid (gen_rc (lo := w.heap.size) (by rw [tM_len]; exact HTT.out) (by rw [tD_len, ← HTT.out]; exact HN.out) (by omega) (by omega) HDF.out HFF.out (by have := hlo.2.1; omega) (by have := hlo.2.2; omega) (by have := HLE.out.2; omega))
          have HBF : Hid (Below w.heap.size w WF) := Lib.hid (hbWF w.heap.size w (by omega) ((HX1.out.below.trans (HBB.out.mono hwb1)).trans (HB.out.mono (by omega))))
          have hcp : ∀ o, (WF.putObj D (.deferred none)).cell? ⟨w.heap.size + 1, o, none⟩ = WF.cell? ⟨w.heap.size + 1, o, none⟩ := fun o => World.cell?_of_block (hpo (w.heap.size + 1) (by omega))
          have g0 := (hcp 0).trans f0
          have g1 := (hcp 1).trans f1
          have g2 := (hcp 2).trans f2
          have HG0 := Lib.hid g0
          have HG1 := Lib.hid g1
          have HG2 := Lib.hid g2
          have HTL : Hid (n = (tD ds).length ∧ t = (tM ds ac dn).length) := Lib.hid ⟨by rw [tD_len, ← HTT.out]; exact HN.out, by rw [tM_len]; exact HTT.out⟩
          clear hbF hkF hpo hcp g0 g1 g2 HF3 HBX HBD
          go_wp2
          rw [← HWWF.out]
          refine ⟨by simp, .inl ⟨_, _, rfl, run_takeDeferred HKF.out, ?_⟩⟩
          refine ⟨_, results_cx HRES.out _ (w.heap.size + 1) _ _ _ _ rfl HG0.out HG1.out HG2.out, _, rfl, ⟨some ⟨bd, 0, none⟩, n, some ⟨bm, 0, none⟩, t, by simp only [← HTL.out.1, ← HTL.out.2], by simp only [← HTL.out.1, ← HTL.out.2]; exact HRC.out⟩, HBF.out.trans (belowK_b (w := w) (Nat.le_refl _) _ D _ _ (by omega) HKF.out rfl rfl)⟩
    case stop =>
      rintro D c pre A hD _ hf hKD
      exact hf.elim
end Go.Proofs.Ytlopenephgabhaa


namespace Go.Proofs.Ytlopenephgabhaa
open Go.RowKit

/-- The sizes of what is told as a complex. -/
structure SzBk (ds : List Int) (ms : List (List (List Int))) : Prop where
  len0 : 1 ≤ ds.length
  len1 : ds.length ≤ 7
  mlen : ms.length + 1 = ds.length
  dims : ∀ d ∈ ds, 0 ≤ d ∧ d ≤ 32
  tabs : ∀ k, k < ms.length → ((ms.getD k []).length : Int) = ds.getD (k + 1) 0 ∧ ∀ x ∈ ms.getD k [], (x.length : Int) = ds.getD k 0
theorem SzBk.dim {ds : List Int} {ms : List (List (List Int))} (h : SzBk ds ms) (k : Nat) : 0 ≤ ds.getD k 0 ∧ ds.getD k 0 ≤ 32 := by
  by_cases hk : k < ds.length
  · rw [getD_of_lt _ hk]; exact h.dims _ (List.getElem_mem _)
  · simp [List.getD, show ds.length ≤ k by omega]
def SqB (ap : Nat → List Int → List (List Int) → List Int) (ds : List Int) (ms : List (List (List Int))) : Prop :=
  ∀ q, q + 1 < ms.length → ∀ r ∈ ms.getD (q + 1) [], ∀ x ∈ ap (ds.getD q 0).toNat r (ms.getD q []), x = 0
/-- A list in new memory. -/
def LRb (l : List Int) (w : World) (e : Ending) (w' : World) : Prop := ∃ u, e = .returned u ∧ L1 w.heap.size w' u l ∧ Below w.heap.size w w'

set_option maxHeartbeats 3200000 in
set_option maxRecDepth 100000 in
theorem squaresB_any (p : Int) (ap : Nat → List Int → List (List Int) → List Int) (Ok : Nat → List Int → List (List Int) → Prop) (hlen' : ∀ c v t, Ok c v t → (ap c v t).length = c)
    (hcall : ∀ (c : Nat) (va vt : Value) (v : List Int) (t : List (List Int)) (w : World), Ok c v t → L1 0 w va v → L2 0 w vt t → v.length ≤ 1048576 → c ≤ 1048576 → Calls Try.prog 97 #[.int .i64 p, va, vt, .int .i64 c] w (LRb (ap c v t) w))
    (dv mv : Value) (ds : List Int) (ms : List (List (List Int))) (w : World) (h : Cx 0 w dv mv ds ms) (ok : SzBk ds ms) (hok : ∀ q, q + 1 < ms.length → ∀ r ∈ ms.getD (q + 1) [], Ok (ds.getD q 0).toNat r (ms.getD q [])) :
    Calls Try.prog 47 #[.agg #[.int .i64 p, dv, mv]] w (BB (SqB ap ds ms) w) := by
  have HCALL := Lib.hid hcall
  have HLEN' := Lib.hid hlen'
  have HOK' := Lib.hid hok
  clear hcall hlen' hok
  have hlen0 := ok.len1
  have hmlen := Lib.hid ok.mlen
  have hml : ms.length ≤ 6 := by have := ok.mlen; have := ok.len1; omega
  have OK := Lib.hid ok
  clear ok
  have hb0 : Below w.heap.size w (w.alloc (.cells #[.int .i64 p, dv, mv] 38)) := (Below.refl _ _).alloc (Nat.le_refl _) _
  have HB0 := Lib.hid hb0
  clear hb0
  refine Sl.cases h.maps (fun ad cap hx hv' => ?_) (fun bm om capm hv' _ hpos hcl => ?_)
  · subst hx hv'
    clear h
    go_enter Try.func47, Try.ntmps47
    go_wp2
    refine wp_loop_rounds 1 ?_
    rw [rounds_succ]
    go_wp2
    go_ret
    exact bb_true HB0.out (fun q hq => absurd hq (by simp))
  · subst hv'
    refine Sl.cases h.dims (fun ad cap hx hv' => absurd hmlen.out (by subst hx; simp)) (fun bd od capd hv' _ hposd hcld => ?_)
    subst hv'
    have HC := Lib.hid hcl
    have HD := Lib.hid hcld
    clear h hcl hcld
    go_enter Try.func47, Try.ntmps47
    go_wp2
    go_loopw [3, 5, 6, 20] (fun i _ _ _ wr => ∃ (q : Nat), q ≤ ms.length ∧ i = .int .i64 ((q : Int) + 1) ∧ Below (w.heap.size + 1) (w.alloc (.cells #[.int .i64 p, .slice (some ⟨bd, od, none⟩) ds.length capd, .slice (some ⟨bm, om, none⟩) ms.length capm] 38)) wr ∧
      Hid (∀ q2, q2 < q → q2 + 1 < ms.length → ∀ r ∈ ms.getD (q2 + 1) [], ∀ x ∈ ap (ds.getD q2 0).toNat r (ms.getD q2 []), x = 0)) (fun i _ _ _ _ => ms.length - (intOf i - 1).toNat)
    case atStart => exact ⟨0, Nat.zero_le _, rfl, Below.refl _ _, Lib.hid (fun _ h => absurd h (Nat.not_lt_zero _))⟩
    case round =>
      obtain ⟨q, hq, rfl, hbel, HSQ⟩ := hrel
      have HBEL := Lib.hid hbel
      clear hbel
      have hbw : Below w.heap.size w wr := HB0.out.trans (HBEL.out.mono (Nat.le_succ _))
      have HBW := Lib.hid hbw
      clear hbw
      have c0 : wr.cell? ⟨w.heap.size, 0, none⟩ = some (.int .i64 p) := later HBEL.out (by simp) (by simp)
      have c1 : wr.cell? ⟨w.heap.size, 1, none⟩ = some (.slice (some ⟨bd, od, none⟩) ds.length capd) := later HBEL.out (by simp) (by simp)
      have c2 : wr.cell? ⟨w.heap.size, 2, none⟩ = some (.slice (some ⟨bm, om, none⟩) ms.length capm) := later HBEL.out (by simp) (by simp)
      by_cases hlt : q + 1 < ms.length
      · obtain ⟨u1, hu1, hr1⟩ := HC.out (q + 1) hlt
        obtain ⟨u0, hu0, hr0⟩ := HC.out q (by omega)
        obtain ⟨ud, hud, hrd⟩ := HD.out q (by have := hmlen.out; omega)
        have hu1' : wr.cell? ⟨bm, om + (q + 1), none⟩ = some u1 := later HBW.out (Nat.le_refl _) hu1
        have hu0' : wr.cell? ⟨bm, om + q, none⟩ = some u0 := later HBW.out (Nat.le_refl _) hu0
        have hud' : wr.cell? ⟨bd, od + q, none⟩ = some ud := later HBW.out (Nat.le_refl _) hud
        have hdim := OK.out.dim q
        have hql : q < ds.length := by have := hmlen.out; omega
        obtain ⟨c, hc⟩ := Int.eq_ofNat_of_zero_le hdim.1
        have hc8 : c ≤ 32 := by omega
        have hud2 : wr.cell? ⟨bd, od + q, none⟩ = some (.int .i64 (c : Int)) := by rw [hud', hrd, ← getD_of_lt 0 hql, hc]
        have HCC : Hid ((ds.getD q 0).toNat = c) := Lib.hid (by omega)
        have htab := OK.out.tabs (q + 1) hlt
        rw [getD_of_lt _ hlt] at htab
        have htl : (ms[q + 1]).length ≤ 32 := by have := htab.1; have := OK.out.dim (q + 1 + 1); omega
        have hrl : ∀ r ∈ ms[q + 1], r.length ≤ 32 := fun r hr => by have := htab.2 r hr; have := OK.out.dim (q + 1); omega
        have HRL := Lib.hid hrl
        have HR1 := Lib.hid hr1
        have HR0 := Lib.hid hr0
        have HNEXT : Hid ((∀ r ∈ ms[q + 1], ∀ x ∈ ap c r (ms.getD q []), x = 0) → ∀ q2, q2 < q + 1 → q2 + 1 < ms.length → ∀ r ∈ ms.getD (q2 + 1) [], ∀ x ∈ ap (ds.getD q2 0).toNat r (ms.getD q2 []), x = 0) := Lib.hid (fun hall q2 hq2 hlt2 => by
          by_cases e : q2 = q
          · subst e
            rw [HCC.out, getD_of_lt _ hlt]
            exact hall
          · exact HSQ.out q2 (by omega) hlt2)
        obtain ⟨t1, ht1⟩ : ∃ t1, t1 = ms[q + 1] := ⟨_, rfl⟩
        have HT1 := Lib.hid ht1
        rw [← ht1] at htl
        have HR1' : Hid (L2 0 w u1 t1) := Lib.hid (by rw [ht1]; exact HR1.out)
        have HNEXT' : Hid ((∀ j (hj : j < t1.length), ∀ x ∈ ap c t1[j] (ms.getD q []), x = 0) → ∀ q2, q2 < q + 1 → q2 + 1 < ms.length → ∀ r ∈ ms.getD (q2 + 1) [], ∀ x ∈ ap (ds.getD q2 0).toNat r (ms.getD q2 []), x = 0) := Lib.hid (fun hall => HNEXT.out (fun r hr => by
          rw [← ht1] at hr
          obtain ⟨j, hj, rfl⟩ := List.getElem_of_mem hr
          exact hall j hj))
        have HAP : Hid (∀ j (hj : j < t1.length), Ok c t1[j] (ms.getD q [])) := Lib.hid (fun j hj => by
          have := HOK'.out q hlt t1[j] (by rw [getD_of_lt _ hlt, ← ht1]; exact List.getElem_mem _)
          rwa [HCC.out] at this)
        have HNOT : Hid (∀ j (hj : j < t1.length), ¬ (∀ x ∈ ap c t1[j] (ms.getD q []), x = 0) → ¬ SqB ap ds ms) := Lib.hid (fun j hj hne hs => hne (by
          have := hs q hlt t1[j] (by rw [getD_of_lt _ hlt, ← ht1]; exact List.getElem_mem _)
          rwa [HCC.out] at this))
        have HRLL : Hid (∀ j (hj : j < t1.length), (t1[j]).length ≤ 1048576) := Lib.hid (fun j hj => by have := HRL.out t1[j] (by rw [← ht1]; exact List.getElem_mem _); omega)
        have HR0' : Hid (L2 0 w u0 (ms.getD q [])) := Lib.hid (by rw [getD_of_lt _ (by omega)]; exact HR0.out)
        obtain ⟨t0, ht0⟩ : ∃ t0, t0 = ms.getD q [] := ⟨_, rfl⟩
        rw [← ht0] at HNEXT' HAP HNOT HR0'
        have HU0 := Lib.hid hu0
        have HUD : Hid (w.cell? ⟨bd, od + q, none⟩ = some (.int .i64 (c : Int))) := Lib.hid (by rw [hud, hrd, ← getD_of_lt 0 hql, hc])
        clear hu1 hu0 hud hr1 hr0 hrd hud' hdim hc htab hrl ht1 HR1 HR0 HNEXT HRL ht0 HCC
        refine Sl.cases HR1'.out (fun ad1 cap1 hx1 hv1 => ?_) (fun b1 o1 cap1 hv1 _ hpos1 hcl1 => ?_)
        · subst hv1
          have HX1 := Lib.hid hx1
          clear hx1
          go_wp2
          refine wp_loop_rounds 1 ?_
          rw [rounds_succ]
          go_wp2
          go_roundw
          case rel => exact ⟨q + 1, by omega, by go_num, HBEL.out, Lib.hid (HNEXT'.out (fun j hj => absurd hj (by rw [HX1.out]; simp)))⟩
          case measure => simp [intOf]; omega
        · subst hv1
          have HC1 := Lib.hid hcl1
          clear hcl1
          have hdec : decide ((q : Int) + 1 < (ms.length : Int)) = true := by simp; omega
          obtain ⟨wo, hwo⟩ : ∃ wo : World, wo = wr := ⟨_, rfl⟩
          have HWO := Lib.hid hwo
          clear hwo
          go_wp2
          go_loopw [5, 6, 20] (fun _ _ i wr => ∃ (j : Nat), j ≤ t1.length ∧ i = .int .i64 j ∧ Below (w.heap.size + 1) (w.alloc (.cells #[.int .i64 p, .slice (some ⟨bd, od, none⟩) ds.length capd, .slice (some ⟨bm, om, none⟩) ms.length capm] 38)) wr ∧
            Hid (∀ j2 (hj : j2 < t1.length), j2 < j → ∀ x ∈ ap c t1[j2] t0, x = 0)) (fun _ _ i _ => t1.length - (intOf i).toNat)
          case atStart => exact ⟨0, Nat.zero_le _, rfl, HBEL.out, Lib.hid (fun _ _ h => absurd h (Nat.not_lt_zero _))⟩
          case round =>
            clear c0 c1 c2 hu1' hu0' hud2
            obtain ⟨j, hj, rfl, hbel2, HJ⟩ := hrel
            have HBEL2 := Lib.hid hbel2
            clear hbel2
            have HBW2 := Lib.hid (HB0.out.trans (HBEL2.out.mono (Nat.le_succ _)))
            have c0 : wr.cell? ⟨w.heap.size, 0, none⟩ = some (.int .i64 p) := later HBEL2.out (by simp) (by simp)
            have c1 : wr.cell? ⟨w.heap.size, 1, none⟩ = some (.slice (some ⟨bd, od, none⟩) ds.length capd) := later HBEL2.out (by simp) (by simp)
            have c2 : wr.cell? ⟨w.heap.size, 2, none⟩ = some (.slice (some ⟨bm, om, none⟩) ms.length capm) := later HBEL2.out (by simp) (by simp)
            by_cases hltj : j < t1.length
            · obtain ⟨u2, hu2, hr2⟩ := HC1.out j hltj
              have hu2' : wr.cell? ⟨b1, o1 + j, none⟩ = some u2 := later HBW2.out (Nat.le_refl _) hu2
              have hu0' : wr.cell? ⟨bm, om + q, none⟩ = some u0 := later HBW2.out (Nat.le_refl _) HU0.out
              have hud2 : wr.cell? ⟨bd, od + q, none⟩ = some (.int .i64 (c : Int)) := later HBW2.out (Nat.le_refl _) HUD.out
              have HR2 := Lib.hid hr2
              clear hu2 hr2
              have hql' : q < ms.length := by omega
              go_wp2
              have hw1 : IntKind.i64.wrap ((q : Int) + 1 - 1) = (q : Int) := by rw [show (q : Int) + 1 - 1 = q by omega]; exact IntWalk.i64_in _ (by omega)
              have hw2 : IntKind.i64.wrap (q : Int) = (q : Int) := IntWalk.i64_in _ (by omega)
              have hq0 : (0 : Int) ≤ (q : Int) := by omega
              have hq1 : (q : Int) < (ms.length : Int) := by omega
              have hq2 : (q : Int) < (ds.length : Int) := by omega
              go_still_tail 15, (by kernel_rfl)
              change wpList _ _ _ _ _ wr.drew
              clear hw1 hw2 hq0 hq1 hq2
              have HBD := Lib.hid (HBW2.out.drew)
              have hall := HAP.out j hltj
              have hlen : (ap c t1[j] t0).length ≤ 40 := by rw [HLEN'.out _ _ _ hall]; omega
              have HALLJ := Lib.hid hall
              have HLEN := Lib.hid hlen
              clear hall hlen
              go_wp2_with fail
              refine (HCALL.out c u2 u0 t1[j] t0 _ HALLJ.out (HR2.out.below HBD.out) (HR0'.out.below HBD.out) (HRLL.out j hltj) (by omega)).mono ?_
              rintro e w1 ⟨u, rfl, hru, hb1⟩
              have HRU := Lib.hid hru
              have HB1 := Lib.hid (HBEL2.out.drew.trans (hb1.mono (by have := HBEL2.out.size; simp at this; simp; omega)))
              clear hru hb1
              go_wp2_with fail
              refine (vectorOf_any u (ap c t1[j] t0) _ (HRU.out.lower (Nat.zero_le _)) HLEN.out).mono ?_
              rintro e w2 ⟨rfl, hb2⟩
              have HB2 := Lib.hid (HB1.out.trans (hb2.mono (by have := HB1.out.size; simp at this; omega)))
              have HB2W := Lib.hid (HB0.out.trans (HB2.out.mono (Nat.le_succ _)))
              clear hb2
              have hneq := neq_zero HLEN.out
              by_cases hz : ∀ x ∈ ap c t1[j] t0, x = 0
              · rw [decide_eq_true hz] at hneq
                have HZ := Lib.hid hz
                clear hz
                go_wp2
                go_roundw
                case rel => exact ⟨j + 1, by omega, by go_num, HB2.out, Lib.hid (fun j2 hj2 hlt2 => by
                  by_cases e : j2 = j
                  · subst e; exact HZ.out
                  · exact HJ.out j2 hj2 (by omega))⟩
                case measure => simp [intOf]; omega
              · rw [decide_eq_false hz] at hneq
                have HZ := Lib.hid hz
                clear hz
                go_wp2
                go_ret
                exact bb_false HB2W.out (HNOT.out j hltj HZ.out)
            · go_wp2
              go_roundw
              case rel => exact ⟨q + 1, by omega, by go_num, HBEL2.out, Lib.hid (HNEXT'.out (fun j2 hj2 => HJ.out j2 hj2 (by omega)))⟩
              case measure => simp [intOf]; omega
      · go_wp2
        go_ret
        exact bb_true HBW.out (fun q2 hq2 => HSQ.out q2 (by omega) hq2)
end Go.Proofs.Ytlopenephgabhaa


namespace Go.Proofs.Ytlopenephgabhaa
open Go.RowKit

set_option maxRecDepth 100000 in
set_option maxHeartbeats 4000000 in
theorem hasCells_any (p : Int) (dv av vv : Value) (ds : List (List Int)) (ac dn : List (List (List (List Int)))) (w : World) (h : Dx 0 w dv av vv ds ac dn) (hd : Bd2 1048576 ds) :
    Calls Try.prog 45 #[.agg #[.int .i64 p, dv, av, vv]] w (BB (IsP p ∧ DclOk ds) w) := by
  have HD := Lib.hid hd
  have hm0 : ds.length ≤ 1048576 := hd.1
  clear hd
  have hx0 := DBx.start (p := p) 28 h
  obtain ⟨ad, cd, rfl⟩ := Sl.shape h.dims
  clear h
  obtain ⟨m, hm⟩ : ∃ m, m = ds.length := ⟨_, rfl⟩
  have HM := Lib.hid hm
  rw [← hm] at hx0 hm0 ⊢
  clear hm
  obtain ⟨w1, hw1⟩ : ∃ w1, w1 = w.alloc (.cells #[.int .i64 p, .slice ad m cd, av, vv] 28) := ⟨_, rfl⟩
  rw [← hw1] at hx0
  have HX1 := Lib.hid hx0
  have c0 := hx0.c0
  have c1 := hx0.c1
  have c2 := hx0.c2
  have c3 := hx0.c3
  clear hx0
  by_cases hp : IsP p
  · have HP := Lib.hid hp
    have hp0 := hp.lo
    have hp1 := hp.hi
    clear hp
    go_enter Try.func45, Try.ntmps45
    go_upto_region 1 with fail
    rw [← hw1]
    clear hw1
    go_wp2_with fail
    refine (prime_yes HP.out _).mono ?_
    rintro e w' ⟨rfl, rfl⟩
    go_wp2_with fail
    refine (widthOf_any p _ _ _ ds _ HX1.out.dx.dims).mono ?_
    rintro e w2 ⟨rfl, hb2⟩
    rw [← HM.out]
    have HX2 := Lib.hid (HX1.out.next hb2)
    clear HX1 hb2 c0 c1 c2 c3
    have c0 := HX2.out.c0
    have c1 := HX2.out.c1
    have c2 := HX2.out.c2
    have c3 := HX2.out.c3
    by_cases hw : 1 ≤ m ∧ m ≤ 4
    · go_wp2_with fail
      refine (in_yes (by omega) _).mono ?_
      rintro e w' ⟨rfl, rfl⟩
      go_wp2_with fail
      refine (heightOf_any p _ _ _ ds _ HX2.out.dx.dims (by rw [← HM.out]; exact hw.1)).mono ?_
      rintro e w3 ⟨rfl, hb3⟩
      have HX3 := Lib.hid (HX2.out.next hb3)
      clear HX2 hb3 c0 c1 c2 c3
      have hq8 : (ds.getD 0 []).length ≤ 1048576 := by
        rw [getD_of_lt _ (by rw [← HM.out]; exact hw.1)]
        exact HD.out.2 _ (List.getElem_mem _)
      obtain ⟨q, hq⟩ : ∃ q, q = (ds.getD 0 []).length := ⟨_, rfl⟩
      have HQ := Lib.hid hq
      rw [← hq] at hq8 ⊢
      clear hq
      have c0 := HX3.out.c0
      have c1 := HX3.out.c1
      have c2 := HX3.out.c2
      have c3 := HX3.out.c3
      by_cases hh : 1 ≤ q ∧ q ≤ 4
      · go_wp2_with fail
        refine (in_yes (by omega) _).mono ?_
        rintro e w' ⟨rfl, rfl⟩
        go_wp2
        clear c0 c1 c2 c3
        go_loopw [26] (fun i wr => ∃ (k : Nat), k ≤ m ∧ i = .int .i64 k ∧ Hid (DBx w wr w.heap.size p (.slice ad m cd) av vv ds ac dn) ∧ Hid (∀ j (h1 : j < ds.length), j < k → (ds[j]).length = q ∧ AllIn 0 4 ds[j])) (fun i _ => m - (intOf i).toNat)
        case atStart => exact ⟨0, Nat.zero_le _, rfl, HX3, Lib.hid (fun _ _ h => absurd h (Nat.not_lt_zero _))⟩
        case round =>
          obtain ⟨k, hk, rfl, HX4, HC⟩ := hrel
          have c0 := HX4.out.c0
          have c1 := HX4.out.c1
          have c2 := HX4.out.c2
          have c3 := HX4.out.c3
          by_cases hlt : k < m
          · have hlt' : k < ds.length := by rw [← HM.out]; exact hlt
            have hL := HX4.out.dx.dims
            rcases hL with ⟨hx, _⟩ | ⟨b, o, c2', hv, _, _, hcl⟩
            · exact absurd (hx ▸ hlt') (Nat.not_lt_zero _)
            injection hv with e1 e2 e3
            subst e1 e3
            obtain ⟨ur, hur, hrr⟩ := hcl k hlt'
            have HRR := Lib.hid hrr
            have hy8 : (ds[k]).length ≤ 1048576 := HD.out.2 _ (List.getElem_mem hlt')
            obtain ⟨ys, hy⟩ : ∃ ys, ys = ds[k] := ⟨_, rfl⟩
            have HY := Lib.hid hy
            rw [← hy] at hy8
            have HRR' : Hid (L1 0 wr ur ys) := Lib.hid (by rw [hy]; exact hrr)
            clear hrr hcl e2 hy HRR
            obtain ⟨ar, cr, rfl⟩ := Sl.shape HRR'.out
            have HSTEP : Hid ((ys.length = q ∧ AllIn 0 4 ys) → ∀ j (h1 : j < ds.length), j < k + 1 → (ds[j]).length = q ∧ AllIn 0 4 ds[j]) := Lib.hid (fun hy2 j h1 h2 => by
              by_cases e : j = k
              · subst e; rw [← HY.out]; exact hy2
              · exact HC.out j h1 (by omega))
            have HNO : Hid (¬ (ys.length = q ∧ AllIn 0 4 ys) → ¬ (IsP p ∧ DclOk ds)) := Lib.hid (fun hn hok => hn (by rw [HY.out, HQ.out]; exact hok.2.col _ (List.getElem_mem hlt')))
            clear HY HC
            go_wp2_with fail
            refine (heightOf_any p _ _ _ ds _ HX4.out.dx.dims (by rw [← HM.out]; exact hw.1)).mono ?_
            rintro e w5 ⟨rfl, hb5⟩
            rw [← HQ.out]
            have HX5 := Lib.hid (HX4.out.next hb5)
            have HRR5 : Hid (L1 0 w5 _ ys) := Lib.hid (HRR'.out.below hb5)
            clear HX4 hb5 HRR' c0 c1 c2 c3 hur
            by_cases hlq : ys.length = q
            · rw [hlq] at HRR5 ⊢
              have hq1 : ((q : Int) != (q : Int)) = false := by simp
              go_wp2
              clear hq1
              go_loopw [37] (fun i wr2 => ∃ (t : Nat), t ≤ q ∧ i = .int .i64 t ∧ wr2 = w5 ∧ Hid (∀ j (h1 : j < ys.length), j < t → 0 ≤ ys[j] ∧ ys[j] ≤ 4)) (fun i _ => q - (intOf i).toNat)
              case atStart => exact ⟨0, Nat.zero_le _, rfl, rfl, Lib.hid (fun _ _ h => absurd h (Nat.not_lt_zero _))⟩
              case round =>
                obtain ⟨t, ht, rfl, rfl, HT⟩ := hrel
                by_cases hlt2 : t < q
                · have hlt2' : t < ys.length := by rw [hlq]; exact hlt2
                  rcases HRR5.out with ⟨hx, _⟩ | ⟨b2, o2, c3', hv2, _, _, hcl2⟩
                  · exact absurd (hx ▸ hlt2') (Nat.not_lt_zero _)
                  injection hv2 with e1 e2 e3
                  subst e1 e3
                  obtain ⟨un, hun, hui⟩ := hcl2 t hlt2'
                  have hui' : un = .int .i64 (ys[t]) := hui
                  subst hui'
                  obtain ⟨z, hz⟩ : ∃ z, z = ys[t] := ⟨_, rfl⟩
                  rw [← hz] at hun
                  clear hui hcl2 e2
                  have HZ := Lib.hid hz
                  clear hz
                  by_cases hzi : 0 ≤ z ∧ z ≤ 4
                  · go_wp2_with fail
                    refine (in_yes hzi _).mono ?_
                    rintro e w' ⟨rfl, rfl⟩
                    go_wp2
                    go_roundw
                    case rel => exact ⟨t + 1, by omega, by go_num, by simp, Lib.hid (fun j h1 h2 => by
                      by_cases e : j = t
                      · subst e; rw [← HZ.out]; exact hzi
                      · exact HT.out j h1 (by omega))⟩
                    case measure => simp [intOf]; omega
                  · go_wp2_with fail
                    refine (in_no hzi _).mono ?_
                    rintro e w' ⟨rfl, rfl⟩
                    go_wp2
                    go_ret
                    exact bb_false HX5.out.below (HNO.out (fun h => hzi (by rw [HZ.out]; exact h.2 _ (List.getElem_mem hlt2'))))
                · obtain rfl : t = q := by omega
                  go_wp2
                  go_roundw
                  case rel => exact ⟨k + 1, by omega, by go_num, HX5, Lib.hid (HSTEP.out ⟨hlq, all_of_lt (fun j hj => HT.out j hj (by omega))⟩)⟩
                  case measure => simp [intOf]; omega
            · have hq1 : ((ys.length : Int) != (q : Int)) = true := by have hz : (ys.length : Int) ≠ (q : Int) := (by omega); simp [hz]
              go_wp2
              go_ret
              exact bb_false HX5.out.below (HNO.out (fun h => hlq h.1))
          · obtain rfl : k = m := by omega
            have HOK : Hid (IsP p ∧ DclOk ds) := Lib.hid ⟨HP.out, ⟨by rw [← HM.out]; exact hw.1, by rw [← HM.out]; exact hw.2, by rw [← HQ.out]; exact hh.1, by rw [← HQ.out]; exact hh.2, by
              rw [← HQ.out]
              exact all_of_lt (fun j hj => HC.out j hj (by rw [HM.out]; exact hj))⟩⟩
            clear HC
            go_wp2
            go_ret
            exact bb_true HX4.out.below HOK.out
      · go_wp2_with fail
        refine (in_no (by omega) _).mono ?_
        rintro e w' ⟨rfl, rfl⟩
        go_wp2
        go_ret
        exact bb_false HX3.out.below (fun hok => hh (by rw [HQ.out]; exact ⟨hok.2.h0, hok.2.h1⟩))
    · go_wp2_with fail
      refine (in_no (by omega) _).mono ?_
      rintro e w' ⟨rfl, rfl⟩
      go_wp2
      go_ret
      exact bb_false HX2.out.below (fun hok => hw (by rw [HM.out]; exact ⟨hok.2.len0, hok.2.len1⟩))
  · have HP := Lib.hid hp
    clear hp
    go_enter Try.func45, Try.ntmps45
    go_upto_region 1 with fail
    rw [← hw1]
    clear hw1
    go_wp2_with fail
    refine (prime_no HP.out _).mono ?_
    rintro e w' ⟨rfl, rfl⟩
    go_wp2
    go_ret
    exact bb_false HX1.out.below (fun h => HP.out h.1)
end Go.Proofs.Ytlopenephgabhaa

