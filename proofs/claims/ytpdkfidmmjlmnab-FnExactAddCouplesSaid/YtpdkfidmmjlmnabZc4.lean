/-
  Texts that ProofAcl needs, part 4.
-/
import Derived.Test.YtpdkfidmmjlmnabZc3
import Derived.Deep.Cut
import Derived.Deep.CutRange
import Derived.Lib.AppendZerosOnto
namespace Go.Proofs.Ytpdkfidmmjlmnab
open Go.RowKit

structure FillA (wr : World) (g n k : Nat) (f : Nat → Value) (b : Nat → Nat) (ts : List (List (List Int))) : Prop where
  row : wr.rowIs g 143 n f
  lo : g < b 0
  inc : ∀ j, j < k → b j ≤ b (j + 1)
  hi : b k ≤ wr.heap.size
  at' : ∀ j (h : j < ts.length), j < k → Rw2 (b j) (b (j + 1)) wr (f j) ts[j]
theorem FillA.start {wr : World} {g n : Nat} {f : Nat → Value} (h : wr.rowIs g 143 n f) (hg : g + 1 ≤ wr.heap.size) (ts : List (List (List Int))) : FillA wr g n 0 f (fun _ => g + 1) ts :=
  ⟨h, Nat.lt_succ_self _, fun _ h => absurd h (Nat.not_lt_zero _), hg, fun _ _ h => absurd h (Nat.not_lt_zero _)⟩
theorem FillA.next {wr w' : World} {g n k : Nat} {f : Nat → Value} {b : Nat → Nat} {ts : List (List (List Int))} (h : FillA wr g n k f b ts) (hb : Below wr.heap.size wr w') (hm : ∀ j, j < k → b (j + 1) ≤ b k) : FillA w' g n k f b ts :=
  ⟨h.row.of_block (hb.block _ h.row.lt), h.lo, h.inc, Nat.le_trans h.hi hb.size, fun j hj hk => (h.at' j hj hk).next hb (Nat.le_trans (hm j hk) h.hi)⟩
theorem FillA.below {wr w' : World} {g n k : Nat} {f : Nat → Value} {b : Nat → Nat} {ts : List (List (List Int))} (h : FillA wr g n k f b ts) (hb : Below wr.heap.size wr w') : FillA w' g n k f b ts := h.next hb (fun j hj => inc_le h.inc (j + 1) hj)
theorem FillA.out {wr : World} {g n k : Nat} {f : Nat → Value} {b : Nat → Nat} {ts : List (List (List Int))} (h : FillA wr g n k f b ts) {a : Addr} (ha : a.block < g) (v : Value) : FillA (wr.setCell a v) g n k f b ts :=
  ⟨h.row.setOther (by omega) v, h.lo, h.inc, by simpa using h.hi, fun j hj hk => (h.at' j hj hk).same (fun x hx _ => Below.heap_setCell wr a v x (by have := h.lo; have := inc_le (b := b) (k := j) (fun i hi => h.inc i (by omega)) 0 (Nat.zero_le _); omega))⟩
theorem FillA.step {wr w1 : World} {g n k : Nat} {f : Nat → Value} {b : Nat → Nat} {ts : List (List (List Int))} {u : Value} (h : FillA wr g n k f b ts) (hb : Below wr.heap.size wr w1) (hk : k < ts.length) (hu : Rw2 wr.heap.size w1.heap.size w1 u ts[k]) :
    FillA (w1.setCell ⟨g, k, none⟩ u) g n (k + 1) (fun j => if j = k then u else f j) (fun j => if j < k then b j else if j = k then wr.heap.size else w1.heap.size) ts := by
  have hlt := h.row.lt
  have hr : w1.rowIs g 143 n f := h.row.of_block (hb.block _ hlt)
  have hsm : ∀ lo hi, g < lo → Same lo hi w1 (w1.setCell ⟨g, k, none⟩ u) := fun lo hi hl => Same.set u (Or.inl hl)
  refine ⟨hr.set k u, ?_, fun j hj => ?_, ?_, fun j hj hjk => ?_⟩
  · by_cases e : 0 < k
    · simp only [if_pos e]; exact h.lo
    · simp only [if_neg e, if_pos (show 0 = k by omega)]; exact hlt
  · by_cases e : j < k
    · simp only [if_pos e]
      by_cases e2 : j + 1 < k
      · simp only [if_pos e2]; exact h.inc j e
      · simp only [if_neg e2, if_pos (show j + 1 = k by omega)]
        have := inc_le h.inc j (by omega)
        have := h.hi
        omega
    · simp only [if_neg e, if_pos (show j = k by omega), if_neg (show ¬ j + 1 < k by omega), if_neg (show ¬ j + 1 = k by omega)]
      exact hb.size
  · simp only [if_neg (show ¬ k + 1 < k by omega), if_neg (show ¬ k + 1 = k by omega)]
    simp
  · by_cases e : j = k
    · subst e
      simp only [if_neg (show ¬ j < j by omega), if_neg (show ¬ j + 1 < j by omega), if_neg (show ¬ j + 1 = j by omega), if_true]
      exact hu.same (hsm _ _ hlt)
    · have hj' : j < k := by omega
      have hh := inc_le h.inc (j + 1) hj'
      have h0 := inc_le (b := b) (k := j) (fun i hi => h.inc i (by omega)) 0 (Nat.zero_le _)
      have hl0 := h.lo
      have ht := ((h.at' j hj hj').next hb (Nat.le_trans hh h.hi)).same (hsm _ _ (by omega))
      simp only [if_neg e, if_pos hj']
      by_cases e2 : j + 1 < k
      · simp only [if_pos e2]; exact ht
      · simp only [if_neg e2, if_pos (show j + 1 = k by omega)]
        exact ht.wider (Nat.le_refl _) (Nat.le_trans hh h.hi)
theorem Try.infoL (a b c d : Value) : (Try.prog.info? 138).map (·.size) = some (#[a, b, c, d] : Array Value).size := by kernel_rfl
def sel6 (a b c d e f : Value) : Nat → Value := fun i => if i = 0 then a else if i = 1 then b else if i = 2 then c else if i = 3 then d else if i = 4 then e else f
theorem rowIs6 {w : World} {g : Nat} {a b c d e f : Value} {t : TypeId} (h : w.heap[g]? = some (.cells #[a, b, c, d, e, f] t)) : w.rowIs g t 6 (sel6 a b c d e f) :=
  ⟨#[a, b, c, d, e, f], h, rfl, fun i hi => by
    match i, hi with
    | 0, _ => rfl
    | 1, _ => rfl
    | 2, _ => rfl
    | 3, _ => rfl
    | 4, _ => rfl
    | 5, _ => rfl⟩
open Classical in
/-- The code of a sum of couples, and the sum. -/
noncomputable def adCode (p d e : Int) (il jl kl : List (List Int)) (p2 d2 e2 : Int) (il2 jl2 kl2 : List (List Int)) : Int :=
  if ¬ (IsCp p d e il jl kl ∧ IsCp p2 d2 e2 il2 jl2 kl2) then 1 else if p ≠ p2 then 2 else if 24 < d + d2 ∨ 24 < e + e2 then 3 else 0
structure AdOk (p d e : Int) (il jl kl : List (List Int)) (p2 d2 e2 : Int) (il2 jl2 kl2 : List (List Int)) : Prop where
  c : IsCp p d e il jl kl
  c2 : IsCp p2 d2 e2 il2 jl2 kl2
  prime : p = p2
  fit : ¬ (24 < d + d2 ∨ 24 < e + e2)
theorem adCode_zero {p d e : Int} {il jl kl : List (List Int)} {p2 d2 e2 : Int} {il2 jl2 kl2 : List (List Int)} (h : adCode p d e il jl kl p2 d2 e2 il2 jl2 kl2 = 0) : AdOk p d e il jl kl p2 d2 e2 il2 jl2 kl2 := by
  unfold adCode at h
  by_cases h1 : IsCp p d e il jl kl ∧ IsCp p2 d2 e2 il2 jl2 kl2
  · rw [if_neg (fun k => k h1)] at h
    by_cases h2 : p = p2
    · rw [if_neg (fun k => k h2)] at h
      by_cases h3 : 24 < d + d2 ∨ 24 < e + e2
      · rw [if_pos h3] at h; cases h
      · exact ⟨h1.1, h1.2, h2, h3⟩
    · rw [if_pos h2] at h; cases h
  · rw [if_pos h1] at h; cases h
theorem AdOk.code {p d e : Int} {il jl kl : List (List Int)} {p2 d2 e2 : Int} {il2 jl2 kl2 : List (List Int)} (h : AdOk p d e il jl kl p2 d2 e2 il2 jl2 kl2) : adCode p d e il jl kl p2 d2 e2 il2 jl2 kl2 = 0 := by
  unfold adCode
  rw [if_neg (fun k => k ⟨h.c, h.c2⟩), if_neg (fun k => k h.prime), if_neg h.fit]
def adOut (p d e : Int) (il jl kl : List (List Int)) (_p2 d2 e2 : Int) (il2 jl2 kl2 : List (List Int)) : CpO :=
  (p, d + d2, e + e2, sumT il d.toNat il2 d2.toNat, sumT jl e.toNat jl2 e2.toNat, sumT kl d.toNat kl2 d2.toNat)
theorem sumT_bd {a b : List (List Int)} {l r : Nat} (ha : a.length ≤ 24) (hb : b.length ≤ 24) (hl : l ≤ 24) (hr : r ≤ 24) (hal : ∀ x ∈ a, x.length = l) (hbl : ∀ x ∈ b, x.length = r) : Bd2 1048576 (sumT a l b r) := by
  refine ⟨by rw [sumT_length]; omega, fun x hx => ?_⟩
  unfold sumT at hx
  rcases List.mem_append.1 hx with h | h
  · obtain ⟨y, hy, rfl⟩ := List.mem_map.1 h
    have := hal y hy
    show _ ≤ _
    simp
    omega
  · obtain ⟨y, hy, rfl⟩ := List.mem_map.1 h
    have := hbl y hy
    show _ ≤ _
    simp
    omega
theorem tab_len {p r c : Int} {t : List (List Int)} (h : TabOk p r c t) (hr : r ≤ 24) : t.length ≤ 24 := by have := h.1; omega
theorem tab_row {p r c : Int} {t : List (List Int)} (h : TabOk p r c t) (hc : 0 ≤ c) : ∀ x ∈ t, x.length = c.toNat := fun x hx => by have := (h.2 x hx).1; omega
theorem adOut_bd {p d e : Int} {il jl kl : List (List Int)} {p2 d2 e2 : Int} {il2 jl2 kl2 : List (List Int)} (h : AdOk p d e il jl kl p2 d2 e2 il2 jl2 kl2) : CpBo (adOut p d e il jl kl p2 d2 e2 il2 jl2 kl2) := by
  have h1 := h.c
  have h2 := h.c2
  have hd := h1.2.1
  have he := h1.2.2.1
  have hd2 := h2.2.1
  have he2 := h2.2.2.1
  exact ⟨sumT_bd (tab_len h1.2.2.2.1 (by omega)) (tab_len h2.2.2.2.1 (by omega)) (by omega) (by omega) (tab_row h1.2.2.2.1 (by omega)) (tab_row h2.2.2.2.1 (by omega)),
    sumT_bd (tab_len h1.2.2.2.2.1 (by omega)) (tab_len h2.2.2.2.2.1 (by omega)) (by omega) (by omega) (tab_row h1.2.2.2.2.1 (by omega)) (tab_row h2.2.2.2.2.1 (by omega)),
    sumT_bd (tab_len h1.2.2.2.2.2 (by omega)) (tab_len h2.2.2.2.2.2 (by omega)) (by omega) (by omega) (tab_row h1.2.2.2.2.2 (by omega)) (tab_row h2.2.2.2.2.2 (by omega))⟩
/-- What one round of AddCouples' loop meets. -/
structure AdRound (p d e : Int) (iv jv kv : Value) (il jl kl : List (List Int)) (p2 d2 e2 : Int) (iv2 jv2 kv2 : Value) (il2 jl2 kl2 : List (List Int)) (k : Nat) (f : FuncId) (a a2 : Int) (n n2 : Nat) (av : Option Addr) (cv : Nat) (av2 : Option Addr) (cv2 : Nat) (t t2 : List (List Int)) : Prop where
  fns : f = 188 ∨ f = 189 ∨ f = 190
  idx : ∀ W, (Instr.index 135 (.agg #[.func (.func 188) #[] #[], .func (.func 189) #[] #[], .func (.func 190) #[] #[]]) (.int .i64 (k : Int))).run Try.prog W = .ok (.func (.func f) #[] #[]) W
  one : ∀ W, Cp 0 W iv jv kv il jl kl → Calls Try.prog f #[.agg #[.int .i64 p, .int .i64 d, .int .i64 e, iv, jv, kv]] W (BR (.agg #[.int .i64 p, .int .i64 a, .int .i64 (n : Int), .slice av t.length cv]) W)
  two : ∀ W, Cp 0 W iv2 jv2 kv2 il2 jl2 kl2 → Calls Try.prog f #[.agg #[.int .i64 p2, .int .i64 d2, .int .i64 e2, iv2, jv2, kv2]] W (BR (.agg #[.int .i64 p2, .int .i64 a2, .int .i64 (n2 : Int), .slice av2 t2.length cv2]) W)
  r1 : ∀ W, Cp 0 W iv jv kv il jl kl → L2 0 W (.slice av t.length cv) t
  r2 : ∀ W, Cp 0 W iv2 jv2 kv2 il2 jl2 kl2 → L2 0 W (.slice av2 t2.length cv2) t2
  l1 : t.length ≤ 24
  l2 : t2.length ≤ 24
  n1 : n ≤ 24
  n2' : n2 ≤ 24
  w1 : ∀ x ∈ t, x.length = n
  w2 : ∀ x ∈ t2, x.length = n2
  out : ∀ h : k < 3, [sumT il d.toNat il2 d2.toNat, sumT jl e.toNat jl2 e2.toNat, sumT kl d.toNat kl2 d2.toNat][k] = sumT t n t2 n2
theorem adRound_any (p d e : Int) (ai : Option Addr) (ci : Nat) (aj : Option Addr) (cj : Nat) (ak : Option Addr) (ck : Nat) (il jl kl : List (List Int)) (p2 d2 e2 : Int) (ai2 : Option Addr) (ci2 : Nat) (aj2 : Option Addr) (cj2 : Nat) (ak2 : Option Addr) (ck2 : Nat) (il2 jl2 kl2 : List (List Int)) (h1 : IsCp p d e il jl kl) (h2 : IsCp p2 d2 e2 il2 jl2 kl2) (k : Nat) (hk : k < 3) :
    ∃ f a a2 n n2 av cv av2 cv2 t t2, AdRound p d e (.slice ai il.length ci) (.slice aj jl.length cj) (.slice ak kl.length ck) il jl kl p2 d2 e2 (.slice ai2 il2.length ci2) (.slice aj2 jl2.length cj2) (.slice ak2 kl2.length ck2) il2 jl2 kl2 k f a a2 n n2 av cv av2 cv2 t t2 := by
  have hd := h1.2.1
  have he := h1.2.2.1
  have hd2 := h2.2.1
  have he2 := h2.2.2.1
  match k, hk with
  | 0, _ => exact ⟨188, d, d2, d.toNat, d2.toNat, ai, ci, ai2, ci2, il, il2, Or.inl rfl, idxM0, fun W h => by rw [Int.toNat_of_nonneg hd.1]; exact mapI_any p d e _ _ _ il jl kl W h, fun W h => by rw [Int.toNat_of_nonneg hd2.1]; exact mapI_any p2 d2 e2 _ _ _ il2 jl2 kl2 W h, fun W h => h.fi, fun W h => h.fi, tab_len h1.2.2.2.1 (by omega), tab_len h2.2.2.2.1 (by omega), by omega, by omega, tab_row h1.2.2.2.1 (by omega), tab_row h2.2.2.2.1 (by omega), fun _ => rfl⟩
  | 1, _ => exact ⟨189, d, d2, e.toNat, e2.toNat, aj, cj, aj2, cj2, jl, jl2, Or.inr (Or.inl rfl), idxM1, fun W h => by rw [Int.toNat_of_nonneg he.1]; exact mapJ_any p d e _ _ _ il jl kl W h, fun W h => by rw [Int.toNat_of_nonneg he2.1]; exact mapJ_any p2 d2 e2 _ _ _ il2 jl2 kl2 W h, fun W h => h.fj, fun W h => h.fj, tab_len h1.2.2.2.2.1 (by omega), tab_len h2.2.2.2.2.1 (by omega), by omega, by omega, tab_row h1.2.2.2.2.1 (by omega), tab_row h2.2.2.2.2.1 (by omega), fun _ => rfl⟩
  | 2, _ => exact ⟨190, e, e2, d.toNat, d2.toNat, ak, ck, ak2, ck2, kl, kl2, Or.inr (Or.inr rfl), idxM2, fun W h => by rw [Int.toNat_of_nonneg hd.1]; exact mapK_any p d e _ _ _ il jl kl W h, fun W h => by rw [Int.toNat_of_nonneg hd2.1]; exact mapK_any p2 d2 e2 _ _ _ il2 jl2 kl2 W h, fun W h => h.fk, fun W h => h.fk, tab_len h1.2.2.2.2.2 (by omega), tab_len h2.2.2.2.2.2 (by omega), by omega, by omega, tab_row h1.2.2.2.2.2 (by omega), tab_row h2.2.2.2.2.2 (by omega), fun _ => rfl⟩
theorem hload6' (w : World) {b : Nat} {p d e : Int} {iv jv kv : Value} {il jl kl : List (List Int)} {w0 : World} (h : BxCp w0 w b p d e iv jv kv il jl kl) : (Instr.loadAt 71 (.pointer (some ⟨b, 0, none⟩))).run Try.prog w = .ok (.agg #[.int .i64 p, .int .i64 d, .int .i64 e, iv, jv, kv]) w := hload6 w h.c0 h.c1 h.c2 h.c3 h.c4 h.c5

set_option maxHeartbeats 12800000 in
set_option maxRecDepth 100000 in
theorem addCouples_any (p d e p2 d2 e2 : Int) (iv jv kv iv2 jv2 kv2 : Value) (il jl kl il2 jl2 kl2 : List (List Int)) (w : World) (h : Cp 0 w iv jv kv il jl kl) (h2 : Cp 0 w iv2 jv2 kv2 il2 jl2 kl2) (hm : CpB 1048576 il jl kl) (hm2 : CpB 1048576 il2 jl2 kl2) :
    Calls Try.prog 74 #[.agg #[.int .i64 p, .int .i64 d, .int .i64 e, iv, jv, kv], .agg #[.int .i64 p2, .int .i64 d2, .int .i64 e2, iv2, jv2, kv2]] w (AnsW RwCp (fun o => o = adOut p d e il jl kl p2 d2 e2 il2 jl2 kl2) (0, 0, 0, [], [], []) (adCode p d e il jl kl p2 d2 e2 il2 jl2 kl2) w) := by
  have hres : Try.f74.results = #[.cell 4 71, .tmp 5] := by kernel_rfl
  have HRES := Lib.hid hres
  have HM := Lib.hid hm
  have HM2 := Lib.hid hm2
  obtain ⟨wa, hwa⟩ : ∃ wa, wa = (w.alloc (.cells #[.int .i64 p, .int .i64 d, .int .i64 e, iv, jv, kv] 71)).alloc (.cells #[.int .i64 p2, .int .i64 d2, .int .i64 e2, iv2, jv2, kv2] 71) := ⟨_, rfl⟩
  obtain ⟨w1, hw1⟩ : ∃ w1, w1 = wa.alloc (.cells #[.int .i64 0, .int .i64 0, .int .i64 0, .slice none 0 0, .slice none 0 0, .slice none 0 0] 71) := ⟨_, rfl⟩
  have hsa : wa.heap.size = w.heap.size + 2 := by rw [hwa]; simp
  have hs1 : w.heap.size + 3 ≤ w1.heap.size := by rw [hw1]; simp [hsa]
  have hlt0 : w.heap.size < w1.heap.size := by omega
  have hlt1 : w.heap.size + 1 < w1.heap.size := by omega
  have hlt2 : w.heap.size + 2 < w1.heap.size := by omega
  have HX : Hid (BxCp w w1 w.heap.size p d e iv jv kv il jl kl) := Lib.hid (by rw [hw1]; exact (show BxCp w wa w.heap.size p d e iv jv kv il jl kl by rw [hwa]; exact (bxCp_two 71 h h2).1).next (below_alloc1 _ _))
  have HY : Hid (BxCp w w1 (w.heap.size + 1) p2 d2 e2 iv2 jv2 kv2 il2 jl2 kl2) := Lib.hid (by rw [hw1]; exact (show BxCp w wa (w.heap.size + 1) p2 d2 e2 iv2 jv2 kv2 il2 jl2 kl2 by rw [hwa]; exact (bxCp_two 71 h h2).2).next (below_alloc1 _ _))
  have HR0 : Hid (Rz w1 (w.heap.size + 2) 71 #[.int .i64 0, .int .i64 0, .int .i64 0, .slice none 0 0, .slice none 0 0, .slice none 0 0]) := Lib.hid (by rw [hw1, ← hsa]; exact Rz.new _ _ _)
  obtain ⟨⟨ai, ci, rfl⟩, ⟨aj, cj, rfl⟩, ⟨ak, ck, rfl⟩⟩ := HX.out.cx.shapes
  obtain ⟨⟨ai2, ci2, rfl⟩, ⟨aj2, cj2, rfl⟩, ⟨ak2, ck2, rfl⟩⟩ := HY.out.cx.shapes
  have HNX : Hid (∀ W, Below w1.heap.size w1 W → BxCp w W w.heap.size p d e (.slice ai il.length ci) (.slice aj jl.length cj) (.slice ak kl.length ck) il jl kl ∧ BxCp w W (w.heap.size + 1) p2 d2 e2 (.slice ai2 il2.length ci2) (.slice aj2 jl2.length cj2) (.slice ak2 kl2.length ck2) il2 jl2 kl2 ∧ Rz W (w.heap.size + 2) 71 #[.int .i64 0, .int .i64 0, .int .i64 0, .slice none 0 0, .slice none 0 0, .slice none 0 0]) := Lib.hid (fun W hb => ⟨HX.out.next hb, HY.out.next hb, HR0.out.next hb⟩)
  have HB0 : Hid (Below w1.heap.size w1 w1) := Lib.hid (Below.refl _ _)
  clear h h2 hm hm2 hres
  have c0 := HX.out.c0
  have c1 := HX.out.c1
  have c2 := HX.out.c2
  have c3 := HX.out.c3
  have c4 := HX.out.c4
  have c5 := HX.out.c5
  have yc0 := HY.out.c0
  have yc1 := HY.out.c1
  have yc2 := HY.out.c2
  have yc3 := HY.out.c3
  have yc4 := HY.out.c4
  have yc5 := HY.out.c5
  clear HX HY HR0
  go_enter Try.func74, Try.ntmps74
  go_upto_region 1 with fail
  rw [← hwa, ← hw1]
  clear hwa hw1 hsa
  by_cases hc : ¬ IsCp p d e il jl kl
  · have HC := Lib.hid hc
    have HCODE : Hid (adCode p d e il jl kl p2 d2 e2 il2 jl2 kl2 = 1) := Lib.hid (by unfold adCode; rw [if_pos (fun k => hc k.1)])
    clear hc
    go_wp2_with fail
    refine (isCouple_any p d e _ _ _ il jl kl _ (HNX.out _ HB0.out).1.cx HM.out).mono ?_
    rintro ee wA ⟨b, rfl, hb, hbb⟩
    obtain rfl : b = false := bb_no hbb HC.out
    clear hbb
    have HBA := Lib.hid (HB0.out.trans (hb.mono HB0.out.size))
    clear c0 c1 c2 c3 c4 c5 yc0 yc1 yc2 yc3 yc4 yc5
    clear hb
    have c0 := (HNX.out _ HBA.out).1.c0
    have c1 := (HNX.out _ HBA.out).1.c1
    have c2 := (HNX.out _ HBA.out).1.c2
    have c3 := (HNX.out _ HBA.out).1.c3
    have c4 := (HNX.out _ HBA.out).1.c4
    have c5 := (HNX.out _ HBA.out).1.c5
    have yc0 := (HNX.out _ HBA.out).2.1.c0
    have yc1 := (HNX.out _ HBA.out).2.1.c1
    have yc2 := (HNX.out _ HBA.out).2.1.c2
    have yc3 := (HNX.out _ HBA.out).2.1.c3
    have yc4 := (HNX.out _ HBA.out).2.1.c4
    have yc5 := (HNX.out _ HBA.out).2.1.c5
    have HR1 : ∃ x0 x1 x2 x3 x4 x5, wA.heap[w.heap.size + 2]? = some (.cells #[x0, x1, x2, x3, x4, x5] 71) := ⟨_, _, _, _, _, _, (HNX.out _ HBA.out).2.2⟩
    obtain ⟨x0, x1, x2, x3, x4, x5, hr⟩ := HR1
    have r0 : wA.rowIs (w.heap.size + 2) 71 6 (sel6 x0 x1 x2 x3 x4 x5) := rowIs6 hr
    have q0 : wA.cell? ⟨w.heap.size + 2, 0, none⟩ = some x0 := r0.cell (i := 0) (by omega)
    have z0 : wA.frozen? ⟨w.heap.size + 2, 0, none⟩ = false := r0.frozen 0
    have r1 := r0.set 0 (.int .i64 0)
    have q1 : (wA.setCell ⟨w.heap.size + 2, 0, none⟩ (.int .i64 0)).cell? ⟨w.heap.size + 2, 1, none⟩ = some x1 := r1.cell (i := 1) (by omega)
    have z1 : (wA.setCell ⟨w.heap.size + 2, 0, none⟩ (.int .i64 0)).frozen? ⟨w.heap.size + 2, 1, none⟩ = false := r1.frozen 1
    have r2 := r1.set 1 (.int .i64 0)
    have q2 : ((wA.setCell ⟨w.heap.size + 2, 0, none⟩ (.int .i64 0)).setCell ⟨w.heap.size + 2, 1, none⟩ (.int .i64 0)).cell? ⟨w.heap.size + 2, 2, none⟩ = some x2 := r2.cell (i := 2) (by omega)
    have z2 : ((wA.setCell ⟨w.heap.size + 2, 0, none⟩ (.int .i64 0)).setCell ⟨w.heap.size + 2, 1, none⟩ (.int .i64 0)).frozen? ⟨w.heap.size + 2, 2, none⟩ = false := r2.frozen 2
    have r3 := r2.set 2 (.int .i64 0)
    have q3 : (((wA.setCell ⟨w.heap.size + 2, 0, none⟩ (.int .i64 0)).setCell ⟨w.heap.size + 2, 1, none⟩ (.int .i64 0)).setCell ⟨w.heap.size + 2, 2, none⟩ (.int .i64 0)).cell? ⟨w.heap.size + 2, 3, none⟩ = some x3 := r3.cell (i := 3) (by omega)
    have z3 : (((wA.setCell ⟨w.heap.size + 2, 0, none⟩ (.int .i64 0)).setCell ⟨w.heap.size + 2, 1, none⟩ (.int .i64 0)).setCell ⟨w.heap.size + 2, 2, none⟩ (.int .i64 0)).frozen? ⟨w.heap.size + 2, 3, none⟩ = false := r3.frozen 3
    have r4 := r3.set 3 (.slice none 0 0)
    have q4 : ((((wA.setCell ⟨w.heap.size + 2, 0, none⟩ (.int .i64 0)).setCell ⟨w.heap.size + 2, 1, none⟩ (.int .i64 0)).setCell ⟨w.heap.size + 2, 2, none⟩ (.int .i64 0)).setCell ⟨w.heap.size + 2, 3, none⟩ (.slice none 0 0)).cell? ⟨w.heap.size + 2, 4, none⟩ = some x4 := r4.cell (i := 4) (by omega)
    have z4 : ((((wA.setCell ⟨w.heap.size + 2, 0, none⟩ (.int .i64 0)).setCell ⟨w.heap.size + 2, 1, none⟩ (.int .i64 0)).setCell ⟨w.heap.size + 2, 2, none⟩ (.int .i64 0)).setCell ⟨w.heap.size + 2, 3, none⟩ (.slice none 0 0)).frozen? ⟨w.heap.size + 2, 4, none⟩ = false := r4.frozen 4
    have r5 := r4.set 4 (.slice none 0 0)
    have q5 : (((((wA.setCell ⟨w.heap.size + 2, 0, none⟩ (.int .i64 0)).setCell ⟨w.heap.size + 2, 1, none⟩ (.int .i64 0)).setCell ⟨w.heap.size + 2, 2, none⟩ (.int .i64 0)).setCell ⟨w.heap.size + 2, 3, none⟩ (.slice none 0 0)).setCell ⟨w.heap.size + 2, 4, none⟩ (.slice none 0 0)).cell? ⟨w.heap.size + 2, 5, none⟩ = some x5 := r5.cell (i := 5) (by omega)
    have z5 : (((((wA.setCell ⟨w.heap.size + 2, 0, none⟩ (.int .i64 0)).setCell ⟨w.heap.size + 2, 1, none⟩ (.int .i64 0)).setCell ⟨w.heap.size + 2, 2, none⟩ (.int .i64 0)).setCell ⟨w.heap.size + 2, 3, none⟩ (.slice none 0 0)).setCell ⟨w.heap.size + 2, 4, none⟩ (.slice none 0 0)).frozen? ⟨w.heap.size + 2, 5, none⟩ = false := r5.frozen 5
    have r6 := r5.set 5 (.slice none 0 0)
    obtain ⟨WF, hWF⟩ : ∃ W : World, W = ((((((wA.setCell ⟨w.heap.size + 2, 0, none⟩ (.int .i64 0)).setCell ⟨w.heap.size + 2, 1, none⟩ (.int .i64 0)).setCell ⟨w.heap.size + 2, 2, none⟩ (.int .i64 0)).setCell ⟨w.heap.size + 2, 3, none⟩ (.slice none 0 0)).setCell ⟨w.heap.size + 2, 4, none⟩ (.slice none 0 0)).setCell ⟨w.heap.size + 2, 5, none⟩ (.slice none 0 0)) := ⟨_, rfl⟩
    have hbWF : ∀ B (w0 : World), B ≤ w.heap.size + 2 → Below B w0 wA → Below B w0 WF := fun B w0 hl hb => by rw [hWF]; exact ((((((hb.setCell (by show B ≤ w.heap.size + 2; exact hl) _).setCell (by show B ≤ w.heap.size + 2; exact hl) _).setCell (by show B ≤ w.heap.size + 2; exact hl) _).setCell (by show B ≤ w.heap.size + 2; exact hl) _).setCell (by show B ≤ w.heap.size + 2; exact hl) _).setCell (by show B ≤ w.heap.size + 2; exact hl) _)
    have hsWF : ∀ lo hi, w.heap.size + 2 < lo ∨ hi ≤ w.heap.size + 2 → Same lo hi wA WF := fun lo hi hl => by rw [hWF]; exact ((((((Same.set _ hl).trans (Same.set _ hl)).trans (Same.set _ hl)).trans (Same.set _ hl)).trans (Same.set _ hl)).trans (Same.set _ hl))
    have hzWF : WF.heap.size = wA.heap.size := by rw [hWF]; simp
    rw [← hWF] at r6
    have f0 : WF.cell? ⟨w.heap.size + 2, 0, none⟩ = some (.int .i64 0) := r6.cell (i := 0) (by omega)
    have f1 : WF.cell? ⟨w.heap.size + 2, 1, none⟩ = some (.int .i64 0) := r6.cell (i := 1) (by omega)
    have f2 : WF.cell? ⟨w.heap.size + 2, 2, none⟩ = some (.int .i64 0) := r6.cell (i := 2) (by omega)
    have f3 : WF.cell? ⟨w.heap.size + 2, 3, none⟩ = some (.slice none 0 0) := r6.cell (i := 3) (by omega)
    have f4 : WF.cell? ⟨w.heap.size + 2, 4, none⟩ = some (.slice none 0 0) := r6.cell (i := 4) (by omega)
    have f5 : WF.cell? ⟨w.heap.size + 2, 5, none⟩ = some (.slice none 0 0) := r6.cell (i := 5) (by omega)
    have HWWF := Lib.hid hWF
    clear hr r0 r1 r2 r3 r4 r5 r6 hWF
    have HBF := Lib.hid (hbWF w.heap.size w (by omega) (HNX.out _ HBA.out).1.below)
    clear hsWF hbWF hzWF
    go_wp2
    rw [← HWWF.out]
    refine bodyPost_ret (v := .tuple #[.agg #[.int .i64 0, .int .i64 0, .int .i64 0, .slice none 0 0, .slice none 0 0, .slice none 0 0], .int .i64 1]) ?_ rfl ?_
    · simp only [results, HRES.out]
      go_simp
    · exact ⟨_, (0, 0, 0, [], [], []), 1, rfl, RwCp.nil _ _ _, HBF.out, by rw [HCODE.out]; exact RsOut.of_no (by decide)⟩
  have HC := Lib.hid (Classical.not_not.1 hc)
  clear hc
  go_wp2_with fail
  refine (isCouple_any p d e _ _ _ il jl kl _ (HNX.out _ HB0.out).1.cx HM.out).mono ?_
  rintro ee wA ⟨b, rfl, hb, hbb⟩
  obtain rfl : b = true := hbb.2 HC.out
  clear hbb
  have HBA := Lib.hid (HB0.out.trans (hb.mono HB0.out.size))
  clear c0 c1 c2 c3 c4 c5 yc0 yc1 yc2 yc3 yc4 yc5
  clear hb
  have c0 := (HNX.out _ HBA.out).1.c0
  have c1 := (HNX.out _ HBA.out).1.c1
  have c2 := (HNX.out _ HBA.out).1.c2
  have c3 := (HNX.out _ HBA.out).1.c3
  have c4 := (HNX.out _ HBA.out).1.c4
  have c5 := (HNX.out _ HBA.out).1.c5
  have yc0 := (HNX.out _ HBA.out).2.1.c0
  have yc1 := (HNX.out _ HBA.out).2.1.c1
  have yc2 := (HNX.out _ HBA.out).2.1.c2
  have yc3 := (HNX.out _ HBA.out).2.1.c3
  have yc4 := (HNX.out _ HBA.out).2.1.c4
  have yc5 := (HNX.out _ HBA.out).2.1.c5
  by_cases hc : ¬ IsCp p2 d2 e2 il2 jl2 kl2
  · have HC2 := Lib.hid hc
    have HCODE : Hid (adCode p d e il jl kl p2 d2 e2 il2 jl2 kl2 = 1) := Lib.hid (by unfold adCode; rw [if_pos (fun k => hc k.2)])
    clear hc
    go_wp2_with fail
    refine (isCouple_any p2 d2 e2 _ _ _ il2 jl2 kl2 _ (HNX.out _ HBA.out).2.1.cx HM2.out).mono ?_
    rintro ee wB ⟨b, rfl, hb, hbb⟩
    obtain rfl : b = false := bb_no hbb HC2.out
    clear hbb
    have HBB := Lib.hid (HBA.out.trans (hb.mono HBA.out.size))
    clear c0 c1 c2 c3 c4 c5 yc0 yc1 yc2 yc3 yc4 yc5
    clear hb
    have c0 := (HNX.out _ HBB.out).1.c0
    have c1 := (HNX.out _ HBB.out).1.c1
    have c2 := (HNX.out _ HBB.out).1.c2
    have c3 := (HNX.out _ HBB.out).1.c3
    have c4 := (HNX.out _ HBB.out).1.c4
    have c5 := (HNX.out _ HBB.out).1.c5
    have yc0 := (HNX.out _ HBB.out).2.1.c0
    have yc1 := (HNX.out _ HBB.out).2.1.c1
    have yc2 := (HNX.out _ HBB.out).2.1.c2
    have yc3 := (HNX.out _ HBB.out).2.1.c3
    have yc4 := (HNX.out _ HBB.out).2.1.c4
    have yc5 := (HNX.out _ HBB.out).2.1.c5
    have HR1 : ∃ x0 x1 x2 x3 x4 x5, wB.heap[w.heap.size + 2]? = some (.cells #[x0, x1, x2, x3, x4, x5] 71) := ⟨_, _, _, _, _, _, (HNX.out _ HBB.out).2.2⟩
    obtain ⟨x0, x1, x2, x3, x4, x5, hr⟩ := HR1
    have r0 : wB.rowIs (w.heap.size + 2) 71 6 (sel6 x0 x1 x2 x3 x4 x5) := rowIs6 hr
    have q0 : wB.cell? ⟨w.heap.size + 2, 0, none⟩ = some x0 := r0.cell (i := 0) (by omega)
    have z0 : wB.frozen? ⟨w.heap.size + 2, 0, none⟩ = false := r0.frozen 0
    have r1 := r0.set 0 (.int .i64 0)
    have q1 : (wB.setCell ⟨w.heap.size + 2, 0, none⟩ (.int .i64 0)).cell? ⟨w.heap.size + 2, 1, none⟩ = some x1 := r1.cell (i := 1) (by omega)
    have z1 : (wB.setCell ⟨w.heap.size + 2, 0, none⟩ (.int .i64 0)).frozen? ⟨w.heap.size + 2, 1, none⟩ = false := r1.frozen 1
    have r2 := r1.set 1 (.int .i64 0)
    have q2 : ((wB.setCell ⟨w.heap.size + 2, 0, none⟩ (.int .i64 0)).setCell ⟨w.heap.size + 2, 1, none⟩ (.int .i64 0)).cell? ⟨w.heap.size + 2, 2, none⟩ = some x2 := r2.cell (i := 2) (by omega)
    have z2 : ((wB.setCell ⟨w.heap.size + 2, 0, none⟩ (.int .i64 0)).setCell ⟨w.heap.size + 2, 1, none⟩ (.int .i64 0)).frozen? ⟨w.heap.size + 2, 2, none⟩ = false := r2.frozen 2
    have r3 := r2.set 2 (.int .i64 0)
    have q3 : (((wB.setCell ⟨w.heap.size + 2, 0, none⟩ (.int .i64 0)).setCell ⟨w.heap.size + 2, 1, none⟩ (.int .i64 0)).setCell ⟨w.heap.size + 2, 2, none⟩ (.int .i64 0)).cell? ⟨w.heap.size + 2, 3, none⟩ = some x3 := r3.cell (i := 3) (by omega)
    have z3 : (((wB.setCell ⟨w.heap.size + 2, 0, none⟩ (.int .i64 0)).setCell ⟨w.heap.size + 2, 1, none⟩ (.int .i64 0)).setCell ⟨w.heap.size + 2, 2, none⟩ (.int .i64 0)).frozen? ⟨w.heap.size + 2, 3, none⟩ = false := r3.frozen 3
    have r4 := r3.set 3 (.slice none 0 0)
    have q4 : ((((wB.setCell ⟨w.heap.size + 2, 0, none⟩ (.int .i64 0)).setCell ⟨w.heap.size + 2, 1, none⟩ (.int .i64 0)).setCell ⟨w.heap.size + 2, 2, none⟩ (.int .i64 0)).setCell ⟨w.heap.size + 2, 3, none⟩ (.slice none 0 0)).cell? ⟨w.heap.size + 2, 4, none⟩ = some x4 := r4.cell (i := 4) (by omega)
    have z4 : ((((wB.setCell ⟨w.heap.size + 2, 0, none⟩ (.int .i64 0)).setCell ⟨w.heap.size + 2, 1, none⟩ (.int .i64 0)).setCell ⟨w.heap.size + 2, 2, none⟩ (.int .i64 0)).setCell ⟨w.heap.size + 2, 3, none⟩ (.slice none 0 0)).frozen? ⟨w.heap.size + 2, 4, none⟩ = false := r4.frozen 4
    have r5 := r4.set 4 (.slice none 0 0)
    have q5 : (((((wB.setCell ⟨w.heap.size + 2, 0, none⟩ (.int .i64 0)).setCell ⟨w.heap.size + 2, 1, none⟩ (.int .i64 0)).setCell ⟨w.heap.size + 2, 2, none⟩ (.int .i64 0)).setCell ⟨w.heap.size + 2, 3, none⟩ (.slice none 0 0)).setCell ⟨w.heap.size + 2, 4, none⟩ (.slice none 0 0)).cell? ⟨w.heap.size + 2, 5, none⟩ = some x5 := r5.cell (i := 5) (by omega)
    have z5 : (((((wB.setCell ⟨w.heap.size + 2, 0, none⟩ (.int .i64 0)).setCell ⟨w.heap.size + 2, 1, none⟩ (.int .i64 0)).setCell ⟨w.heap.size + 2, 2, none⟩ (.int .i64 0)).setCell ⟨w.heap.size + 2, 3, none⟩ (.slice none 0 0)).setCell ⟨w.heap.size + 2, 4, none⟩ (.slice none 0 0)).frozen? ⟨w.heap.size + 2, 5, none⟩ = false := r5.frozen 5
    have r6 := r5.set 5 (.slice none 0 0)
    obtain ⟨WF, hWF⟩ : ∃ W : World, W = ((((((wB.setCell ⟨w.heap.size + 2, 0, none⟩ (.int .i64 0)).setCell ⟨w.heap.size + 2, 1, none⟩ (.int .i64 0)).setCell ⟨w.heap.size + 2, 2, none⟩ (.int .i64 0)).setCell ⟨w.heap.size + 2, 3, none⟩ (.slice none 0 0)).setCell ⟨w.heap.size + 2, 4, none⟩ (.slice none 0 0)).setCell ⟨w.heap.size + 2, 5, none⟩ (.slice none 0 0)) := ⟨_, rfl⟩
    have hbWF : ∀ B (w0 : World), B ≤ w.heap.size + 2 → Below B w0 wB → Below B w0 WF := fun B w0 hl hb => by rw [hWF]; exact ((((((hb.setCell (by show B ≤ w.heap.size + 2; exact hl) _).setCell (by show B ≤ w.heap.size + 2; exact hl) _).setCell (by show B ≤ w.heap.size + 2; exact hl) _).setCell (by show B ≤ w.heap.size + 2; exact hl) _).setCell (by show B ≤ w.heap.size + 2; exact hl) _).setCell (by show B ≤ w.heap.size + 2; exact hl) _)
    have hsWF : ∀ lo hi, w.heap.size + 2 < lo ∨ hi ≤ w.heap.size + 2 → Same lo hi wB WF := fun lo hi hl => by rw [hWF]; exact ((((((Same.set _ hl).trans (Same.set _ hl)).trans (Same.set _ hl)).trans (Same.set _ hl)).trans (Same.set _ hl)).trans (Same.set _ hl))
    have hzWF : WF.heap.size = wB.heap.size := by rw [hWF]; simp
    rw [← hWF] at r6
    have f0 : WF.cell? ⟨w.heap.size + 2, 0, none⟩ = some (.int .i64 0) := r6.cell (i := 0) (by omega)
    have f1 : WF.cell? ⟨w.heap.size + 2, 1, none⟩ = some (.int .i64 0) := r6.cell (i := 1) (by omega)
    have f2 : WF.cell? ⟨w.heap.size + 2, 2, none⟩ = some (.int .i64 0) := r6.cell (i := 2) (by omega)
    have f3 : WF.cell? ⟨w.heap.size + 2, 3, none⟩ = some (.slice none 0 0) := r6.cell (i := 3) (by omega)
    have f4 : WF.cell? ⟨w.heap.size + 2, 4, none⟩ = some (.slice none 0 0) := r6.cell (i := 4) (by omega)
    have f5 : WF.cell? ⟨w.heap.size + 2, 5, none⟩ = some (.slice none 0 0) := r6.cell (i := 5) (by omega)
    have HWWF := Lib.hid hWF
    clear hr r0 r1 r2 r3 r4 r5 r6 hWF
    have HBF := Lib.hid (hbWF w.heap.size w (by omega) (HNX.out _ HBB.out).1.below)
    clear hsWF hbWF hzWF
    go_wp2
    rw [← HWWF.out]
    refine bodyPost_ret (v := .tuple #[.agg #[.int .i64 0, .int .i64 0, .int .i64 0, .slice none 0 0, .slice none 0 0, .slice none 0 0], .int .i64 1]) ?_ rfl ?_
    · simp only [results, HRES.out]
      go_simp
    · exact ⟨_, (0, 0, 0, [], [], []), 1, rfl, RwCp.nil _ _ _, HBF.out, by rw [HCODE.out]; exact RsOut.of_no (by decide)⟩
  have HC2 := Lib.hid (Classical.not_not.1 hc)
  clear hc
  go_wp2_with fail
  refine (isCouple_any p2 d2 e2 _ _ _ il2 jl2 kl2 _ (HNX.out _ HBA.out).2.1.cx HM2.out).mono ?_
  rintro ee wB ⟨b, rfl, hb, hbb⟩
  obtain rfl : b = true := hbb.2 HC2.out
  clear hbb
  have HBB := Lib.hid (HBA.out.trans (hb.mono HBA.out.size))
  clear c0 c1 c2 c3 c4 c5 yc0 yc1 yc2 yc3 yc4 yc5
  clear hb
  have c0 := (HNX.out _ HBB.out).1.c0
  have c1 := (HNX.out _ HBB.out).1.c1
  have c2 := (HNX.out _ HBB.out).1.c2
  have c3 := (HNX.out _ HBB.out).1.c3
  have c4 := (HNX.out _ HBB.out).1.c4
  have c5 := (HNX.out _ HBB.out).1.c5
  have yc0 := (HNX.out _ HBB.out).2.1.c0
  have yc1 := (HNX.out _ HBB.out).2.1.c1
  have yc2 := (HNX.out _ HBB.out).2.1.c2
  have yc3 := (HNX.out _ HBB.out).2.1.c3
  have yc4 := (HNX.out _ HBB.out).2.1.c4
  have yc5 := (HNX.out _ HBB.out).2.1.c5
  by_cases hpp : ¬ p = p2
  · have hne1 : (p != p2) = true := by simp [hpp]
    have hne2 : (p == p2) = false := by simp [hpp]
    have HCODE : Hid (adCode p d e il jl kl p2 d2 e2 il2 jl2 kl2 = 2) := Lib.hid (by unfold adCode; rw [if_neg (fun k => k ⟨HC.out, HC2.out⟩), if_pos hpp])
    have HR1 : ∃ x0 x1 x2 x3 x4 x5, wB.heap[w.heap.size + 2]? = some (.cells #[x0, x1, x2, x3, x4, x5] 71) := ⟨_, _, _, _, _, _, (HNX.out _ HBB.out).2.2⟩
    obtain ⟨x0, x1, x2, x3, x4, x5, hr⟩ := HR1
    have r0 : wB.rowIs (w.heap.size + 2) 71 6 (sel6 x0 x1 x2 x3 x4 x5) := rowIs6 hr
    have q0 : wB.cell? ⟨w.heap.size + 2, 0, none⟩ = some x0 := r0.cell (i := 0) (by omega)
    have z0 : wB.frozen? ⟨w.heap.size + 2, 0, none⟩ = false := r0.frozen 0
    have r1 := r0.set 0 (.int .i64 0)
    have q1 : (wB.setCell ⟨w.heap.size + 2, 0, none⟩ (.int .i64 0)).cell? ⟨w.heap.size + 2, 1, none⟩ = some x1 := r1.cell (i := 1) (by omega)
    have z1 : (wB.setCell ⟨w.heap.size + 2, 0, none⟩ (.int .i64 0)).frozen? ⟨w.heap.size + 2, 1, none⟩ = false := r1.frozen 1
    have r2 := r1.set 1 (.int .i64 0)
    have q2 : ((wB.setCell ⟨w.heap.size + 2, 0, none⟩ (.int .i64 0)).setCell ⟨w.heap.size + 2, 1, none⟩ (.int .i64 0)).cell? ⟨w.heap.size + 2, 2, none⟩ = some x2 := r2.cell (i := 2) (by omega)
    have z2 : ((wB.setCell ⟨w.heap.size + 2, 0, none⟩ (.int .i64 0)).setCell ⟨w.heap.size + 2, 1, none⟩ (.int .i64 0)).frozen? ⟨w.heap.size + 2, 2, none⟩ = false := r2.frozen 2
    have r3 := r2.set 2 (.int .i64 0)
    have q3 : (((wB.setCell ⟨w.heap.size + 2, 0, none⟩ (.int .i64 0)).setCell ⟨w.heap.size + 2, 1, none⟩ (.int .i64 0)).setCell ⟨w.heap.size + 2, 2, none⟩ (.int .i64 0)).cell? ⟨w.heap.size + 2, 3, none⟩ = some x3 := r3.cell (i := 3) (by omega)
    have z3 : (((wB.setCell ⟨w.heap.size + 2, 0, none⟩ (.int .i64 0)).setCell ⟨w.heap.size + 2, 1, none⟩ (.int .i64 0)).setCell ⟨w.heap.size + 2, 2, none⟩ (.int .i64 0)).frozen? ⟨w.heap.size + 2, 3, none⟩ = false := r3.frozen 3
    have r4 := r3.set 3 (.slice none 0 0)
    have q4 : ((((wB.setCell ⟨w.heap.size + 2, 0, none⟩ (.int .i64 0)).setCell ⟨w.heap.size + 2, 1, none⟩ (.int .i64 0)).setCell ⟨w.heap.size + 2, 2, none⟩ (.int .i64 0)).setCell ⟨w.heap.size + 2, 3, none⟩ (.slice none 0 0)).cell? ⟨w.heap.size + 2, 4, none⟩ = some x4 := r4.cell (i := 4) (by omega)
    have z4 : ((((wB.setCell ⟨w.heap.size + 2, 0, none⟩ (.int .i64 0)).setCell ⟨w.heap.size + 2, 1, none⟩ (.int .i64 0)).setCell ⟨w.heap.size + 2, 2, none⟩ (.int .i64 0)).setCell ⟨w.heap.size + 2, 3, none⟩ (.slice none 0 0)).frozen? ⟨w.heap.size + 2, 4, none⟩ = false := r4.frozen 4
    have r5 := r4.set 4 (.slice none 0 0)
    have q5 : (((((wB.setCell ⟨w.heap.size + 2, 0, none⟩ (.int .i64 0)).setCell ⟨w.heap.size + 2, 1, none⟩ (.int .i64 0)).setCell ⟨w.heap.size + 2, 2, none⟩ (.int .i64 0)).setCell ⟨w.heap.size + 2, 3, none⟩ (.slice none 0 0)).setCell ⟨w.heap.size + 2, 4, none⟩ (.slice none 0 0)).cell? ⟨w.heap.size + 2, 5, none⟩ = some x5 := r5.cell (i := 5) (by omega)
    have z5 : (((((wB.setCell ⟨w.heap.size + 2, 0, none⟩ (.int .i64 0)).setCell ⟨w.heap.size + 2, 1, none⟩ (.int .i64 0)).setCell ⟨w.heap.size + 2, 2, none⟩ (.int .i64 0)).setCell ⟨w.heap.size + 2, 3, none⟩ (.slice none 0 0)).setCell ⟨w.heap.size + 2, 4, none⟩ (.slice none 0 0)).frozen? ⟨w.heap.size + 2, 5, none⟩ = false := r5.frozen 5
    have r6 := r5.set 5 (.slice none 0 0)
    obtain ⟨WF, hWF⟩ : ∃ W : World, W = ((((((wB.setCell ⟨w.heap.size + 2, 0, none⟩ (.int .i64 0)).setCell ⟨w.heap.size + 2, 1, none⟩ (.int .i64 0)).setCell ⟨w.heap.size + 2, 2, none⟩ (.int .i64 0)).setCell ⟨w.heap.size + 2, 3, none⟩ (.slice none 0 0)).setCell ⟨w.heap.size + 2, 4, none⟩ (.slice none 0 0)).setCell ⟨w.heap.size + 2, 5, none⟩ (.slice none 0 0)) := ⟨_, rfl⟩
    have hbWF : ∀ B (w0 : World), B ≤ w.heap.size + 2 → Below B w0 wB → Below B w0 WF := fun B w0 hl hb => by rw [hWF]; exact ((((((hb.setCell (by show B ≤ w.heap.size + 2; exact hl) _).setCell (by show B ≤ w.heap.size + 2; exact hl) _).setCell (by show B ≤ w.heap.size + 2; exact hl) _).setCell (by show B ≤ w.heap.size + 2; exact hl) _).setCell (by show B ≤ w.heap.size + 2; exact hl) _).setCell (by show B ≤ w.heap.size + 2; exact hl) _)
    have hsWF : ∀ lo hi, w.heap.size + 2 < lo ∨ hi ≤ w.heap.size + 2 → Same lo hi wB WF := fun lo hi hl => by rw [hWF]; exact ((((((Same.set _ hl).trans (Same.set _ hl)).trans (Same.set _ hl)).trans (Same.set _ hl)).trans (Same.set _ hl)).trans (Same.set _ hl))
    have hzWF : WF.heap.size = wB.heap.size := by rw [hWF]; simp
    rw [← hWF] at r6
    have f0 : WF.cell? ⟨w.heap.size + 2, 0, none⟩ = some (.int .i64 0) := r6.cell (i := 0) (by omega)
    have f1 : WF.cell? ⟨w.heap.size + 2, 1, none⟩ = some (.int .i64 0) := r6.cell (i := 1) (by omega)
    have f2 : WF.cell? ⟨w.heap.size + 2, 2, none⟩ = some (.int .i64 0) := r6.cell (i := 2) (by omega)
    have f3 : WF.cell? ⟨w.heap.size + 2, 3, none⟩ = some (.slice none 0 0) := r6.cell (i := 3) (by omega)
    have f4 : WF.cell? ⟨w.heap.size + 2, 4, none⟩ = some (.slice none 0 0) := r6.cell (i := 4) (by omega)
    have f5 : WF.cell? ⟨w.heap.size + 2, 5, none⟩ = some (.slice none 0 0) := r6.cell (i := 5) (by omega)
    have HWWF := Lib.hid hWF
    clear hr r0 r1 r2 r3 r4 r5 r6 hWF
    have HBF := Lib.hid (hbWF w.heap.size w (by omega) (HNX.out _ HBB.out).1.below)
    clear hsWF hbWF hzWF
    go_wp2
    rw [← HWWF.out]
    refine bodyPost_ret (v := .tuple #[.agg #[.int .i64 0, .int .i64 0, .int .i64 0, .slice none 0 0, .slice none 0 0, .slice none 0 0], .int .i64 2]) ?_ rfl ?_
    · simp only [results, HRES.out]
      go_simp
    · exact ⟨_, (0, 0, 0, [], [], []), 2, rfl, RwCp.nil _ _ _, HBF.out, by rw [HCODE.out]; exact RsOut.of_no (by decide)⟩
  have hpp2 := Classical.not_not.1 hpp
  clear hpp
  subst hpp2
  have hne1 : (p != p) = false := by simp
  have hne2 : (p == p) = true := by simp
  have hdd := HC.out.2.1
  have hee := HC.out.2.2.1
  have hdd2 := HC2.out.2.1
  have hee2 := HC2.out.2.2.1
  have hw1 : IntKind.i64.wrap (d + d2) = d + d2 := IntWalk.i64_in _ (by omega)
  have hw2 : IntKind.i64.wrap (e + e2) = e + e2 := IntWalk.i64_in _ (by omega)
  by_cases hovd : 24 < d + d2
  · have HCODE : Hid (adCode p d e il jl kl p d2 e2 il2 jl2 kl2 = 3) := Lib.hid (by unfold adCode; rw [if_neg (fun k => k ⟨HC.out, HC2.out⟩), if_neg (fun k => k rfl), if_pos (Or.inl hovd)])
    have HR1 : ∃ x0 x1 x2 x3 x4 x5, wB.heap[w.heap.size + 2]? = some (.cells #[x0, x1, x2, x3, x4, x5] 71) := ⟨_, _, _, _, _, _, (HNX.out _ HBB.out).2.2⟩
    obtain ⟨x0, x1, x2, x3, x4, x5, hr⟩ := HR1
    have r0 : wB.rowIs (w.heap.size + 2) 71 6 (sel6 x0 x1 x2 x3 x4 x5) := rowIs6 hr
    have q0 : wB.cell? ⟨w.heap.size + 2, 0, none⟩ = some x0 := r0.cell (i := 0) (by omega)
    have z0 : wB.frozen? ⟨w.heap.size + 2, 0, none⟩ = false := r0.frozen 0
    have r1 := r0.set 0 (.int .i64 0)
    have q1 : (wB.setCell ⟨w.heap.size + 2, 0, none⟩ (.int .i64 0)).cell? ⟨w.heap.size + 2, 1, none⟩ = some x1 := r1.cell (i := 1) (by omega)
    have z1 : (wB.setCell ⟨w.heap.size + 2, 0, none⟩ (.int .i64 0)).frozen? ⟨w.heap.size + 2, 1, none⟩ = false := r1.frozen 1
    have r2 := r1.set 1 (.int .i64 0)
    have q2 : ((wB.setCell ⟨w.heap.size + 2, 0, none⟩ (.int .i64 0)).setCell ⟨w.heap.size + 2, 1, none⟩ (.int .i64 0)).cell? ⟨w.heap.size + 2, 2, none⟩ = some x2 := r2.cell (i := 2) (by omega)
    have z2 : ((wB.setCell ⟨w.heap.size + 2, 0, none⟩ (.int .i64 0)).setCell ⟨w.heap.size + 2, 1, none⟩ (.int .i64 0)).frozen? ⟨w.heap.size + 2, 2, none⟩ = false := r2.frozen 2
    have r3 := r2.set 2 (.int .i64 0)
    have q3 : (((wB.setCell ⟨w.heap.size + 2, 0, none⟩ (.int .i64 0)).setCell ⟨w.heap.size + 2, 1, none⟩ (.int .i64 0)).setCell ⟨w.heap.size + 2, 2, none⟩ (.int .i64 0)).cell? ⟨w.heap.size + 2, 3, none⟩ = some x3 := r3.cell (i := 3) (by omega)
    have z3 : (((wB.setCell ⟨w.heap.size + 2, 0, none⟩ (.int .i64 0)).setCell ⟨w.heap.size + 2, 1, none⟩ (.int .i64 0)).setCell ⟨w.heap.size + 2, 2, none⟩ (.int .i64 0)).frozen? ⟨w.heap.size + 2, 3, none⟩ = false := r3.frozen 3
    have r4 := r3.set 3 (.slice none 0 0)
    have q4 : ((((wB.setCell ⟨w.heap.size + 2, 0, none⟩ (.int .i64 0)).setCell ⟨w.heap.size + 2, 1, none⟩ (.int .i64 0)).setCell ⟨w.heap.size + 2, 2, none⟩ (.int .i64 0)).setCell ⟨w.heap.size + 2, 3, none⟩ (.slice none 0 0)).cell? ⟨w.heap.size + 2, 4, none⟩ = some x4 := r4.cell (i := 4) (by omega)
    have z4 : ((((wB.setCell ⟨w.heap.size + 2, 0, none⟩ (.int .i64 0)).setCell ⟨w.heap.size + 2, 1, none⟩ (.int .i64 0)).setCell ⟨w.heap.size + 2, 2, none⟩ (.int .i64 0)).setCell ⟨w.heap.size + 2, 3, none⟩ (.slice none 0 0)).frozen? ⟨w.heap.size + 2, 4, none⟩ = false := r4.frozen 4
    have r5 := r4.set 4 (.slice none 0 0)
    have q5 : (((((wB.setCell ⟨w.heap.size + 2, 0, none⟩ (.int .i64 0)).setCell ⟨w.heap.size + 2, 1, none⟩ (.int .i64 0)).setCell ⟨w.heap.size + 2, 2, none⟩ (.int .i64 0)).setCell ⟨w.heap.size + 2, 3, none⟩ (.slice none 0 0)).setCell ⟨w.heap.size + 2, 4, none⟩ (.slice none 0 0)).cell? ⟨w.heap.size + 2, 5, none⟩ = some x5 := r5.cell (i := 5) (by omega)
    have z5 : (((((wB.setCell ⟨w.heap.size + 2, 0, none⟩ (.int .i64 0)).setCell ⟨w.heap.size + 2, 1, none⟩ (.int .i64 0)).setCell ⟨w.heap.size + 2, 2, none⟩ (.int .i64 0)).setCell ⟨w.heap.size + 2, 3, none⟩ (.slice none 0 0)).setCell ⟨w.heap.size + 2, 4, none⟩ (.slice none 0 0)).frozen? ⟨w.heap.size + 2, 5, none⟩ = false := r5.frozen 5
    have r6 := r5.set 5 (.slice none 0 0)
    obtain ⟨WF, hWF⟩ : ∃ W : World, W = ((((((wB.setCell ⟨w.heap.size + 2, 0, none⟩ (.int .i64 0)).setCell ⟨w.heap.size + 2, 1, none⟩ (.int .i64 0)).setCell ⟨w.heap.size + 2, 2, none⟩ (.int .i64 0)).setCell ⟨w.heap.size + 2, 3, none⟩ (.slice none 0 0)).setCell ⟨w.heap.size + 2, 4, none⟩ (.slice none 0 0)).setCell ⟨w.heap.size + 2, 5, none⟩ (.slice none 0 0)) := ⟨_, rfl⟩
    have hbWF : ∀ B (w0 : World), B ≤ w.heap.size + 2 → Below B w0 wB → Below B w0 WF := fun B w0 hl hb => by rw [hWF]; exact ((((((hb.setCell (by show B ≤ w.heap.size + 2; exact hl) _).setCell (by show B ≤ w.heap.size + 2; exact hl) _).setCell (by show B ≤ w.heap.size + 2; exact hl) _).setCell (by show B ≤ w.heap.size + 2; exact hl) _).setCell (by show B ≤ w.heap.size + 2; exact hl) _).setCell (by show B ≤ w.heap.size + 2; exact hl) _)
    have hsWF : ∀ lo hi, w.heap.size + 2 < lo ∨ hi ≤ w.heap.size + 2 → Same lo hi wB WF := fun lo hi hl => by rw [hWF]; exact ((((((Same.set _ hl).trans (Same.set _ hl)).trans (Same.set _ hl)).trans (Same.set _ hl)).trans (Same.set _ hl)).trans (Same.set _ hl))
    have hzWF : WF.heap.size = wB.heap.size := by rw [hWF]; simp
    rw [← hWF] at r6
    have f0 : WF.cell? ⟨w.heap.size + 2, 0, none⟩ = some (.int .i64 0) := r6.cell (i := 0) (by omega)
    have f1 : WF.cell? ⟨w.heap.size + 2, 1, none⟩ = some (.int .i64 0) := r6.cell (i := 1) (by omega)
    have f2 : WF.cell? ⟨w.heap.size + 2, 2, none⟩ = some (.int .i64 0) := r6.cell (i := 2) (by omega)
    have f3 : WF.cell? ⟨w.heap.size + 2, 3, none⟩ = some (.slice none 0 0) := r6.cell (i := 3) (by omega)
    have f4 : WF.cell? ⟨w.heap.size + 2, 4, none⟩ = some (.slice none 0 0) := r6.cell (i := 4) (by omega)
    have f5 : WF.cell? ⟨w.heap.size + 2, 5, none⟩ = some (.slice none 0 0) := r6.cell (i := 5) (by omega)
    have HWWF := Lib.hid hWF
    clear hr r0 r1 r2 r3 r4 r5 r6 hWF
    have HBF := Lib.hid (hbWF w.heap.size w (by omega) (HNX.out _ HBB.out).1.below)
    clear hsWF hbWF hzWF
    go_wp2
    rw [← HWWF.out]
    refine bodyPost_ret (v := .tuple #[.agg #[.int .i64 0, .int .i64 0, .int .i64 0, .slice none 0 0, .slice none 0 0, .slice none 0 0], .int .i64 3]) ?_ rfl ?_
    · simp only [results, HRES.out]
      go_simp
    · exact ⟨_, (0, 0, 0, [], [], []), 3, rfl, RwCp.nil _ _ _, HBF.out, by rw [HCODE.out]; exact RsOut.of_no (by decide)⟩
  by_cases hove : 24 < e + e2
  · have HCODE : Hid (adCode p d e il jl kl p d2 e2 il2 jl2 kl2 = 3) := Lib.hid (by unfold adCode; rw [if_neg (fun k => k ⟨HC.out, HC2.out⟩), if_neg (fun k => k rfl), if_pos (Or.inr hove)])
    have HR1 : ∃ x0 x1 x2 x3 x4 x5, wB.heap[w.heap.size + 2]? = some (.cells #[x0, x1, x2, x3, x4, x5] 71) := ⟨_, _, _, _, _, _, (HNX.out _ HBB.out).2.2⟩
    obtain ⟨x0, x1, x2, x3, x4, x5, hr⟩ := HR1
    have r0 : wB.rowIs (w.heap.size + 2) 71 6 (sel6 x0 x1 x2 x3 x4 x5) := rowIs6 hr
    have q0 : wB.cell? ⟨w.heap.size + 2, 0, none⟩ = some x0 := r0.cell (i := 0) (by omega)
    have z0 : wB.frozen? ⟨w.heap.size + 2, 0, none⟩ = false := r0.frozen 0
    have r1 := r0.set 0 (.int .i64 0)
    have q1 : (wB.setCell ⟨w.heap.size + 2, 0, none⟩ (.int .i64 0)).cell? ⟨w.heap.size + 2, 1, none⟩ = some x1 := r1.cell (i := 1) (by omega)
    have z1 : (wB.setCell ⟨w.heap.size + 2, 0, none⟩ (.int .i64 0)).frozen? ⟨w.heap.size + 2, 1, none⟩ = false := r1.frozen 1
    have r2 := r1.set 1 (.int .i64 0)
    have q2 : ((wB.setCell ⟨w.heap.size + 2, 0, none⟩ (.int .i64 0)).setCell ⟨w.heap.size + 2, 1, none⟩ (.int .i64 0)).cell? ⟨w.heap.size + 2, 2, none⟩ = some x2 := r2.cell (i := 2) (by omega)
    have z2 : ((wB.setCell ⟨w.heap.size + 2, 0, none⟩ (.int .i64 0)).setCell ⟨w.heap.size + 2, 1, none⟩ (.int .i64 0)).frozen? ⟨w.heap.size + 2, 2, none⟩ = false := r2.frozen 2
    have r3 := r2.set 2 (.int .i64 0)
    have q3 : (((wB.setCell ⟨w.heap.size + 2, 0, none⟩ (.int .i64 0)).setCell ⟨w.heap.size + 2, 1, none⟩ (.int .i64 0)).setCell ⟨w.heap.size + 2, 2, none⟩ (.int .i64 0)).cell? ⟨w.heap.size + 2, 3, none⟩ = some x3 := r3.cell (i := 3) (by omega)
    have z3 : (((wB.setCell ⟨w.heap.size + 2, 0, none⟩ (.int .i64 0)).setCell ⟨w.heap.size + 2, 1, none⟩ (.int .i64 0)).setCell ⟨w.heap.size + 2, 2, none⟩ (.int .i64 0)).frozen? ⟨w.heap.size + 2, 3, none⟩ = false := r3.frozen 3
    have r4 := r3.set 3 (.slice none 0 0)
    have q4 : ((((wB.setCell ⟨w.heap.size + 2, 0, none⟩ (.int .i64 0)).setCell ⟨w.heap.size + 2, 1, none⟩ (.int .i64 0)).setCell ⟨w.heap.size + 2, 2, none⟩ (.int .i64 0)).setCell ⟨w.heap.size + 2, 3, none⟩ (.slice none 0 0)).cell? ⟨w.heap.size + 2, 4, none⟩ = some x4 := r4.cell (i := 4) (by omega)
    have z4 : ((((wB.setCell ⟨w.heap.size + 2, 0, none⟩ (.int .i64 0)).setCell ⟨w.heap.size + 2, 1, none⟩ (.int .i64 0)).setCell ⟨w.heap.size + 2, 2, none⟩ (.int .i64 0)).setCell ⟨w.heap.size + 2, 3, none⟩ (.slice none 0 0)).frozen? ⟨w.heap.size + 2, 4, none⟩ = false := r4.frozen 4
    have r5 := r4.set 4 (.slice none 0 0)
    have q5 : (((((wB.setCell ⟨w.heap.size + 2, 0, none⟩ (.int .i64 0)).setCell ⟨w.heap.size + 2, 1, none⟩ (.int .i64 0)).setCell ⟨w.heap.size + 2, 2, none⟩ (.int .i64 0)).setCell ⟨w.heap.size + 2, 3, none⟩ (.slice none 0 0)).setCell ⟨w.heap.size + 2, 4, none⟩ (.slice none 0 0)).cell? ⟨w.heap.size + 2, 5, none⟩ = some x5 := r5.cell (i := 5) (by omega)
    have z5 : (((((wB.setCell ⟨w.heap.size + 2, 0, none⟩ (.int .i64 0)).setCell ⟨w.heap.size + 2, 1, none⟩ (.int .i64 0)).setCell ⟨w.heap.size + 2, 2, none⟩ (.int .i64 0)).setCell ⟨w.heap.size + 2, 3, none⟩ (.slice none 0 0)).setCell ⟨w.heap.size + 2, 4, none⟩ (.slice none 0 0)).frozen? ⟨w.heap.size + 2, 5, none⟩ = false := r5.frozen 5
    have r6 := r5.set 5 (.slice none 0 0)
    obtain ⟨WF, hWF⟩ : ∃ W : World, W = ((((((wB.setCell ⟨w.heap.size + 2, 0, none⟩ (.int .i64 0)).setCell ⟨w.heap.size + 2, 1, none⟩ (.int .i64 0)).setCell ⟨w.heap.size + 2, 2, none⟩ (.int .i64 0)).setCell ⟨w.heap.size + 2, 3, none⟩ (.slice none 0 0)).setCell ⟨w.heap.size + 2, 4, none⟩ (.slice none 0 0)).setCell ⟨w.heap.size + 2, 5, none⟩ (.slice none 0 0)) := ⟨_, rfl⟩
    have hbWF : ∀ B (w0 : World), B ≤ w.heap.size + 2 → Below B w0 wB → Below B w0 WF := fun B w0 hl hb => by rw [hWF]; exact ((((((hb.setCell (by show B ≤ w.heap.size + 2; exact hl) _).setCell (by show B ≤ w.heap.size + 2; exact hl) _).setCell (by show B ≤ w.heap.size + 2; exact hl) _).setCell (by show B ≤ w.heap.size + 2; exact hl) _).setCell (by show B ≤ w.heap.size + 2; exact hl) _).setCell (by show B ≤ w.heap.size + 2; exact hl) _)
    have hsWF : ∀ lo hi, w.heap.size + 2 < lo ∨ hi ≤ w.heap.size + 2 → Same lo hi wB WF := fun lo hi hl => by rw [hWF]; exact ((((((Same.set _ hl).trans (Same.set _ hl)).trans (Same.set _ hl)).trans (Same.set _ hl)).trans (Same.set _ hl)).trans (Same.set _ hl))
    have hzWF : WF.heap.size = wB.heap.size := by rw [hWF]; simp
    rw [← hWF] at r6
    have f0 : WF.cell? ⟨w.heap.size + 2, 0, none⟩ = some (.int .i64 0) := r6.cell (i := 0) (by omega)
    have f1 : WF.cell? ⟨w.heap.size + 2, 1, none⟩ = some (.int .i64 0) := r6.cell (i := 1) (by omega)
    have f2 : WF.cell? ⟨w.heap.size + 2, 2, none⟩ = some (.int .i64 0) := r6.cell (i := 2) (by omega)
    have f3 : WF.cell? ⟨w.heap.size + 2, 3, none⟩ = some (.slice none 0 0) := r6.cell (i := 3) (by omega)
    have f4 : WF.cell? ⟨w.heap.size + 2, 4, none⟩ = some (.slice none 0 0) := r6.cell (i := 4) (by omega)
    have f5 : WF.cell? ⟨w.heap.size + 2, 5, none⟩ = some (.slice none 0 0) := r6.cell (i := 5) (by omega)
    have HWWF := Lib.hid hWF
    clear hr r0 r1 r2 r3 r4 r5 r6 hWF
    have HBF := Lib.hid (hbWF w.heap.size w (by omega) (HNX.out _ HBB.out).1.below)
    clear hsWF hbWF hzWF
    go_wp2
    rw [← HWWF.out]
    refine bodyPost_ret (v := .tuple #[.agg #[.int .i64 0, .int .i64 0, .int .i64 0, .slice none 0 0, .slice none 0 0, .slice none 0 0], .int .i64 3]) ?_ rfl ?_
    · simp only [results, HRES.out]
      go_simp
    · exact ⟨_, (0, 0, 0, [], [], []), 3, rfl, RwCp.nil _ _ _, HBF.out, by rw [HCODE.out]; exact RsOut.of_no (by decide)⟩
  have HOK : Hid (AdOk p d e il jl kl p d2 e2 il2 jl2 kl2) := Lib.hid ⟨HC.out, HC2.out, rfl, by omega⟩
  go_upto_region 8 with fail
  obtain ⟨wD, hwD⟩ : ∃ wD, wD = wB.alloc (.cells #[.slice none 0 0, .slice none 0 0, .slice none 0 0] 143) := ⟨_, rfl⟩
  have hbD : Below wB.heap.size wB wD := by rw [hwD]; exact below_alloc1 _ _
  have hsD : wB.heap.size < wD.heap.size := by rw [hwD]; simp
  have HGD : Hid (wD.rowIs wB.heap.size 143 3 (fun _ => .slice none 0 0)) := Lib.hid (by rw [hwD]; exact ⟨#[.slice none 0 0, .slice none 0 0, .slice none 0 0], by simpa using heap_alloc_new wB (.cells #[.slice none 0 0, .slice none 0 0, .slice none 0 0] 143), rfl, fun i hi => by
    match i, hi with
    | 0, _ => rfl
    | 1, _ => rfl
    | 2, _ => rfl⟩)
  rw [← hwD]
  clear hwD
  have HBD := Lib.hid (HBB.out.trans (hbD.mono HBB.out.size))
  clear c0 c1 c2 c3 c4 c5 yc0 yc1 yc2 yc3 yc4 yc5
  clear hbD
  go_wp2_with fail
  refine (mapsOfCouples_any _).mono ?_
  rintro ee wE ⟨rfl, hb⟩
  have hsE : wD.heap.size ≤ wE.heap.size := hb.size
  have HBE := Lib.hid (HBD.out.trans (hb.mono HBD.out.size))
  have HFE : Hid (FillA wE wB.heap.size 3 0 (fun _ => .slice none 0 0) (fun _ => wB.heap.size + 1) [sumT il d.toNat il2 d2.toNat, sumT jl e.toNat jl2 e2.toNat, sumT kl d.toNat kl2 d2.toNat]) := Lib.hid (FillA.start (HGD.out.of_block (hb.block _ HGD.out.lt)) (by omega) _)
  clear hb HGD
  have hgR : w1.heap.size ≤ wB.heap.size := HBB.out.size
  obtain ⟨gs, hgs⟩ : ∃ gs, gs = wB.heap.size := ⟨_, rfl⟩
  rw [← hgs] at HFE hgR ⊢
  clear hgs hsD HBB HBA HBD HB0
  go_wp2
  go_loopw [7, 8, 9, 10, 42] (fun _ _ _ _ i wr => ∃ (k : Nat) (f : Nat → Value) (b : Nat → Nat), k ≤ 3 ∧ i = .int .i64 k ∧ Hid (Below w1.heap.size w1 wr) ∧ Hid (FillA wr gs 3 k f b [sumT il d.toNat il2 d2.toNat, sumT jl e.toNat jl2 e2.toNat, sumT kl d.toNat kl2 d2.toNat])) (fun _ _ _ _ i _ => 3 - (intOf i).toNat)
  case atStart => exact ⟨0, _, _, by omega, rfl, HBE, HFE⟩
  case round =>
    clear HFE HBE
    obtain ⟨k, f, b, hk, rfl, HB, HF⟩ := hrel
    obtain ⟨wx, hwx⟩ : ∃ wx : World, wx = wr := ⟨_, rfl⟩
    subst hwx
    have HNW : Hid (∀ W, Below wx.heap.size wx W → BxCp w W w.heap.size p d e (.slice ai il.length ci) (.slice aj jl.length cj) (.slice ak kl.length ck) il jl kl ∧ BxCp w W (w.heap.size + 1) p d2 e2 (.slice ai2 il2.length ci2) (.slice aj2 jl2.length cj2) (.slice ak2 kl2.length ck2) il2 jl2 kl2 ∧ Rz W (w.heap.size + 2) 71 #[.int .i64 0, .int .i64 0, .int .i64 0, .slice none 0 0, .slice none 0 0, .slice none 0 0]) := Lib.hid (fun W h => HNX.out W (HB.out.trans (h.mono HB.out.size)))
    have c0 := (HNX.out _ HB.out).1.c0
    have c1 := (HNX.out _ HB.out).1.c1
    have c2 := (HNX.out _ HB.out).1.c2
    have c3 := (HNX.out _ HB.out).1.c3
    have c4 := (HNX.out _ HB.out).1.c4
    have c5 := (HNX.out _ HB.out).1.c5
    have yc0 := (HNX.out _ HB.out).2.1.c0
    have yc1 := (HNX.out _ HB.out).2.1.c1
    have yc2 := (HNX.out _ HB.out).2.1.c2
    have yc3 := (HNX.out _ HB.out).2.1.c3
    have yc4 := (HNX.out _ HB.out).2.1.c4
    have yc5 := (HNX.out _ HB.out).2.1.c5
    by_cases hlt : k < 3
    · have hlk : (k : Int) < 3 := by omega
      have hlk2 : ¬ (3 : Int) ≤ (k : Int) := by omega
      have hk0 : (0 : Int) ≤ (k : Int) := by omega
      obtain ⟨fn, a, a2, n, n2, av, cv, av2, cv2, t, t2, hr⟩ := adRound_any p d e ai ci aj cj ak ck il jl kl p d2 e2 ai2 ci2 aj2 cj2 ak2 ck2 il2 jl2 kl2 HC.out HC2.out k hlt
      have HRD := Lib.hid hr
      have hidx := hr.idx
      clear hr
      go_upto_region 11 with fail
      clear hidx
      go_cut [9, 10] from 46 to 51 (fun s9 s10 wz => ∃ gA gB : Nat, s9 = .pointer (some ⟨gA, 0, none⟩) ∧ s10 = .pointer (some ⟨gB, 0, none⟩) ∧ Hid (Below wx.heap.size wx wz) ∧ Hid (Rz wz gA 138 #[.int .i64 p, .int .i64 a, .int .i64 (n : Int), .slice av t.length cv]) ∧ Hid (Rz wz gB 138 #[.int .i64 p, .int .i64 a2, .int .i64 (n2 : Int), .slice av2 t2.length cv2]))
      case first =>
        clear c0 yc0 c1 yc1 c2 yc2 c3 yc3 c4 yc4 c5 yc5
        go_wp2
        have hfn := HRD.out.fns
        refine wp_region_held (S := fun W => Below (wx.heap.size) wx W) (by kernel_rfl) ?_
        have S0 : Below (wx.heap.size) wx wx.drew := (Below.refl _ _).drew
        have hB0 : wx.heap.size ≤ wx.heap.size := Nat.le_refl _
        have hsd : wx.heap.size ≤ wx.drew.heap.size := Nat.le_refl _
        have hbd : Below wx.heap.size wx wx.drew := (Below.refl _ _).drew
        change wpAnyH _ _ _ _ _ _ _ _ wx.drew
        obtain ⟨wd, hwd⟩ : ∃ wd, wd = wx.drew := ⟨_, rfl⟩
        rw [← hwd] at S0 hsd hbd ⊢
        clear hwd
        refine held_take (i := 0) (v := .func (.func fn) #[] #[]) (some 46) rfl rfl (by kernel_rfl) (by kernel_rfl) (by kernel_rfl) (fun _ _ _ h => h) (yieldsIf_move (by kernel_rfl) rfl (by kernel_rfl)) S0 ?_
        refine held_take (i := 1) (v := .agg #[.int .i64 p, .int .i64 d, .int .i64 e, .slice ai il.length ci, .slice aj jl.length cj, .slice ak kl.length ck]) (some 47) rfl rfl (by kernel_rfl) (by kernel_rfl) (by kernel_rfl) (fun _ _ _ h => h) (yieldsIf_cell (by kernel_rfl) rfl (by kernel_rfl) (fun W h => hload6' W ((HNW.out W h).1))) S0 ?_
        refine held_take (i := 3) (v := .func (.func fn) #[] #[]) (some 49) rfl rfl (by kernel_rfl) (by kernel_rfl) (by kernel_rfl) (fun _ _ _ h => h) (yieldsIf_move (by kernel_rfl) rfl (by kernel_rfl)) S0 ?_
        refine held_take (i := 4) (v := .agg #[.int .i64 p, .int .i64 d2, .int .i64 e2, .slice ai2 il2.length ci2, .slice aj2 jl2.length cj2, .slice ak2 kl2.length ck2]) (some 50) rfl rfl (by kernel_rfl) (by kernel_rfl) (by kernel_rfl) (fun _ _ _ h => h) (yieldsIf_cell (by kernel_rfl) rfl (by kernel_rfl) (fun W h => hload6' W ((HNW.out W h).2.1))) S0 ?_
        refine held_three (i := 2) (j := 6) (l := 7) (by kernel_rfl) ?_ ?_ ?_
        · refine op_enter (i := 2) (some 48) (f := fn) (args := #[.agg #[.int .i64 p, .int .i64 d, .int .i64 e, .slice ai il.length ci, .slice aj jl.length cj, .slice ak kl.length ck]]) rfl rfl rfl (by rcases hfn with rfl | rfl | rfl <;> kernel_rfl) (HRD.out.one wd (HNW.out _ S0).1.cx) ?_ (fun c w' h => by cases h.1) (fun w' h => by cases h.1)
          rintro ee W1 ⟨he, hb1⟩
          injection he with he
          subst he
          have S1 : Below (wx.heap.size) wx W1 := S0.trans (hb1.mono (Nat.le_trans hB0 S0.size))
          refine ⟨S1, ?_⟩
          refine held_three (i := 5) (j := 6) (l := 7) (by kernel_rfl) ?_ ?_ ?_
          · refine op_enter (i := 5) (some 51) (f := fn) (args := #[.agg #[.int .i64 p, .int .i64 d2, .int .i64 e2, .slice ai2 il2.length ci2, .slice aj2 jl2.length cj2, .slice ak2 kl2.length ck2]]) rfl rfl rfl (by rcases hfn with rfl | rfl | rfl <;> kernel_rfl) (HRD.out.two W1 (HNW.out _ S1).2.1.cx) ?_ (fun c w' h => by cases h.1) (fun w' h => by cases h.1)
            rintro ee W2 ⟨he, hb2⟩
            injection he with he
            subst he
            have S2 : Below (wx.heap.size) wx W2 := S1.trans (hb2.mono (Nat.le_trans hB0 S1.size))
            refine ⟨S2, ?_⟩
            refine held_two (i := 6) (j := 7) (by kernel_rfl) ?_ ?_
            · obtain ⟨W3, hW3⟩ : ∃ W', W' = W2.alloc (.cells #[.int .i64 0, .int .i64 0, .int .i64 0, .slice none 0 0] 138) := ⟨_, rfl⟩
              have hb3 : Below W2.heap.size W2 W3 := by rw [hW3]; exact below_alloc1 _ _
              have hAA3 : Rz W3 W2.heap.size 138 #[.int .i64 0, .int .i64 0, .int .i64 0, .slice none 0 0] := by rw [hW3]; exact Rz.new _ _ _
              have S3 : Below (wx.heap.size) wx W3 := S2.trans (hb3.mono (Nat.le_trans hB0 S2.size))
              have hGA : wx.heap.size ≤ W2.heap.size := Nat.le_trans hB0 S2.size
              refine op_mem (i := 6) (v := .pointer (some ⟨W2.heap.size, 0, none⟩)) (w' := W3) (some 9) rfl rfl rfl (by rw [hW3]; go_simp) ?_
              refine ⟨S3, ?_⟩
              refine held_one (i := 7) (by kernel_rfl) ?_
              · obtain ⟨W4, hW4⟩ : ∃ W', W' = W3.alloc (.cells #[.int .i64 0, .int .i64 0, .int .i64 0, .slice none 0 0] 138) := ⟨_, rfl⟩
                have hb4 : Below W3.heap.size W3 W4 := by rw [hW4]; exact below_alloc1 _ _
                have hAB4 : Rz W4 W3.heap.size 138 #[.int .i64 0, .int .i64 0, .int .i64 0, .slice none 0 0] := by rw [hW4]; exact Rz.new _ _ _
                have S4 : Below (wx.heap.size) wx W4 := S3.trans (hb4.mono (Nat.le_trans hB0 S3.size))
                have hGB : wx.heap.size ≤ W3.heap.size := Nat.le_trans hB0 S3.size
                have hne : W2.heap.size ≠ W3.heap.size := Nat.ne_of_lt hAA3.lt
                have hAA4 := hAA3.next hb4
                refine op_mem (i := 7) (v := .pointer (some ⟨W3.heap.size, 0, none⟩)) (w' := W4) (some 10) rfl rfl rfl (by rw [hW4]; go_simp) ?_
                refine ⟨S4, ?_⟩
                have S5 : Below (wx.heap.size) wx (W4.setRow (W2.heap.size) #[.int .i64 p, .int .i64 a, .int .i64 (n : Int), .slice av t.length cv]) := below_setRow S4 hGA _
                refine held_one (i := 8) (by kernel_rfl) ?_
                refine op_row (i := 8) rfl rfl rfl 138 (.tmp 9) (.tmp 48) rfl (W2.heap.size) #[.int .i64 p, .int .i64 a, .int .i64 (n : Int), .slice av t.length cv] (by kernel_rfl) (by kernel_rfl) 138 _ hAA4 (Try.infoL _ _ _ _) (by kernel_rfl) (by kernel_rfl) ?_
                refine ⟨S5, ?_⟩
                have hAA5 := hAA4.set #[.int .i64 p, .int .i64 a, .int .i64 (n : Int), .slice av t.length cv]
                have hAB5 := hAB4.off (by first | exact hne | exact hne.symm) #[.int .i64 p, .int .i64 a, .int .i64 (n : Int), .slice av t.length cv]
                have S6 : Below (wx.heap.size) wx ((W4.setRow (W2.heap.size) #[.int .i64 p, .int .i64 a, .int .i64 (n : Int), .slice av t.length cv]).setRow (W3.heap.size) #[.int .i64 p, .int .i64 a2, .int .i64 (n2 : Int), .slice av2 t2.length cv2]) := below_setRow S5 hGB _
                refine held_one (i := 9) (by kernel_rfl) ?_
                refine op_row (i := 9) rfl rfl rfl 138 (.tmp 10) (.tmp 51) rfl (W3.heap.size) #[.int .i64 p, .int .i64 a2, .int .i64 (n2 : Int), .slice av2 t2.length cv2] (by kernel_rfl) (by kernel_rfl) 138 _ hAB5 (Try.infoL _ _ _ _) (by kernel_rfl) (by kernel_rfl) ?_
                refine ⟨S6, ?_⟩
                have hAA6 := hAA5.off (by first | exact hne | exact hne.symm) #[.int .i64 p, .int .i64 a2, .int .i64 (n2 : Int), .slice av2 t2.length cv2]
                have hAB6 := hAB5.set #[.int .i64 p, .int .i64 a2, .int .i64 (n2 : Int), .slice av2 t2.length cv2]
                refine wpAnyH_done (by kernel_rfl) ?_ _
                simp only [Act.put, List.setIfInBounds_toArray, List.set_cons_zero, List.set_cons_succ]
                go_wp2
                go_meet
                exact ⟨W2.heap.size, W3.heap.size, rfl, rfl, Lib.hid S6, Lib.hid hAA6, Lib.hid hAB6⟩
            · obtain ⟨W7, hW7⟩ : ∃ W', W' = W2.alloc (.cells #[.int .i64 0, .int .i64 0, .int .i64 0, .slice none 0 0] 138) := ⟨_, rfl⟩
              have hb7 : Below W2.heap.size W2 W7 := by rw [hW7]; exact below_alloc1 _ _
              have hAB7 : Rz W7 W2.heap.size 138 #[.int .i64 0, .int .i64 0, .int .i64 0, .slice none 0 0] := by rw [hW7]; exact Rz.new _ _ _
              have S7 : Below (wx.heap.size) wx W7 := S2.trans (hb7.mono (Nat.le_trans hB0 S2.size))
              have hGB : wx.heap.size ≤ W2.heap.size := Nat.le_trans hB0 S2.size
              refine op_mem (i := 7) (v := .pointer (some ⟨W2.heap.size, 0, none⟩)) (w' := W7) (some 10) rfl rfl rfl (by rw [hW7]; go_simp) ?_
              refine ⟨S7, ?_⟩
              refine held_one (i := 6) (by kernel_rfl) ?_
              · obtain ⟨W8, hW8⟩ : ∃ W', W' = W7.alloc (.cells #[.int .i64 0, .int .i64 0, .int .i64 0, .slice none 0 0] 138) := ⟨_, rfl⟩
                have hb8 : Below W7.heap.size W7 W8 := by rw [hW8]; exact below_alloc1 _ _
                have hAA8 : Rz W8 W7.heap.size 138 #[.int .i64 0, .int .i64 0, .int .i64 0, .slice none 0 0] := by rw [hW8]; exact Rz.new _ _ _
                have S8 : Below (wx.heap.size) wx W8 := S7.trans (hb8.mono (Nat.le_trans hB0 S7.size))
                have hGA : wx.heap.size ≤ W7.heap.size := Nat.le_trans hB0 S7.size
                have hne : W2.heap.size ≠ W7.heap.size := Nat.ne_of_lt hAB7.lt
                have hAB8 := hAB7.next hb8
                refine op_mem (i := 6) (v := .pointer (some ⟨W7.heap.size, 0, none⟩)) (w' := W8) (some 9) rfl rfl rfl (by rw [hW8]; go_simp) ?_
                refine ⟨S8, ?_⟩
                have S9 : Below (wx.heap.size) wx (W8.setRow (W7.heap.size) #[.int .i64 p, .int .i64 a, .int .i64 (n : Int), .slice av t.length cv]) := below_setRow S8 hGA _
                refine held_one (i := 8) (by kernel_rfl) ?_
                refine op_row (i := 8) rfl rfl rfl 138 (.tmp 9) (.tmp 48) rfl (W7.heap.size) #[.int .i64 p, .int .i64 a, .int .i64 (n : Int), .slice av t.length cv] (by kernel_rfl) (by kernel_rfl) 138 _ hAA8 (Try.infoL _ _ _ _) (by kernel_rfl) (by kernel_rfl) ?_
                refine ⟨S9, ?_⟩
                have hAB9 := hAB8.off (by first | exact hne | exact hne.symm) #[.int .i64 p, .int .i64 a, .int .i64 (n : Int), .slice av t.length cv]
                have hAA9 := hAA8.set #[.int .i64 p, .int .i64 a, .int .i64 (n : Int), .slice av t.length cv]
                have S10 : Below (wx.heap.size) wx ((W8.setRow (W7.heap.size) #[.int .i64 p, .int .i64 a, .int .i64 (n : Int), .slice av t.length cv]).setRow (W2.heap.size) #[.int .i64 p, .int .i64 a2, .int .i64 (n2 : Int), .slice av2 t2.length cv2]) := below_setRow S9 hGB _
                refine held_one (i := 9) (by kernel_rfl) ?_
                refine op_row (i := 9) rfl rfl rfl 138 (.tmp 10) (.tmp 51) rfl (W2.heap.size) #[.int .i64 p, .int .i64 a2, .int .i64 (n2 : Int), .slice av2 t2.length cv2] (by kernel_rfl) (by kernel_rfl) 138 _ hAB9 (Try.infoL _ _ _ _) (by kernel_rfl) (by kernel_rfl) ?_
                refine ⟨S10, ?_⟩
                have hAB10 := hAB9.set #[.int .i64 p, .int .i64 a2, .int .i64 (n2 : Int), .slice av2 t2.length cv2]
                have hAA10 := hAA9.off (by first | exact hne | exact hne.symm) #[.int .i64 p, .int .i64 a2, .int .i64 (n2 : Int), .slice av2 t2.length cv2]
                refine wpAnyH_done (by kernel_rfl) ?_ _
                simp only [Act.put, List.setIfInBounds_toArray, List.set_cons_zero, List.set_cons_succ]
                go_wp2
                go_meet
                exact ⟨W7.heap.size, W2.heap.size, rfl, rfl, Lib.hid S10, Lib.hid hAA10, Lib.hid hAB10⟩
          · obtain ⟨W11, hW11⟩ : ∃ W', W' = W1.alloc (.cells #[.int .i64 0, .int .i64 0, .int .i64 0, .slice none 0 0] 138) := ⟨_, rfl⟩
            have hb11 : Below W1.heap.size W1 W11 := by rw [hW11]; exact below_alloc1 _ _
            have hAA11 : Rz W11 W1.heap.size 138 #[.int .i64 0, .int .i64 0, .int .i64 0, .slice none 0 0] := by rw [hW11]; exact Rz.new _ _ _
            have S11 : Below (wx.heap.size) wx W11 := S1.trans (hb11.mono (Nat.le_trans hB0 S1.size))
            have hGA : wx.heap.size ≤ W1.heap.size := Nat.le_trans hB0 S1.size
            refine op_mem (i := 6) (v := .pointer (some ⟨W1.heap.size, 0, none⟩)) (w' := W11) (some 9) rfl rfl rfl (by rw [hW11]; go_simp) ?_
            refine ⟨S11, ?_⟩
            refine held_two (i := 5) (j := 7) (by kernel_rfl) ?_ ?_
            · refine op_enter (i := 5) (some 51) (f := fn) (args := #[.agg #[.int .i64 p, .int .i64 d2, .int .i64 e2, .slice ai2 il2.length ci2, .slice aj2 jl2.length cj2, .slice ak2 kl2.length ck2]]) rfl rfl rfl (by rcases hfn with rfl | rfl | rfl <;> kernel_rfl) (HRD.out.two W11 (HNW.out _ S11).2.1.cx) ?_ (fun c w' h => by cases h.1) (fun w' h => by cases h.1)
              rintro ee W12 ⟨he, hb12⟩
              injection he with he
              subst he
              have S12 : Below (wx.heap.size) wx W12 := S11.trans (hb12.mono (Nat.le_trans hB0 S11.size))
              have hAA12 := hAA11.next hb12
              refine ⟨S12, ?_⟩
              refine held_one (i := 7) (by kernel_rfl) ?_
              · obtain ⟨W13, hW13⟩ : ∃ W', W' = W12.alloc (.cells #[.int .i64 0, .int .i64 0, .int .i64 0, .slice none 0 0] 138) := ⟨_, rfl⟩
                have hb13 : Below W12.heap.size W12 W13 := by rw [hW13]; exact below_alloc1 _ _
                have hAB13 : Rz W13 W12.heap.size 138 #[.int .i64 0, .int .i64 0, .int .i64 0, .slice none 0 0] := by rw [hW13]; exact Rz.new _ _ _
                have S13 : Below (wx.heap.size) wx W13 := S12.trans (hb13.mono (Nat.le_trans hB0 S12.size))
                have hGB : wx.heap.size ≤ W12.heap.size := Nat.le_trans hB0 S12.size
                have hne : W1.heap.size ≠ W12.heap.size := Nat.ne_of_lt hAA12.lt
                have hAA13 := hAA12.next hb13
                refine op_mem (i := 7) (v := .pointer (some ⟨W12.heap.size, 0, none⟩)) (w' := W13) (some 10) rfl rfl rfl (by rw [hW13]; go_simp) ?_
                refine ⟨S13, ?_⟩
                have S14 : Below (wx.heap.size) wx (W13.setRow (W1.heap.size) #[.int .i64 p, .int .i64 a, .int .i64 (n : Int), .slice av t.length cv]) := below_setRow S13 hGA _
                refine held_one (i := 8) (by kernel_rfl) ?_
                refine op_row (i := 8) rfl rfl rfl 138 (.tmp 9) (.tmp 48) rfl (W1.heap.size) #[.int .i64 p, .int .i64 a, .int .i64 (n : Int), .slice av t.length cv] (by kernel_rfl) (by kernel_rfl) 138 _ hAA13 (Try.infoL _ _ _ _) (by kernel_rfl) (by kernel_rfl) ?_
                refine ⟨S14, ?_⟩
                have hAA14 := hAA13.set #[.int .i64 p, .int .i64 a, .int .i64 (n : Int), .slice av t.length cv]
                have hAB14 := hAB13.off (by first | exact hne | exact hne.symm) #[.int .i64 p, .int .i64 a, .int .i64 (n : Int), .slice av t.length cv]
                have S15 : Below (wx.heap.size) wx ((W13.setRow (W1.heap.size) #[.int .i64 p, .int .i64 a, .int .i64 (n : Int), .slice av t.length cv]).setRow (W12.heap.size) #[.int .i64 p, .int .i64 a2, .int .i64 (n2 : Int), .slice av2 t2.length cv2]) := below_setRow S14 hGB _
                refine held_one (i := 9) (by kernel_rfl) ?_
                refine op_row (i := 9) rfl rfl rfl 138 (.tmp 10) (.tmp 51) rfl (W12.heap.size) #[.int .i64 p, .int .i64 a2, .int .i64 (n2 : Int), .slice av2 t2.length cv2] (by kernel_rfl) (by kernel_rfl) 138 _ hAB14 (Try.infoL _ _ _ _) (by kernel_rfl) (by kernel_rfl) ?_
                refine ⟨S15, ?_⟩
                have hAA15 := hAA14.off (by first | exact hne | exact hne.symm) #[.int .i64 p, .int .i64 a2, .int .i64 (n2 : Int), .slice av2 t2.length cv2]
                have hAB15 := hAB14.set #[.int .i64 p, .int .i64 a2, .int .i64 (n2 : Int), .slice av2 t2.length cv2]
                refine wpAnyH_done (by kernel_rfl) ?_ _
                simp only [Act.put, List.setIfInBounds_toArray, List.set_cons_zero, List.set_cons_succ]
                go_wp2
                go_meet
                exact ⟨W1.heap.size, W12.heap.size, rfl, rfl, Lib.hid S15, Lib.hid hAA15, Lib.hid hAB15⟩
            · obtain ⟨W16, hW16⟩ : ∃ W', W' = W11.alloc (.cells #[.int .i64 0, .int .i64 0, .int .i64 0, .slice none 0 0] 138) := ⟨_, rfl⟩
              have hb16 : Below W11.heap.size W11 W16 := by rw [hW16]; exact below_alloc1 _ _
              have hAB16 : Rz W16 W11.heap.size 138 #[.int .i64 0, .int .i64 0, .int .i64 0, .slice none 0 0] := by rw [hW16]; exact Rz.new _ _ _
              have S16 : Below (wx.heap.size) wx W16 := S11.trans (hb16.mono (Nat.le_trans hB0 S11.size))
              have hGB : wx.heap.size ≤ W11.heap.size := Nat.le_trans hB0 S11.size
              have hne : W1.heap.size ≠ W11.heap.size := Nat.ne_of_lt hAA11.lt
              have hAA16 := hAA11.next hb16
              refine op_mem (i := 7) (v := .pointer (some ⟨W11.heap.size, 0, none⟩)) (w' := W16) (some 10) rfl rfl rfl (by rw [hW16]; go_simp) ?_
              refine ⟨S16, ?_⟩
              refine held_one (i := 5) (by kernel_rfl) ?_
              · refine op_enter (i := 5) (some 51) (f := fn) (args := #[.agg #[.int .i64 p, .int .i64 d2, .int .i64 e2, .slice ai2 il2.length ci2, .slice aj2 jl2.length cj2, .slice ak2 kl2.length ck2]]) rfl rfl rfl (by rcases hfn with rfl | rfl | rfl <;> kernel_rfl) (HRD.out.two W16 (HNW.out _ S16).2.1.cx) ?_ (fun c w' h => by cases h.1) (fun w' h => by cases h.1)
                rintro ee W17 ⟨he, hb17⟩
                injection he with he
                subst he
                have S17 : Below (wx.heap.size) wx W17 := S16.trans (hb17.mono (Nat.le_trans hB0 S16.size))
                have hAA17 := hAA16.next hb17
                have hAB17 := hAB16.next hb17
                refine ⟨S17, ?_⟩
                have S18 : Below (wx.heap.size) wx (W17.setRow (W1.heap.size) #[.int .i64 p, .int .i64 a, .int .i64 (n : Int), .slice av t.length cv]) := below_setRow S17 hGA _
                refine held_one (i := 8) (by kernel_rfl) ?_
                refine op_row (i := 8) rfl rfl rfl 138 (.tmp 9) (.tmp 48) rfl (W1.heap.size) #[.int .i64 p, .int .i64 a, .int .i64 (n : Int), .slice av t.length cv] (by kernel_rfl) (by kernel_rfl) 138 _ hAA17 (Try.infoL _ _ _ _) (by kernel_rfl) (by kernel_rfl) ?_
                refine ⟨S18, ?_⟩
                have hAA18 := hAA17.set #[.int .i64 p, .int .i64 a, .int .i64 (n : Int), .slice av t.length cv]
                have hAB18 := hAB17.off (by first | exact hne | exact hne.symm) #[.int .i64 p, .int .i64 a, .int .i64 (n : Int), .slice av t.length cv]
                have S19 : Below (wx.heap.size) wx ((W17.setRow (W1.heap.size) #[.int .i64 p, .int .i64 a, .int .i64 (n : Int), .slice av t.length cv]).setRow (W11.heap.size) #[.int .i64 p, .int .i64 a2, .int .i64 (n2 : Int), .slice av2 t2.length cv2]) := below_setRow S18 hGB _
                refine held_one (i := 9) (by kernel_rfl) ?_
                refine op_row (i := 9) rfl rfl rfl 138 (.tmp 10) (.tmp 51) rfl (W11.heap.size) #[.int .i64 p, .int .i64 a2, .int .i64 (n2 : Int), .slice av2 t2.length cv2] (by kernel_rfl) (by kernel_rfl) 138 _ hAB18 (Try.infoL _ _ _ _) (by kernel_rfl) (by kernel_rfl) ?_
                refine ⟨S19, ?_⟩
                have hAA19 := hAA18.off (by first | exact hne | exact hne.symm) #[.int .i64 p, .int .i64 a2, .int .i64 (n2 : Int), .slice av2 t2.length cv2]
                have hAB19 := hAB18.set #[.int .i64 p, .int .i64 a2, .int .i64 (n2 : Int), .slice av2 t2.length cv2]
                refine wpAnyH_done (by kernel_rfl) ?_ _
                simp only [Act.put, List.setIfInBounds_toArray, List.set_cons_zero, List.set_cons_succ]
                go_wp2
                go_meet
                exact ⟨W1.heap.size, W11.heap.size, rfl, rfl, Lib.hid S19, Lib.hid hAA19, Lib.hid hAB19⟩
          · obtain ⟨W20, hW20⟩ : ∃ W', W' = W1.alloc (.cells #[.int .i64 0, .int .i64 0, .int .i64 0, .slice none 0 0] 138) := ⟨_, rfl⟩
            have hb20 : Below W1.heap.size W1 W20 := by rw [hW20]; exact below_alloc1 _ _
            have hAB20 : Rz W20 W1.heap.size 138 #[.int .i64 0, .int .i64 0, .int .i64 0, .slice none 0 0] := by rw [hW20]; exact Rz.new _ _ _
            have S20 : Below (wx.heap.size) wx W20 := S1.trans (hb20.mono (Nat.le_trans hB0 S1.size))
            have hGB : wx.heap.size ≤ W1.heap.size := Nat.le_trans hB0 S1.size
            refine op_mem (i := 7) (v := .pointer (some ⟨W1.heap.size, 0, none⟩)) (w' := W20) (some 10) rfl rfl rfl (by rw [hW20]; go_simp) ?_
            refine ⟨S20, ?_⟩
            refine held_two (i := 5) (j := 6) (by kernel_rfl) ?_ ?_
            · refine op_enter (i := 5) (some 51) (f := fn) (args := #[.agg #[.int .i64 p, .int .i64 d2, .int .i64 e2, .slice ai2 il2.length ci2, .slice aj2 jl2.length cj2, .slice ak2 kl2.length ck2]]) rfl rfl rfl (by rcases hfn with rfl | rfl | rfl <;> kernel_rfl) (HRD.out.two W20 (HNW.out _ S20).2.1.cx) ?_ (fun c w' h => by cases h.1) (fun w' h => by cases h.1)
              rintro ee W21 ⟨he, hb21⟩
              injection he with he
              subst he
              have S21 : Below (wx.heap.size) wx W21 := S20.trans (hb21.mono (Nat.le_trans hB0 S20.size))
              have hAB21 := hAB20.next hb21
              refine ⟨S21, ?_⟩
              refine held_one (i := 6) (by kernel_rfl) ?_
              · obtain ⟨W22, hW22⟩ : ∃ W', W' = W21.alloc (.cells #[.int .i64 0, .int .i64 0, .int .i64 0, .slice none 0 0] 138) := ⟨_, rfl⟩
                have hb22 : Below W21.heap.size W21 W22 := by rw [hW22]; exact below_alloc1 _ _
                have hAA22 : Rz W22 W21.heap.size 138 #[.int .i64 0, .int .i64 0, .int .i64 0, .slice none 0 0] := by rw [hW22]; exact Rz.new _ _ _
                have S22 : Below (wx.heap.size) wx W22 := S21.trans (hb22.mono (Nat.le_trans hB0 S21.size))
                have hGA : wx.heap.size ≤ W21.heap.size := Nat.le_trans hB0 S21.size
                have hne : W1.heap.size ≠ W21.heap.size := Nat.ne_of_lt hAB21.lt
                have hAB22 := hAB21.next hb22
                refine op_mem (i := 6) (v := .pointer (some ⟨W21.heap.size, 0, none⟩)) (w' := W22) (some 9) rfl rfl rfl (by rw [hW22]; go_simp) ?_
                refine ⟨S22, ?_⟩
                have S23 : Below (wx.heap.size) wx (W22.setRow (W21.heap.size) #[.int .i64 p, .int .i64 a, .int .i64 (n : Int), .slice av t.length cv]) := below_setRow S22 hGA _
                refine held_one (i := 8) (by kernel_rfl) ?_
                refine op_row (i := 8) rfl rfl rfl 138 (.tmp 9) (.tmp 48) rfl (W21.heap.size) #[.int .i64 p, .int .i64 a, .int .i64 (n : Int), .slice av t.length cv] (by kernel_rfl) (by kernel_rfl) 138 _ hAA22 (Try.infoL _ _ _ _) (by kernel_rfl) (by kernel_rfl) ?_
                refine ⟨S23, ?_⟩
                have hAB23 := hAB22.off (by first | exact hne | exact hne.symm) #[.int .i64 p, .int .i64 a, .int .i64 (n : Int), .slice av t.length cv]
                have hAA23 := hAA22.set #[.int .i64 p, .int .i64 a, .int .i64 (n : Int), .slice av t.length cv]
                have S24 : Below (wx.heap.size) wx ((W22.setRow (W21.heap.size) #[.int .i64 p, .int .i64 a, .int .i64 (n : Int), .slice av t.length cv]).setRow (W1.heap.size) #[.int .i64 p, .int .i64 a2, .int .i64 (n2 : Int), .slice av2 t2.length cv2]) := below_setRow S23 hGB _
                refine held_one (i := 9) (by kernel_rfl) ?_
                refine op_row (i := 9) rfl rfl rfl 138 (.tmp 10) (.tmp 51) rfl (W1.heap.size) #[.int .i64 p, .int .i64 a2, .int .i64 (n2 : Int), .slice av2 t2.length cv2] (by kernel_rfl) (by kernel_rfl) 138 _ hAB23 (Try.infoL _ _ _ _) (by kernel_rfl) (by kernel_rfl) ?_
                refine ⟨S24, ?_⟩
                have hAB24 := hAB23.set #[.int .i64 p, .int .i64 a2, .int .i64 (n2 : Int), .slice av2 t2.length cv2]
                have hAA24 := hAA23.off (by first | exact hne | exact hne.symm) #[.int .i64 p, .int .i64 a2, .int .i64 (n2 : Int), .slice av2 t2.length cv2]
                refine wpAnyH_done (by kernel_rfl) ?_ _
                simp only [Act.put, List.setIfInBounds_toArray, List.set_cons_zero, List.set_cons_succ]
                go_wp2
                go_meet
                exact ⟨W21.heap.size, W1.heap.size, rfl, rfl, Lib.hid S24, Lib.hid hAA24, Lib.hid hAB24⟩
            · obtain ⟨W25, hW25⟩ : ∃ W', W' = W20.alloc (.cells #[.int .i64 0, .int .i64 0, .int .i64 0, .slice none 0 0] 138) := ⟨_, rfl⟩
              have hb25 : Below W20.heap.size W20 W25 := by rw [hW25]; exact below_alloc1 _ _
              have hAA25 : Rz W25 W20.heap.size 138 #[.int .i64 0, .int .i64 0, .int .i64 0, .slice none 0 0] := by rw [hW25]; exact Rz.new _ _ _
              have S25 : Below (wx.heap.size) wx W25 := S20.trans (hb25.mono (Nat.le_trans hB0 S20.size))
              have hGA : wx.heap.size ≤ W20.heap.size := Nat.le_trans hB0 S20.size
              have hne : W1.heap.size ≠ W20.heap.size := Nat.ne_of_lt hAB20.lt
              have hAB25 := hAB20.next hb25
              refine op_mem (i := 6) (v := .pointer (some ⟨W20.heap.size, 0, none⟩)) (w' := W25) (some 9) rfl rfl rfl (by rw [hW25]; go_simp) ?_
              refine ⟨S25, ?_⟩
              refine held_one (i := 5) (by kernel_rfl) ?_
              · refine op_enter (i := 5) (some 51) (f := fn) (args := #[.agg #[.int .i64 p, .int .i64 d2, .int .i64 e2, .slice ai2 il2.length ci2, .slice aj2 jl2.length cj2, .slice ak2 kl2.length ck2]]) rfl rfl rfl (by rcases hfn with rfl | rfl | rfl <;> kernel_rfl) (HRD.out.two W25 (HNW.out _ S25).2.1.cx) ?_ (fun c w' h => by cases h.1) (fun w' h => by cases h.1)
                rintro ee W26 ⟨he, hb26⟩
                injection he with he
                subst he
                have S26 : Below (wx.heap.size) wx W26 := S25.trans (hb26.mono (Nat.le_trans hB0 S25.size))
                have hAB26 := hAB25.next hb26
                have hAA26 := hAA25.next hb26
                refine ⟨S26, ?_⟩
                have S27 : Below (wx.heap.size) wx (W26.setRow (W20.heap.size) #[.int .i64 p, .int .i64 a, .int .i64 (n : Int), .slice av t.length cv]) := below_setRow S26 hGA _
                refine held_one (i := 8) (by kernel_rfl) ?_
                refine op_row (i := 8) rfl rfl rfl 138 (.tmp 9) (.tmp 48) rfl (W20.heap.size) #[.int .i64 p, .int .i64 a, .int .i64 (n : Int), .slice av t.length cv] (by kernel_rfl) (by kernel_rfl) 138 _ hAA26 (Try.infoL _ _ _ _) (by kernel_rfl) (by kernel_rfl) ?_
                refine ⟨S27, ?_⟩
                have hAB27 := hAB26.off (by first | exact hne | exact hne.symm) #[.int .i64 p, .int .i64 a, .int .i64 (n : Int), .slice av t.length cv]
                have hAA27 := hAA26.set #[.int .i64 p, .int .i64 a, .int .i64 (n : Int), .slice av t.length cv]
                have S28 : Below (wx.heap.size) wx ((W26.setRow (W20.heap.size) #[.int .i64 p, .int .i64 a, .int .i64 (n : Int), .slice av t.length cv]).setRow (W1.heap.size) #[.int .i64 p, .int .i64 a2, .int .i64 (n2 : Int), .slice av2 t2.length cv2]) := below_setRow S27 hGB _
                refine held_one (i := 9) (by kernel_rfl) ?_
                refine op_row (i := 9) rfl rfl rfl 138 (.tmp 10) (.tmp 51) rfl (W1.heap.size) #[.int .i64 p, .int .i64 a2, .int .i64 (n2 : Int), .slice av2 t2.length cv2] (by kernel_rfl) (by kernel_rfl) 138 _ hAB27 (Try.infoL _ _ _ _) (by kernel_rfl) (by kernel_rfl) ?_
                refine ⟨S28, ?_⟩
                have hAB28 := hAB27.set #[.int .i64 p, .int .i64 a2, .int .i64 (n2 : Int), .slice av2 t2.length cv2]
                have hAA28 := hAA27.off (by first | exact hne | exact hne.symm) #[.int .i64 p, .int .i64 a2, .int .i64 (n2 : Int), .slice av2 t2.length cv2]
                refine wpAnyH_done (by kernel_rfl) ?_ _
                simp only [Act.put, List.setIfInBounds_toArray, List.set_cons_zero, List.set_cons_succ]
                go_wp2
                go_meet
                exact ⟨W20.heap.size, W1.heap.size, rfl, rfl, Lib.hid S28, Lib.hid hAA28, Lib.hid hAB28⟩
        · obtain ⟨W29, hW29⟩ : ∃ W', W' = wd.alloc (.cells #[.int .i64 0, .int .i64 0, .int .i64 0, .slice none 0 0] 138) := ⟨_, rfl⟩
          have hb29 : Below wd.heap.size wd W29 := by rw [hW29]; exact below_alloc1 _ _
          have hAA29 : Rz W29 wd.heap.size 138 #[.int .i64 0, .int .i64 0, .int .i64 0, .slice none 0 0] := by rw [hW29]; exact Rz.new _ _ _
          have S29 : Below (wx.heap.size) wx W29 := S0.trans (hb29.mono (Nat.le_trans hB0 S0.size))
          have hGA : wx.heap.size ≤ wd.heap.size := Nat.le_trans hB0 S0.size
          refine op_mem (i := 6) (v := .pointer (some ⟨wd.heap.size, 0, none⟩)) (w' := W29) (some 9) rfl rfl rfl (by rw [hW29]; go_simp) ?_
          refine ⟨S29, ?_⟩
          refine held_two (i := 2) (j := 7) (by kernel_rfl) ?_ ?_
          · refine op_enter (i := 2) (some 48) (f := fn) (args := #[.agg #[.int .i64 p, .int .i64 d, .int .i64 e, .slice ai il.length ci, .slice aj jl.length cj, .slice ak kl.length ck]]) rfl rfl rfl (by rcases hfn with rfl | rfl | rfl <;> kernel_rfl) (HRD.out.one W29 (HNW.out _ S29).1.cx) ?_ (fun c w' h => by cases h.1) (fun w' h => by cases h.1)
            rintro ee W30 ⟨he, hb30⟩
            injection he with he
            subst he
            have S30 : Below (wx.heap.size) wx W30 := S29.trans (hb30.mono (Nat.le_trans hB0 S29.size))
            have hAA30 := hAA29.next hb30
            refine ⟨S30, ?_⟩
            refine held_two (i := 5) (j := 7) (by kernel_rfl) ?_ ?_
            · refine op_enter (i := 5) (some 51) (f := fn) (args := #[.agg #[.int .i64 p, .int .i64 d2, .int .i64 e2, .slice ai2 il2.length ci2, .slice aj2 jl2.length cj2, .slice ak2 kl2.length ck2]]) rfl rfl rfl (by rcases hfn with rfl | rfl | rfl <;> kernel_rfl) (HRD.out.two W30 (HNW.out _ S30).2.1.cx) ?_ (fun c w' h => by cases h.1) (fun w' h => by cases h.1)
              rintro ee W31 ⟨he, hb31⟩
              injection he with he
              subst he
              have S31 : Below (wx.heap.size) wx W31 := S30.trans (hb31.mono (Nat.le_trans hB0 S30.size))
              have hAA31 := hAA30.next hb31
              refine ⟨S31, ?_⟩
              refine held_one (i := 7) (by kernel_rfl) ?_
              · obtain ⟨W32, hW32⟩ : ∃ W', W' = W31.alloc (.cells #[.int .i64 0, .int .i64 0, .int .i64 0, .slice none 0 0] 138) := ⟨_, rfl⟩
                have hb32 : Below W31.heap.size W31 W32 := by rw [hW32]; exact below_alloc1 _ _
                have hAB32 : Rz W32 W31.heap.size 138 #[.int .i64 0, .int .i64 0, .int .i64 0, .slice none 0 0] := by rw [hW32]; exact Rz.new _ _ _
                have S32 : Below (wx.heap.size) wx W32 := S31.trans (hb32.mono (Nat.le_trans hB0 S31.size))
                have hGB : wx.heap.size ≤ W31.heap.size := Nat.le_trans hB0 S31.size
                have hne : wd.heap.size ≠ W31.heap.size := Nat.ne_of_lt hAA31.lt
                have hAA32 := hAA31.next hb32
                refine op_mem (i := 7) (v := .pointer (some ⟨W31.heap.size, 0, none⟩)) (w' := W32) (some 10) rfl rfl rfl (by rw [hW32]; go_simp) ?_
                refine ⟨S32, ?_⟩
                have S33 : Below (wx.heap.size) wx (W32.setRow (wd.heap.size) #[.int .i64 p, .int .i64 a, .int .i64 (n : Int), .slice av t.length cv]) := below_setRow S32 hGA _
                refine held_one (i := 8) (by kernel_rfl) ?_
                refine op_row (i := 8) rfl rfl rfl 138 (.tmp 9) (.tmp 48) rfl (wd.heap.size) #[.int .i64 p, .int .i64 a, .int .i64 (n : Int), .slice av t.length cv] (by kernel_rfl) (by kernel_rfl) 138 _ hAA32 (Try.infoL _ _ _ _) (by kernel_rfl) (by kernel_rfl) ?_
                refine ⟨S33, ?_⟩
                have hAA33 := hAA32.set #[.int .i64 p, .int .i64 a, .int .i64 (n : Int), .slice av t.length cv]
                have hAB33 := hAB32.off (by first | exact hne | exact hne.symm) #[.int .i64 p, .int .i64 a, .int .i64 (n : Int), .slice av t.length cv]
                have S34 : Below (wx.heap.size) wx ((W32.setRow (wd.heap.size) #[.int .i64 p, .int .i64 a, .int .i64 (n : Int), .slice av t.length cv]).setRow (W31.heap.size) #[.int .i64 p, .int .i64 a2, .int .i64 (n2 : Int), .slice av2 t2.length cv2]) := below_setRow S33 hGB _
                refine held_one (i := 9) (by kernel_rfl) ?_
                refine op_row (i := 9) rfl rfl rfl 138 (.tmp 10) (.tmp 51) rfl (W31.heap.size) #[.int .i64 p, .int .i64 a2, .int .i64 (n2 : Int), .slice av2 t2.length cv2] (by kernel_rfl) (by kernel_rfl) 138 _ hAB33 (Try.infoL _ _ _ _) (by kernel_rfl) (by kernel_rfl) ?_
                refine ⟨S34, ?_⟩
                have hAA34 := hAA33.off (by first | exact hne | exact hne.symm) #[.int .i64 p, .int .i64 a2, .int .i64 (n2 : Int), .slice av2 t2.length cv2]
                have hAB34 := hAB33.set #[.int .i64 p, .int .i64 a2, .int .i64 (n2 : Int), .slice av2 t2.length cv2]
                refine wpAnyH_done (by kernel_rfl) ?_ _
                simp only [Act.put, List.setIfInBounds_toArray, List.set_cons_zero, List.set_cons_succ]
                go_wp2
                go_meet
                exact ⟨wd.heap.size, W31.heap.size, rfl, rfl, Lib.hid S34, Lib.hid hAA34, Lib.hid hAB34⟩
            · obtain ⟨W35, hW35⟩ : ∃ W', W' = W30.alloc (.cells #[.int .i64 0, .int .i64 0, .int .i64 0, .slice none 0 0] 138) := ⟨_, rfl⟩
              have hb35 : Below W30.heap.size W30 W35 := by rw [hW35]; exact below_alloc1 _ _
              have hAB35 : Rz W35 W30.heap.size 138 #[.int .i64 0, .int .i64 0, .int .i64 0, .slice none 0 0] := by rw [hW35]; exact Rz.new _ _ _
              have S35 : Below (wx.heap.size) wx W35 := S30.trans (hb35.mono (Nat.le_trans hB0 S30.size))
              have hGB : wx.heap.size ≤ W30.heap.size := Nat.le_trans hB0 S30.size
              have hne : wd.heap.size ≠ W30.heap.size := Nat.ne_of_lt hAA30.lt
              have hAA35 := hAA30.next hb35
              refine op_mem (i := 7) (v := .pointer (some ⟨W30.heap.size, 0, none⟩)) (w' := W35) (some 10) rfl rfl rfl (by rw [hW35]; go_simp) ?_
              refine ⟨S35, ?_⟩
              refine held_one (i := 5) (by kernel_rfl) ?_
              · refine op_enter (i := 5) (some 51) (f := fn) (args := #[.agg #[.int .i64 p, .int .i64 d2, .int .i64 e2, .slice ai2 il2.length ci2, .slice aj2 jl2.length cj2, .slice ak2 kl2.length ck2]]) rfl rfl rfl (by rcases hfn with rfl | rfl | rfl <;> kernel_rfl) (HRD.out.two W35 (HNW.out _ S35).2.1.cx) ?_ (fun c w' h => by cases h.1) (fun w' h => by cases h.1)
                rintro ee W36 ⟨he, hb36⟩
                injection he with he
                subst he
                have S36 : Below (wx.heap.size) wx W36 := S35.trans (hb36.mono (Nat.le_trans hB0 S35.size))
                have hAA36 := hAA35.next hb36
                have hAB36 := hAB35.next hb36
                refine ⟨S36, ?_⟩
                have S37 : Below (wx.heap.size) wx (W36.setRow (wd.heap.size) #[.int .i64 p, .int .i64 a, .int .i64 (n : Int), .slice av t.length cv]) := below_setRow S36 hGA _
                refine held_one (i := 8) (by kernel_rfl) ?_
                refine op_row (i := 8) rfl rfl rfl 138 (.tmp 9) (.tmp 48) rfl (wd.heap.size) #[.int .i64 p, .int .i64 a, .int .i64 (n : Int), .slice av t.length cv] (by kernel_rfl) (by kernel_rfl) 138 _ hAA36 (Try.infoL _ _ _ _) (by kernel_rfl) (by kernel_rfl) ?_
                refine ⟨S37, ?_⟩
                have hAA37 := hAA36.set #[.int .i64 p, .int .i64 a, .int .i64 (n : Int), .slice av t.length cv]
                have hAB37 := hAB36.off (by first | exact hne | exact hne.symm) #[.int .i64 p, .int .i64 a, .int .i64 (n : Int), .slice av t.length cv]
                have S38 : Below (wx.heap.size) wx ((W36.setRow (wd.heap.size) #[.int .i64 p, .int .i64 a, .int .i64 (n : Int), .slice av t.length cv]).setRow (W30.heap.size) #[.int .i64 p, .int .i64 a2, .int .i64 (n2 : Int), .slice av2 t2.length cv2]) := below_setRow S37 hGB _
                refine held_one (i := 9) (by kernel_rfl) ?_
                refine op_row (i := 9) rfl rfl rfl 138 (.tmp 10) (.tmp 51) rfl (W30.heap.size) #[.int .i64 p, .int .i64 a2, .int .i64 (n2 : Int), .slice av2 t2.length cv2] (by kernel_rfl) (by kernel_rfl) 138 _ hAB37 (Try.infoL _ _ _ _) (by kernel_rfl) (by kernel_rfl) ?_
                refine ⟨S38, ?_⟩
                have hAA38 := hAA37.off (by first | exact hne | exact hne.symm) #[.int .i64 p, .int .i64 a2, .int .i64 (n2 : Int), .slice av2 t2.length cv2]
                have hAB38 := hAB37.set #[.int .i64 p, .int .i64 a2, .int .i64 (n2 : Int), .slice av2 t2.length cv2]
                refine wpAnyH_done (by kernel_rfl) ?_ _
                simp only [Act.put, List.setIfInBounds_toArray, List.set_cons_zero, List.set_cons_succ]
                go_wp2
                go_meet
                exact ⟨wd.heap.size, W30.heap.size, rfl, rfl, Lib.hid S38, Lib.hid hAA38, Lib.hid hAB38⟩
          · obtain ⟨W39, hW39⟩ : ∃ W', W' = W29.alloc (.cells #[.int .i64 0, .int .i64 0, .int .i64 0, .slice none 0 0] 138) := ⟨_, rfl⟩
            have hb39 : Below W29.heap.size W29 W39 := by rw [hW39]; exact below_alloc1 _ _
            have hAB39 : Rz W39 W29.heap.size 138 #[.int .i64 0, .int .i64 0, .int .i64 0, .slice none 0 0] := by rw [hW39]; exact Rz.new _ _ _
            have S39 : Below (wx.heap.size) wx W39 := S29.trans (hb39.mono (Nat.le_trans hB0 S29.size))
            have hGB : wx.heap.size ≤ W29.heap.size := Nat.le_trans hB0 S29.size
            have hne : wd.heap.size ≠ W29.heap.size := Nat.ne_of_lt hAA29.lt
            have hAA39 := hAA29.next hb39
            refine op_mem (i := 7) (v := .pointer (some ⟨W29.heap.size, 0, none⟩)) (w' := W39) (some 10) rfl rfl rfl (by rw [hW39]; go_simp) ?_
            refine ⟨S39, ?_⟩
            refine held_one (i := 2) (by kernel_rfl) ?_
            · refine op_enter (i := 2) (some 48) (f := fn) (args := #[.agg #[.int .i64 p, .int .i64 d, .int .i64 e, .slice ai il.length ci, .slice aj jl.length cj, .slice ak kl.length ck]]) rfl rfl rfl (by rcases hfn with rfl | rfl | rfl <;> kernel_rfl) (HRD.out.one W39 (HNW.out _ S39).1.cx) ?_ (fun c w' h => by cases h.1) (fun w' h => by cases h.1)
              rintro ee W40 ⟨he, hb40⟩
              injection he with he
              subst he
              have S40 : Below (wx.heap.size) wx W40 := S39.trans (hb40.mono (Nat.le_trans hB0 S39.size))
              have hAA40 := hAA39.next hb40
              have hAB40 := hAB39.next hb40
              refine ⟨S40, ?_⟩
              refine held_one (i := 5) (by kernel_rfl) ?_
              · refine op_enter (i := 5) (some 51) (f := fn) (args := #[.agg #[.int .i64 p, .int .i64 d2, .int .i64 e2, .slice ai2 il2.length ci2, .slice aj2 jl2.length cj2, .slice ak2 kl2.length ck2]]) rfl rfl rfl (by rcases hfn with rfl | rfl | rfl <;> kernel_rfl) (HRD.out.two W40 (HNW.out _ S40).2.1.cx) ?_ (fun c w' h => by cases h.1) (fun w' h => by cases h.1)
                rintro ee W41 ⟨he, hb41⟩
                injection he with he
                subst he
                have S41 : Below (wx.heap.size) wx W41 := S40.trans (hb41.mono (Nat.le_trans hB0 S40.size))
                have hAA41 := hAA40.next hb41
                have hAB41 := hAB40.next hb41
                refine ⟨S41, ?_⟩
                have S42 : Below (wx.heap.size) wx (W41.setRow (wd.heap.size) #[.int .i64 p, .int .i64 a, .int .i64 (n : Int), .slice av t.length cv]) := below_setRow S41 hGA _
                refine held_one (i := 8) (by kernel_rfl) ?_
                refine op_row (i := 8) rfl rfl rfl 138 (.tmp 9) (.tmp 48) rfl (wd.heap.size) #[.int .i64 p, .int .i64 a, .int .i64 (n : Int), .slice av t.length cv] (by kernel_rfl) (by kernel_rfl) 138 _ hAA41 (Try.infoL _ _ _ _) (by kernel_rfl) (by kernel_rfl) ?_
                refine ⟨S42, ?_⟩
                have hAA42 := hAA41.set #[.int .i64 p, .int .i64 a, .int .i64 (n : Int), .slice av t.length cv]
                have hAB42 := hAB41.off (by first | exact hne | exact hne.symm) #[.int .i64 p, .int .i64 a, .int .i64 (n : Int), .slice av t.length cv]
                have S43 : Below (wx.heap.size) wx ((W41.setRow (wd.heap.size) #[.int .i64 p, .int .i64 a, .int .i64 (n : Int), .slice av t.length cv]).setRow (W29.heap.size) #[.int .i64 p, .int .i64 a2, .int .i64 (n2 : Int), .slice av2 t2.length cv2]) := below_setRow S42 hGB _
                refine held_one (i := 9) (by kernel_rfl) ?_
                refine op_row (i := 9) rfl rfl rfl 138 (.tmp 10) (.tmp 51) rfl (W29.heap.size) #[.int .i64 p, .int .i64 a2, .int .i64 (n2 : Int), .slice av2 t2.length cv2] (by kernel_rfl) (by kernel_rfl) 138 _ hAB42 (Try.infoL _ _ _ _) (by kernel_rfl) (by kernel_rfl) ?_
                refine ⟨S43, ?_⟩
                have hAA43 := hAA42.off (by first | exact hne | exact hne.symm) #[.int .i64 p, .int .i64 a2, .int .i64 (n2 : Int), .slice av2 t2.length cv2]
                have hAB43 := hAB42.set #[.int .i64 p, .int .i64 a2, .int .i64 (n2 : Int), .slice av2 t2.length cv2]
                refine wpAnyH_done (by kernel_rfl) ?_ _
                simp only [Act.put, List.setIfInBounds_toArray, List.set_cons_zero, List.set_cons_succ]
                go_wp2
                go_meet
                exact ⟨wd.heap.size, W29.heap.size, rfl, rfl, Lib.hid S43, Lib.hid hAA43, Lib.hid hAB43⟩
        · obtain ⟨W44, hW44⟩ : ∃ W', W' = wd.alloc (.cells #[.int .i64 0, .int .i64 0, .int .i64 0, .slice none 0 0] 138) := ⟨_, rfl⟩
          have hb44 : Below wd.heap.size wd W44 := by rw [hW44]; exact below_alloc1 _ _
          have hAB44 : Rz W44 wd.heap.size 138 #[.int .i64 0, .int .i64 0, .int .i64 0, .slice none 0 0] := by rw [hW44]; exact Rz.new _ _ _
          have S44 : Below (wx.heap.size) wx W44 := S0.trans (hb44.mono (Nat.le_trans hB0 S0.size))
          have hGB : wx.heap.size ≤ wd.heap.size := Nat.le_trans hB0 S0.size
          refine op_mem (i := 7) (v := .pointer (some ⟨wd.heap.size, 0, none⟩)) (w' := W44) (some 10) rfl rfl rfl (by rw [hW44]; go_simp) ?_
          refine ⟨S44, ?_⟩
          refine held_two (i := 2) (j := 6) (by kernel_rfl) ?_ ?_
          · refine op_enter (i := 2) (some 48) (f := fn) (args := #[.agg #[.int .i64 p, .int .i64 d, .int .i64 e, .slice ai il.length ci, .slice aj jl.length cj, .slice ak kl.length ck]]) rfl rfl rfl (by rcases hfn with rfl | rfl | rfl <;> kernel_rfl) (HRD.out.one W44 (HNW.out _ S44).1.cx) ?_ (fun c w' h => by cases h.1) (fun w' h => by cases h.1)
            rintro ee W45 ⟨he, hb45⟩
            injection he with he
            subst he
            have S45 : Below (wx.heap.size) wx W45 := S44.trans (hb45.mono (Nat.le_trans hB0 S44.size))
            have hAB45 := hAB44.next hb45
            refine ⟨S45, ?_⟩
            refine held_two (i := 5) (j := 6) (by kernel_rfl) ?_ ?_
            · refine op_enter (i := 5) (some 51) (f := fn) (args := #[.agg #[.int .i64 p, .int .i64 d2, .int .i64 e2, .slice ai2 il2.length ci2, .slice aj2 jl2.length cj2, .slice ak2 kl2.length ck2]]) rfl rfl rfl (by rcases hfn with rfl | rfl | rfl <;> kernel_rfl) (HRD.out.two W45 (HNW.out _ S45).2.1.cx) ?_ (fun c w' h => by cases h.1) (fun w' h => by cases h.1)
              rintro ee W46 ⟨he, hb46⟩
              injection he with he
              subst he
              have S46 : Below (wx.heap.size) wx W46 := S45.trans (hb46.mono (Nat.le_trans hB0 S45.size))
              have hAB46 := hAB45.next hb46
              refine ⟨S46, ?_⟩
              refine held_one (i := 6) (by kernel_rfl) ?_
              · obtain ⟨W47, hW47⟩ : ∃ W', W' = W46.alloc (.cells #[.int .i64 0, .int .i64 0, .int .i64 0, .slice none 0 0] 138) := ⟨_, rfl⟩
                have hb47 : Below W46.heap.size W46 W47 := by rw [hW47]; exact below_alloc1 _ _
                have hAA47 : Rz W47 W46.heap.size 138 #[.int .i64 0, .int .i64 0, .int .i64 0, .slice none 0 0] := by rw [hW47]; exact Rz.new _ _ _
                have S47 : Below (wx.heap.size) wx W47 := S46.trans (hb47.mono (Nat.le_trans hB0 S46.size))
                have hGA : wx.heap.size ≤ W46.heap.size := Nat.le_trans hB0 S46.size
                have hne : wd.heap.size ≠ W46.heap.size := Nat.ne_of_lt hAB46.lt
                have hAB47 := hAB46.next hb47
                refine op_mem (i := 6) (v := .pointer (some ⟨W46.heap.size, 0, none⟩)) (w' := W47) (some 9) rfl rfl rfl (by rw [hW47]; go_simp) ?_
                refine ⟨S47, ?_⟩
                have S48 : Below (wx.heap.size) wx (W47.setRow (W46.heap.size) #[.int .i64 p, .int .i64 a, .int .i64 (n : Int), .slice av t.length cv]) := below_setRow S47 hGA _
                refine held_one (i := 8) (by kernel_rfl) ?_
                refine op_row (i := 8) rfl rfl rfl 138 (.tmp 9) (.tmp 48) rfl (W46.heap.size) #[.int .i64 p, .int .i64 a, .int .i64 (n : Int), .slice av t.length cv] (by kernel_rfl) (by kernel_rfl) 138 _ hAA47 (Try.infoL _ _ _ _) (by kernel_rfl) (by kernel_rfl) ?_
                refine ⟨S48, ?_⟩
                have hAB48 := hAB47.off (by first | exact hne | exact hne.symm) #[.int .i64 p, .int .i64 a, .int .i64 (n : Int), .slice av t.length cv]
                have hAA48 := hAA47.set #[.int .i64 p, .int .i64 a, .int .i64 (n : Int), .slice av t.length cv]
                have S49 : Below (wx.heap.size) wx ((W47.setRow (W46.heap.size) #[.int .i64 p, .int .i64 a, .int .i64 (n : Int), .slice av t.length cv]).setRow (wd.heap.size) #[.int .i64 p, .int .i64 a2, .int .i64 (n2 : Int), .slice av2 t2.length cv2]) := below_setRow S48 hGB _
                refine held_one (i := 9) (by kernel_rfl) ?_
                refine op_row (i := 9) rfl rfl rfl 138 (.tmp 10) (.tmp 51) rfl (wd.heap.size) #[.int .i64 p, .int .i64 a2, .int .i64 (n2 : Int), .slice av2 t2.length cv2] (by kernel_rfl) (by kernel_rfl) 138 _ hAB48 (Try.infoL _ _ _ _) (by kernel_rfl) (by kernel_rfl) ?_
                refine ⟨S49, ?_⟩
                have hAB49 := hAB48.set #[.int .i64 p, .int .i64 a2, .int .i64 (n2 : Int), .slice av2 t2.length cv2]
                have hAA49 := hAA48.off (by first | exact hne | exact hne.symm) #[.int .i64 p, .int .i64 a2, .int .i64 (n2 : Int), .slice av2 t2.length cv2]
                refine wpAnyH_done (by kernel_rfl) ?_ _
                simp only [Act.put, List.setIfInBounds_toArray, List.set_cons_zero, List.set_cons_succ]
                go_wp2
                go_meet
                exact ⟨W46.heap.size, wd.heap.size, rfl, rfl, Lib.hid S49, Lib.hid hAA49, Lib.hid hAB49⟩
            · obtain ⟨W50, hW50⟩ : ∃ W', W' = W45.alloc (.cells #[.int .i64 0, .int .i64 0, .int .i64 0, .slice none 0 0] 138) := ⟨_, rfl⟩
              have hb50 : Below W45.heap.size W45 W50 := by rw [hW50]; exact below_alloc1 _ _
              have hAA50 : Rz W50 W45.heap.size 138 #[.int .i64 0, .int .i64 0, .int .i64 0, .slice none 0 0] := by rw [hW50]; exact Rz.new _ _ _
              have S50 : Below (wx.heap.size) wx W50 := S45.trans (hb50.mono (Nat.le_trans hB0 S45.size))
              have hGA : wx.heap.size ≤ W45.heap.size := Nat.le_trans hB0 S45.size
              have hne : wd.heap.size ≠ W45.heap.size := Nat.ne_of_lt hAB45.lt
              have hAB50 := hAB45.next hb50
              refine op_mem (i := 6) (v := .pointer (some ⟨W45.heap.size, 0, none⟩)) (w' := W50) (some 9) rfl rfl rfl (by rw [hW50]; go_simp) ?_
              refine ⟨S50, ?_⟩
              refine held_one (i := 5) (by kernel_rfl) ?_
              · refine op_enter (i := 5) (some 51) (f := fn) (args := #[.agg #[.int .i64 p, .int .i64 d2, .int .i64 e2, .slice ai2 il2.length ci2, .slice aj2 jl2.length cj2, .slice ak2 kl2.length ck2]]) rfl rfl rfl (by rcases hfn with rfl | rfl | rfl <;> kernel_rfl) (HRD.out.two W50 (HNW.out _ S50).2.1.cx) ?_ (fun c w' h => by cases h.1) (fun w' h => by cases h.1)
                rintro ee W51 ⟨he, hb51⟩
                injection he with he
                subst he
                have S51 : Below (wx.heap.size) wx W51 := S50.trans (hb51.mono (Nat.le_trans hB0 S50.size))
                have hAB51 := hAB50.next hb51
                have hAA51 := hAA50.next hb51
                refine ⟨S51, ?_⟩
                have S52 : Below (wx.heap.size) wx (W51.setRow (W45.heap.size) #[.int .i64 p, .int .i64 a, .int .i64 (n : Int), .slice av t.length cv]) := below_setRow S51 hGA _
                refine held_one (i := 8) (by kernel_rfl) ?_
                refine op_row (i := 8) rfl rfl rfl 138 (.tmp 9) (.tmp 48) rfl (W45.heap.size) #[.int .i64 p, .int .i64 a, .int .i64 (n : Int), .slice av t.length cv] (by kernel_rfl) (by kernel_rfl) 138 _ hAA51 (Try.infoL _ _ _ _) (by kernel_rfl) (by kernel_rfl) ?_
                refine ⟨S52, ?_⟩
                have hAB52 := hAB51.off (by first | exact hne | exact hne.symm) #[.int .i64 p, .int .i64 a, .int .i64 (n : Int), .slice av t.length cv]
                have hAA52 := hAA51.set #[.int .i64 p, .int .i64 a, .int .i64 (n : Int), .slice av t.length cv]
                have S53 : Below (wx.heap.size) wx ((W51.setRow (W45.heap.size) #[.int .i64 p, .int .i64 a, .int .i64 (n : Int), .slice av t.length cv]).setRow (wd.heap.size) #[.int .i64 p, .int .i64 a2, .int .i64 (n2 : Int), .slice av2 t2.length cv2]) := below_setRow S52 hGB _
                refine held_one (i := 9) (by kernel_rfl) ?_
                refine op_row (i := 9) rfl rfl rfl 138 (.tmp 10) (.tmp 51) rfl (wd.heap.size) #[.int .i64 p, .int .i64 a2, .int .i64 (n2 : Int), .slice av2 t2.length cv2] (by kernel_rfl) (by kernel_rfl) 138 _ hAB52 (Try.infoL _ _ _ _) (by kernel_rfl) (by kernel_rfl) ?_
                refine ⟨S53, ?_⟩
                have hAB53 := hAB52.set #[.int .i64 p, .int .i64 a2, .int .i64 (n2 : Int), .slice av2 t2.length cv2]
                have hAA53 := hAA52.off (by first | exact hne | exact hne.symm) #[.int .i64 p, .int .i64 a2, .int .i64 (n2 : Int), .slice av2 t2.length cv2]
                refine wpAnyH_done (by kernel_rfl) ?_ _
                simp only [Act.put, List.setIfInBounds_toArray, List.set_cons_zero, List.set_cons_succ]
                go_wp2
                go_meet
                exact ⟨W45.heap.size, wd.heap.size, rfl, rfl, Lib.hid S53, Lib.hid hAA53, Lib.hid hAB53⟩
          · obtain ⟨W54, hW54⟩ : ∃ W', W' = W44.alloc (.cells #[.int .i64 0, .int .i64 0, .int .i64 0, .slice none 0 0] 138) := ⟨_, rfl⟩
            have hb54 : Below W44.heap.size W44 W54 := by rw [hW54]; exact below_alloc1 _ _
            have hAA54 : Rz W54 W44.heap.size 138 #[.int .i64 0, .int .i64 0, .int .i64 0, .slice none 0 0] := by rw [hW54]; exact Rz.new _ _ _
            have S54 : Below (wx.heap.size) wx W54 := S44.trans (hb54.mono (Nat.le_trans hB0 S44.size))
            have hGA : wx.heap.size ≤ W44.heap.size := Nat.le_trans hB0 S44.size
            have hne : wd.heap.size ≠ W44.heap.size := Nat.ne_of_lt hAB44.lt
            have hAB54 := hAB44.next hb54
            refine op_mem (i := 6) (v := .pointer (some ⟨W44.heap.size, 0, none⟩)) (w' := W54) (some 9) rfl rfl rfl (by rw [hW54]; go_simp) ?_
            refine ⟨S54, ?_⟩
            refine held_one (i := 2) (by kernel_rfl) ?_
            · refine op_enter (i := 2) (some 48) (f := fn) (args := #[.agg #[.int .i64 p, .int .i64 d, .int .i64 e, .slice ai il.length ci, .slice aj jl.length cj, .slice ak kl.length ck]]) rfl rfl rfl (by rcases hfn with rfl | rfl | rfl <;> kernel_rfl) (HRD.out.one W54 (HNW.out _ S54).1.cx) ?_ (fun c w' h => by cases h.1) (fun w' h => by cases h.1)
              rintro ee W55 ⟨he, hb55⟩
              injection he with he
              subst he
              have S55 : Below (wx.heap.size) wx W55 := S54.trans (hb55.mono (Nat.le_trans hB0 S54.size))
              have hAB55 := hAB54.next hb55
              have hAA55 := hAA54.next hb55
              refine ⟨S55, ?_⟩
              refine held_one (i := 5) (by kernel_rfl) ?_
              · refine op_enter (i := 5) (some 51) (f := fn) (args := #[.agg #[.int .i64 p, .int .i64 d2, .int .i64 e2, .slice ai2 il2.length ci2, .slice aj2 jl2.length cj2, .slice ak2 kl2.length ck2]]) rfl rfl rfl (by rcases hfn with rfl | rfl | rfl <;> kernel_rfl) (HRD.out.two W55 (HNW.out _ S55).2.1.cx) ?_ (fun c w' h => by cases h.1) (fun w' h => by cases h.1)
                rintro ee W56 ⟨he, hb56⟩
                injection he with he
                subst he
                have S56 : Below (wx.heap.size) wx W56 := S55.trans (hb56.mono (Nat.le_trans hB0 S55.size))
                have hAB56 := hAB55.next hb56
                have hAA56 := hAA55.next hb56
                refine ⟨S56, ?_⟩
                have S57 : Below (wx.heap.size) wx (W56.setRow (W44.heap.size) #[.int .i64 p, .int .i64 a, .int .i64 (n : Int), .slice av t.length cv]) := below_setRow S56 hGA _
                refine held_one (i := 8) (by kernel_rfl) ?_
                refine op_row (i := 8) rfl rfl rfl 138 (.tmp 9) (.tmp 48) rfl (W44.heap.size) #[.int .i64 p, .int .i64 a, .int .i64 (n : Int), .slice av t.length cv] (by kernel_rfl) (by kernel_rfl) 138 _ hAA56 (Try.infoL _ _ _ _) (by kernel_rfl) (by kernel_rfl) ?_
                refine ⟨S57, ?_⟩
                have hAB57 := hAB56.off (by first | exact hne | exact hne.symm) #[.int .i64 p, .int .i64 a, .int .i64 (n : Int), .slice av t.length cv]
                have hAA57 := hAA56.set #[.int .i64 p, .int .i64 a, .int .i64 (n : Int), .slice av t.length cv]
                have S58 : Below (wx.heap.size) wx ((W56.setRow (W44.heap.size) #[.int .i64 p, .int .i64 a, .int .i64 (n : Int), .slice av t.length cv]).setRow (wd.heap.size) #[.int .i64 p, .int .i64 a2, .int .i64 (n2 : Int), .slice av2 t2.length cv2]) := below_setRow S57 hGB _
                refine held_one (i := 9) (by kernel_rfl) ?_
                refine op_row (i := 9) rfl rfl rfl 138 (.tmp 10) (.tmp 51) rfl (wd.heap.size) #[.int .i64 p, .int .i64 a2, .int .i64 (n2 : Int), .slice av2 t2.length cv2] (by kernel_rfl) (by kernel_rfl) 138 _ hAB57 (Try.infoL _ _ _ _) (by kernel_rfl) (by kernel_rfl) ?_
                refine ⟨S58, ?_⟩
                have hAB58 := hAB57.set #[.int .i64 p, .int .i64 a2, .int .i64 (n2 : Int), .slice av2 t2.length cv2]
                have hAA58 := hAA57.off (by first | exact hne | exact hne.symm) #[.int .i64 p, .int .i64 a2, .int .i64 (n2 : Int), .slice av2 t2.length cv2]
                refine wpAnyH_done (by kernel_rfl) ?_ _
                simp only [Act.put, List.setIfInBounds_toArray, List.set_cons_zero, List.set_cons_succ]
                go_wp2
                go_meet
                exact ⟨W44.heap.size, wd.heap.size, rfl, rfl, Lib.hid S58, Lib.hid hAA58, Lib.hid hAB58⟩
      case rest =>
        obtain ⟨gA, gB, rfl, rfl, HBz, HA, HBt⟩ := hcut
        clear c0 c1 c2 c3 c4 c5 yc0 yc1 yc2 yc3 yc4 yc5
        have eA2 := HA.out.cell (i := 2) rfl
        have eA3 := HA.out.cell (i := 3) rfl
        have eB2 := HBt.out.cell (i := 2) rfl
        have eB3 := HBt.out.cell (i := 3) rfl
        have HNC := Lib.hid (HNW.out _ HBz.out)
        have HFC := Lib.hid (HF.out.below HBz.out)
        have HBC := Lib.hid (HB.out.trans (HBz.out.mono HB.out.size))
        have hgl := HF.out.row.lt
        have hgc : wx.heap.size ≤ wc.heap.size := HBz.out.size
        have h24 := HRD.out.l1
        have h242 := HRD.out.l2
        have hn24 := HRD.out.n1
        have hn242 := HRD.out.n2'
        go_wp2_with fail
        refine (sumTable_any _ _ t t2 n n2 _ (HRD.out.r1 _ HNC.out.1.cx) (HRD.out.r2 _ HNC.out.2.1.cx) (by omega) (by omega) (by omega) (by omega) HRD.out.w1 HRD.out.w2).mono ?_
        rintro ee w4 ⟨rfl, hm⟩
        have hrw := hm.rw2 (lo := wc.heap.size) (Nat.le_refl _) (by omega) (by omega)
        rw [tableOf_sumT HRD.out.w1 HRD.out.w2] at hrw
        have hst := HFC.out.step hm.below (show k < ([sumT il d.toNat il2 d2.toNat, sumT jl e.toNat jl2 e2.toNat, sumT kl d.toNat kl2 d2.toNat] : List (List (List Int))).length from hlt) (by rw [HRD.out.out hlt]; exact hrw)
        have hr4 := HFC.out.row.of_block (hm.below.block _ HFC.out.row.lt)
        have g1 : w4.cell? ⟨gs, k, none⟩ = some (f k) := hr4.cell hlt
        have g2 : w4.frozen? ⟨gs, k, none⟩ = false := hr4.frozen k
        have HST := Lib.hid hst
        have HB4 := Lib.hid ((HBC.out.trans (hm.below.mono HBC.out.size)).setCell (p := ⟨gs, k, none⟩) hgR (.slice (some ⟨wc.heap.size, 0, none⟩) (t.length + t2.length) (t.length + t2.length)))
        clear hrw hst hr4 hm eA2 eA3 eB2 eB3 HA HBt HF HFC HBC HNC HB HNW
        go_wp2
        go_roundw
        case rel => first | exact ⟨k + 1, _, _, by omega, by go_num, HB4, HST⟩ | ((repeat apply Exists.intro); exact ⟨⟨k + 1, _, _, by omega, by go_num, HB4, HST⟩, rfl⟩)
        case measure => simp [intOf]; omega
    · have hlk : ¬ (k : Int) < 3 := by omega
      have HF3 : Hid (FillA wx gs 3 3 f b [sumT il d.toNat il2 d2.toNat, sumT jl e.toNat jl2 e2.toNat, sumT kl d.toNat kl2 d2.toNat]) := Lib.hid (by have h0 := HF.out; rwa [show k = 3 by omega] at h0)
      have x0 := HF3.out.row.cell (i := 0) (by omega)
      have x1 := HF3.out.row.cell (i := 1) (by omega)
      have x2 := HF3.out.row.cell (i := 2) (by omega)
      have r0 := HF3.out.at' 0 (by simp) (by omega)
      have r1 := HF3.out.at' 1 (by simp) (by omega)
      have r2 := HF3.out.at' 2 (by simp) (by omega)
      obtain ⟨zz0, yy0, hv0⟩ := r0.shape
      obtain ⟨zz1, yy1, hv1⟩ := r1.shape
      obtain ⟨zz2, yy2, hv2⟩ := r2.shape
      rw [hv0] at x0 r0
      rw [hv1] at x1 r1
      rw [hv2] at x2 r2
      have hi0 := HF3.out.inc 0 (by omega)
      have hi1 := HF3.out.inc 1 (by omega)
      have hi2 := HF3.out.inc 2 (by omega)
      have hlo := HF3.out.lo
      have hhi := HF3.out.hi
      have hrc := RcCp.of (lo := w1.heap.size) (hi := wx.heap.size) r0 r1 r2 (by omega) hi0 hi1 hi2 hhi
      have HRC := Lib.hid hrc
      have HNF := Lib.hid (HNX.out _ HB.out)
      obtain ⟨m0, hm0⟩ : ∃ m, m = (sumT il d.toNat il2 d2.toNat).length := ⟨_, rfl⟩
      obtain ⟨m1, hm1⟩ : ∃ m, m = (sumT jl e.toNat jl2 e2.toNat).length := ⟨_, rfl⟩
      obtain ⟨m2, hm2⟩ : ∃ m, m = (sumT kl d.toNat kl2 d2.toNat).length := ⟨_, rfl⟩
      have x0' : wx.cell? ⟨gs, 0, none⟩ = some (.slice zz0 m0 yy0) := by rw [hm0]; exact x0
      have x1' : wx.cell? ⟨gs, 1, none⟩ = some (.slice zz1 m1 yy1) := by rw [hm1]; exact x1
      have x2' : wx.cell? ⟨gs, 2, none⟩ = some (.slice zz2 m2 yy2) := by rw [hm2]; exact x2
      have HM0 := Lib.hid hm0
      have HM1 := Lib.hid hm1
      have HM3 := Lib.hid hm2
      clear hi0 hi1 hi2 hlo hhi hrc r0 r1 r2 x0 x1 x2 hv0 hv1 hv2 hm0 hm1 hm2 HF HF3
      have HR1 : ∃ x0 x1 x2 x3 x4 x5, wx.heap[w.heap.size + 2]? = some (.cells #[x0, x1, x2, x3, x4, x5] 71) := ⟨_, _, _, _, _, _, HNF.out.2.2⟩
      obtain ⟨x0, x1, x2, x3, x4, x5, hr⟩ := HR1
      have r0 : wx.rowIs (w.heap.size + 2) 71 6 (sel6 x0 x1 x2 x3 x4 x5) := rowIs6 hr
      have q0 : wx.cell? ⟨w.heap.size + 2, 0, none⟩ = some x0 := r0.cell (i := 0) (by omega)
      have z0 : wx.frozen? ⟨w.heap.size + 2, 0, none⟩ = false := r0.frozen 0
      have r1 := r0.set 0 (.int .i64 p)
      have q1 : (wx.setCell ⟨w.heap.size + 2, 0, none⟩ (.int .i64 p)).cell? ⟨w.heap.size + 2, 1, none⟩ = some x1 := r1.cell (i := 1) (by omega)
      have z1 : (wx.setCell ⟨w.heap.size + 2, 0, none⟩ (.int .i64 p)).frozen? ⟨w.heap.size + 2, 1, none⟩ = false := r1.frozen 1
      have r2 := r1.set 1 (.int .i64 (d + d2))
      have q2 : ((wx.setCell ⟨w.heap.size + 2, 0, none⟩ (.int .i64 p)).setCell ⟨w.heap.size + 2, 1, none⟩ (.int .i64 (d + d2))).cell? ⟨w.heap.size + 2, 2, none⟩ = some x2 := r2.cell (i := 2) (by omega)
      have z2 : ((wx.setCell ⟨w.heap.size + 2, 0, none⟩ (.int .i64 p)).setCell ⟨w.heap.size + 2, 1, none⟩ (.int .i64 (d + d2))).frozen? ⟨w.heap.size + 2, 2, none⟩ = false := r2.frozen 2
      have r3 := r2.set 2 (.int .i64 (e + e2))
      have q3 : (((wx.setCell ⟨w.heap.size + 2, 0, none⟩ (.int .i64 p)).setCell ⟨w.heap.size + 2, 1, none⟩ (.int .i64 (d + d2))).setCell ⟨w.heap.size + 2, 2, none⟩ (.int .i64 (e + e2))).cell? ⟨w.heap.size + 2, 3, none⟩ = some x3 := r3.cell (i := 3) (by omega)
      have z3 : (((wx.setCell ⟨w.heap.size + 2, 0, none⟩ (.int .i64 p)).setCell ⟨w.heap.size + 2, 1, none⟩ (.int .i64 (d + d2))).setCell ⟨w.heap.size + 2, 2, none⟩ (.int .i64 (e + e2))).frozen? ⟨w.heap.size + 2, 3, none⟩ = false := r3.frozen 3
      have r4 := r3.set 3 (.slice zz0 m0 yy0)
      have q4 : ((((wx.setCell ⟨w.heap.size + 2, 0, none⟩ (.int .i64 p)).setCell ⟨w.heap.size + 2, 1, none⟩ (.int .i64 (d + d2))).setCell ⟨w.heap.size + 2, 2, none⟩ (.int .i64 (e + e2))).setCell ⟨w.heap.size + 2, 3, none⟩ (.slice zz0 m0 yy0)).cell? ⟨w.heap.size + 2, 4, none⟩ = some x4 := r4.cell (i := 4) (by omega)
      have z4 : ((((wx.setCell ⟨w.heap.size + 2, 0, none⟩ (.int .i64 p)).setCell ⟨w.heap.size + 2, 1, none⟩ (.int .i64 (d + d2))).setCell ⟨w.heap.size + 2, 2, none⟩ (.int .i64 (e + e2))).setCell ⟨w.heap.size + 2, 3, none⟩ (.slice zz0 m0 yy0)).frozen? ⟨w.heap.size + 2, 4, none⟩ = false := r4.frozen 4
      have r5 := r4.set 4 (.slice zz1 m1 yy1)
      have q5 : (((((wx.setCell ⟨w.heap.size + 2, 0, none⟩ (.int .i64 p)).setCell ⟨w.heap.size + 2, 1, none⟩ (.int .i64 (d + d2))).setCell ⟨w.heap.size + 2, 2, none⟩ (.int .i64 (e + e2))).setCell ⟨w.heap.size + 2, 3, none⟩ (.slice zz0 m0 yy0)).setCell ⟨w.heap.size + 2, 4, none⟩ (.slice zz1 m1 yy1)).cell? ⟨w.heap.size + 2, 5, none⟩ = some x5 := r5.cell (i := 5) (by omega)
      have z5 : (((((wx.setCell ⟨w.heap.size + 2, 0, none⟩ (.int .i64 p)).setCell ⟨w.heap.size + 2, 1, none⟩ (.int .i64 (d + d2))).setCell ⟨w.heap.size + 2, 2, none⟩ (.int .i64 (e + e2))).setCell ⟨w.heap.size + 2, 3, none⟩ (.slice zz0 m0 yy0)).setCell ⟨w.heap.size + 2, 4, none⟩ (.slice zz1 m1 yy1)).frozen? ⟨w.heap.size + 2, 5, none⟩ = false := r5.frozen 5
      have r6 := r5.set 5 (.slice zz2 m2 yy2)
      obtain ⟨WF, hWF⟩ : ∃ W : World, W = ((((((wx.setCell ⟨w.heap.size + 2, 0, none⟩ (.int .i64 p)).setCell ⟨w.heap.size + 2, 1, none⟩ (.int .i64 (d + d2))).setCell ⟨w.heap.size + 2, 2, none⟩ (.int .i64 (e + e2))).setCell ⟨w.heap.size + 2, 3, none⟩ (.slice zz0 m0 yy0)).setCell ⟨w.heap.size + 2, 4, none⟩ (.slice zz1 m1 yy1)).setCell ⟨w.heap.size + 2, 5, none⟩ (.slice zz2 m2 yy2)) := ⟨_, rfl⟩
      have hbWF : ∀ B (w0 : World), B ≤ w.heap.size + 2 → Below B w0 wx → Below B w0 WF := fun B w0 hl hb => by rw [hWF]; exact ((((((hb.setCell (by show B ≤ w.heap.size + 2; exact hl) _).setCell (by show B ≤ w.heap.size + 2; exact hl) _).setCell (by show B ≤ w.heap.size + 2; exact hl) _).setCell (by show B ≤ w.heap.size + 2; exact hl) _).setCell (by show B ≤ w.heap.size + 2; exact hl) _).setCell (by show B ≤ w.heap.size + 2; exact hl) _)
      have hsWF : ∀ lo hi, w.heap.size + 2 < lo ∨ hi ≤ w.heap.size + 2 → Same lo hi wx WF := fun lo hi hl => by rw [hWF]; exact ((((((Same.set _ hl).trans (Same.set _ hl)).trans (Same.set _ hl)).trans (Same.set _ hl)).trans (Same.set _ hl)).trans (Same.set _ hl))
      have hzWF : WF.heap.size = wx.heap.size := by rw [hWF]; simp
      rw [← hWF] at r6
      have f0 : WF.cell? ⟨w.heap.size + 2, 0, none⟩ = some (.int .i64 p) := r6.cell (i := 0) (by omega)
      have f1 : WF.cell? ⟨w.heap.size + 2, 1, none⟩ = some (.int .i64 (d + d2)) := r6.cell (i := 1) (by omega)
      have f2 : WF.cell? ⟨w.heap.size + 2, 2, none⟩ = some (.int .i64 (e + e2)) := r6.cell (i := 2) (by omega)
      have f3 : WF.cell? ⟨w.heap.size + 2, 3, none⟩ = some (.slice zz0 m0 yy0) := r6.cell (i := 3) (by omega)
      have f4 : WF.cell? ⟨w.heap.size + 2, 4, none⟩ = some (.slice zz1 m1 yy1) := r6.cell (i := 4) (by omega)
      have f5 : WF.cell? ⟨w.heap.size + 2, 5, none⟩ = some (.slice zz2 m2 yy2) := r6.cell (i := 5) (by omega)
      have HWWF := Lib.hid hWF
      clear hr r0 r1 r2 r3 r4 r5 r6 hWF
      have HRF := Lib.hid ((HRC.out.same (hsWF _ _ (Or.inl (by omega)))).wider (show w.heap.size ≤ w1.heap.size by omega) (Nat.le_of_eq hzWF.symm))
      have HBF := Lib.hid (hbWF w.heap.size w (by omega) HNF.out.1.below)
      clear hsWF hbWF hzWF HRC
      go_wp2
      rw [← HWWF.out]
      refine bodyPost_ret (v := .tuple #[.agg #[.int .i64 p, .int .i64 (d + d2), .int .i64 (e + e2), .slice zz0 m0 yy0, .slice zz1 m1 yy1, .slice zz2 m2 yy2], .int .i64 0]) ?_ rfl ?_
      · simp only [results, HRES.out]
        go_simp
      · exact ⟨_, adOut p d e il jl kl p d2 e2 il2 jl2 kl2, 0, rfl, ⟨zz0, yy0, zz1, yy1, zz2, yy2, by rw [HM0.out, HM1.out, HM3.out]; rfl, HRF.out⟩, HBF.out, RsOut.of_yes HOK.out.code rfl⟩
end Go.Proofs.Ytpdkfidmmjlmnab


namespace Go.Proofs.Ytpdkfidmmjlmnab
open Go.RowKit

theorem run_append_zeros {base : Nat} (w : World) (ty : TypeId) (v : Value) (xs : List Int) (hown : Gb base w v xs) (kq : IntKind) (k : Nat) (h63 : xs.length + k ≤ 2097152) (hb : base ≤ w.heap.size) :
    ∃ v' w', (Builtin.append_ #[22, 2] ty #[v, .int kq (k : Int)]).run Try.prog w = .ok v' w' ∧ Gb base w' v' (xs ++ List.replicate k 0) ∧ w.grownBy w' v.ownBlock := by
  obtain ⟨i, hi, hz, hs, hbt⟩ := info_parts Try.infoI
  have ht := Try.underlying22
  have htn := Try.underlying2
  have hw : IntKind.i64.wrap (k : Int) = k := IntWalk.i64_in _ (by omega)
  have hneg : ¬ ((k : Int) < 0) := by omega
  have h48i : ¬ (281474976710656 < (k : Int) * 8) := by omega
  have hzc : (Builtin.zeroCells (Value.int .i64 0).cells k) = (List.replicate k (Value.int .i64 0)).toArray := by
    refine Array.ext (by simp [Builtin.zeroCells, Value.cells]) fun j h1 h2 => ?_
    simp [Builtin.zeroCells, Value.cells, Nat.mod_one]
  have hw0 : IntKind.i64.wrap 0 = 0 := by decide
  have hown' := hown
  obtain ⟨hl, h2⟩ := hown'
  by_cases hk : k = 0
  · subst hk
    refine ⟨v, w, ?_, by simpa using hown, ⟨rfl, rfl, rfl, Nat.le_refl _, fun _ _ _ => rfl⟩⟩
    rcases h2 with ⟨rfl, h0⟩ | ⟨g, cap, cur, rfl, hbg, hg, hnc, hcm, hcs, htake⟩
    · simp [Builtin.append_, run_underlying ht, run_underlying htn, sizeOf, typeInfo, hi, hbt, asInt, asIntOf, hw0, Builtin.firstCells]
    · simp [Builtin.append_, run_underlying ht, run_underlying htn, sizeOf, typeInfo, hi, hbt, asInt, asIntOf, hw0, hnc, storeCells]
  · rcases h2 with ⟨rfl, h0⟩ | ⟨g, cap, cur, rfl, hbg, hg, hnc, hcm, hcs, htake⟩
    · have hx : xs = [] := List.eq_nil_of_length_eq_zero h0
      subst hx
      have hr := Lib.run_append_nil_zeros (P := Try.prog) w 22 2 ty 2 i _ kq .i64 ht htn hi hz k (by omega) (by omega) (by omega) (by rw [hbt]; omega)
      refine ⟨_, _, hr, ⟨by simp, Or.inr ⟨w.heap.size, _, _, by simp, hb, heap_alloc_new w.drew _, ?_, grownCap_le_maxLen w k 0 2 (by unfold maxLen; simp at h63; omega), ?_, ?_⟩⟩, ⟨rfl, rfl, rfl, by simp, fun j hj _ => heap_alloc_old w.drew _ hj⟩⟩
      · have := grownCap_ge w k 0 2
        simp
        omega
      · have := grownCap_ge w k 0 2
        simp [Builtin.zeroCells, Value.cells]
        omega
      · rw [hzc]
        simp
    · by_cases hroom : xs.length + k ≤ cap
      · have hst := run_storeCells_at Try.prog g xs.length 2 (List.replicate k (Value.int .i64 0)) 0 cur w hg (by simp; omega) (fun u hu => by rw [(List.mem_replicate.1 hu).2]; rfl)
        simp only [Nat.add_zero] at hst
        refine ⟨.slice (some ⟨g, 0, none⟩) (xs.length + k) cap, w.setRow g (cur.toList.take xs.length ++ List.replicate k (Value.int .i64 0) ++ cur.toList.drop (xs.length + (List.replicate k (Value.int .i64 0)).length)).toArray, ?_, ⟨by simp, Or.inr ⟨g, cap, _, by simp, hbg, setRow_heap w g cur _ _ _ hg, by simpa using hroom, hcm, ?_, ?_⟩⟩, ⟨rfl, rfl, rfl, by simp, fun j _ hj => setRow_other w g j _ (fun e => hj (by simp [Value.ownBlock, e]))⟩⟩
        · have hcw : (xs.length : Int) + (k : Int) ≤ (cap : Int) := by omega
          simp [Builtin.append_, run_underlying ht, run_underlying htn, sizeOf, typeInfo, zeroValue, hi, hz, hs, hbt, asInt, asIntOf, hw, hneg, h48i, hroom, hk, hzc, Addr.add_lit, hst]
        · simp
          simp at hcs
          omega
        · simp only [Nat.mul_one] at htake ⊢
          rw [htake, List.map_append, List.map_replicate]
          exact List.take_left' (by simp)
      · have holds : ∀ j u, (xs.map (Value.int .i64))[j]? = some u → w.cell? ((⟨g, 0, none⟩ : Addr).add j) = some u := hown.cells (g := g) rfl
        have hfc := run_firstCells_some (P := Try.prog) w.drew i.size xs.length ⟨g, 0, none⟩ xs.length cap (xs.map (Value.int .i64)) (by simp [hs]) holds
        have hr := Lib.run_append_grow_zeros (P := Try.prog) w 22 2 ty 2 i _ kq .i64 ht htn hi hz (some ⟨g, 0, none⟩) xs.length cap (xs.map (Value.int .i64)) hfc k (by omega) (by omega) (by omega) (by omega) (by rw [hbt]; omega) (growslice_fits (by omega) (by rw [hbt]; omega))
        refine ⟨_, _, hr, ⟨by simp, Or.inr ⟨w.heap.size, _, _, by simp, hb, heap_alloc_new w.drew _, ?_, grownCap_le_maxLen w (xs.length + k) cap 2 (by unfold maxLen; omega), ?_, ?_⟩⟩, ⟨rfl, rfl, rfl, by simp, fun j hj _ => heap_alloc_old w.drew _ hj⟩⟩
        · have := grownCap_ge w (xs.length + k) cap 2
          simp
          omega
        · have := grownCap_ge w (xs.length + k) cap 2
          simp [Builtin.zeroCells, Value.cells]
          omega
        · rw [hzc]
          simp [List.take_append]
          exact List.take_of_length_le (by simp)
end Go.Proofs.Ytpdkfidmmjlmnab


namespace Go.Proofs.Ytpdkfidmmjlmnab
open Go.RowKit

theorem run_append_row {base : Nat} (w : World) (ty : TypeId) (v : Value) (xs : List Int) (hown : Gb base w v xs) (u : Value) (ys : List Int) (hy : L1 0 w u ys) (h63 : xs.length + ys.length ≤ 2097152) (hb : base ≤ w.heap.size) :
    ∃ v' w', (Builtin.append_ #[22, 22] ty #[v, u]).run Try.prog w = .ok v' w' ∧ Gb base w' v' (xs ++ ys) ∧ w.grownBy w' v.ownBlock := by
  obtain ⟨i, hi, hz, hs, hbt⟩ := info_parts Try.infoI
  rcases hy with ⟨rfl, ad, cap, rfl⟩ | ⟨b, o, cap, rfl, _, _, hc⟩
  · exact ⟨v, w, run_append_none' w _ _ _ i Try.underlying22 hi hown ad cap, by rw [List.append_nil]; exact hown, ⟨rfl, rfl, rfl, Nat.le_refl _, fun _ _ _ => rfl⟩⟩
  · obtain ⟨v', w', hr, h2, h3, _⟩ := run_append_own (P := Try.prog) w base 22 ty 2 i _ 1 8 Try.underlying22 hi hz hs hbt (by rfl) (by decide) v xs.length (xs.map (Value.int .i64)) hown ⟨b, o, none⟩ ys.length cap (ys.map (Value.int .i64)) (by simp)
      (fun j u hj => by
        have hj' : j < ys.length := by have := (List.getElem?_eq_some_iff.1 hj).1; simpa using this
        obtain ⟨u2, hu2, hr2⟩ := hc j hj'
        rw [Addr.add_mid, hu2, hr2]
        simp [hj'] at hj
        rw [← hj]) (fun u hu => by
        obtain ⟨y, _, rfl⟩ := List.mem_map.1 hu
        rfl) (by unfold maxLen; omega) (by omega) hb
    exact ⟨v', w', hr, by simpa [Gb] using h2, h3⟩
theorem sumT_take_a {a : List (List Int)} {l : Nat} {b : List (List Int)} {r k : Nat} (h : k < a.length) : (sumT a l b r).take (k + 1) = (sumT a l b r).take k ++ [a[k] ++ List.replicate r 0] := by
  rw [List.take_succ_eq_append_getElem (by rw [sumT_length]; omega)]
  congr 1
  unfold sumT
  rw [List.getElem_append_left (by simpa using h), List.getElem_map]
theorem sumT_take_b {a : List (List Int)} {l : Nat} {b : List (List Int)} {r k : Nat} (h : k < b.length) : (sumT a l b r).take (a.length + k + 1) = (sumT a l b r).take (a.length + k) ++ [List.replicate l 0 ++ b[k]] := by
  rw [List.take_succ_eq_append_getElem (by rw [sumT_length]; omega)]
  congr 1
  unfold sumT
  rw [List.getElem_append_right (by simp), List.getElem_map]
  simp
theorem madeI (w : World) (l : Nat) (hl : l ≤ 1048576) (base : Nat) (hb : base ≤ w.heap.size) : Gb base (w.alloc (.cells (madeCells #[.int .i64 0] l) 2)) (.slice (some ⟨w.heap.size, 0, none⟩) l l) (List.replicate l 0) := by
  have h := gb_row (base := base) (W := w.alloc (.cells (madeCells #[.int .i64 0] l) 2)) (xs := List.replicate l 0) (World.rowIs_made w (.int .i64 0) l 2) (by simp) (fun i hi => by simp) (by unfold maxLen; omega) hb
  exact h

set_option maxHeartbeats 6400000 in
set_option maxRecDepth 100000 in
theorem l05Blocks_any (va vb : Value) (a b : List (List Int)) (l r : Nat) (w : World) (hva : L2 0 w va a) (hvb : L2 0 w vb b) (hal : a.length ≤ 524288) (hbl : b.length ≤ 524288) (hl : l ≤ 524288) (hr : r ≤ 524288) (ha : ∀ x ∈ a, x.length = l) (hb : ∀ x ∈ b, x.length = r) :
    Calls Try.prog 138 #[va, .int .i64 (l : Int), vb, .int .i64 (r : Int)] w (GsR (sumT a l b r) w) := by
  obtain ⟨aa, ca, rfl⟩ := Sl.shape hva
  obtain ⟨ab, cb, rfl⟩ := Sl.shape hvb
  have HVA := Lib.hid (fun W (h : Below w.heap.size w W) => hva.below h)
  have HVB := Lib.hid (fun W (h : Below w.heap.size w W) => hvb.below h)
  have HA := Lib.hid ha
  have HB := Lib.hid hb
  have HT0 := Lib.hid (Gs.new (base := w.heap.size) w (Nat.le_refl _))
  clear hva hvb ha hb
  go_enter Try.func138, Try.ntmps138
  go_wp2
  go_loopw [9, 10] (fun ov i wr => ∃ (k : Nat), k ≤ a.length ∧ i = .int .i64 k ∧ Hid (Below w.heap.size w wr) ∧ Hid (Gs w.heap.size wr ov ((sumT a l b r).take k))) (fun _ i _ => a.length - (intOf i).toNat)
  case atStart => exact ⟨0, Nat.zero_le _, rfl, Lib.hid (below_alloc1 _ _), Lib.hid (by rw [List.take_zero]; exact HT0.out)⟩
  case round =>
    clear HT0
    obtain ⟨k, hk, rfl, HBE, HG⟩ := hrel
    obtain ⟨wx, hwx⟩ : ∃ wx : World, wx = wr := ⟨_, rfl⟩
    subst hwx
    have hsx : w.heap.size ≤ wx.heap.size := HBE.out.size
    have hgl : ((sumT a l b r).take k).length = k := by rw [List.length_take, sumT_length]; omega
    obtain ⟨ao, co, hov⟩ := Sl.shape HG.out.l2
    rw [hgl] at hov
    subst hov
    have HGN := Lib.hid hgl
    clear hgl
    by_cases hlt : k < a.length
    · have hlk : (k : Int) < (a.length : Int) := by omega
      refine Sl.cases (HVA.out _ HBE.out) (fun _ _ hx _ => absurd hlt (by simp [hx])) (fun bk ok c2' hvv _ _ hcl => ?_)
      injection hvv with e1 e2 e3
      clear e2
      subst e1 e3
      obtain ⟨ur, hur, hrr⟩ := hcl k hlt
      obtain ⟨y, hy⟩ : ∃ y, y = a[k] := ⟨_, rfl⟩
      rw [← hy] at hrr
      have hyl : y.length = l := by rw [hy]; exact HA.out _ (List.getElem_mem hlt)
      have HYL := Lib.hid hyl
      have HTK : Hid ((sumT a l b r).take (k + 1) = (sumT a l b r).take k ++ [y ++ List.replicate r 0]) := Lib.hid (by rw [hy]; exact sumT_take_a hlt)
      obtain ⟨ar, cr, hus⟩ := Sl.shape hrr
      rw [hyl] at hus
      have HOW := Lib.hid (l01Own_any ur y wx hrr (by omega))
      subst hus
      clear hcl hrr hy hyl
      go_wp2_with fail
      refine HOW.out.mono ?_
      rintro ee w2 ⟨u2, rfl, hg2, hb2⟩
      obtain ⟨v3, w3, hrun, hg3, hgr3⟩ := run_append_zeros w2 22 u2 y hg2 .i64 r (by have := HYL.out; omega) hb2.size
      have hb3 : Below wx.heap.size wx w3 := hb2.grown hgr3 hb2.size (fun g hg => (hg2.lt g hg).1)
      have hrun2 : ∀ ty, (Builtin.append_ #[22, 2] ty #[u2, .int .i64 (r : Int)]).run Try.prog w2 = .ok v3 w3 := fun ty => hrun
      have HRUN := Lib.hid hrun2
      obtain ⟨a3, n3, c3, hv3⟩ : ∃ a n c, v3 = .slice a n c := by obtain ⟨a', c', ee⟩ := Sl.shape hg3.g1.l1; exact ⟨a', _, c', ee⟩
      subst hv3
      have hs3 : wx.heap.size ≤ w3.heap.size := hb3.size
      have hba : Below w3.heap.size w3 (w3.alloc (.cells #[.slice a3 n3 c3] 22)) := below_alloc1 _ _
      have HSL := Lib.hid ((HG.out.below hb3).below hba)
      have HGU := Lib.hid (hg3.g1.below hba)
      have HBZ := Lib.hid ((HBE.out.trans (hb3.mono hsx)).trans (hba.mono (by omega)))
      have hcell := cell_alloc1 w3 (.slice a3 n3 c3) 22
      clear hb2 hg2 hba hur HOW hb3 hg3 hrun hrun2 hgr3 HG HBE
      have hc1 : ((sumT a l b r).take k).length ≤ 2097151 := by rw [HGN.out]; omega
      have hc2 : w.heap.size ≤ (w3.alloc (.cells #[.slice a3 n3 c3] 22)).heap.size := by simp; omega
      have HC1 := Lib.hid hc1
      have HC2 := Lib.hid hc2
      clear hc1 hc2
      go_wp2_with (first | (at_builtin; refine Lib.wpList_append_run _ rfl _ _ _ _ rfl _ _ rfl rfl _ _ (HRUN.out _) ?_) | (at_builtin; refine wpList_appendG rfl (some 28) rfl (.tmp 19) (.tmp 27) rfl w.heap.size _ ((sumT a l b r).take k) rfl HSL.out w3.heap.size rfl a3 n3 c3 hcell _ HGU.out HC1.out HC2.out ?_))
      clear HRUN
      intro v7 W7 hg7 hgr7
      have HS7 : Hid (Gs w.heap.size W7 v7 ((sumT a l b r).take (k + 1))) := Lib.hid (by rw [HTK.out]; exact hg7)
      have HB7 : Hid (Below w.heap.size w W7) := Lib.hid (HBZ.out.grown hgr7 (by simp; omega) (fun g hg => (HSL.out.lt g hg).1))
      clear hg7 hgr7 hcell
      go_wp2
      go_roundw
      case rel => first | exact ⟨k + 1, by omega, by go_num, HB7, HS7⟩ | ((repeat apply Exists.intro); exact ⟨⟨k + 1, by omega, by go_num, HB7, HS7⟩, rfl⟩)
      case measure => simp [intOf]; omega
    · have hlk : ¬ (k : Int) < (a.length : Int) := by omega
      have HKE : Hid (k = a.length) := Lib.hid (by omega)
      obtain ⟨wo, hwo⟩ : ∃ wo : World, wo = wx := ⟨_, rfl⟩
      subst hwo
      have HG1 : Hid (Gs w.heap.size wo (.slice ao k co) ((sumT a l b r).take (a.length + 0))) := Lib.hid (by have h0 := HG.out; rw [Nat.add_zero, ← HKE.out]; exact h0)
      have HB1 := HBE
      clear HG HBE HGN
      go_wp2
      go_loopw [9, 11] (fun ov i wr => ∃ (k : Nat), k ≤ b.length ∧ i = .int .i64 k ∧ Hid (Below w.heap.size w wr) ∧ Hid (Gs w.heap.size wr ov ((sumT a l b r).take (a.length + k)))) (fun _ i _ => b.length - (intOf i).toNat)
      case atStart => exact ⟨0, Nat.zero_le _, rfl, HB1, HG1⟩
      case round =>
        clear HG1 HB1
        obtain ⟨k2, hk2, rfl, HBE, HG⟩ := hrel
        obtain ⟨wy, hwy⟩ : ∃ wy : World, wy = wr := ⟨_, rfl⟩
        subst hwy
        have hsy : w.heap.size ≤ wy.heap.size := HBE.out.size
        have hgl : ((sumT a l b r).take (a.length + k2)).length = a.length + k2 := by rw [List.length_take, sumT_length]; omega
        obtain ⟨ao2, co2, hov⟩ := Sl.shape HG.out.l2
        rw [hgl] at hov
        obtain ⟨m, hm⟩ : ∃ m, m = a.length + k2 := ⟨_, rfl⟩
        rw [← hm] at hov hgl
        subst hov
        have HGN := Lib.hid hgl
        have HME := Lib.hid hm
        rw [← hm] at HG
        clear hgl hm
        by_cases hlt2 : k2 < b.length
        · have hlk2 : (k2 : Int) < (b.length : Int) := by omega
          refine Sl.cases (HVB.out _ (Below.refl _ _)) (fun _ _ hx _ => absurd hlt2 (by simp [hx])) (fun bk ok c2' hvv _ _ hcl => ?_)
          injection hvv with e1 e2 e3
          clear e2
          subst e1 e3
          obtain ⟨ur, hur, hrr⟩ := hcl k2 hlt2
          obtain ⟨y, hy⟩ : ∃ y, y = b[k2] := ⟨_, rfl⟩
          rw [← hy] at hrr
          have hyl : y.length = r := by rw [hy]; exact HB.out _ (List.getElem_mem hlt2)
          have HYL := Lib.hid hyl
          have HTK : Hid ((sumT a l b r).take (m + 1) = (sumT a l b r).take m ++ [List.replicate l 0 ++ y]) := Lib.hid (by rw [hy, HME.out]; exact sumT_take_b hlt2)
          have HRR := Lib.hid hrr
          have HUR : Hid (∀ W, Below w.heap.size w W → W.cell? ⟨bk, ok + k2, none⟩ = some ur) := Lib.hid (fun W h => later h (Nat.le_refl _) hur)
          obtain ⟨ar, cr, hus⟩ := Sl.shape hrr
          have hmk2 := run_make_row' (P := Try.prog) 22 2 (.int .i64 0) 8 Try.underlying22 Try.infoI rfl .i64 .i64 l (by omega) (by omega)
          have HMK := Lib.hid hmk2
          subst hus
          clear hcl hur hrr hy hyl hmk2
          go_wp2
          refine wp_region_held (S := fun W => Below w.heap.size w W) (by kernel_rfl) ?_
          have S0 : Below w.heap.size w wy.drew := HBE.out.drew
          have HGD := Lib.hid (HG.out.below (Below.refl wy.heap.size wy).drew)
          have hsd : w.heap.size ≤ wy.drew.heap.size := hsy
          change wpAnyH _ _ _ _ _ _ _ _ wy.drew
          clear HG HBE
          generalize wy.drew = wd at *
          refine held_take (i := 0) (v := .slice ao2 m co2) (some 35) rfl rfl (by kernel_rfl) (by kernel_rfl) (by kernel_rfl) (fun _ _ _ h => h) (yieldsIf_move (by kernel_rfl) rfl (by kernel_rfl)) S0 ?_
          refine held_take (i := 1) (v := .int .i64 (l : Int)) (some 36) rfl rfl (by kernel_rfl) (by kernel_rfl) (by kernel_rfl) (fun _ _ _ h => h) (yieldsIf_move (by kernel_rfl) rfl (by kernel_rfl)) S0 ?_
          refine held_take (i := 3) (v := .slice (some ⟨bk, ok, none⟩) b.length cb) (some 38) rfl rfl (by kernel_rfl) (by kernel_rfl) (by kernel_rfl) (fun _ _ _ h => h) (yieldsIf_move (by kernel_rfl) rfl (by kernel_rfl)) S0 ?_
          refine held_take (i := 4) (v := .int .i64 (k2 : Int)) (some 39) rfl rfl (by kernel_rfl) (by kernel_rfl) (by kernel_rfl) (fun _ _ _ h => h) (yieldsIf_move (by kernel_rfl) rfl (by kernel_rfl)) S0 ?_
          refine held_take (i := 5) (v := .pointer (some ⟨bk, ok + k2, none⟩)) (some 40) rfl rfl (by kernel_rfl) (by kernel_rfl) (by kernel_rfl) (fun _ _ _ h => h) (yieldsIf_index (by kernel_rfl) rfl (by kernel_rfl) (by kernel_rfl) (hidxS bk ok cb hlt2)) S0 ?_
          refine held_take (i := 6) (v := .slice ar y.length cr) (some 41) rfl rfl (by kernel_rfl) (by kernel_rfl) (by kernel_rfl) (fun _ _ _ h => h) (yieldsIf_cell (by kernel_rfl) rfl (by kernel_rfl) (fun W h => hloadS W (HUR.out W h))) S0 ?_
          obtain ⟨we, hwe⟩ : ∃ we, we = wd.alloc (.cells (madeCells #[.int .i64 0] l) 2) := ⟨_, rfl⟩
          have hbe : Below wd.heap.size wd we := by rw [hwe]; exact below_alloc1 _ _
          have hge : Gb wd.heap.size we (.slice (some ⟨wd.heap.size, 0, none⟩) l l) (List.replicate l 0) := by rw [hwe]; exact madeI wd l (by omega) _ (Nat.le_refl _)
          have S1 : Below w.heap.size w we := S0.trans (hbe.mono hsd)
          refine held_mem (i := 2) (v := .slice (some ⟨wd.heap.size, 0, none⟩) l l) (w' := we) (some 37) (by kernel_rfl) rfl rfl rfl (by rw [hwe]; have := HMK.out; go_simp) S1 ?_
          obtain ⟨v3, w3, hrun, hg3, hgr3⟩ := run_append_row we 22 _ _ hge (.slice ar y.length cr) y (HRR.out.below S1) (by have := HYL.out; simp; omega) hbe.size
          have hb3 : Below wd.heap.size wd w3 := hbe.grown hgr3 hbe.size (fun g hg => (hge.lt g hg).1)
          have S2 : Below w.heap.size w w3 := S0.trans (hb3.mono hsd)
          refine held_call (i := 7) (by kernel_rfl) rfl rfl ?_
          refine Lib.wp_append_run _ (.tmp 37) (.tmp 41) _ _ rfl _ _ (by kernel_rfl) (by kernel_rfl) _ _ hrun ?_
          refine ⟨S2, ?_⟩
          obtain ⟨a3, n3, c3, hv3⟩ : ∃ a n c, v3 = .slice a n c := by obtain ⟨a', c', ee⟩ := Sl.shape hg3.g1.l1; exact ⟨a', _, c', ee⟩
          subst hv3
          have hba : Below w3.heap.size w3 (w3.alloc (.cells #[.slice a3 n3 c3] 22)) := below_alloc1 _ _
          have S4 : Below w.heap.size w (w3.alloc (.cells #[.slice a3 n3 c3] 22)) := S2.trans (hba.mono S2.size)
          refine held_buildS (i := 8) (some 43) (by kernel_rfl) rfl rfl rfl (.tmp 42) a3 n3 c3 rfl (by kernel_rfl) ⟨S4, ?_⟩
          refine held_appendG (i := 9) (some 44) (by kernel_rfl) rfl rfl rfl (.tmp 35) (.tmp 43) rfl w.heap.size (.slice ao2 m co2) _ (by kernel_rfl) ((HGD.out.below hb3).below hba) w3.heap.size a3 n3 c3 (by kernel_rfl) (cell_alloc1 w3 _ _) (List.replicate l 0 ++ y) (hg3.g1.below hba) (by rw [HGN.out]; have := HME.out; omega) S4.size ?_
          intro v7 W7 hg7 hb7
          have S5 : Below w.heap.size w W7 := S4.trans hb7
          have HG7 : Hid (Gs w.heap.size W7 v7 ((sumT a l b r).take (a.length + (k2 + 1)))) := Lib.hid (by rw [show a.length + (k2 + 1) = m + 1 by have := HME.out; omega, HTK.out]; exact hg7)
          have HB7 := Lib.hid S5
          refine ⟨S5, ?_⟩
          refine held_take (i := 10) (v := v7) (some 9) rfl rfl (by kernel_rfl) (by kernel_rfl) (by kernel_rfl) (fun _ _ _ h => h) (yieldsIf_assign (by kernel_rfl) rfl (by kernel_rfl)) S5 ?_
          refine wpAnyH_done (by kernel_rfl) ?_ _
          simp only [Act.put, List.setIfInBounds_toArray, List.set_cons_zero, List.set_cons_succ]
          clear S0 S1 S2 S4 S5 hwe hbe hge hrun hg3 hgr3 hb3 hba hg7 hb7 hsd HMK
          go_wp2
          go_roundw
          case rel => exact ⟨k2 + 1, by omega, by go_num, HB7, HG7⟩
          case measure => simp [intOf]; omega
        · have hlk2 : ¬ (k2 : Int) < (b.length : Int) := by omega
          have HGF : Hid (Gs w.heap.size wy (.slice ao2 m co2) (sumT a l b r)) := Lib.hid (by
            have h0 := HG.out
            rwa [List.take_of_length_le (by rw [sumT_length]; have := HME.out; omega)] at h0)
          clear HG
          go_wp2
          go_ret
          exact ⟨_, rfl, HGF.out, HBE.out⟩
end Go.Proofs.Ytpdkfidmmjlmnab


namespace Go.Proofs.Ytpdkfidmmjlmnab
open Go.RowKit
theorem haddI {a b s : Int} (h : IntKind.i64.wrap (a + b) = s) (w : World) : (binOp .add 2 (.int .i64 a) (.int .i64 b)).run Try.prog w = .ok (.int .i64 s) w := by go_simp
theorem Try.infoC6 (a b c d e f : Value) : (Try.prog.info? 71).map (·.size) = some (#[a, b, c, d, e, f] : Array Value).size := by kernel_rfl

theorem owns_offRow {w : World} {base n g : Nat} {e t : TypeId} {u : Value} {xs : List Value} {cs : Array Value} {fr : Nat × Nat} (ho : w.ownsRow base e 1 u n xs) (hg : w.heap[g]? = some (.cells cs t fr)) (h : t ≠ e) (x : Array Value) : (w.setRow g x).ownsRow base e 1 u n xs := by
  refine ⟨ho.1, ?_⟩
  rcases ho.2 with h2 | ⟨g2, cap, cur, hu, hb, hh, r⟩
  · exact Or.inl h2
  · refine Or.inr ⟨g2, cap, cur, hu, hb, ?_, r⟩
    rw [setRow_other w g g2 x (fun e2 => by
      subst e2
      rw [hg] at hh
      simp at hh
      exact h hh.2.1)]
    exact hh
theorem Gs.offRow {base g : Nat} {w : World} {u : Value} {xs : List (List Int)} {t : TypeId} {cs : Array Value} (h : Gs base w u xs) (hg : Rz w g t cs) (ht : t ≠ 2 ∧ t ≠ 22) (x : Array Value) : Gs base (w.setRow g x) u xs := by
  obtain ⟨vs, ho, h1⟩ := h
  exact ⟨vs, owns_offRow ho hg ht.2 x, fun k a b => owns_offRow (h1 k a b) hg ht.1 x⟩

set_option maxHeartbeats 12800000 in
set_option maxRecDepth 100000 in
theorem spAddCouples_any (p d e p2 d2 e2 : Int) (iv jv kv iv2 jv2 kv2 : Value) (il jl kl il2 jl2 kl2 : List (List Int)) (w : World) (h : Cp 0 w iv jv kv il jl kl) (h2 : Cp 0 w iv2 jv2 kv2 il2 jl2 kl2) (hm : CpB 1048576 il jl kl) (hm2 : CpB 1048576 il2 jl2 kl2) :
    Calls Try.prog 73 #[.agg #[.int .i64 p, .int .i64 d, .int .i64 e, iv, jv, kv], .agg #[.int .i64 p2, .int .i64 d2, .int .i64 e2, iv2, jv2, kv2]] w (AnsS (GwCp 0) (fun o => o = adOut p d e il jl kl p2 d2 e2 il2 jl2 kl2) (0, 0, 0, [], [], []) (adCode p d e il jl kl p2 d2 e2 il2 jl2 kl2) w) := by
  have hres : Try.f73.results = #[.cell 4 71, .tmp 5] := by kernel_rfl
  have HRES := Lib.hid hres
  have HM := Lib.hid hm
  have HM2 := Lib.hid hm2
  obtain ⟨wa, hwa⟩ : ∃ wa, wa = (w.alloc (.cells #[.int .i64 p, .int .i64 d, .int .i64 e, iv, jv, kv] 71)).alloc (.cells #[.int .i64 p2, .int .i64 d2, .int .i64 e2, iv2, jv2, kv2] 71) := ⟨_, rfl⟩
  obtain ⟨w1, hw1⟩ : ∃ w1, w1 = wa.alloc (.cells #[.int .i64 0, .int .i64 0, .int .i64 0, .slice none 0 0, .slice none 0 0, .slice none 0 0] 71) := ⟨_, rfl⟩
  have hsa : wa.heap.size = w.heap.size + 2 := by rw [hwa]; simp
  have hs1 : w.heap.size + 3 ≤ w1.heap.size := by rw [hw1]; simp [hsa]
  have hlt0 : w.heap.size < w1.heap.size := by omega
  have hlt1 : w.heap.size + 1 < w1.heap.size := by omega
  have hlt2 : w.heap.size + 2 < w1.heap.size := by omega
  have HX : Hid (BxCp w w1 w.heap.size p d e iv jv kv il jl kl) := Lib.hid (by rw [hw1]; exact (show BxCp w wa w.heap.size p d e iv jv kv il jl kl by rw [hwa]; exact (bxCp_two 71 h h2).1).next (below_alloc1 _ _))
  have HY : Hid (BxCp w w1 (w.heap.size + 1) p2 d2 e2 iv2 jv2 kv2 il2 jl2 kl2) := Lib.hid (by rw [hw1]; exact (show BxCp w wa (w.heap.size + 1) p2 d2 e2 iv2 jv2 kv2 il2 jl2 kl2 by rw [hwa]; exact (bxCp_two 71 h h2).2).next (below_alloc1 _ _))
  have HR0 : Hid (Rz w1 (w.heap.size + 2) 71 #[.int .i64 0, .int .i64 0, .int .i64 0, .slice none 0 0, .slice none 0 0, .slice none 0 0]) := Lib.hid (by rw [hw1, ← hsa]; exact Rz.new _ _ _)
  obtain ⟨⟨ai, ci, rfl⟩, ⟨aj, cj, rfl⟩, ⟨ak, ck, rfl⟩⟩ := HX.out.cx.shapes
  obtain ⟨⟨ai2, ci2, rfl⟩, ⟨aj2, cj2, rfl⟩, ⟨ak2, ck2, rfl⟩⟩ := HY.out.cx.shapes
  have HNX : Hid (∀ W, Below w1.heap.size w1 W → BxCp w W w.heap.size p d e (.slice ai il.length ci) (.slice aj jl.length cj) (.slice ak kl.length ck) il jl kl ∧ BxCp w W (w.heap.size + 1) p2 d2 e2 (.slice ai2 il2.length ci2) (.slice aj2 jl2.length cj2) (.slice ak2 kl2.length ck2) il2 jl2 kl2 ∧ Rz W (w.heap.size + 2) 71 #[.int .i64 0, .int .i64 0, .int .i64 0, .slice none 0 0, .slice none 0 0, .slice none 0 0]) := Lib.hid (fun W hb => ⟨HX.out.next hb, HY.out.next hb, HR0.out.next hb⟩)
  have HB0 : Hid (Below w1.heap.size w1 w1) := Lib.hid (Below.refl _ _)
  have HBW : Hid (Below w.heap.size w w1) := Lib.hid (HNX.out _ HB0.out).1.below
  have HCX := Lib.hid (And.intro h h2)
  clear h h2 hm hm2 hres
  have c0 := HX.out.c0
  have c1 := HX.out.c1
  have c2 := HX.out.c2
  have c3 := HX.out.c3
  have c4 := HX.out.c4
  have c5 := HX.out.c5
  have yc0 := HY.out.c0
  have yc1 := HY.out.c1
  have yc2 := HY.out.c2
  have yc3 := HY.out.c3
  have yc4 := HY.out.c4
  have yc5 := HY.out.c5
  clear HX HY HR0
  go_enter Try.func73, Try.ntmps73
  go_upto_region 1 with fail
  rw [← hwa, ← hw1]
  clear hwa hw1 hsa
  by_cases hc : ¬ IsCp p d e il jl kl
  · have HC := Lib.hid hc
    have HCODE : Hid (adCode p d e il jl kl p2 d2 e2 il2 jl2 kl2 = 1) := Lib.hid (by unfold adCode; rw [if_pos (fun k => hc k.1)])
    clear hc
    go_wp2_with fail
    refine (l05Is_any p d e _ _ _ il jl kl _ (HNX.out _ HB0.out).1.cx HM.out).mono ?_
    rintro ee wA ⟨b, rfl, hb, hbb⟩
    obtain rfl : b = false := bb_no hbb HC.out
    clear hbb
    have HBA := Lib.hid (HB0.out.trans (hb.mono HB0.out.size))
    clear c0 c1 c2 c3 c4 c5 yc0 yc1 yc2 yc3 yc4 yc5
    clear hb
    have c0 := (HNX.out _ HBA.out).1.c0
    have c1 := (HNX.out _ HBA.out).1.c1
    have c2 := (HNX.out _ HBA.out).1.c2
    have c3 := (HNX.out _ HBA.out).1.c3
    have c4 := (HNX.out _ HBA.out).1.c4
    have c5 := (HNX.out _ HBA.out).1.c5
    have yc0 := (HNX.out _ HBA.out).2.1.c0
    have yc1 := (HNX.out _ HBA.out).2.1.c1
    have yc2 := (HNX.out _ HBA.out).2.1.c2
    have yc3 := (HNX.out _ HBA.out).2.1.c3
    have yc4 := (HNX.out _ HBA.out).2.1.c4
    have yc5 := (HNX.out _ HBA.out).2.1.c5
    have HR1 : ∃ x0 x1 x2 x3 x4 x5, wA.heap[w.heap.size + 2]? = some (.cells #[x0, x1, x2, x3, x4, x5] 71) := ⟨_, _, _, _, _, _, (HNX.out _ HBA.out).2.2⟩
    obtain ⟨x0, x1, x2, x3, x4, x5, hr⟩ := HR1
    have r0 : wA.rowIs (w.heap.size + 2) 71 6 (sel6 x0 x1 x2 x3 x4 x5) := rowIs6 hr
    have q0 : wA.cell? ⟨w.heap.size + 2, 0, none⟩ = some x0 := r0.cell (i := 0) (by omega)
    have z0 : wA.frozen? ⟨w.heap.size + 2, 0, none⟩ = false := r0.frozen 0
    have r1 := r0.set 0 (.int .i64 0)
    have q1 : (wA.setCell ⟨w.heap.size + 2, 0, none⟩ (.int .i64 0)).cell? ⟨w.heap.size + 2, 1, none⟩ = some x1 := r1.cell (i := 1) (by omega)
    have z1 : (wA.setCell ⟨w.heap.size + 2, 0, none⟩ (.int .i64 0)).frozen? ⟨w.heap.size + 2, 1, none⟩ = false := r1.frozen 1
    have r2 := r1.set 1 (.int .i64 0)
    have q2 : ((wA.setCell ⟨w.heap.size + 2, 0, none⟩ (.int .i64 0)).setCell ⟨w.heap.size + 2, 1, none⟩ (.int .i64 0)).cell? ⟨w.heap.size + 2, 2, none⟩ = some x2 := r2.cell (i := 2) (by omega)
    have z2 : ((wA.setCell ⟨w.heap.size + 2, 0, none⟩ (.int .i64 0)).setCell ⟨w.heap.size + 2, 1, none⟩ (.int .i64 0)).frozen? ⟨w.heap.size + 2, 2, none⟩ = false := r2.frozen 2
    have r3 := r2.set 2 (.int .i64 0)
    have q3 : (((wA.setCell ⟨w.heap.size + 2, 0, none⟩ (.int .i64 0)).setCell ⟨w.heap.size + 2, 1, none⟩ (.int .i64 0)).setCell ⟨w.heap.size + 2, 2, none⟩ (.int .i64 0)).cell? ⟨w.heap.size + 2, 3, none⟩ = some x3 := r3.cell (i := 3) (by omega)
    have z3 : (((wA.setCell ⟨w.heap.size + 2, 0, none⟩ (.int .i64 0)).setCell ⟨w.heap.size + 2, 1, none⟩ (.int .i64 0)).setCell ⟨w.heap.size + 2, 2, none⟩ (.int .i64 0)).frozen? ⟨w.heap.size + 2, 3, none⟩ = false := r3.frozen 3
    have r4 := r3.set 3 (.slice none 0 0)
    have q4 : ((((wA.setCell ⟨w.heap.size + 2, 0, none⟩ (.int .i64 0)).setCell ⟨w.heap.size + 2, 1, none⟩ (.int .i64 0)).setCell ⟨w.heap.size + 2, 2, none⟩ (.int .i64 0)).setCell ⟨w.heap.size + 2, 3, none⟩ (.slice none 0 0)).cell? ⟨w.heap.size + 2, 4, none⟩ = some x4 := r4.cell (i := 4) (by omega)
    have z4 : ((((wA.setCell ⟨w.heap.size + 2, 0, none⟩ (.int .i64 0)).setCell ⟨w.heap.size + 2, 1, none⟩ (.int .i64 0)).setCell ⟨w.heap.size + 2, 2, none⟩ (.int .i64 0)).setCell ⟨w.heap.size + 2, 3, none⟩ (.slice none 0 0)).frozen? ⟨w.heap.size + 2, 4, none⟩ = false := r4.frozen 4
    have r5 := r4.set 4 (.slice none 0 0)
    have q5 : (((((wA.setCell ⟨w.heap.size + 2, 0, none⟩ (.int .i64 0)).setCell ⟨w.heap.size + 2, 1, none⟩ (.int .i64 0)).setCell ⟨w.heap.size + 2, 2, none⟩ (.int .i64 0)).setCell ⟨w.heap.size + 2, 3, none⟩ (.slice none 0 0)).setCell ⟨w.heap.size + 2, 4, none⟩ (.slice none 0 0)).cell? ⟨w.heap.size + 2, 5, none⟩ = some x5 := r5.cell (i := 5) (by omega)
    have z5 : (((((wA.setCell ⟨w.heap.size + 2, 0, none⟩ (.int .i64 0)).setCell ⟨w.heap.size + 2, 1, none⟩ (.int .i64 0)).setCell ⟨w.heap.size + 2, 2, none⟩ (.int .i64 0)).setCell ⟨w.heap.size + 2, 3, none⟩ (.slice none 0 0)).setCell ⟨w.heap.size + 2, 4, none⟩ (.slice none 0 0)).frozen? ⟨w.heap.size + 2, 5, none⟩ = false := r5.frozen 5
    have r6 := r5.set 5 (.slice none 0 0)
    obtain ⟨WF, hWF⟩ : ∃ W : World, W = ((((((wA.setCell ⟨w.heap.size + 2, 0, none⟩ (.int .i64 0)).setCell ⟨w.heap.size + 2, 1, none⟩ (.int .i64 0)).setCell ⟨w.heap.size + 2, 2, none⟩ (.int .i64 0)).setCell ⟨w.heap.size + 2, 3, none⟩ (.slice none 0 0)).setCell ⟨w.heap.size + 2, 4, none⟩ (.slice none 0 0)).setCell ⟨w.heap.size + 2, 5, none⟩ (.slice none 0 0)) := ⟨_, rfl⟩
    have hbWF : ∀ B (w0 : World), B ≤ w.heap.size + 2 → Below B w0 wA → Below B w0 WF := fun B w0 hl hb => by rw [hWF]; exact ((((((hb.setCell (by show B ≤ w.heap.size + 2; exact hl) _).setCell (by show B ≤ w.heap.size + 2; exact hl) _).setCell (by show B ≤ w.heap.size + 2; exact hl) _).setCell (by show B ≤ w.heap.size + 2; exact hl) _).setCell (by show B ≤ w.heap.size + 2; exact hl) _).setCell (by show B ≤ w.heap.size + 2; exact hl) _)
    have hsWF : ∀ lo hi, w.heap.size + 2 < lo ∨ hi ≤ w.heap.size + 2 → Same lo hi wA WF := fun lo hi hl => by rw [hWF]; exact ((((((Same.set _ hl).trans (Same.set _ hl)).trans (Same.set _ hl)).trans (Same.set _ hl)).trans (Same.set _ hl)).trans (Same.set _ hl))
    have hzWF : WF.heap.size = wA.heap.size := by rw [hWF]; simp
    rw [← hWF] at r6
    have f0 : WF.cell? ⟨w.heap.size + 2, 0, none⟩ = some (.int .i64 0) := r6.cell (i := 0) (by omega)
    have f1 : WF.cell? ⟨w.heap.size + 2, 1, none⟩ = some (.int .i64 0) := r6.cell (i := 1) (by omega)
    have f2 : WF.cell? ⟨w.heap.size + 2, 2, none⟩ = some (.int .i64 0) := r6.cell (i := 2) (by omega)
    have f3 : WF.cell? ⟨w.heap.size + 2, 3, none⟩ = some (.slice none 0 0) := r6.cell (i := 3) (by omega)
    have f4 : WF.cell? ⟨w.heap.size + 2, 4, none⟩ = some (.slice none 0 0) := r6.cell (i := 4) (by omega)
    have f5 : WF.cell? ⟨w.heap.size + 2, 5, none⟩ = some (.slice none 0 0) := r6.cell (i := 5) (by omega)
    have HWWF := Lib.hid hWF
    clear hr r0 r1 r2 r3 r4 r5 r6 hWF
    have HBF := Lib.hid (hbWF w.heap.size w (by omega) (HNX.out _ HBA.out).1.below)
    clear hsWF hbWF hzWF
    go_wp2
    rw [← HWWF.out]
    refine bodyPost_ret (v := .tuple #[.agg #[.int .i64 0, .int .i64 0, .int .i64 0, .slice none 0 0, .slice none 0 0, .slice none 0 0], .int .i64 1]) ?_ rfl ?_
    · simp only [results, HRES.out]
      go_simp
    · exact ⟨_, (0, 0, 0, [], [], []), 1, rfl, GwCp.nil _ _, HBF.out, by rw [HCODE.out]; exact RsOut.of_no (by decide)⟩
  have HC := Lib.hid (Classical.not_not.1 hc)
  clear hc
  go_wp2_with fail
  refine (l05Is_any p d e _ _ _ il jl kl _ (HNX.out _ HB0.out).1.cx HM.out).mono ?_
  rintro ee wA ⟨b, rfl, hb, hbb⟩
  obtain rfl : b = true := hbb.2 HC.out
  clear hbb
  have HBA := Lib.hid (HB0.out.trans (hb.mono HB0.out.size))
  clear c0 c1 c2 c3 c4 c5 yc0 yc1 yc2 yc3 yc4 yc5
  clear hb
  have c0 := (HNX.out _ HBA.out).1.c0
  have c1 := (HNX.out _ HBA.out).1.c1
  have c2 := (HNX.out _ HBA.out).1.c2
  have c3 := (HNX.out _ HBA.out).1.c3
  have c4 := (HNX.out _ HBA.out).1.c4
  have c5 := (HNX.out _ HBA.out).1.c5
  have yc0 := (HNX.out _ HBA.out).2.1.c0
  have yc1 := (HNX.out _ HBA.out).2.1.c1
  have yc2 := (HNX.out _ HBA.out).2.1.c2
  have yc3 := (HNX.out _ HBA.out).2.1.c3
  have yc4 := (HNX.out _ HBA.out).2.1.c4
  have yc5 := (HNX.out _ HBA.out).2.1.c5
  by_cases hc : ¬ IsCp p2 d2 e2 il2 jl2 kl2
  · have HC2 := Lib.hid hc
    have HCODE : Hid (adCode p d e il jl kl p2 d2 e2 il2 jl2 kl2 = 1) := Lib.hid (by unfold adCode; rw [if_pos (fun k => hc k.2)])
    clear hc
    go_wp2_with fail
    refine (l05Is_any p2 d2 e2 _ _ _ il2 jl2 kl2 _ (HNX.out _ HBA.out).2.1.cx HM2.out).mono ?_
    rintro ee wB ⟨b, rfl, hb, hbb⟩
    obtain rfl : b = false := bb_no hbb HC2.out
    clear hbb
    have HBB := Lib.hid (HBA.out.trans (hb.mono HBA.out.size))
    clear c0 c1 c2 c3 c4 c5 yc0 yc1 yc2 yc3 yc4 yc5
    clear hb
    have c0 := (HNX.out _ HBB.out).1.c0
    have c1 := (HNX.out _ HBB.out).1.c1
    have c2 := (HNX.out _ HBB.out).1.c2
    have c3 := (HNX.out _ HBB.out).1.c3
    have c4 := (HNX.out _ HBB.out).1.c4
    have c5 := (HNX.out _ HBB.out).1.c5
    have yc0 := (HNX.out _ HBB.out).2.1.c0
    have yc1 := (HNX.out _ HBB.out).2.1.c1
    have yc2 := (HNX.out _ HBB.out).2.1.c2
    have yc3 := (HNX.out _ HBB.out).2.1.c3
    have yc4 := (HNX.out _ HBB.out).2.1.c4
    have yc5 := (HNX.out _ HBB.out).2.1.c5
    have HR1 : ∃ x0 x1 x2 x3 x4 x5, wB.heap[w.heap.size + 2]? = some (.cells #[x0, x1, x2, x3, x4, x5] 71) := ⟨_, _, _, _, _, _, (HNX.out _ HBB.out).2.2⟩
    obtain ⟨x0, x1, x2, x3, x4, x5, hr⟩ := HR1
    have r0 : wB.rowIs (w.heap.size + 2) 71 6 (sel6 x0 x1 x2 x3 x4 x5) := rowIs6 hr
    have q0 : wB.cell? ⟨w.heap.size + 2, 0, none⟩ = some x0 := r0.cell (i := 0) (by omega)
    have z0 : wB.frozen? ⟨w.heap.size + 2, 0, none⟩ = false := r0.frozen 0
    have r1 := r0.set 0 (.int .i64 0)
    have q1 : (wB.setCell ⟨w.heap.size + 2, 0, none⟩ (.int .i64 0)).cell? ⟨w.heap.size + 2, 1, none⟩ = some x1 := r1.cell (i := 1) (by omega)
    have z1 : (wB.setCell ⟨w.heap.size + 2, 0, none⟩ (.int .i64 0)).frozen? ⟨w.heap.size + 2, 1, none⟩ = false := r1.frozen 1
    have r2 := r1.set 1 (.int .i64 0)
    have q2 : ((wB.setCell ⟨w.heap.size + 2, 0, none⟩ (.int .i64 0)).setCell ⟨w.heap.size + 2, 1, none⟩ (.int .i64 0)).cell? ⟨w.heap.size + 2, 2, none⟩ = some x2 := r2.cell (i := 2) (by omega)
    have z2 : ((wB.setCell ⟨w.heap.size + 2, 0, none⟩ (.int .i64 0)).setCell ⟨w.heap.size + 2, 1, none⟩ (.int .i64 0)).frozen? ⟨w.heap.size + 2, 2, none⟩ = false := r2.frozen 2
    have r3 := r2.set 2 (.int .i64 0)
    have q3 : (((wB.setCell ⟨w.heap.size + 2, 0, none⟩ (.int .i64 0)).setCell ⟨w.heap.size + 2, 1, none⟩ (.int .i64 0)).setCell ⟨w.heap.size + 2, 2, none⟩ (.int .i64 0)).cell? ⟨w.heap.size + 2, 3, none⟩ = some x3 := r3.cell (i := 3) (by omega)
    have z3 : (((wB.setCell ⟨w.heap.size + 2, 0, none⟩ (.int .i64 0)).setCell ⟨w.heap.size + 2, 1, none⟩ (.int .i64 0)).setCell ⟨w.heap.size + 2, 2, none⟩ (.int .i64 0)).frozen? ⟨w.heap.size + 2, 3, none⟩ = false := r3.frozen 3
    have r4 := r3.set 3 (.slice none 0 0)
    have q4 : ((((wB.setCell ⟨w.heap.size + 2, 0, none⟩ (.int .i64 0)).setCell ⟨w.heap.size + 2, 1, none⟩ (.int .i64 0)).setCell ⟨w.heap.size + 2, 2, none⟩ (.int .i64 0)).setCell ⟨w.heap.size + 2, 3, none⟩ (.slice none 0 0)).cell? ⟨w.heap.size + 2, 4, none⟩ = some x4 := r4.cell (i := 4) (by omega)
    have z4 : ((((wB.setCell ⟨w.heap.size + 2, 0, none⟩ (.int .i64 0)).setCell ⟨w.heap.size + 2, 1, none⟩ (.int .i64 0)).setCell ⟨w.heap.size + 2, 2, none⟩ (.int .i64 0)).setCell ⟨w.heap.size + 2, 3, none⟩ (.slice none 0 0)).frozen? ⟨w.heap.size + 2, 4, none⟩ = false := r4.frozen 4
    have r5 := r4.set 4 (.slice none 0 0)
    have q5 : (((((wB.setCell ⟨w.heap.size + 2, 0, none⟩ (.int .i64 0)).setCell ⟨w.heap.size + 2, 1, none⟩ (.int .i64 0)).setCell ⟨w.heap.size + 2, 2, none⟩ (.int .i64 0)).setCell ⟨w.heap.size + 2, 3, none⟩ (.slice none 0 0)).setCell ⟨w.heap.size + 2, 4, none⟩ (.slice none 0 0)).cell? ⟨w.heap.size + 2, 5, none⟩ = some x5 := r5.cell (i := 5) (by omega)
    have z5 : (((((wB.setCell ⟨w.heap.size + 2, 0, none⟩ (.int .i64 0)).setCell ⟨w.heap.size + 2, 1, none⟩ (.int .i64 0)).setCell ⟨w.heap.size + 2, 2, none⟩ (.int .i64 0)).setCell ⟨w.heap.size + 2, 3, none⟩ (.slice none 0 0)).setCell ⟨w.heap.size + 2, 4, none⟩ (.slice none 0 0)).frozen? ⟨w.heap.size + 2, 5, none⟩ = false := r5.frozen 5
    have r6 := r5.set 5 (.slice none 0 0)
    obtain ⟨WF, hWF⟩ : ∃ W : World, W = ((((((wB.setCell ⟨w.heap.size + 2, 0, none⟩ (.int .i64 0)).setCell ⟨w.heap.size + 2, 1, none⟩ (.int .i64 0)).setCell ⟨w.heap.size + 2, 2, none⟩ (.int .i64 0)).setCell ⟨w.heap.size + 2, 3, none⟩ (.slice none 0 0)).setCell ⟨w.heap.size + 2, 4, none⟩ (.slice none 0 0)).setCell ⟨w.heap.size + 2, 5, none⟩ (.slice none 0 0)) := ⟨_, rfl⟩
    have hbWF : ∀ B (w0 : World), B ≤ w.heap.size + 2 → Below B w0 wB → Below B w0 WF := fun B w0 hl hb => by rw [hWF]; exact ((((((hb.setCell (by show B ≤ w.heap.size + 2; exact hl) _).setCell (by show B ≤ w.heap.size + 2; exact hl) _).setCell (by show B ≤ w.heap.size + 2; exact hl) _).setCell (by show B ≤ w.heap.size + 2; exact hl) _).setCell (by show B ≤ w.heap.size + 2; exact hl) _).setCell (by show B ≤ w.heap.size + 2; exact hl) _)
    have hsWF : ∀ lo hi, w.heap.size + 2 < lo ∨ hi ≤ w.heap.size + 2 → Same lo hi wB WF := fun lo hi hl => by rw [hWF]; exact ((((((Same.set _ hl).trans (Same.set _ hl)).trans (Same.set _ hl)).trans (Same.set _ hl)).trans (Same.set _ hl)).trans (Same.set _ hl))
    have hzWF : WF.heap.size = wB.heap.size := by rw [hWF]; simp
    rw [← hWF] at r6
    have f0 : WF.cell? ⟨w.heap.size + 2, 0, none⟩ = some (.int .i64 0) := r6.cell (i := 0) (by omega)
    have f1 : WF.cell? ⟨w.heap.size + 2, 1, none⟩ = some (.int .i64 0) := r6.cell (i := 1) (by omega)
    have f2 : WF.cell? ⟨w.heap.size + 2, 2, none⟩ = some (.int .i64 0) := r6.cell (i := 2) (by omega)
    have f3 : WF.cell? ⟨w.heap.size + 2, 3, none⟩ = some (.slice none 0 0) := r6.cell (i := 3) (by omega)
    have f4 : WF.cell? ⟨w.heap.size + 2, 4, none⟩ = some (.slice none 0 0) := r6.cell (i := 4) (by omega)
    have f5 : WF.cell? ⟨w.heap.size + 2, 5, none⟩ = some (.slice none 0 0) := r6.cell (i := 5) (by omega)
    have HWWF := Lib.hid hWF
    clear hr r0 r1 r2 r3 r4 r5 r6 hWF
    have HBF := Lib.hid (hbWF w.heap.size w (by omega) (HNX.out _ HBB.out).1.below)
    clear hsWF hbWF hzWF
    go_wp2
    rw [← HWWF.out]
    refine bodyPost_ret (v := .tuple #[.agg #[.int .i64 0, .int .i64 0, .int .i64 0, .slice none 0 0, .slice none 0 0, .slice none 0 0], .int .i64 1]) ?_ rfl ?_
    · simp only [results, HRES.out]
      go_simp
    · exact ⟨_, (0, 0, 0, [], [], []), 1, rfl, GwCp.nil _ _, HBF.out, by rw [HCODE.out]; exact RsOut.of_no (by decide)⟩
  have HC2 := Lib.hid (Classical.not_not.1 hc)
  clear hc
  go_wp2_with fail
  refine (l05Is_any p2 d2 e2 _ _ _ il2 jl2 kl2 _ (HNX.out _ HBA.out).2.1.cx HM2.out).mono ?_
  rintro ee wB ⟨b, rfl, hb, hbb⟩
  obtain rfl : b = true := hbb.2 HC2.out
  clear hbb
  have HBB := Lib.hid (HBA.out.trans (hb.mono HBA.out.size))
  clear c0 c1 c2 c3 c4 c5 yc0 yc1 yc2 yc3 yc4 yc5
  clear hb
  have c0 := (HNX.out _ HBB.out).1.c0
  have c1 := (HNX.out _ HBB.out).1.c1
  have c2 := (HNX.out _ HBB.out).1.c2
  have c3 := (HNX.out _ HBB.out).1.c3
  have c4 := (HNX.out _ HBB.out).1.c4
  have c5 := (HNX.out _ HBB.out).1.c5
  have yc0 := (HNX.out _ HBB.out).2.1.c0
  have yc1 := (HNX.out _ HBB.out).2.1.c1
  have yc2 := (HNX.out _ HBB.out).2.1.c2
  have yc3 := (HNX.out _ HBB.out).2.1.c3
  have yc4 := (HNX.out _ HBB.out).2.1.c4
  have yc5 := (HNX.out _ HBB.out).2.1.c5
  by_cases hpp : ¬ p = p2
  · have hne1 : (p != p2) = true := by simp [hpp]
    have hne2 : (p == p2) = false := by simp [hpp]
    have HCODE : Hid (adCode p d e il jl kl p2 d2 e2 il2 jl2 kl2 = 2) := Lib.hid (by unfold adCode; rw [if_neg (fun k => k ⟨HC.out, HC2.out⟩), if_pos hpp])
    have HR1 : ∃ x0 x1 x2 x3 x4 x5, wB.heap[w.heap.size + 2]? = some (.cells #[x0, x1, x2, x3, x4, x5] 71) := ⟨_, _, _, _, _, _, (HNX.out _ HBB.out).2.2⟩
    obtain ⟨x0, x1, x2, x3, x4, x5, hr⟩ := HR1
    have r0 : wB.rowIs (w.heap.size + 2) 71 6 (sel6 x0 x1 x2 x3 x4 x5) := rowIs6 hr
    have q0 : wB.cell? ⟨w.heap.size + 2, 0, none⟩ = some x0 := r0.cell (i := 0) (by omega)
    have z0 : wB.frozen? ⟨w.heap.size + 2, 0, none⟩ = false := r0.frozen 0
    have r1 := r0.set 0 (.int .i64 0)
    have q1 : (wB.setCell ⟨w.heap.size + 2, 0, none⟩ (.int .i64 0)).cell? ⟨w.heap.size + 2, 1, none⟩ = some x1 := r1.cell (i := 1) (by omega)
    have z1 : (wB.setCell ⟨w.heap.size + 2, 0, none⟩ (.int .i64 0)).frozen? ⟨w.heap.size + 2, 1, none⟩ = false := r1.frozen 1
    have r2 := r1.set 1 (.int .i64 0)
    have q2 : ((wB.setCell ⟨w.heap.size + 2, 0, none⟩ (.int .i64 0)).setCell ⟨w.heap.size + 2, 1, none⟩ (.int .i64 0)).cell? ⟨w.heap.size + 2, 2, none⟩ = some x2 := r2.cell (i := 2) (by omega)
    have z2 : ((wB.setCell ⟨w.heap.size + 2, 0, none⟩ (.int .i64 0)).setCell ⟨w.heap.size + 2, 1, none⟩ (.int .i64 0)).frozen? ⟨w.heap.size + 2, 2, none⟩ = false := r2.frozen 2
    have r3 := r2.set 2 (.int .i64 0)
    have q3 : (((wB.setCell ⟨w.heap.size + 2, 0, none⟩ (.int .i64 0)).setCell ⟨w.heap.size + 2, 1, none⟩ (.int .i64 0)).setCell ⟨w.heap.size + 2, 2, none⟩ (.int .i64 0)).cell? ⟨w.heap.size + 2, 3, none⟩ = some x3 := r3.cell (i := 3) (by omega)
    have z3 : (((wB.setCell ⟨w.heap.size + 2, 0, none⟩ (.int .i64 0)).setCell ⟨w.heap.size + 2, 1, none⟩ (.int .i64 0)).setCell ⟨w.heap.size + 2, 2, none⟩ (.int .i64 0)).frozen? ⟨w.heap.size + 2, 3, none⟩ = false := r3.frozen 3
    have r4 := r3.set 3 (.slice none 0 0)
    have q4 : ((((wB.setCell ⟨w.heap.size + 2, 0, none⟩ (.int .i64 0)).setCell ⟨w.heap.size + 2, 1, none⟩ (.int .i64 0)).setCell ⟨w.heap.size + 2, 2, none⟩ (.int .i64 0)).setCell ⟨w.heap.size + 2, 3, none⟩ (.slice none 0 0)).cell? ⟨w.heap.size + 2, 4, none⟩ = some x4 := r4.cell (i := 4) (by omega)
    have z4 : ((((wB.setCell ⟨w.heap.size + 2, 0, none⟩ (.int .i64 0)).setCell ⟨w.heap.size + 2, 1, none⟩ (.int .i64 0)).setCell ⟨w.heap.size + 2, 2, none⟩ (.int .i64 0)).setCell ⟨w.heap.size + 2, 3, none⟩ (.slice none 0 0)).frozen? ⟨w.heap.size + 2, 4, none⟩ = false := r4.frozen 4
    have r5 := r4.set 4 (.slice none 0 0)
    have q5 : (((((wB.setCell ⟨w.heap.size + 2, 0, none⟩ (.int .i64 0)).setCell ⟨w.heap.size + 2, 1, none⟩ (.int .i64 0)).setCell ⟨w.heap.size + 2, 2, none⟩ (.int .i64 0)).setCell ⟨w.heap.size + 2, 3, none⟩ (.slice none 0 0)).setCell ⟨w.heap.size + 2, 4, none⟩ (.slice none 0 0)).cell? ⟨w.heap.size + 2, 5, none⟩ = some x5 := r5.cell (i := 5) (by omega)
    have z5 : (((((wB.setCell ⟨w.heap.size + 2, 0, none⟩ (.int .i64 0)).setCell ⟨w.heap.size + 2, 1, none⟩ (.int .i64 0)).setCell ⟨w.heap.size + 2, 2, none⟩ (.int .i64 0)).setCell ⟨w.heap.size + 2, 3, none⟩ (.slice none 0 0)).setCell ⟨w.heap.size + 2, 4, none⟩ (.slice none 0 0)).frozen? ⟨w.heap.size + 2, 5, none⟩ = false := r5.frozen 5
    have r6 := r5.set 5 (.slice none 0 0)
    obtain ⟨WF, hWF⟩ : ∃ W : World, W = ((((((wB.setCell ⟨w.heap.size + 2, 0, none⟩ (.int .i64 0)).setCell ⟨w.heap.size + 2, 1, none⟩ (.int .i64 0)).setCell ⟨w.heap.size + 2, 2, none⟩ (.int .i64 0)).setCell ⟨w.heap.size + 2, 3, none⟩ (.slice none 0 0)).setCell ⟨w.heap.size + 2, 4, none⟩ (.slice none 0 0)).setCell ⟨w.heap.size + 2, 5, none⟩ (.slice none 0 0)) := ⟨_, rfl⟩
    have hbWF : ∀ B (w0 : World), B ≤ w.heap.size + 2 → Below B w0 wB → Below B w0 WF := fun B w0 hl hb => by rw [hWF]; exact ((((((hb.setCell (by show B ≤ w.heap.size + 2; exact hl) _).setCell (by show B ≤ w.heap.size + 2; exact hl) _).setCell (by show B ≤ w.heap.size + 2; exact hl) _).setCell (by show B ≤ w.heap.size + 2; exact hl) _).setCell (by show B ≤ w.heap.size + 2; exact hl) _).setCell (by show B ≤ w.heap.size + 2; exact hl) _)
    have hsWF : ∀ lo hi, w.heap.size + 2 < lo ∨ hi ≤ w.heap.size + 2 → Same lo hi wB WF := fun lo hi hl => by rw [hWF]; exact ((((((Same.set _ hl).trans (Same.set _ hl)).trans (Same.set _ hl)).trans (Same.set _ hl)).trans (Same.set _ hl)).trans (Same.set _ hl))
    have hzWF : WF.heap.size = wB.heap.size := by rw [hWF]; simp
    rw [← hWF] at r6
    have f0 : WF.cell? ⟨w.heap.size + 2, 0, none⟩ = some (.int .i64 0) := r6.cell (i := 0) (by omega)
    have f1 : WF.cell? ⟨w.heap.size + 2, 1, none⟩ = some (.int .i64 0) := r6.cell (i := 1) (by omega)
    have f2 : WF.cell? ⟨w.heap.size + 2, 2, none⟩ = some (.int .i64 0) := r6.cell (i := 2) (by omega)
    have f3 : WF.cell? ⟨w.heap.size + 2, 3, none⟩ = some (.slice none 0 0) := r6.cell (i := 3) (by omega)
    have f4 : WF.cell? ⟨w.heap.size + 2, 4, none⟩ = some (.slice none 0 0) := r6.cell (i := 4) (by omega)
    have f5 : WF.cell? ⟨w.heap.size + 2, 5, none⟩ = some (.slice none 0 0) := r6.cell (i := 5) (by omega)
    have HWWF := Lib.hid hWF
    clear hr r0 r1 r2 r3 r4 r5 r6 hWF
    have HBF := Lib.hid (hbWF w.heap.size w (by omega) (HNX.out _ HBB.out).1.below)
    clear hsWF hbWF hzWF
    go_wp2
    rw [← HWWF.out]
    refine bodyPost_ret (v := .tuple #[.agg #[.int .i64 0, .int .i64 0, .int .i64 0, .slice none 0 0, .slice none 0 0, .slice none 0 0], .int .i64 2]) ?_ rfl ?_
    · simp only [results, HRES.out]
      go_simp
    · exact ⟨_, (0, 0, 0, [], [], []), 2, rfl, GwCp.nil _ _, HBF.out, by rw [HCODE.out]; exact RsOut.of_no (by decide)⟩
  have hpp2 := Classical.not_not.1 hpp
  clear hpp
  subst hpp2
  have hne1 : (p != p) = false := by simp
  have hne2 : (p == p) = true := by simp
  have hdd := HC.out.2.1
  have hee := HC.out.2.2.1
  have hdd2 := HC2.out.2.1
  have hee2 := HC2.out.2.2.1
  have hw1 : IntKind.i64.wrap (d + d2) = d + d2 := IntWalk.i64_in _ (by omega)
  have hw2 : IntKind.i64.wrap (e + e2) = e + e2 := IntWalk.i64_in _ (by omega)
  by_cases hovd : 24 < d + d2
  · have HCODE : Hid (adCode p d e il jl kl p d2 e2 il2 jl2 kl2 = 3) := Lib.hid (by unfold adCode; rw [if_neg (fun k => k ⟨HC.out, HC2.out⟩), if_neg (fun k => k rfl), if_pos (Or.inl hovd)])
    have HR1 : ∃ x0 x1 x2 x3 x4 x5, wB.heap[w.heap.size + 2]? = some (.cells #[x0, x1, x2, x3, x4, x5] 71) := ⟨_, _, _, _, _, _, (HNX.out _ HBB.out).2.2⟩
    obtain ⟨x0, x1, x2, x3, x4, x5, hr⟩ := HR1
    have r0 : wB.rowIs (w.heap.size + 2) 71 6 (sel6 x0 x1 x2 x3 x4 x5) := rowIs6 hr
    have q0 : wB.cell? ⟨w.heap.size + 2, 0, none⟩ = some x0 := r0.cell (i := 0) (by omega)
    have z0 : wB.frozen? ⟨w.heap.size + 2, 0, none⟩ = false := r0.frozen 0
    have r1 := r0.set 0 (.int .i64 0)
    have q1 : (wB.setCell ⟨w.heap.size + 2, 0, none⟩ (.int .i64 0)).cell? ⟨w.heap.size + 2, 1, none⟩ = some x1 := r1.cell (i := 1) (by omega)
    have z1 : (wB.setCell ⟨w.heap.size + 2, 0, none⟩ (.int .i64 0)).frozen? ⟨w.heap.size + 2, 1, none⟩ = false := r1.frozen 1
    have r2 := r1.set 1 (.int .i64 0)
    have q2 : ((wB.setCell ⟨w.heap.size + 2, 0, none⟩ (.int .i64 0)).setCell ⟨w.heap.size + 2, 1, none⟩ (.int .i64 0)).cell? ⟨w.heap.size + 2, 2, none⟩ = some x2 := r2.cell (i := 2) (by omega)
    have z2 : ((wB.setCell ⟨w.heap.size + 2, 0, none⟩ (.int .i64 0)).setCell ⟨w.heap.size + 2, 1, none⟩ (.int .i64 0)).frozen? ⟨w.heap.size + 2, 2, none⟩ = false := r2.frozen 2
    have r3 := r2.set 2 (.int .i64 0)
    have q3 : (((wB.setCell ⟨w.heap.size + 2, 0, none⟩ (.int .i64 0)).setCell ⟨w.heap.size + 2, 1, none⟩ (.int .i64 0)).setCell ⟨w.heap.size + 2, 2, none⟩ (.int .i64 0)).cell? ⟨w.heap.size + 2, 3, none⟩ = some x3 := r3.cell (i := 3) (by omega)
    have z3 : (((wB.setCell ⟨w.heap.size + 2, 0, none⟩ (.int .i64 0)).setCell ⟨w.heap.size + 2, 1, none⟩ (.int .i64 0)).setCell ⟨w.heap.size + 2, 2, none⟩ (.int .i64 0)).frozen? ⟨w.heap.size + 2, 3, none⟩ = false := r3.frozen 3
    have r4 := r3.set 3 (.slice none 0 0)
    have q4 : ((((wB.setCell ⟨w.heap.size + 2, 0, none⟩ (.int .i64 0)).setCell ⟨w.heap.size + 2, 1, none⟩ (.int .i64 0)).setCell ⟨w.heap.size + 2, 2, none⟩ (.int .i64 0)).setCell ⟨w.heap.size + 2, 3, none⟩ (.slice none 0 0)).cell? ⟨w.heap.size + 2, 4, none⟩ = some x4 := r4.cell (i := 4) (by omega)
    have z4 : ((((wB.setCell ⟨w.heap.size + 2, 0, none⟩ (.int .i64 0)).setCell ⟨w.heap.size + 2, 1, none⟩ (.int .i64 0)).setCell ⟨w.heap.size + 2, 2, none⟩ (.int .i64 0)).setCell ⟨w.heap.size + 2, 3, none⟩ (.slice none 0 0)).frozen? ⟨w.heap.size + 2, 4, none⟩ = false := r4.frozen 4
    have r5 := r4.set 4 (.slice none 0 0)
    have q5 : (((((wB.setCell ⟨w.heap.size + 2, 0, none⟩ (.int .i64 0)).setCell ⟨w.heap.size + 2, 1, none⟩ (.int .i64 0)).setCell ⟨w.heap.size + 2, 2, none⟩ (.int .i64 0)).setCell ⟨w.heap.size + 2, 3, none⟩ (.slice none 0 0)).setCell ⟨w.heap.size + 2, 4, none⟩ (.slice none 0 0)).cell? ⟨w.heap.size + 2, 5, none⟩ = some x5 := r5.cell (i := 5) (by omega)
    have z5 : (((((wB.setCell ⟨w.heap.size + 2, 0, none⟩ (.int .i64 0)).setCell ⟨w.heap.size + 2, 1, none⟩ (.int .i64 0)).setCell ⟨w.heap.size + 2, 2, none⟩ (.int .i64 0)).setCell ⟨w.heap.size + 2, 3, none⟩ (.slice none 0 0)).setCell ⟨w.heap.size + 2, 4, none⟩ (.slice none 0 0)).frozen? ⟨w.heap.size + 2, 5, none⟩ = false := r5.frozen 5
    have r6 := r5.set 5 (.slice none 0 0)
    obtain ⟨WF, hWF⟩ : ∃ W : World, W = ((((((wB.setCell ⟨w.heap.size + 2, 0, none⟩ (.int .i64 0)).setCell ⟨w.heap.size + 2, 1, none⟩ (.int .i64 0)).setCell ⟨w.heap.size + 2, 2, none⟩ (.int .i64 0)).setCell ⟨w.heap.size + 2, 3, none⟩ (.slice none 0 0)).setCell ⟨w.heap.size + 2, 4, none⟩ (.slice none 0 0)).setCell ⟨w.heap.size + 2, 5, none⟩ (.slice none 0 0)) := ⟨_, rfl⟩
    have hbWF : ∀ B (w0 : World), B ≤ w.heap.size + 2 → Below B w0 wB → Below B w0 WF := fun B w0 hl hb => by rw [hWF]; exact ((((((hb.setCell (by show B ≤ w.heap.size + 2; exact hl) _).setCell (by show B ≤ w.heap.size + 2; exact hl) _).setCell (by show B ≤ w.heap.size + 2; exact hl) _).setCell (by show B ≤ w.heap.size + 2; exact hl) _).setCell (by show B ≤ w.heap.size + 2; exact hl) _).setCell (by show B ≤ w.heap.size + 2; exact hl) _)
    have hsWF : ∀ lo hi, w.heap.size + 2 < lo ∨ hi ≤ w.heap.size + 2 → Same lo hi wB WF := fun lo hi hl => by rw [hWF]; exact ((((((Same.set _ hl).trans (Same.set _ hl)).trans (Same.set _ hl)).trans (Same.set _ hl)).trans (Same.set _ hl)).trans (Same.set _ hl))
    have hzWF : WF.heap.size = wB.heap.size := by rw [hWF]; simp
    rw [← hWF] at r6
    have f0 : WF.cell? ⟨w.heap.size + 2, 0, none⟩ = some (.int .i64 0) := r6.cell (i := 0) (by omega)
    have f1 : WF.cell? ⟨w.heap.size + 2, 1, none⟩ = some (.int .i64 0) := r6.cell (i := 1) (by omega)
    have f2 : WF.cell? ⟨w.heap.size + 2, 2, none⟩ = some (.int .i64 0) := r6.cell (i := 2) (by omega)
    have f3 : WF.cell? ⟨w.heap.size + 2, 3, none⟩ = some (.slice none 0 0) := r6.cell (i := 3) (by omega)
    have f4 : WF.cell? ⟨w.heap.size + 2, 4, none⟩ = some (.slice none 0 0) := r6.cell (i := 4) (by omega)
    have f5 : WF.cell? ⟨w.heap.size + 2, 5, none⟩ = some (.slice none 0 0) := r6.cell (i := 5) (by omega)
    have HWWF := Lib.hid hWF
    clear hr r0 r1 r2 r3 r4 r5 r6 hWF
    have HBF := Lib.hid (hbWF w.heap.size w (by omega) (HNX.out _ HBB.out).1.below)
    clear hsWF hbWF hzWF
    go_wp2
    rw [← HWWF.out]
    refine bodyPost_ret (v := .tuple #[.agg #[.int .i64 0, .int .i64 0, .int .i64 0, .slice none 0 0, .slice none 0 0, .slice none 0 0], .int .i64 3]) ?_ rfl ?_
    · simp only [results, HRES.out]
      go_simp
    · exact ⟨_, (0, 0, 0, [], [], []), 3, rfl, GwCp.nil _ _, HBF.out, by rw [HCODE.out]; exact RsOut.of_no (by decide)⟩
  by_cases hove : 24 < e + e2
  · have HCODE : Hid (adCode p d e il jl kl p d2 e2 il2 jl2 kl2 = 3) := Lib.hid (by unfold adCode; rw [if_neg (fun k => k ⟨HC.out, HC2.out⟩), if_neg (fun k => k rfl), if_pos (Or.inr hove)])
    have HR1 : ∃ x0 x1 x2 x3 x4 x5, wB.heap[w.heap.size + 2]? = some (.cells #[x0, x1, x2, x3, x4, x5] 71) := ⟨_, _, _, _, _, _, (HNX.out _ HBB.out).2.2⟩
    obtain ⟨x0, x1, x2, x3, x4, x5, hr⟩ := HR1
    have r0 : wB.rowIs (w.heap.size + 2) 71 6 (sel6 x0 x1 x2 x3 x4 x5) := rowIs6 hr
    have q0 : wB.cell? ⟨w.heap.size + 2, 0, none⟩ = some x0 := r0.cell (i := 0) (by omega)
    have z0 : wB.frozen? ⟨w.heap.size + 2, 0, none⟩ = false := r0.frozen 0
    have r1 := r0.set 0 (.int .i64 0)
    have q1 : (wB.setCell ⟨w.heap.size + 2, 0, none⟩ (.int .i64 0)).cell? ⟨w.heap.size + 2, 1, none⟩ = some x1 := r1.cell (i := 1) (by omega)
    have z1 : (wB.setCell ⟨w.heap.size + 2, 0, none⟩ (.int .i64 0)).frozen? ⟨w.heap.size + 2, 1, none⟩ = false := r1.frozen 1
    have r2 := r1.set 1 (.int .i64 0)
    have q2 : ((wB.setCell ⟨w.heap.size + 2, 0, none⟩ (.int .i64 0)).setCell ⟨w.heap.size + 2, 1, none⟩ (.int .i64 0)).cell? ⟨w.heap.size + 2, 2, none⟩ = some x2 := r2.cell (i := 2) (by omega)
    have z2 : ((wB.setCell ⟨w.heap.size + 2, 0, none⟩ (.int .i64 0)).setCell ⟨w.heap.size + 2, 1, none⟩ (.int .i64 0)).frozen? ⟨w.heap.size + 2, 2, none⟩ = false := r2.frozen 2
    have r3 := r2.set 2 (.int .i64 0)
    have q3 : (((wB.setCell ⟨w.heap.size + 2, 0, none⟩ (.int .i64 0)).setCell ⟨w.heap.size + 2, 1, none⟩ (.int .i64 0)).setCell ⟨w.heap.size + 2, 2, none⟩ (.int .i64 0)).cell? ⟨w.heap.size + 2, 3, none⟩ = some x3 := r3.cell (i := 3) (by omega)
    have z3 : (((wB.setCell ⟨w.heap.size + 2, 0, none⟩ (.int .i64 0)).setCell ⟨w.heap.size + 2, 1, none⟩ (.int .i64 0)).setCell ⟨w.heap.size + 2, 2, none⟩ (.int .i64 0)).frozen? ⟨w.heap.size + 2, 3, none⟩ = false := r3.frozen 3
    have r4 := r3.set 3 (.slice none 0 0)
    have q4 : ((((wB.setCell ⟨w.heap.size + 2, 0, none⟩ (.int .i64 0)).setCell ⟨w.heap.size + 2, 1, none⟩ (.int .i64 0)).setCell ⟨w.heap.size + 2, 2, none⟩ (.int .i64 0)).setCell ⟨w.heap.size + 2, 3, none⟩ (.slice none 0 0)).cell? ⟨w.heap.size + 2, 4, none⟩ = some x4 := r4.cell (i := 4) (by omega)
    have z4 : ((((wB.setCell ⟨w.heap.size + 2, 0, none⟩ (.int .i64 0)).setCell ⟨w.heap.size + 2, 1, none⟩ (.int .i64 0)).setCell ⟨w.heap.size + 2, 2, none⟩ (.int .i64 0)).setCell ⟨w.heap.size + 2, 3, none⟩ (.slice none 0 0)).frozen? ⟨w.heap.size + 2, 4, none⟩ = false := r4.frozen 4
    have r5 := r4.set 4 (.slice none 0 0)
    have q5 : (((((wB.setCell ⟨w.heap.size + 2, 0, none⟩ (.int .i64 0)).setCell ⟨w.heap.size + 2, 1, none⟩ (.int .i64 0)).setCell ⟨w.heap.size + 2, 2, none⟩ (.int .i64 0)).setCell ⟨w.heap.size + 2, 3, none⟩ (.slice none 0 0)).setCell ⟨w.heap.size + 2, 4, none⟩ (.slice none 0 0)).cell? ⟨w.heap.size + 2, 5, none⟩ = some x5 := r5.cell (i := 5) (by omega)
    have z5 : (((((wB.setCell ⟨w.heap.size + 2, 0, none⟩ (.int .i64 0)).setCell ⟨w.heap.size + 2, 1, none⟩ (.int .i64 0)).setCell ⟨w.heap.size + 2, 2, none⟩ (.int .i64 0)).setCell ⟨w.heap.size + 2, 3, none⟩ (.slice none 0 0)).setCell ⟨w.heap.size + 2, 4, none⟩ (.slice none 0 0)).frozen? ⟨w.heap.size + 2, 5, none⟩ = false := r5.frozen 5
    have r6 := r5.set 5 (.slice none 0 0)
    obtain ⟨WF, hWF⟩ : ∃ W : World, W = ((((((wB.setCell ⟨w.heap.size + 2, 0, none⟩ (.int .i64 0)).setCell ⟨w.heap.size + 2, 1, none⟩ (.int .i64 0)).setCell ⟨w.heap.size + 2, 2, none⟩ (.int .i64 0)).setCell ⟨w.heap.size + 2, 3, none⟩ (.slice none 0 0)).setCell ⟨w.heap.size + 2, 4, none⟩ (.slice none 0 0)).setCell ⟨w.heap.size + 2, 5, none⟩ (.slice none 0 0)) := ⟨_, rfl⟩
    have hbWF : ∀ B (w0 : World), B ≤ w.heap.size + 2 → Below B w0 wB → Below B w0 WF := fun B w0 hl hb => by rw [hWF]; exact ((((((hb.setCell (by show B ≤ w.heap.size + 2; exact hl) _).setCell (by show B ≤ w.heap.size + 2; exact hl) _).setCell (by show B ≤ w.heap.size + 2; exact hl) _).setCell (by show B ≤ w.heap.size + 2; exact hl) _).setCell (by show B ≤ w.heap.size + 2; exact hl) _).setCell (by show B ≤ w.heap.size + 2; exact hl) _)
    have hsWF : ∀ lo hi, w.heap.size + 2 < lo ∨ hi ≤ w.heap.size + 2 → Same lo hi wB WF := fun lo hi hl => by rw [hWF]; exact ((((((Same.set _ hl).trans (Same.set _ hl)).trans (Same.set _ hl)).trans (Same.set _ hl)).trans (Same.set _ hl)).trans (Same.set _ hl))
    have hzWF : WF.heap.size = wB.heap.size := by rw [hWF]; simp
    rw [← hWF] at r6
    have f0 : WF.cell? ⟨w.heap.size + 2, 0, none⟩ = some (.int .i64 0) := r6.cell (i := 0) (by omega)
    have f1 : WF.cell? ⟨w.heap.size + 2, 1, none⟩ = some (.int .i64 0) := r6.cell (i := 1) (by omega)
    have f2 : WF.cell? ⟨w.heap.size + 2, 2, none⟩ = some (.int .i64 0) := r6.cell (i := 2) (by omega)
    have f3 : WF.cell? ⟨w.heap.size + 2, 3, none⟩ = some (.slice none 0 0) := r6.cell (i := 3) (by omega)
    have f4 : WF.cell? ⟨w.heap.size + 2, 4, none⟩ = some (.slice none 0 0) := r6.cell (i := 4) (by omega)
    have f5 : WF.cell? ⟨w.heap.size + 2, 5, none⟩ = some (.slice none 0 0) := r6.cell (i := 5) (by omega)
    have HWWF := Lib.hid hWF
    clear hr r0 r1 r2 r3 r4 r5 r6 hWF
    have HBF := Lib.hid (hbWF w.heap.size w (by omega) (HNX.out _ HBB.out).1.below)
    clear hsWF hbWF hzWF
    go_wp2
    rw [← HWWF.out]
    refine bodyPost_ret (v := .tuple #[.agg #[.int .i64 0, .int .i64 0, .int .i64 0, .slice none 0 0, .slice none 0 0, .slice none 0 0], .int .i64 3]) ?_ rfl ?_
    · simp only [results, HRES.out]
      go_simp
    · exact ⟨_, (0, 0, 0, [], [], []), 3, rfl, GwCp.nil _ _, HBF.out, by rw [HCODE.out]; exact RsOut.of_no (by decide)⟩
  have HOK : Hid (AdOk p d e il jl kl p d2 e2 il2 jl2 kl2) := Lib.hid ⟨HC.out, HC2.out, rfl, by omega⟩
  obtain ⟨dn, hdn⟩ := Int.eq_ofNat_of_zero_le hdd.1
  obtain ⟨en, hen⟩ := Int.eq_ofNat_of_zero_le hee.1
  obtain ⟨dn2, hdn2⟩ := Int.eq_ofNat_of_zero_le hdd2.1
  obtain ⟨en2, hen2⟩ := Int.eq_ofNat_of_zero_le hee2.1
  have hdn : d = (dn : Int) := hdn
  have hen : e = (en : Int) := hen
  have hdn2 : d2 = (dn2 : Int) := hdn2
  have hen2 : e2 = (en2 : Int) := hen2
  subst hdn hen hdn2 hen2
  have HNS : Hid (∀ W, Below (w.heap.size + 2) w1 W → BxCp w W w.heap.size p (dn : Int) (en : Int) (.slice ai il.length ci) (.slice aj jl.length cj) (.slice ak kl.length ck) il jl kl ∧ BxCp w W (w.heap.size + 1) p (dn2 : Int) (en2 : Int) (.slice ai2 il2.length ci2) (.slice aj2 jl2.length cj2) (.slice ak2 kl2.length ck2) il2 jl2 kl2) := Lib.hid (fun W hb => by
    obtain ⟨h1, h2, _⟩ := HNX.out _ (Below.refl _ _)
    have hbw : Below w.heap.size w W := h1.below.trans (hb.mono (by omega))
    have hlw := hb.size
    have e1 : ∀ o, W.cell? ⟨w.heap.size, o, none⟩ = w1.cell? ⟨w.heap.size, o, none⟩ := fun o => hb.cell (p := ⟨w.heap.size, o, none⟩) (by show w.heap.size < w.heap.size + 2; omega)
    have e2 : ∀ o, W.cell? ⟨w.heap.size + 1, o, none⟩ = w1.cell? ⟨w.heap.size + 1, o, none⟩ := fun o => hb.cell (p := ⟨w.heap.size + 1, o, none⟩) (by show w.heap.size + 1 < w.heap.size + 2; omega)
    exact ⟨⟨hbw, (e1 0).trans h1.c0, (e1 1).trans h1.c1, (e1 2).trans h1.c2, (e1 3).trans h1.c3, (e1 4).trans h1.c4, (e1 5).trans h1.c5, by omega, HCX.out.1.below hbw⟩, ⟨hbw, (e2 0).trans h2.c0, (e2 1).trans h2.c1, (e2 2).trans h2.c2, (e2 3).trans h2.c3, (e2 4).trans h2.c4, (e2 5).trans h2.c5, by omega, HCX.out.2.below hbw⟩⟩)
  have HK0 : Hid (∀ W, Below (w.heap.size + 2) w1 W → Calls Try.prog 138 #[.slice ai il.length ci, .int .i64 (dn : Int), .slice ai2 il2.length ci2, .int .i64 (dn2 : Int)] W (GsR (sumT il dn il2 dn2) W)) := Lib.hid (fun W hW => l05Blocks_any _ _ il il2 dn dn2 W (HNS.out _ hW).1.cx.fi (HNS.out _ hW).2.cx.fi (by have := tab_len HC.out.2.2.2.1 (by omega); omega) (by have := tab_len HC2.out.2.2.2.1 (by omega); omega) (by omega) (by omega) (tab_row HC.out.2.2.2.1 (by omega)) (tab_row HC2.out.2.2.2.1 (by omega)))
  obtain ⟨m0, hm0⟩ : ∃ m, m = (sumT il dn il2 dn2).length := ⟨_, rfl⟩
  have HML0 := Lib.hid hm0
  clear hm0
  have HK1 : Hid (∀ W, Below (w.heap.size + 2) w1 W → Calls Try.prog 138 #[.slice aj jl.length cj, .int .i64 (en : Int), .slice aj2 jl2.length cj2, .int .i64 (en2 : Int)] W (GsR (sumT jl en jl2 en2) W)) := Lib.hid (fun W hW => l05Blocks_any _ _ jl jl2 en en2 W (HNS.out _ hW).1.cx.fj (HNS.out _ hW).2.cx.fj (by have := tab_len HC.out.2.2.2.2.1 (by omega); omega) (by have := tab_len HC2.out.2.2.2.2.1 (by omega); omega) (by omega) (by omega) (tab_row HC.out.2.2.2.2.1 (by omega)) (tab_row HC2.out.2.2.2.2.1 (by omega)))
  obtain ⟨m1, hm1⟩ : ∃ m, m = (sumT jl en jl2 en2).length := ⟨_, rfl⟩
  have HML1 := Lib.hid hm1
  clear hm1
  have HK2 : Hid (∀ W, Below (w.heap.size + 2) w1 W → Calls Try.prog 138 #[.slice ak kl.length ck, .int .i64 (dn : Int), .slice ak2 kl2.length ck2, .int .i64 (dn2 : Int)] W (GsR (sumT kl dn kl2 dn2) W)) := Lib.hid (fun W hW => l05Blocks_any _ _ kl kl2 dn dn2 W (HNS.out _ hW).1.cx.fk (HNS.out _ hW).2.cx.fk (by have := tab_len HC.out.2.2.2.2.2 (by omega); omega) (by have := tab_len HC2.out.2.2.2.2.2 (by omega); omega) (by omega) (by omega) (tab_row HC.out.2.2.2.2.2 (by omega)) (tab_row HC2.out.2.2.2.2.2 (by omega)))
  obtain ⟨m2, hm2⟩ : ∃ m, m = (sumT kl dn kl2 dn2).length := ⟨_, rfl⟩
  have HML2 := Lib.hid hm2
  clear hm2
  have HRZ := Lib.hid (HNX.out _ HBB.out).2.2
  have hsB : w1.heap.size ≤ wB.heap.size := HBB.out.size
  have HW1 := Lib.hid hw1
  have HW2 := Lib.hid hw2
  have hd1 : ¬ 24 < ((dn : Int) + (dn2 : Int)) := hovd
  have he1 : ¬ 24 < ((en : Int) + (en2 : Int)) := hove
  go_upto_region 7 with fail
  clear c0 c1 c2 c3 c4 c5 yc0 yc1 yc2 yc3 yc4 yc5
  go_wp2
  refine wp_region_held (S := fun W => Below (w.heap.size + 2) w1 W) (by kernel_rfl) ?_
  have S0 : Below (w.heap.size + 2) w1 wB.drew := (HBB.out.mono (by omega)).drew
  have hB0 : w.heap.size + 2 ≤ w1.heap.size := by omega
  have hsd : wB.heap.size ≤ wB.drew.heap.size := Nat.le_refl _
  have hbd : Below wB.heap.size wB wB.drew := (Below.refl _ _).drew
  change wpAnyH _ _ _ _ _ _ _ _ wB.drew
  obtain ⟨wd, hwd⟩ : ∃ wd, wd = wB.drew := ⟨_, rfl⟩
  rw [← hwd] at S0 hsd hbd ⊢
  clear hwd
  have hAR0 := HRZ.out.next hbd
  refine held_take (i := 0) (v := .pointer (some ⟨w.heap.size, 0, none⟩)) (some 39) rfl rfl (by kernel_rfl) (by kernel_rfl) (by kernel_rfl) (fun _ _ _ h => h) (yieldsIf_run (by kernel_rfl) (fun W _ => by kernel_rfl)) S0 ?_
  refine held_take (i := 1) (v := .int .i64 p) (some 40) rfl rfl (by kernel_rfl) (by kernel_rfl) (by kernel_rfl) (fun _ _ _ h => h) (yieldsIf_cell (by kernel_rfl) rfl (by kernel_rfl) (fun W h => hload W (HNS.out W h).1.c0)) S0 ?_
  refine held_take (i := 2) (v := .pointer (some ⟨w.heap.size, 1, none⟩)) (some 41) rfl rfl (by kernel_rfl) (by kernel_rfl) (by kernel_rfl) (fun _ _ _ h => h) (yieldsIf_run (by kernel_rfl) (fun W _ => by kernel_rfl)) S0 ?_
  refine held_take (i := 3) (v := .int .i64 (dn : Int)) (some 42) rfl rfl (by kernel_rfl) (by kernel_rfl) (by kernel_rfl) (fun _ _ _ h => h) (yieldsIf_cell (by kernel_rfl) rfl (by kernel_rfl) (fun W h => hload W (HNS.out W h).1.c1)) S0 ?_
  refine held_take (i := 4) (v := .pointer (some ⟨w.heap.size + 1, 1, none⟩)) (some 43) rfl rfl (by kernel_rfl) (by kernel_rfl) (by kernel_rfl) (fun _ _ _ h => h) (yieldsIf_run (by kernel_rfl) (fun W _ => by kernel_rfl)) S0 ?_
  refine held_take (i := 5) (v := .int .i64 (dn2 : Int)) (some 44) rfl rfl (by kernel_rfl) (by kernel_rfl) (by kernel_rfl) (fun _ _ _ h => h) (yieldsIf_cell (by kernel_rfl) rfl (by kernel_rfl) (fun W h => hload W (HNS.out W h).2.c1)) S0 ?_
  refine held_take (i := 6) (v := .int .i64 ((dn : Int) + (dn2 : Int))) (some 45) rfl rfl (by kernel_rfl) (by kernel_rfl) (by kernel_rfl) (fun _ _ _ h => h) (yieldsIf_bin (by kernel_rfl) rfl (by kernel_rfl) (by kernel_rfl) (fun _ => rfl) (haddI HW1.out)) S0 ?_
  refine held_take (i := 7) (v := .pointer (some ⟨w.heap.size, 2, none⟩)) (some 46) rfl rfl (by kernel_rfl) (by kernel_rfl) (by kernel_rfl) (fun _ _ _ h => h) (yieldsIf_run (by kernel_rfl) (fun W _ => by kernel_rfl)) S0 ?_
  refine held_take (i := 8) (v := .int .i64 (en : Int)) (some 47) rfl rfl (by kernel_rfl) (by kernel_rfl) (by kernel_rfl) (fun _ _ _ h => h) (yieldsIf_cell (by kernel_rfl) rfl (by kernel_rfl) (fun W h => hload W (HNS.out W h).1.c2)) S0 ?_
  refine held_take (i := 9) (v := .pointer (some ⟨w.heap.size + 1, 2, none⟩)) (some 48) rfl rfl (by kernel_rfl) (by kernel_rfl) (by kernel_rfl) (fun _ _ _ h => h) (yieldsIf_run (by kernel_rfl) (fun W _ => by kernel_rfl)) S0 ?_
  refine held_take (i := 10) (v := .int .i64 (en2 : Int)) (some 49) rfl rfl (by kernel_rfl) (by kernel_rfl) (by kernel_rfl) (fun _ _ _ h => h) (yieldsIf_cell (by kernel_rfl) rfl (by kernel_rfl) (fun W h => hload W (HNS.out W h).2.c2)) S0 ?_
  refine held_take (i := 11) (v := .int .i64 ((en : Int) + (en2 : Int))) (some 50) rfl rfl (by kernel_rfl) (by kernel_rfl) (by kernel_rfl) (fun _ _ _ h => h) (yieldsIf_bin (by kernel_rfl) rfl (by kernel_rfl) (by kernel_rfl) (fun _ => rfl) (haddI HW2.out)) S0 ?_
  refine held_take (i := 12) (v := .pointer (some ⟨w.heap.size, 3, none⟩)) (some 51) rfl rfl (by kernel_rfl) (by kernel_rfl) (by kernel_rfl) (fun _ _ _ h => h) (yieldsIf_run (by kernel_rfl) (fun W _ => by kernel_rfl)) S0 ?_
  refine held_take (i := 13) (v := .slice ai il.length ci) (some 52) rfl rfl (by kernel_rfl) (by kernel_rfl) (by kernel_rfl) (fun _ _ _ h => h) (yieldsIf_cell (by kernel_rfl) rfl (by kernel_rfl) (fun W h => hloadSSc W (HNS.out W h).1.c3)) S0 ?_
  refine held_take (i := 14) (v := .pointer (some ⟨w.heap.size, 1, none⟩)) (some 53) rfl rfl (by kernel_rfl) (by kernel_rfl) (by kernel_rfl) (fun _ _ _ h => h) (yieldsIf_run (by kernel_rfl) (fun W _ => by kernel_rfl)) S0 ?_
  refine held_take (i := 15) (v := .int .i64 (dn : Int)) (some 54) rfl rfl (by kernel_rfl) (by kernel_rfl) (by kernel_rfl) (fun _ _ _ h => h) (yieldsIf_cell (by kernel_rfl) rfl (by kernel_rfl) (fun W h => hload W (HNS.out W h).1.c1)) S0 ?_
  refine held_take (i := 16) (v := .pointer (some ⟨w.heap.size + 1, 3, none⟩)) (some 55) rfl rfl (by kernel_rfl) (by kernel_rfl) (by kernel_rfl) (fun _ _ _ h => h) (yieldsIf_run (by kernel_rfl) (fun W _ => by kernel_rfl)) S0 ?_
  refine held_take (i := 17) (v := .slice ai2 il2.length ci2) (some 56) rfl rfl (by kernel_rfl) (by kernel_rfl) (by kernel_rfl) (fun _ _ _ h => h) (yieldsIf_cell (by kernel_rfl) rfl (by kernel_rfl) (fun W h => hloadSSc W (HNS.out W h).2.c3)) S0 ?_
  refine held_take (i := 18) (v := .pointer (some ⟨w.heap.size + 1, 1, none⟩)) (some 57) rfl rfl (by kernel_rfl) (by kernel_rfl) (by kernel_rfl) (fun _ _ _ h => h) (yieldsIf_run (by kernel_rfl) (fun W _ => by kernel_rfl)) S0 ?_
  refine held_take (i := 19) (v := .int .i64 (dn2 : Int)) (some 58) rfl rfl (by kernel_rfl) (by kernel_rfl) (by kernel_rfl) (fun _ _ _ h => h) (yieldsIf_cell (by kernel_rfl) rfl (by kernel_rfl) (fun W h => hload W (HNS.out W h).2.c1)) S0 ?_
  refine held_take (i := 21) (v := .pointer (some ⟨w.heap.size, 4, none⟩)) (some 60) rfl rfl (by kernel_rfl) (by kernel_rfl) (by kernel_rfl) (fun _ _ _ h => h) (yieldsIf_run (by kernel_rfl) (fun W _ => by kernel_rfl)) S0 ?_
  refine held_take (i := 22) (v := .slice aj jl.length cj) (some 61) rfl rfl (by kernel_rfl) (by kernel_rfl) (by kernel_rfl) (fun _ _ _ h => h) (yieldsIf_cell (by kernel_rfl) rfl (by kernel_rfl) (fun W h => hloadSSc W (HNS.out W h).1.c4)) S0 ?_
  refine held_take (i := 23) (v := .pointer (some ⟨w.heap.size, 2, none⟩)) (some 62) rfl rfl (by kernel_rfl) (by kernel_rfl) (by kernel_rfl) (fun _ _ _ h => h) (yieldsIf_run (by kernel_rfl) (fun W _ => by kernel_rfl)) S0 ?_
  refine held_take (i := 24) (v := .int .i64 (en : Int)) (some 63) rfl rfl (by kernel_rfl) (by kernel_rfl) (by kernel_rfl) (fun _ _ _ h => h) (yieldsIf_cell (by kernel_rfl) rfl (by kernel_rfl) (fun W h => hload W (HNS.out W h).1.c2)) S0 ?_
  refine held_take (i := 25) (v := .pointer (some ⟨w.heap.size + 1, 4, none⟩)) (some 64) rfl rfl (by kernel_rfl) (by kernel_rfl) (by kernel_rfl) (fun _ _ _ h => h) (yieldsIf_run (by kernel_rfl) (fun W _ => by kernel_rfl)) S0 ?_
  refine held_take (i := 26) (v := .slice aj2 jl2.length cj2) (some 65) rfl rfl (by kernel_rfl) (by kernel_rfl) (by kernel_rfl) (fun _ _ _ h => h) (yieldsIf_cell (by kernel_rfl) rfl (by kernel_rfl) (fun W h => hloadSSc W (HNS.out W h).2.c4)) S0 ?_
  refine held_take (i := 27) (v := .pointer (some ⟨w.heap.size + 1, 2, none⟩)) (some 66) rfl rfl (by kernel_rfl) (by kernel_rfl) (by kernel_rfl) (fun _ _ _ h => h) (yieldsIf_run (by kernel_rfl) (fun W _ => by kernel_rfl)) S0 ?_
  refine held_take (i := 28) (v := .int .i64 (en2 : Int)) (some 67) rfl rfl (by kernel_rfl) (by kernel_rfl) (by kernel_rfl) (fun _ _ _ h => h) (yieldsIf_cell (by kernel_rfl) rfl (by kernel_rfl) (fun W h => hload W (HNS.out W h).2.c2)) S0 ?_
  refine held_take (i := 30) (v := .pointer (some ⟨w.heap.size, 5, none⟩)) (some 69) rfl rfl (by kernel_rfl) (by kernel_rfl) (by kernel_rfl) (fun _ _ _ h => h) (yieldsIf_run (by kernel_rfl) (fun W _ => by kernel_rfl)) S0 ?_
  refine held_take (i := 31) (v := .slice ak kl.length ck) (some 70) rfl rfl (by kernel_rfl) (by kernel_rfl) (by kernel_rfl) (fun _ _ _ h => h) (yieldsIf_cell (by kernel_rfl) rfl (by kernel_rfl) (fun W h => hloadSSc W (HNS.out W h).1.c5)) S0 ?_
  refine held_take (i := 32) (v := .pointer (some ⟨w.heap.size, 1, none⟩)) (some 71) rfl rfl (by kernel_rfl) (by kernel_rfl) (by kernel_rfl) (fun _ _ _ h => h) (yieldsIf_run (by kernel_rfl) (fun W _ => by kernel_rfl)) S0 ?_
  refine held_take (i := 33) (v := .int .i64 (dn : Int)) (some 72) rfl rfl (by kernel_rfl) (by kernel_rfl) (by kernel_rfl) (fun _ _ _ h => h) (yieldsIf_cell (by kernel_rfl) rfl (by kernel_rfl) (fun W h => hload W (HNS.out W h).1.c1)) S0 ?_
  refine held_take (i := 34) (v := .pointer (some ⟨w.heap.size + 1, 5, none⟩)) (some 73) rfl rfl (by kernel_rfl) (by kernel_rfl) (by kernel_rfl) (fun _ _ _ h => h) (yieldsIf_run (by kernel_rfl) (fun W _ => by kernel_rfl)) S0 ?_
  refine held_take (i := 35) (v := .slice ak2 kl2.length ck2) (some 74) rfl rfl (by kernel_rfl) (by kernel_rfl) (by kernel_rfl) (fun _ _ _ h => h) (yieldsIf_cell (by kernel_rfl) rfl (by kernel_rfl) (fun W h => hloadSSc W (HNS.out W h).2.c5)) S0 ?_
  refine held_take (i := 36) (v := .pointer (some ⟨w.heap.size + 1, 1, none⟩)) (some 75) rfl rfl (by kernel_rfl) (by kernel_rfl) (by kernel_rfl) (fun _ _ _ h => h) (yieldsIf_run (by kernel_rfl) (fun W _ => by kernel_rfl)) S0 ?_
  refine held_take (i := 37) (v := .int .i64 (dn2 : Int)) (some 76) rfl rfl (by kernel_rfl) (by kernel_rfl) (by kernel_rfl) (fun _ _ _ h => h) (yieldsIf_cell (by kernel_rfl) rfl (by kernel_rfl) (fun W h => hload W (HNS.out W h).2.c1)) S0 ?_
  refine held_one (i := 20) (by kernel_rfl) ?_
  · refine op_enter (i := 20) (some 59) (f := 138) (args := #[.slice ai il.length ci, .int .i64 (dn : Int), .slice ai2 il2.length ci2, .int .i64 (dn2 : Int)]) rfl rfl rfl (by kernel_rfl) (HK0.out wd S0) ?_ (fun c w' h => by obtain ⟨_, h, _⟩ := h; cases h) (fun w' h => by obtain ⟨_, h, _⟩ := h; cases h)
    rintro e1 W1 ⟨u1, he, hg1, hb1⟩
    injection he with he
    subst he
    obtain ⟨a1, c1, hv⟩ := Sl.shape hg1.l2
    rw [← HML0.out] at hv
    subst hv
    have S1 : Below (w.heap.size + 2) w1 W1 := S0.trans (hb1.mono (Nat.le_trans hB0 S0.size))
    have hAR1 := hAR0.next hb1
    refine ⟨S1, ?_⟩
    refine held_one (i := 29) (by kernel_rfl) ?_
    · refine op_enter (i := 29) (some 68) (f := 138) (args := #[.slice aj jl.length cj, .int .i64 (en : Int), .slice aj2 jl2.length cj2, .int .i64 (en2 : Int)]) rfl rfl rfl (by kernel_rfl) (HK1.out W1 S1) ?_ (fun c w' h => by obtain ⟨_, h, _⟩ := h; cases h) (fun w' h => by obtain ⟨_, h, _⟩ := h; cases h)
      rintro e2 W2 ⟨u2, he, hg2, hb2⟩
      injection he with he
      subst he
      obtain ⟨a2, c2, hv⟩ := Sl.shape hg2.l2
      rw [← HML1.out] at hv
      subst hv
      have S2 : Below (w.heap.size + 2) w1 W2 := S1.trans (hb2.mono (Nat.le_trans hB0 S1.size))
      have hAR2 := hAR1.next hb2
      have hg0_2 := hg1.below hb2
      refine ⟨S2, ?_⟩
      refine held_one (i := 38) (by kernel_rfl) ?_
      · refine op_enter (i := 38) (some 77) (f := 138) (args := #[.slice ak kl.length ck, .int .i64 (dn : Int), .slice ak2 kl2.length ck2, .int .i64 (dn2 : Int)]) rfl rfl rfl (by kernel_rfl) (HK2.out W2 S2) ?_ (fun c w' h => by obtain ⟨_, h, _⟩ := h; cases h) (fun w' h => by obtain ⟨_, h, _⟩ := h; cases h)
        rintro e3 W3 ⟨u3, he, hg3, hb3⟩
        injection he with he
        subst he
        obtain ⟨a3, c3, hv⟩ := Sl.shape hg3.l2
        rw [← HML2.out] at hv
        subst hv
        have S3 : Below (w.heap.size + 2) w1 W3 := S2.trans (hb3.mono (Nat.le_trans hB0 S2.size))
        have hAR3 := hAR2.next hb3
        have hg0_3 := hg0_2.below hb3
        have hg1_3 := hg2.below hb3
        refine ⟨S3, ?_⟩
        refine held_take (i := 39) (v := .agg #[.int .i64 p, .int .i64 ((dn : Int) + (dn2 : Int)), .int .i64 ((en : Int) + (en2 : Int)), .slice a1 m0 c1, .slice a2 m1 c2, .slice a3 m2 c3]) (some 78) rfl rfl (by kernel_rfl) (by kernel_rfl) (by kernel_rfl) (fun _ _ _ h => h) (yieldsIf_run (by kernel_rfl) (fun W _ => by kernel_rfl)) S3 ?_
        have hAR := hAR3
        have hGR : w.heap.size + 2 ≤ w.heap.size + 2 := Nat.le_refl _
        have S4 : Below (w.heap.size + 2) w1 (W3.setRow (w.heap.size + 2) #[.int .i64 p, .int .i64 ((dn : Int) + (dn2 : Int)), .int .i64 ((en : Int) + (en2 : Int)), .slice a1 m0 c1, .slice a2 m1 c2, .slice a3 m2 c3]) := below_setRow S3 hGR _
        refine held_one (i := 40) (by kernel_rfl) ?_
        refine op_row (i := 40) rfl rfl rfl 71 (.tmp 4) (.tmp 78) rfl (w.heap.size + 2) #[.int .i64 p, .int .i64 ((dn : Int) + (dn2 : Int)), .int .i64 ((en : Int) + (en2 : Int)), .slice a1 m0 c1, .slice a2 m1 c2, .slice a3 m2 c3] (by kernel_rfl) (by kernel_rfl) 71 _ hAR3 (Try.infoC6 _ _ _ _ _ _) (by kernel_rfl) (by kernel_rfl) ?_
        refine ⟨S4, ?_⟩
        have hAR4 := hAR3.set #[.int .i64 p, .int .i64 ((dn : Int) + (dn2 : Int)), .int .i64 ((en : Int) + (en2 : Int)), .slice a1 m0 c1, .slice a2 m1 c2, .slice a3 m2 c3]
        refine held_take (i := 41) (v := .int .i64 0) (some 5) rfl rfl (by kernel_rfl) (by kernel_rfl) (by kernel_rfl) (fun _ _ _ h => h) (yieldsIf_assign (by kernel_rfl) rfl (by kernel_rfl)) S4 ?_
        refine wpAnyH_done (by kernel_rfl) ?_ _
        simp only [Act.put, List.setIfInBounds_toArray, List.set_cons_zero, List.set_cons_succ]
        obtain ⟨WF, hWF⟩ : ∃ WF, WF = (W3.setRow (w.heap.size + 2) #[.int .i64 p, .int .i64 ((dn : Int) + (dn2 : Int)), .int .i64 ((en : Int) + (en2 : Int)), .slice a1 m0 c1, .slice a2 m1 c2, .slice a3 m2 c3]) := ⟨_, rfl⟩
        have hrf : Rz WF (w.heap.size + 2) 71 #[.int .i64 p, .int .i64 ((dn : Int) + (dn2 : Int)), .int .i64 ((en : Int) + (en2 : Int)), .slice a1 m0 c1, .slice a2 m1 c2, .slice a3 m2 c3] := by rw [hWF]; exact hAR4
        have hbf : Below w.heap.size w WF := by rw [hWF]; exact HBW.out.trans (S4.mono (by omega))
        have hG0 : Gs 0 WF (.slice a1 m0 c1) (sumT il dn il2 dn2) := by rw [hWF]; exact (hg0_3.mono (Nat.zero_le _)).offRow (hAR) (by decide) _
        have hG1 : Gs 0 WF (.slice a2 m1 c2) (sumT jl en jl2 en2) := by rw [hWF]; exact (hg1_3.mono (Nat.zero_le _)).offRow (hAR) (by decide) _
        have hG2 : Gs 0 WF (.slice a3 m2 c3) (sumT kl dn kl2 dn2) := by rw [hWF]; exact (hg3.mono (Nat.zero_le _)).offRow (hAR) (by decide) _
        rw [← hWF]
        have HRF := Lib.hid hrf
        have HBF := Lib.hid hbf
        have HG0 := Lib.hid hG0
        have HG1 := Lib.hid hG1
        have HG2 := Lib.hid hG2
        have f0 : WF.cell? ⟨w.heap.size + 2, 0, none⟩ = some (.int .i64 p) := HRF.out.cell rfl
        have f1 : WF.cell? ⟨w.heap.size + 2, 1, none⟩ = some (.int .i64 ((dn : Int) + (dn2 : Int))) := HRF.out.cell rfl
        have f2 : WF.cell? ⟨w.heap.size + 2, 2, none⟩ = some (.int .i64 ((en : Int) + (en2 : Int))) := HRF.out.cell rfl
        have f3 : WF.cell? ⟨w.heap.size + 2, 3, none⟩ = some (.slice a1 m0 c1) := HRF.out.cell rfl
        have f4 : WF.cell? ⟨w.heap.size + 2, 4, none⟩ = some (.slice a2 m1 c2) := HRF.out.cell rfl
        have f5 : WF.cell? ⟨w.heap.size + 2, 5, none⟩ = some (.slice a3 m2 c3) := HRF.out.cell rfl
        clear hWF hrf hbf hG0 hG1 hG2 hb1 hb2 hb3 S0 S1 S2 S3 S4 hAR hsd hbd hB0
        go_wp2
        refine bodyPost_ret (v := .tuple #[.agg #[.int .i64 p, .int .i64 ((dn : Int) + (dn2 : Int)), .int .i64 ((en : Int) + (en2 : Int)), .slice a1 m0 c1, .slice a2 m1 c2, .slice a3 m2 c3], .int .i64 0]) ?_ rfl ?_
        · simp only [results, HRES.out]
          go_simp
        · exact ⟨_, adOut p (dn : Int) (en : Int) il jl kl p (dn2 : Int) (en2 : Int) il2 jl2 kl2, 0, rfl, ⟨a1, c1, a2, c2, a3, c3, by simp only [adOut, Int.toNat_natCast]; rw [HML0.out, HML1.out, HML2.out], by simpa only [adOut, Int.toNat_natCast, ← HML0.out] using HG0.out, by simpa only [adOut, Int.toNat_natCast, ← HML1.out] using HG1.out, by simpa only [adOut, Int.toNat_natCast, ← HML2.out] using HG2.out⟩, HBF.out, RsOut.of_yes HOK.out.code rfl⟩
end Go.Proofs.Ytpdkfidmmjlmnab


namespace Go.Proofs.Ytpdkfidmmjlmnab
open Go.RowKit
theorem Same.setRow {lo hi g : Nat} {w : World} (x : Array Value) (h : g < lo ∨ hi ≤ g) : Same lo hi w (w.setRow g x) := fun b hl hb => setRow_other w g b x (by omega)
end Go.Proofs.Ytpdkfidmmjlmnab

