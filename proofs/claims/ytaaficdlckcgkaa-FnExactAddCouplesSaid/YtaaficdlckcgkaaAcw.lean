/-
  AddCouples of the program: its answer in memory of its own.
-/
import Derived.Test.YtaaficdlckcgkaaCpi
import Derived.Test.YtaaficdlckcgkaaCpr
import Derived.Test.YtaaficdlckcgkaaSmt
import Derived.Test.YtaaficdlckcgkaaStx
import Derived.Deep.Cut
import Derived.Deep.CutRange
namespace Go.Proofs.Ytaaficdlckcgkaa
open Go.RowKit

structure FillA (wr : World) (g n k : Nat) (f : Nat → Value) (b : Nat → Nat) (ts : List (List (List Int))) : Prop where
  row : wr.rowIs g 104 n f
  lo : g < b 0
  inc : ∀ j, j < k → b j ≤ b (j + 1)
  hi : b k ≤ wr.heap.size
  at' : ∀ j (h : j < ts.length), j < k → Rw2 (b j) (b (j + 1)) wr (f j) ts[j]
theorem FillA.start {wr : World} {g n : Nat} {f : Nat → Value} (h : wr.rowIs g 104 n f) (hg : g + 1 ≤ wr.heap.size) (ts : List (List (List Int))) : FillA wr g n 0 f (fun _ => g + 1) ts :=
  ⟨h, Nat.lt_succ_self _, fun _ h => absurd h (Nat.not_lt_zero _), hg, fun _ _ h => absurd h (Nat.not_lt_zero _)⟩
theorem FillA.next {wr w' : World} {g n k : Nat} {f : Nat → Value} {b : Nat → Nat} {ts : List (List (List Int))} (h : FillA wr g n k f b ts) (hb : Below wr.heap.size wr w') (hm : ∀ j, j < k → b (j + 1) ≤ b k) : FillA w' g n k f b ts :=
  ⟨h.row.of_block (hb.block _ h.row.lt), h.lo, h.inc, Nat.le_trans h.hi hb.size, fun j hj hk => (h.at' j hj hk).next hb (Nat.le_trans (hm j hk) h.hi)⟩
theorem FillA.below {wr w' : World} {g n k : Nat} {f : Nat → Value} {b : Nat → Nat} {ts : List (List (List Int))} (h : FillA wr g n k f b ts) (hb : Below wr.heap.size wr w') : FillA w' g n k f b ts := h.next hb (fun j hj => inc_le h.inc (j + 1) hj)
theorem FillA.out {wr : World} {g n k : Nat} {f : Nat → Value} {b : Nat → Nat} {ts : List (List (List Int))} (h : FillA wr g n k f b ts) {a : Addr} (ha : a.block < g) (v : Value) : FillA (wr.setCell a v) g n k f b ts :=
  ⟨h.row.setOther (by omega) v, h.lo, h.inc, by simpa using h.hi, fun j hj hk => (h.at' j hj hk).same (fun x hx _ => Below.heap_setCell wr a v x (by have := h.lo; have := inc_le (b := b) (k := j) (fun i hi => h.inc i (by omega)) 0 (Nat.zero_le _); omega))⟩
theorem FillA.step {wr w1 : World} {g n k : Nat} {f : Nat → Value} {b : Nat → Nat} {ts : List (List (List Int))} {u : Value} (h : FillA wr g n k f b ts) (hb : Below wr.heap.size wr w1) (hk : k < ts.length) (hu : Rw2 wr.heap.size w1.heap.size w1 u ts[k]) :
    FillA (w1.setCell ⟨g, k, none⟩ u) g n (k + 1) (fun j => if j = k then u else f j) (fun j => if j < k then b j else if j = k then wr.heap.size else w1.heap.size) ts := by
  have hlt := h.row.lt
  have hr : w1.rowIs g 104 n f := h.row.of_block (hb.block _ hlt)
  have hsm : ∀ lo hi, g < lo → Same lo hi w1 (w1.setCell ⟨g, k, none⟩ u) := fun lo hi hl => Same.set u (Or.inl hl)
  refine ⟨hr.set k u, ?_, fun j hj => ?_, ?_, fun j hj hjk => ?_⟩
  · by_cases e : 0 < k
    · simp only [if_pos e]; exact h.lo
    · simp only [if_neg e, if_pos (show 0 = k by omega)]; exact hlt
  · by_cases e : j < k
    · simp only [if_pos e]
      by_cases e2 : j + 1 < k
      · simp only [if_pos e2]; exact h.inc j e
      · simp only [if_neg e2, if_pos (show j + 1 = k by omega)]
        have := inc_le h.inc j (by omega)
        have := h.hi
        omega
    · simp only [if_neg e, if_pos (show j = k by omega), if_neg (show ¬ j + 1 < k by omega), if_neg (show ¬ j + 1 = k by omega)]
      exact hb.size
  · simp only [if_neg (show ¬ k + 1 < k by omega), if_neg (show ¬ k + 1 = k by omega)]
    simp
  · by_cases e : j = k
    · subst e
      simp only [if_neg (show ¬ j < j by omega), if_neg (show ¬ j + 1 < j by omega), if_neg (show ¬ j + 1 = j by omega), if_true]
      exact hu.same (hsm _ _ hlt)
    · have hj' : j < k := by omega
      have hh := inc_le h.inc (j + 1) hj'
      have h0 := inc_le (b := b) (k := j) (fun i hi => h.inc i (by omega)) 0 (Nat.zero_le _)
      have hl0 := h.lo
      have ht := ((h.at' j hj hj').next hb (Nat.le_trans hh h.hi)).same (hsm _ _ (by omega))
      simp only [if_neg e, if_pos hj']
      by_cases e2 : j + 1 < k
      · simp only [if_pos e2]; exact ht
      · simp only [if_neg e2, if_pos (show j + 1 = k by omega)]
        exact ht.wider (Nat.le_refl _) (Nat.le_trans hh h.hi)
theorem Try.infoL (a b c d : Value) : (Try.prog.info? 92).map (·.size) = some (#[a, b, c, d] : Array Value).size := by kernel_rfl
theorem Try.infoCp : (Try.prog.info? 40).map (·.size) = some 6 := by kernel_rfl
def sel6 (a b c d e f : Value) : Nat → Value := fun i => if i = 0 then a else if i = 1 then b else if i = 2 then c else if i = 3 then d else if i = 4 then e else f
theorem rowIs6 {w : World} {g : Nat} {a b c d e f : Value} {t : TypeId} (h : w.heap[g]? = some (.cells #[a, b, c, d, e, f] t)) : w.rowIs g t 6 (sel6 a b c d e f) :=
  ⟨#[a, b, c, d, e, f], h, rfl, fun i hi => by
    match i, hi with
    | 0, _ => rfl
    | 1, _ => rfl
    | 2, _ => rfl
    | 3, _ => rfl
    | 4, _ => rfl
    | 5, _ => rfl⟩
open Classical in
/-- The code of a sum of couples, and the sum. -/
noncomputable def adCode (p d e : Int) (il jl kl : List (List Int)) (p2 d2 e2 : Int) (il2 jl2 kl2 : List (List Int)) : Int :=
  if ¬ (IsCp p d e il jl kl ∧ IsCp p2 d2 e2 il2 jl2 kl2) then 1 else if p ≠ p2 then 2 else if 24 < d + d2 ∨ 24 < e + e2 then 3 else 0
structure AdOk (p d e : Int) (il jl kl : List (List Int)) (p2 d2 e2 : Int) (il2 jl2 kl2 : List (List Int)) : Prop where
  c : IsCp p d e il jl kl
  c2 : IsCp p2 d2 e2 il2 jl2 kl2
  prime : p = p2
  fit : ¬ (24 < d + d2 ∨ 24 < e + e2)
theorem adCode_zero {p d e : Int} {il jl kl : List (List Int)} {p2 d2 e2 : Int} {il2 jl2 kl2 : List (List Int)} (h : adCode p d e il jl kl p2 d2 e2 il2 jl2 kl2 = 0) : AdOk p d e il jl kl p2 d2 e2 il2 jl2 kl2 := by
  unfold adCode at h
  by_cases h1 : IsCp p d e il jl kl ∧ IsCp p2 d2 e2 il2 jl2 kl2
  · rw [if_neg (fun k => k h1)] at h
    by_cases h2 : p = p2
    · rw [if_neg (fun k => k h2)] at h
      by_cases h3 : 24 < d + d2 ∨ 24 < e + e2
      · rw [if_pos h3] at h; cases h
      · exact ⟨h1.1, h1.2, h2, h3⟩
    · rw [if_pos h2] at h; cases h
  · rw [if_pos h1] at h; cases h
theorem AdOk.code {p d e : Int} {il jl kl : List (List Int)} {p2 d2 e2 : Int} {il2 jl2 kl2 : List (List Int)} (h : AdOk p d e il jl kl p2 d2 e2 il2 jl2 kl2) : adCode p d e il jl kl p2 d2 e2 il2 jl2 kl2 = 0 := by
  unfold adCode
  rw [if_neg (fun k => k ⟨h.c, h.c2⟩), if_neg (fun k => k h.prime), if_neg h.fit]
def adOut (p d e : Int) (il jl kl : List (List Int)) (_p2 d2 e2 : Int) (il2 jl2 kl2 : List (List Int)) : CpO :=
  (p, d + d2, e + e2, sumT il d.toNat il2 d2.toNat, sumT jl e.toNat jl2 e2.toNat, sumT kl d.toNat kl2 d2.toNat)
theorem sumT_bd {a b : List (List Int)} {l r : Nat} (ha : a.length ≤ 24) (hb : b.length ≤ 24) (hl : l ≤ 24) (hr : r ≤ 24) (hal : ∀ x ∈ a, x.length = l) (hbl : ∀ x ∈ b, x.length = r) : Bd2 1048576 (sumT a l b r) := by
  refine ⟨by rw [sumT_length]; omega, fun x hx => ?_⟩
  unfold sumT at hx
  rcases List.mem_append.1 hx with h | h
  · obtain ⟨y, hy, rfl⟩ := List.mem_map.1 h
    have := hal y hy
    show _ ≤ _
    simp
    omega
  · obtain ⟨y, hy, rfl⟩ := List.mem_map.1 h
    have := hbl y hy
    show _ ≤ _
    simp
    omega
theorem tab_len {p r c : Int} {t : List (List Int)} (h : TabOk p r c t) (hr : r ≤ 24) : t.length ≤ 24 := by have := h.1; omega
theorem tab_row {p r c : Int} {t : List (List Int)} (h : TabOk p r c t) (hc : 0 ≤ c) : ∀ x ∈ t, x.length = c.toNat := fun x hx => by have := (h.2 x hx).1; omega
theorem adOut_bd {p d e : Int} {il jl kl : List (List Int)} {p2 d2 e2 : Int} {il2 jl2 kl2 : List (List Int)} (h : AdOk p d e il jl kl p2 d2 e2 il2 jl2 kl2) : CpBo (adOut p d e il jl kl p2 d2 e2 il2 jl2 kl2) := by
  have h1 := h.c
  have h2 := h.c2
  have hd := h1.2.1
  have he := h1.2.2.1
  have hd2 := h2.2.1
  have he2 := h2.2.2.1
  exact ⟨sumT_bd (tab_len h1.2.2.2.1 (by omega)) (tab_len h2.2.2.2.1 (by omega)) (by omega) (by omega) (tab_row h1.2.2.2.1 (by omega)) (tab_row h2.2.2.2.1 (by omega)),
    sumT_bd (tab_len h1.2.2.2.2.1 (by omega)) (tab_len h2.2.2.2.2.1 (by omega)) (by omega) (by omega) (tab_row h1.2.2.2.2.1 (by omega)) (tab_row h2.2.2.2.2.1 (by omega)),
    sumT_bd (tab_len h1.2.2.2.2.2 (by omega)) (tab_len h2.2.2.2.2.2 (by omega)) (by omega) (by omega) (tab_row h1.2.2.2.2.2 (by omega)) (tab_row h2.2.2.2.2.2 (by omega))⟩
/-- What one round of AddCouples' loop meets. -/
structure AdRound (p d e : Int) (iv jv kv : Value) (il jl kl : List (List Int)) (p2 d2 e2 : Int) (iv2 jv2 kv2 : Value) (il2 jl2 kl2 : List (List Int)) (k : Nat) (f : FuncId) (a a2 : Int) (n n2 : Nat) (av : Option Addr) (cv : Nat) (av2 : Option Addr) (cv2 : Nat) (t t2 : List (List Int)) : Prop where
  fns : f = 127 ∨ f = 128 ∨ f = 129
  idx : ∀ W, (Instr.index 96 (.agg #[.func (.func 127) #[] #[], .func (.func 128) #[] #[], .func (.func 129) #[] #[]]) (.int .i64 (k : Int))).run Try.prog W = .ok (.func (.func f) #[] #[]) W
  one : ∀ W, Cp 0 W iv jv kv il jl kl → Calls Try.prog f #[.agg #[.int .i64 p, .int .i64 d, .int .i64 e, iv, jv, kv]] W (BR (.agg #[.int .i64 p, .int .i64 a, .int .i64 (n : Int), .slice av t.length cv]) W)
  two : ∀ W, Cp 0 W iv2 jv2 kv2 il2 jl2 kl2 → Calls Try.prog f #[.agg #[.int .i64 p2, .int .i64 d2, .int .i64 e2, iv2, jv2, kv2]] W (BR (.agg #[.int .i64 p2, .int .i64 a2, .int .i64 (n2 : Int), .slice av2 t2.length cv2]) W)
  r1 : ∀ W, Cp 0 W iv jv kv il jl kl → L2 0 W (.slice av t.length cv) t
  r2 : ∀ W, Cp 0 W iv2 jv2 kv2 il2 jl2 kl2 → L2 0 W (.slice av2 t2.length cv2) t2
  l1 : t.length ≤ 24
  l2 : t2.length ≤ 24
  n1 : n ≤ 24
  n2' : n2 ≤ 24
  w1 : ∀ x ∈ t, x.length = n
  w2 : ∀ x ∈ t2, x.length = n2
  out : ∀ h : k < 3, [sumT il d.toNat il2 d2.toNat, sumT jl e.toNat jl2 e2.toNat, sumT kl d.toNat kl2 d2.toNat][k] = sumT t n t2 n2
theorem adRound_any (p d e : Int) (ai : Option Addr) (ci : Nat) (aj : Option Addr) (cj : Nat) (ak : Option Addr) (ck : Nat) (il jl kl : List (List Int)) (p2 d2 e2 : Int) (ai2 : Option Addr) (ci2 : Nat) (aj2 : Option Addr) (cj2 : Nat) (ak2 : Option Addr) (ck2 : Nat) (il2 jl2 kl2 : List (List Int)) (h1 : IsCp p d e il jl kl) (h2 : IsCp p2 d2 e2 il2 jl2 kl2) (k : Nat) (hk : k < 3) :
    ∃ f a a2 n n2 av cv av2 cv2 t t2, AdRound p d e (.slice ai il.length ci) (.slice aj jl.length cj) (.slice ak kl.length ck) il jl kl p2 d2 e2 (.slice ai2 il2.length ci2) (.slice aj2 jl2.length cj2) (.slice ak2 kl2.length ck2) il2 jl2 kl2 k f a a2 n n2 av cv av2 cv2 t t2 := by
  have hd := h1.2.1
  have he := h1.2.2.1
  have hd2 := h2.2.1
  have he2 := h2.2.2.1
  match k, hk with
  | 0, _ => exact ⟨127, d, d2, d.toNat, d2.toNat, ai, ci, ai2, ci2, il, il2, Or.inl rfl, idxM0, fun W h => by rw [Int.toNat_of_nonneg hd.1]; exact mapI_any p d e _ _ _ il jl kl W h, fun W h => by rw [Int.toNat_of_nonneg hd2.1]; exact mapI_any p2 d2 e2 _ _ _ il2 jl2 kl2 W h, fun W h => h.fi, fun W h => h.fi, tab_len h1.2.2.2.1 (by omega), tab_len h2.2.2.2.1 (by omega), by omega, by omega, tab_row h1.2.2.2.1 (by omega), tab_row h2.2.2.2.1 (by omega), fun _ => rfl⟩
  | 1, _ => exact ⟨128, d, d2, e.toNat, e2.toNat, aj, cj, aj2, cj2, jl, jl2, Or.inr (Or.inl rfl), idxM1, fun W h => by rw [Int.toNat_of_nonneg he.1]; exact mapJ_any p d e _ _ _ il jl kl W h, fun W h => by rw [Int.toNat_of_nonneg he2.1]; exact mapJ_any p2 d2 e2 _ _ _ il2 jl2 kl2 W h, fun W h => h.fj, fun W h => h.fj, tab_len h1.2.2.2.2.1 (by omega), tab_len h2.2.2.2.2.1 (by omega), by omega, by omega, tab_row h1.2.2.2.2.1 (by omega), tab_row h2.2.2.2.2.1 (by omega), fun _ => rfl⟩
  | 2, _ => exact ⟨129, e, e2, d.toNat, d2.toNat, ak, ck, ak2, ck2, kl, kl2, Or.inr (Or.inr rfl), idxM2, fun W h => by rw [Int.toNat_of_nonneg hd.1]; exact mapK_any p d e _ _ _ il jl kl W h, fun W h => by rw [Int.toNat_of_nonneg hd2.1]; exact mapK_any p2 d2 e2 _ _ _ il2 jl2 kl2 W h, fun W h => h.fk, fun W h => h.fk, tab_len h1.2.2.2.2.2 (by omega), tab_len h2.2.2.2.2.2 (by omega), by omega, by omega, tab_row h1.2.2.2.2.2 (by omega), tab_row h2.2.2.2.2.2 (by omega), fun _ => rfl⟩
theorem hload6' (w : World) {b : Nat} {p d e : Int} {iv jv kv : Value} {il jl kl : List (List Int)} {w0 : World} (h : BxCp w0 w b p d e iv jv kv il jl kl) : (Instr.loadAt 40 (.pointer (some ⟨b, 0, none⟩))).run Try.prog w = .ok (.agg #[.int .i64 p, .int .i64 d, .int .i64 e, iv, jv, kv]) w := hload6 w h.c0 h.c1 h.c2 h.c3 h.c4 h.c5

set_option maxHeartbeats 12800000 in
set_option maxRecDepth 100000 in
theorem addCouples_any (p d e p2 d2 e2 : Int) (iv jv kv iv2 jv2 kv2 : Value) (il jl kl il2 jl2 kl2 : List (List Int)) (w : World) (h : Cp 0 w iv jv kv il jl kl) (h2 : Cp 0 w iv2 jv2 kv2 il2 jl2 kl2) (hm : CpB 1048576 il jl kl) (hm2 : CpB 1048576 il2 jl2 kl2) :
    Calls Try.prog 40 #[.agg #[.int .i64 p, .int .i64 d, .int .i64 e, iv, jv, kv], .agg #[.int .i64 p2, .int .i64 d2, .int .i64 e2, iv2, jv2, kv2]] w (AnsW RwCp (fun o => o = adOut p d e il jl kl p2 d2 e2 il2 jl2 kl2) (0, 0, 0, [], [], []) (adCode p d e il jl kl p2 d2 e2 il2 jl2 kl2) w) := by
  have hres : Try.f40.results = #[.cell 4 40, .tmp 5] := by kernel_rfl
  have HRES := Lib.hid hres
  have HM := Lib.hid hm
  have HM2 := Lib.hid hm2
  obtain ⟨wa, hwa⟩ : ∃ wa, wa = (w.alloc (.cells #[.int .i64 p, .int .i64 d, .int .i64 e, iv, jv, kv] 40)).alloc (.cells #[.int .i64 p2, .int .i64 d2, .int .i64 e2, iv2, jv2, kv2] 40) := ⟨_, rfl⟩
  obtain ⟨w1, hw1⟩ : ∃ w1, w1 = wa.alloc (.cells #[.int .i64 0, .int .i64 0, .int .i64 0, .slice none 0 0, .slice none 0 0, .slice none 0 0] 40) := ⟨_, rfl⟩
  have hsa : wa.heap.size = w.heap.size + 2 := by rw [hwa]; simp
  have hs1 : w.heap.size + 3 ≤ w1.heap.size := by rw [hw1]; simp [hsa]
  have hlt0 : w.heap.size < w1.heap.size := by omega
  have hlt1 : w.heap.size + 1 < w1.heap.size := by omega
  have hlt2 : w.heap.size + 2 < w1.heap.size := by omega
  have HX : Hid (BxCp w w1 w.heap.size p d e iv jv kv il jl kl) := Lib.hid (by rw [hw1]; exact (show BxCp w wa w.heap.size p d e iv jv kv il jl kl by rw [hwa]; exact (bxCp_two 40 h h2).1).next (below_alloc1 _ _))
  have HY : Hid (BxCp w w1 (w.heap.size + 1) p2 d2 e2 iv2 jv2 kv2 il2 jl2 kl2) := Lib.hid (by rw [hw1]; exact (show BxCp w wa (w.heap.size + 1) p2 d2 e2 iv2 jv2 kv2 il2 jl2 kl2 by rw [hwa]; exact (bxCp_two 40 h h2).2).next (below_alloc1 _ _))
  have HR0 : Hid (Rz w1 (w.heap.size + 2) 40 #[.int .i64 0, .int .i64 0, .int .i64 0, .slice none 0 0, .slice none 0 0, .slice none 0 0]) := Lib.hid (by rw [hw1, ← hsa]; exact Rz.new _ _ _)
  obtain ⟨⟨ai, ci, rfl⟩, ⟨aj, cj, rfl⟩, ⟨ak, ck, rfl⟩⟩ := HX.out.cx.shapes
  obtain ⟨⟨ai2, ci2, rfl⟩, ⟨aj2, cj2, rfl⟩, ⟨ak2, ck2, rfl⟩⟩ := HY.out.cx.shapes
  have HNX : Hid (∀ W, Below w1.heap.size w1 W → BxCp w W w.heap.size p d e (.slice ai il.length ci) (.slice aj jl.length cj) (.slice ak kl.length ck) il jl kl ∧ BxCp w W (w.heap.size + 1) p2 d2 e2 (.slice ai2 il2.length ci2) (.slice aj2 jl2.length cj2) (.slice ak2 kl2.length ck2) il2 jl2 kl2 ∧ Rz W (w.heap.size + 2) 40 #[.int .i64 0, .int .i64 0, .int .i64 0, .slice none 0 0, .slice none 0 0, .slice none 0 0]) := Lib.hid (fun W hb => ⟨HX.out.next hb, HY.out.next hb, HR0.out.next hb⟩)
  have HB0 : Hid (Below w1.heap.size w1 w1) := Lib.hid (Below.refl _ _)
  clear h h2 hm hm2 hres
  have c0 := HX.out.c0
  have c1 := HX.out.c1
  have c2 := HX.out.c2
  have c3 := HX.out.c3
  have c4 := HX.out.c4
  have c5 := HX.out.c5
  have yc0 := HY.out.c0
  have yc1 := HY.out.c1
  have yc2 := HY.out.c2
  have yc3 := HY.out.c3
  have yc4 := HY.out.c4
  have yc5 := HY.out.c5
  clear HX HY HR0
  go_enter Try.func40, Try.ntmps40
  go_upto_region 1 with fail
  rw [← hwa, ← hw1]
  clear hwa hw1 hsa
  by_cases hc : ¬ IsCp p d e il jl kl
  · have HC := Lib.hid hc
    have HCODE : Hid (adCode p d e il jl kl p2 d2 e2 il2 jl2 kl2 = 1) := Lib.hid (by unfold adCode; rw [if_pos (fun k => hc k.1)])
    clear hc
    go_wp2_with fail
    refine (isCouple_any p d e _ _ _ il jl kl _ (HNX.out _ HB0.out).1.cx HM.out).mono ?_
    rintro ee wA ⟨b, rfl, hb, hbb⟩
    obtain rfl : b = false := bb_no hbb HC.out
    clear hbb
    have HBA := Lib.hid (HB0.out.trans (hb.mono HB0.out.size))
    clear c0 c1 c2 c3 c4 c5 yc0 yc1 yc2 yc3 yc4 yc5
    clear hb
    have c0 := (HNX.out _ HBA.out).1.c0
    have c1 := (HNX.out _ HBA.out).1.c1
    have c2 := (HNX.out _ HBA.out).1.c2
    have c3 := (HNX.out _ HBA.out).1.c3
    have c4 := (HNX.out _ HBA.out).1.c4
    have c5 := (HNX.out _ HBA.out).1.c5
    have yc0 := (HNX.out _ HBA.out).2.1.c0
    have yc1 := (HNX.out _ HBA.out).2.1.c1
    have yc2 := (HNX.out _ HBA.out).2.1.c2
    have yc3 := (HNX.out _ HBA.out).2.1.c3
    have yc4 := (HNX.out _ HBA.out).2.1.c4
    have yc5 := (HNX.out _ HBA.out).2.1.c5
    have HR1 : ∃ x0 x1 x2 x3 x4 x5, wA.heap[w.heap.size + 2]? = some (.cells #[x0, x1, x2, x3, x4, x5] 40) := ⟨_, _, _, _, _, _, (HNX.out _ HBA.out).2.2⟩
    obtain ⟨x0, x1, x2, x3, x4, x5, hr⟩ := HR1
    have r0 : wA.rowIs (w.heap.size + 2) 40 6 (sel6 x0 x1 x2 x3 x4 x5) := rowIs6 hr
    have q0 : wA.cell? ⟨w.heap.size + 2, 0, none⟩ = some x0 := r0.cell (i := 0) (by omega)
    have z0 : wA.frozen? ⟨w.heap.size + 2, 0, none⟩ = false := r0.frozen 0
    have r1 := r0.set 0 (.int .i64 0)
    have q1 : (wA.setCell ⟨w.heap.size + 2, 0, none⟩ (.int .i64 0)).cell? ⟨w.heap.size + 2, 1, none⟩ = some x1 := r1.cell (i := 1) (by omega)
    have z1 : (wA.setCell ⟨w.heap.size + 2, 0, none⟩ (.int .i64 0)).frozen? ⟨w.heap.size + 2, 1, none⟩ = false := r1.frozen 1
    have r2 := r1.set 1 (.int .i64 0)
    have q2 : ((wA.setCell ⟨w.heap.size + 2, 0, none⟩ (.int .i64 0)).setCell ⟨w.heap.size + 2, 1, none⟩ (.int .i64 0)).cell? ⟨w.heap.size + 2, 2, none⟩ = some x2 := r2.cell (i := 2) (by omega)
    have z2 : ((wA.setCell ⟨w.heap.size + 2, 0, none⟩ (.int .i64 0)).setCell ⟨w.heap.size + 2, 1, none⟩ (.int .i64 0)).frozen? ⟨w.heap.size + 2, 2, none⟩ = false := r2.frozen 2
    have r3 := r2.set 2 (.int .i64 0)
    have q3 : (((wA.setCell ⟨w.heap.size + 2, 0, none⟩ (.int .i64 0)).setCell ⟨w.heap.size + 2, 1, none⟩ (.int .i64 0)).setCell ⟨w.heap.size + 2, 2, none⟩ (.int .i64 0)).cell? ⟨w.heap.size + 2, 3, none⟩ = some x3 := r3.cell (i := 3) (by omega)
    have z3 : (((wA.setCell ⟨w.heap.size + 2, 0, none⟩ (.int .i64 0)).setCell ⟨w.heap.size + 2, 1, none⟩ (.int .i64 0)).setCell ⟨w.heap.size + 2, 2, none⟩ (.int .i64 0)).frozen? ⟨w.heap.size + 2, 3, none⟩ = false := r3.frozen 3
    have r4 := r3.set 3 (.slice none 0 0)
    have q4 : ((((wA.setCell ⟨w.heap.size + 2, 0, none⟩ (.int .i64 0)).setCell ⟨w.heap.size + 2, 1, none⟩ (.int .i64 0)).setCell ⟨w.heap.size + 2, 2, none⟩ (.int .i64 0)).setCell ⟨w.heap.size + 2, 3, none⟩ (.slice none 0 0)).cell? ⟨w.heap.size + 2, 4, none⟩ = some x4 := r4.cell (i := 4) (by omega)
    have z4 : ((((wA.setCell ⟨w.heap.size + 2, 0, none⟩ (.int .i64 0)).setCell ⟨w.heap.size + 2, 1, none⟩ (.int .i64 0)).setCell ⟨w.heap.size + 2, 2, none⟩ (.int .i64 0)).setCell ⟨w.heap.size + 2, 3, none⟩ (.slice none 0 0)).frozen? ⟨w.heap.size + 2, 4, none⟩ = false := r4.frozen 4
    have r5 := r4.set 4 (.slice none 0 0)
    have q5 : (((((wA.setCell ⟨w.heap.size + 2, 0, none⟩ (.int .i64 0)).setCell ⟨w.heap.size + 2, 1, none⟩ (.int .i64 0)).setCell ⟨w.heap.size + 2, 2, none⟩ (.int .i64 0)).setCell ⟨w.heap.size + 2, 3, none⟩ (.slice none 0 0)).setCell ⟨w.heap.size + 2, 4, none⟩ (.slice none 0 0)).cell? ⟨w.heap.size + 2, 5, none⟩ = some x5 := r5.cell (i := 5) (by omega)
    have z5 : (((((wA.setCell ⟨w.heap.size + 2, 0, none⟩ (.int .i64 0)).setCell ⟨w.heap.size + 2, 1, none⟩ (.int .i64 0)).setCell ⟨w.heap.size + 2, 2, none⟩ (.int .i64 0)).setCell ⟨w.heap.size + 2, 3, none⟩ (.slice none 0 0)).setCell ⟨w.heap.size + 2, 4, none⟩ (.slice none 0 0)).frozen? ⟨w.heap.size + 2, 5, none⟩ = false := r5.frozen 5
    have r6 := r5.set 5 (.slice none 0 0)
    obtain ⟨WF, hWF⟩ : ∃ W : World, W = ((((((wA.setCell ⟨w.heap.size + 2, 0, none⟩ (.int .i64 0)).setCell ⟨w.heap.size + 2, 1, none⟩ (.int .i64 0)).setCell ⟨w.heap.size + 2, 2, none⟩ (.int .i64 0)).setCell ⟨w.heap.size + 2, 3, none⟩ (.slice none 0 0)).setCell ⟨w.heap.size + 2, 4, none⟩ (.slice none 0 0)).setCell ⟨w.heap.size + 2, 5, none⟩ (.slice none 0 0)) := ⟨_, rfl⟩
    have hbWF : ∀ B (w0 : World), B ≤ w.heap.size + 2 → Below B w0 wA → Below B w0 WF := fun B w0 hl hb => by rw [hWF]; exact ((((((hb.setCell (by show B ≤ w.heap.size + 2; exact hl) _).setCell (by show B ≤ w.heap.size + 2; exact hl) _).setCell (by show B ≤ w.heap.size + 2; exact hl) _).setCell (by show B ≤ w.heap.size + 2; exact hl) _).setCell (by show B ≤ w.heap.size + 2; exact hl) _).setCell (by show B ≤ w.heap.size + 2; exact hl) _)
    have hsWF : ∀ lo hi, w.heap.size + 2 < lo ∨ hi ≤ w.heap.size + 2 → Same lo hi wA WF := fun lo hi hl => by rw [hWF]; exact ((((((Same.set _ hl).trans (Same.set _ hl)).trans (Same.set _ hl)).trans (Same.set _ hl)).trans (Same.set _ hl)).trans (Same.set _ hl))
    have hzWF : WF.heap.size = wA.heap.size := by rw [hWF]; simp
    rw [← hWF] at r6
    have f0 : WF.cell? ⟨w.heap.size + 2, 0, none⟩ = some (.int .i64 0) := r6.cell (i := 0) (by omega)
    have f1 : WF.cell? ⟨w.heap.size + 2, 1, none⟩ = some (.int .i64 0) := r6.cell (i := 1) (by omega)
    have f2 : WF.cell? ⟨w.heap.size + 2, 2, none⟩ = some (.int .i64 0) := r6.cell (i := 2) (by omega)
    have f3 : WF.cell? ⟨w.heap.size + 2, 3, none⟩ = some (.slice none 0 0) := r6.cell (i := 3) (by omega)
    have f4 : WF.cell? ⟨w.heap.size + 2, 4, none⟩ = some (.slice none 0 0) := r6.cell (i := 4) (by omega)
    have f5 : WF.cell? ⟨w.heap.size + 2, 5, none⟩ = some (.slice none 0 0) := r6.cell (i := 5) (by omega)
    have HWWF := Lib.hid hWF
    clear hr r0 r1 r2 r3 r4 r5 r6 hWF
    have HBF := Lib.hid (hbWF w.heap.size w (by omega) (HNX.out _ HBA.out).1.below)
    clear hsWF hbWF hzWF
    go_wp2
    rw [← HWWF.out]
    refine bodyPost_ret (v := .tuple #[.agg #[.int .i64 0, .int .i64 0, .int .i64 0, .slice none 0 0, .slice none 0 0, .slice none 0 0], .int .i64 1]) ?_ rfl ?_
    · simp only [results, HRES.out]
      go_simp
    · exact ⟨_, (0, 0, 0, [], [], []), 1, rfl, RwCp.nil _ _ _, HBF.out, by rw [HCODE.out]; exact RsOut.of_no (by decide)⟩
  have HC := Lib.hid (Classical.not_not.1 hc)
  clear hc
  go_wp2_with fail
  refine (isCouple_any p d e _ _ _ il jl kl _ (HNX.out _ HB0.out).1.cx HM.out).mono ?_
  rintro ee wA ⟨b, rfl, hb, hbb⟩
  obtain rfl : b = true := hbb.2 HC.out
  clear hbb
  have HBA := Lib.hid (HB0.out.trans (hb.mono HB0.out.size))
  clear c0 c1 c2 c3 c4 c5 yc0 yc1 yc2 yc3 yc4 yc5
  clear hb
  have c0 := (HNX.out _ HBA.out).1.c0
  have c1 := (HNX.out _ HBA.out).1.c1
  have c2 := (HNX.out _ HBA.out).1.c2
  have c3 := (HNX.out _ HBA.out).1.c3
  have c4 := (HNX.out _ HBA.out).1.c4
  have c5 := (HNX.out _ HBA.out).1.c5
  have yc0 := (HNX.out _ HBA.out).2.1.c0
  have yc1 := (HNX.out _ HBA.out).2.1.c1
  have yc2 := (HNX.out _ HBA.out).2.1.c2
  have yc3 := (HNX.out _ HBA.out).2.1.c3
  have yc4 := (HNX.out _ HBA.out).2.1.c4
  have yc5 := (HNX.out _ HBA.out).2.1.c5
  by_cases hc : ¬ IsCp p2 d2 e2 il2 jl2 kl2
  · have HC2 := Lib.hid hc
    have HCODE : Hid (adCode p d e il jl kl p2 d2 e2 il2 jl2 kl2 = 1) := Lib.hid (by unfold adCode; rw [if_pos (fun k => hc k.2)])
    clear hc
    go_wp2_with fail
    refine (isCouple_any p2 d2 e2 _ _ _ il2 jl2 kl2 _ (HNX.out _ HBA.out).2.1.cx HM2.out).mono ?_
    rintro ee wB ⟨b, rfl, hb, hbb⟩
    obtain rfl : b = false := bb_no hbb HC2.out
    clear hbb
    have HBB := Lib.hid (HBA.out.trans (hb.mono HBA.out.size))
    clear c0 c1 c2 c3 c4 c5 yc0 yc1 yc2 yc3 yc4 yc5
    clear hb
    have c0 := (HNX.out _ HBB.out).1.c0
    have c1 := (HNX.out _ HBB.out).1.c1
    have c2 := (HNX.out _ HBB.out).1.c2
    have c3 := (HNX.out _ HBB.out).1.c3
    have c4 := (HNX.out _ HBB.out).1.c4
    have c5 := (HNX.out _ HBB.out).1.c5
    have yc0 := (HNX.out _ HBB.out).2.1.c0
    have yc1 := (HNX.out _ HBB.out).2.1.c1
    have yc2 := (HNX.out _ HBB.out).2.1.c2
    have yc3 := (HNX.out _ HBB.out).2.1.c3
    have yc4 := (HNX.out _ HBB.out).2.1.c4
    have yc5 := (HNX.out _ HBB.out).2.1.c5
    have HR1 : ∃ x0 x1 x2 x3 x4 x5, wB.heap[w.heap.size + 2]? = some (.cells #[x0, x1, x2, x3, x4, x5] 40) := ⟨_, _, _, _, _, _, (HNX.out _ HBB.out).2.2⟩
    obtain ⟨x0, x1, x2, x3, x4, x5, hr⟩ := HR1
    have r0 : wB.rowIs (w.heap.size + 2) 40 6 (sel6 x0 x1 x2 x3 x4 x5) := rowIs6 hr
    have q0 : wB.cell? ⟨w.heap.size + 2, 0, none⟩ = some x0 := r0.cell (i := 0) (by omega)
    have z0 : wB.frozen? ⟨w.heap.size + 2, 0, none⟩ = false := r0.frozen 0
    have r1 := r0.set 0 (.int .i64 0)
    have q1 : (wB.setCell ⟨w.heap.size + 2, 0, none⟩ (.int .i64 0)).cell? ⟨w.heap.size + 2, 1, none⟩ = some x1 := r1.cell (i := 1) (by omega)
    have z1 : (wB.setCell ⟨w.heap.size + 2, 0, none⟩ (.int .i64 0)).frozen? ⟨w.heap.size + 2, 1, none⟩ = false := r1.frozen 1
    have r2 := r1.set 1 (.int .i64 0)
    have q2 : ((wB.setCell ⟨w.heap.size + 2, 0, none⟩ (.int .i64 0)).setCell ⟨w.heap.size + 2, 1, none⟩ (.int .i64 0)).cell? ⟨w.heap.size + 2, 2, none⟩ = some x2 := r2.cell (i := 2) (by omega)
    have z2 : ((wB.setCell ⟨w.heap.size + 2, 0, none⟩ (.int .i64 0)).setCell ⟨w.heap.size + 2, 1, none⟩ (.int .i64 0)).frozen? ⟨w.heap.size + 2, 2, none⟩ = false := r2.frozen 2
    have r3 := r2.set 2 (.int .i64 0)
    have q3 : (((wB.setCell ⟨w.heap.size + 2, 0, none⟩ (.int .i64 0)).setCell ⟨w.heap.size + 2, 1, none⟩ (.int .i64 0)).setCell ⟨w.heap.size + 2, 2, none⟩ (.int .i64 0)).cell? ⟨w.heap.size + 2, 3, none⟩ = some x3 := r3.cell (i := 3) (by omega)
    have z3 : (((wB.setCell ⟨w.heap.size + 2, 0, none⟩ (.int .i64 0)).setCell ⟨w.heap.size + 2, 1, none⟩ (.int .i64 0)).setCell ⟨w.heap.size + 2, 2, none⟩ (.int .i64 0)).frozen? ⟨w.heap.size + 2, 3, none⟩ = false := r3.frozen 3
    have r4 := r3.set 3 (.slice none 0 0)
    have q4 : ((((wB.setCell ⟨w.heap.size + 2, 0, none⟩ (.int .i64 0)).setCell ⟨w.heap.size + 2, 1, none⟩ (.int .i64 0)).setCell ⟨w.heap.size + 2, 2, none⟩ (.int .i64 0)).setCell ⟨w.heap.size + 2, 3, none⟩ (.slice none 0 0)).cell? ⟨w.heap.size + 2, 4, none⟩ = some x4 := r4.cell (i := 4) (by omega)
    have z4 : ((((wB.setCell ⟨w.heap.size + 2, 0, none⟩ (.int .i64 0)).setCell ⟨w.heap.size + 2, 1, none⟩ (.int .i64 0)).setCell ⟨w.heap.size + 2, 2, none⟩ (.int .i64 0)).setCell ⟨w.heap.size + 2, 3, none⟩ (.slice none 0 0)).frozen? ⟨w.heap.size + 2, 4, none⟩ = false := r4.frozen 4
    have r5 := r4.set 4 (.slice none 0 0)
    have q5 : (((((wB.setCell ⟨w.heap.size + 2, 0, none⟩ (.int .i64 0)).setCell ⟨w.heap.size + 2, 1, none⟩ (.int .i64 0)).setCell ⟨w.heap.size + 2, 2, none⟩ (.int .i64 0)).setCell ⟨w.heap.size + 2, 3, none⟩ (.slice none 0 0)).setCell ⟨w.heap.size + 2, 4, none⟩ (.slice none 0 0)).cell? ⟨w.heap.size + 2, 5, none⟩ = some x5 := r5.cell (i := 5) (by omega)
    have z5 : (((((wB.setCell ⟨w.heap.size + 2, 0, none⟩ (.int .i64 0)).setCell ⟨w.heap.size + 2, 1, none⟩ (.int .i64 0)).setCell ⟨w.heap.size + 2, 2, none⟩ (.int .i64 0)).setCell ⟨w.heap.size + 2, 3, none⟩ (.slice none 0 0)).setCell ⟨w.heap.size + 2, 4, none⟩ (.slice none 0 0)).frozen? ⟨w.heap.size + 2, 5, none⟩ = false := r5.frozen 5
    have r6 := r5.set 5 (.slice none 0 0)
    obtain ⟨WF, hWF⟩ : ∃ W : World, W = ((((((wB.setCell ⟨w.heap.size + 2, 0, none⟩ (.int .i64 0)).setCell ⟨w.heap.size + 2, 1, none⟩ (.int .i64 0)).setCell ⟨w.heap.size + 2, 2, none⟩ (.int .i64 0)).setCell ⟨w.heap.size + 2, 3, none⟩ (.slice none 0 0)).setCell ⟨w.heap.size + 2, 4, none⟩ (.slice none 0 0)).setCell ⟨w.heap.size + 2, 5, none⟩ (.slice none 0 0)) := ⟨_, rfl⟩
    have hbWF : ∀ B (w0 : World), B ≤ w.heap.size + 2 → Below B w0 wB → Below B w0 WF := fun B w0 hl hb => by rw [hWF]; exact ((((((hb.setCell (by show B ≤ w.heap.size + 2; exact hl) _).setCell (by show B ≤ w.heap.size + 2; exact hl) _).setCell (by show B ≤ w.heap.size + 2; exact hl) _).setCell (by show B ≤ w.heap.size + 2; exact hl) _).setCell (by show B ≤ w.heap.size + 2; exact hl) _).setCell (by show B ≤ w.heap.size + 2; exact hl) _)
    have hsWF : ∀ lo hi, w.heap.size + 2 < lo ∨ hi ≤ w.heap.size + 2 → Same lo hi wB WF := fun lo hi hl => by rw [hWF]; exact ((((((Same.set _ hl).trans (Same.set _ hl)).trans (Same.set _ hl)).trans (Same.set _ hl)).trans (Same.set _ hl)).trans (Same.set _ hl))
    have hzWF : WF.heap.size = wB.heap.size := by rw [hWF]; simp
    rw [← hWF] at r6
    have f0 : WF.cell? ⟨w.heap.size + 2, 0, none⟩ = some (.int .i64 0) := r6.cell (i := 0) (by omega)
    have f1 : WF.cell? ⟨w.heap.size + 2, 1, none⟩ = some (.int .i64 0) := r6.cell (i := 1) (by omega)
    have f2 : WF.cell? ⟨w.heap.size + 2, 2, none⟩ = some (.int .i64 0) := r6.cell (i := 2) (by omega)
    have f3 : WF.cell? ⟨w.heap.size + 2, 3, none⟩ = some (.slice none 0 0) := r6.cell (i := 3) (by omega)
    have f4 : WF.cell? ⟨w.heap.size + 2, 4, none⟩ = some (.slice none 0 0) := r6.cell (i := 4) (by omega)
    have f5 : WF.cell? ⟨w.heap.size + 2, 5, none⟩ = some (.slice none 0 0) := r6.cell (i := 5) (by omega)
    have HWWF := Lib.hid hWF
    clear hr r0 r1 r2 r3 r4 r5 r6 hWF
    have HBF := Lib.hid (hbWF w.heap.size w (by omega) (HNX.out _ HBB.out).1.below)
    clear hsWF hbWF hzWF
    go_wp2
    rw [← HWWF.out]
    refine bodyPost_ret (v := .tuple #[.agg #[.int .i64 0, .int .i64 0, .int .i64 0, .slice none 0 0, .slice none 0 0, .slice none 0 0], .int .i64 1]) ?_ rfl ?_
    · simp only [results, HRES.out]
      go_simp
    · exact ⟨_, (0, 0, 0, [], [], []), 1, rfl, RwCp.nil _ _ _, HBF.out, by rw [HCODE.out]; exact RsOut.of_no (by decide)⟩
  have HC2 := Lib.hid (Classical.not_not.1 hc)
  clear hc
  go_wp2_with fail
  refine (isCouple_any p2 d2 e2 _ _ _ il2 jl2 kl2 _ (HNX.out _ HBA.out).2.1.cx HM2.out).mono ?_
  rintro ee wB ⟨b, rfl, hb, hbb⟩
  obtain rfl : b = true := hbb.2 HC2.out
  clear hbb
  have HBB := Lib.hid (HBA.out.trans (hb.mono HBA.out.size))
  clear c0 c1 c2 c3 c4 c5 yc0 yc1 yc2 yc3 yc4 yc5
  clear hb
  have c0 := (HNX.out _ HBB.out).1.c0
  have c1 := (HNX.out _ HBB.out).1.c1
  have c2 := (HNX.out _ HBB.out).1.c2
  have c3 := (HNX.out _ HBB.out).1.c3
  have c4 := (HNX.out _ HBB.out).1.c4
  have c5 := (HNX.out _ HBB.out).1.c5
  have yc0 := (HNX.out _ HBB.out).2.1.c0
  have yc1 := (HNX.out _ HBB.out).2.1.c1
  have yc2 := (HNX.out _ HBB.out).2.1.c2
  have yc3 := (HNX.out _ HBB.out).2.1.c3
  have yc4 := (HNX.out _ HBB.out).2.1.c4
  have yc5 := (HNX.out _ HBB.out).2.1.c5
  by_cases hpp : ¬ p = p2
  · have hne1 : (p != p2) = true := by simp [hpp]
    have hne2 : (p == p2) = false := by simp [hpp]
    have HCODE : Hid (adCode p d e il jl kl p2 d2 e2 il2 jl2 kl2 = 2) := Lib.hid (by unfold adCode; rw [if_neg (fun k => k ⟨HC.out, HC2.out⟩), if_pos hpp])
    have HR1 : ∃ x0 x1 x2 x3 x4 x5, wB.heap[w.heap.size + 2]? = some (.cells #[x0, x1, x2, x3, x4, x5] 40) := ⟨_, _, _, _, _, _, (HNX.out _ HBB.out).2.2⟩
    obtain ⟨x0, x1, x2, x3, x4, x5, hr⟩ := HR1
    have r0 : wB.rowIs (w.heap.size + 2) 40 6 (sel6 x0 x1 x2 x3 x4 x5) := rowIs6 hr
    have q0 : wB.cell? ⟨w.heap.size + 2, 0, none⟩ = some x0 := r0.cell (i := 0) (by omega)
    have z0 : wB.frozen? ⟨w.heap.size + 2, 0, none⟩ = false := r0.frozen 0
    have r1 := r0.set 0 (.int .i64 0)
    have q1 : (wB.setCell ⟨w.heap.size + 2, 0, none⟩ (.int .i64 0)).cell? ⟨w.heap.size + 2, 1, none⟩ = some x1 := r1.cell (i := 1) (by omega)
    have z1 : (wB.setCell ⟨w.heap.size + 2, 0, none⟩ (.int .i64 0)).frozen? ⟨w.heap.size + 2, 1, none⟩ = false := r1.frozen 1
    have r2 := r1.set 1 (.int .i64 0)
    have q2 : ((wB.setCell ⟨w.heap.size + 2, 0, none⟩ (.int .i64 0)).setCell ⟨w.heap.size + 2, 1, none⟩ (.int .i64 0)).cell? ⟨w.heap.size + 2, 2, none⟩ = some x2 := r2.cell (i := 2) (by omega)
    have z2 : ((wB.setCell ⟨w.heap.size + 2, 0, none⟩ (.int .i64 0)).setCell ⟨w.heap.size + 2, 1, none⟩ (.int .i64 0)).frozen? ⟨w.heap.size + 2, 2, none⟩ = false := r2.frozen 2
    have r3 := r2.set 2 (.int .i64 0)
    have q3 : (((wB.setCell ⟨w.heap.size + 2, 0, none⟩ (.int .i64 0)).setCell ⟨w.heap.size + 2, 1, none⟩ (.int .i64 0)).setCell ⟨w.heap.size + 2, 2, none⟩ (.int .i64 0)).cell? ⟨w.heap.size + 2, 3, none⟩ = some x3 := r3.cell (i := 3) (by omega)
    have z3 : (((wB.setCell ⟨w.heap.size + 2, 0, none⟩ (.int .i64 0)).setCell ⟨w.heap.size + 2, 1, none⟩ (.int .i64 0)).setCell ⟨w.heap.size + 2, 2, none⟩ (.int .i64 0)).frozen? ⟨w.heap.size + 2, 3, none⟩ = false := r3.frozen 3
    have r4 := r3.set 3 (.slice none 0 0)
    have q4 : ((((wB.setCell ⟨w.heap.size + 2, 0, none⟩ (.int .i64 0)).setCell ⟨w.heap.size + 2, 1, none⟩ (.int .i64 0)).setCell ⟨w.heap.size + 2, 2, none⟩ (.int .i64 0)).setCell ⟨w.heap.size + 2, 3, none⟩ (.slice none 0 0)).cell? ⟨w.heap.size + 2, 4, none⟩ = some x4 := r4.cell (i := 4) (by omega)
    have z4 : ((((wB.setCell ⟨w.heap.size + 2, 0, none⟩ (.int .i64 0)).setCell ⟨w.heap.size + 2, 1, none⟩ (.int .i64 0)).setCell ⟨w.heap.size + 2, 2, none⟩ (.int .i64 0)).setCell ⟨w.heap.size + 2, 3, none⟩ (.slice none 0 0)).frozen? ⟨w.heap.size + 2, 4, none⟩ = false := r4.frozen 4
    have r5 := r4.set 4 (.slice none 0 0)
    have q5 : (((((wB.setCell ⟨w.heap.size + 2, 0, none⟩ (.int .i64 0)).setCell ⟨w.heap.size + 2, 1, none⟩ (.int .i64 0)).setCell ⟨w.heap.size + 2, 2, none⟩ (.int .i64 0)).setCell ⟨w.heap.size + 2, 3, none⟩ (.slice none 0 0)).setCell ⟨w.heap.size + 2, 4, none⟩ (.slice none 0 0)).cell? ⟨w.heap.size + 2, 5, none⟩ = some x5 := r5.cell (i := 5) (by omega)
    have z5 : (((((wB.setCell ⟨w.heap.size + 2, 0, none⟩ (.int .i64 0)).setCell ⟨w.heap.size + 2, 1, none⟩ (.int .i64 0)).setCell ⟨w.heap.size + 2, 2, none⟩ (.int .i64 0)).setCell ⟨w.heap.size + 2, 3, none⟩ (.slice none 0 0)).setCell ⟨w.heap.size + 2, 4, none⟩ (.slice none 0 0)).frozen? ⟨w.heap.size + 2, 5, none⟩ = false := r5.frozen 5
    have r6 := r5.set 5 (.slice none 0 0)
    obtain ⟨WF, hWF⟩ : ∃ W : World, W = ((((((wB.setCell ⟨w.heap.size + 2, 0, none⟩ (.int .i64 0)).setCell ⟨w.heap.size + 2, 1, none⟩ (.int .i64 0)).setCell ⟨w.heap.size + 2, 2, none⟩ (.int .i64 0)).setCell ⟨w.heap.size + 2, 3, none⟩ (.slice none 0 0)).setCell ⟨w.heap.size + 2, 4, none⟩ (.slice none 0 0)).setCell ⟨w.heap.size + 2, 5, none⟩ (.slice none 0 0)) := ⟨_, rfl⟩
    have hbWF : ∀ B (w0 : World), B ≤ w.heap.size + 2 → Below B w0 wB → Below B w0 WF := fun B w0 hl hb => by rw [hWF]; exact ((((((hb.setCell (by show B ≤ w.heap.size + 2; exact hl) _).setCell (by show B ≤ w.heap.size + 2; exact hl) _).setCell (by show B ≤ w.heap.size + 2; exact hl) _).setCell (by show B ≤ w.heap.size + 2; exact hl) _).setCell (by show B ≤ w.heap.size + 2; exact hl) _).setCell (by show B ≤ w.heap.size + 2; exact hl) _)
    have hsWF : ∀ lo hi, w.heap.size + 2 < lo ∨ hi ≤ w.heap.size + 2 → Same lo hi wB WF := fun lo hi hl => by rw [hWF]; exact ((((((Same.set _ hl).trans (Same.set _ hl)).trans (Same.set _ hl)).trans (Same.set _ hl)).trans (Same.set _ hl)).trans (Same.set _ hl))
    have hzWF : WF.heap.size = wB.heap.size := by rw [hWF]; simp
    rw [← hWF] at r6
    have f0 : WF.cell? ⟨w.heap.size + 2, 0, none⟩ = some (.int .i64 0) := r6.cell (i := 0) (by omega)
    have f1 : WF.cell? ⟨w.heap.size + 2, 1, none⟩ = some (.int .i64 0) := r6.cell (i := 1) (by omega)
    have f2 : WF.cell? ⟨w.heap.size + 2, 2, none⟩ = some (.int .i64 0) := r6.cell (i := 2) (by omega)
    have f3 : WF.cell? ⟨w.heap.size + 2, 3, none⟩ = some (.slice none 0 0) := r6.cell (i := 3) (by omega)
    have f4 : WF.cell? ⟨w.heap.size + 2, 4, none⟩ = some (.slice none 0 0) := r6.cell (i := 4) (by omega)
    have f5 : WF.cell? ⟨w.heap.size + 2, 5, none⟩ = some (.slice none 0 0) := r6.cell (i := 5) (by omega)
    have HWWF := Lib.hid hWF
    clear hr r0 r1 r2 r3 r4 r5 r6 hWF
    have HBF := Lib.hid (hbWF w.heap.size w (by omega) (HNX.out _ HBB.out).1.below)
    clear hsWF hbWF hzWF
    go_wp2
    rw [← HWWF.out]
    refine bodyPost_ret (v := .tuple #[.agg #[.int .i64 0, .int .i64 0, .int .i64 0, .slice none 0 0, .slice none 0 0, .slice none 0 0], .int .i64 2]) ?_ rfl ?_
    · simp only [results, HRES.out]
      go_simp
    · exact ⟨_, (0, 0, 0, [], [], []), 2, rfl, RwCp.nil _ _ _, HBF.out, by rw [HCODE.out]; exact RsOut.of_no (by decide)⟩
  have hpp2 := Classical.not_not.1 hpp
  clear hpp
  subst hpp2
  have hne1 : (p != p) = false := by simp
  have hne2 : (p == p) = true := by simp
  have hdd := HC.out.2.1
  have hee := HC.out.2.2.1
  have hdd2 := HC2.out.2.1
  have hee2 := HC2.out.2.2.1
  have hw1 : IntKind.i64.wrap (d + d2) = d + d2 := IntWalk.i64_in _ (by omega)
  have hw2 : IntKind.i64.wrap (e + e2) = e + e2 := IntWalk.i64_in _ (by omega)
  by_cases hovd : 24 < d + d2
  · have HCODE : Hid (adCode p d e il jl kl p d2 e2 il2 jl2 kl2 = 3) := Lib.hid (by unfold adCode; rw [if_neg (fun k => k ⟨HC.out, HC2.out⟩), if_neg (fun k => k rfl), if_pos (Or.inl hovd)])
    have HR1 : ∃ x0 x1 x2 x3 x4 x5, wB.heap[w.heap.size + 2]? = some (.cells #[x0, x1, x2, x3, x4, x5] 40) := ⟨_, _, _, _, _, _, (HNX.out _ HBB.out).2.2⟩
    obtain ⟨x0, x1, x2, x3, x4, x5, hr⟩ := HR1
    have r0 : wB.rowIs (w.heap.size + 2) 40 6 (sel6 x0 x1 x2 x3 x4 x5) := rowIs6 hr
    have q0 : wB.cell? ⟨w.heap.size + 2, 0, none⟩ = some x0 := r0.cell (i := 0) (by omega)
    have z0 : wB.frozen? ⟨w.heap.size + 2, 0, none⟩ = false := r0.frozen 0
    have r1 := r0.set 0 (.int .i64 0)
    have q1 : (wB.setCell ⟨w.heap.size + 2, 0, none⟩ (.int .i64 0)).cell? ⟨w.heap.size + 2, 1, none⟩ = some x1 := r1.cell (i := 1) (by omega)
    have z1 : (wB.setCell ⟨w.heap.size + 2, 0, none⟩ (.int .i64 0)).frozen? ⟨w.heap.size + 2, 1, none⟩ = false := r1.frozen 1
    have r2 := r1.set 1 (.int .i64 0)
    have q2 : ((wB.setCell ⟨w.heap.size + 2, 0, none⟩ (.int .i64 0)).setCell ⟨w.heap.size + 2, 1, none⟩ (.int .i64 0)).cell? ⟨w.heap.size + 2, 2, none⟩ = some x2 := r2.cell (i := 2) (by omega)
    have z2 : ((wB.setCell ⟨w.heap.size + 2, 0, none⟩ (.int .i64 0)).setCell ⟨w.heap.size + 2, 1, none⟩ (.int .i64 0)).frozen? ⟨w.heap.size + 2, 2, none⟩ = false := r2.frozen 2
    have r3 := r2.set 2 (.int .i64 0)
    have q3 : (((wB.setCell ⟨w.heap.size + 2, 0, none⟩ (.int .i64 0)).setCell ⟨w.heap.size + 2, 1, none⟩ (.int .i64 0)).setCell ⟨w.heap.size + 2, 2, none⟩ (.int .i64 0)).cell? ⟨w.heap.size + 2, 3, none⟩ = some x3 := r3.cell (i := 3) (by omega)
    have z3 : (((wB.setCell ⟨w.heap.size + 2, 0, none⟩ (.int .i64 0)).setCell ⟨w.heap.size + 2, 1, none⟩ (.int .i64 0)).setCell ⟨w.heap.size + 2, 2, none⟩ (.int .i64 0)).frozen? ⟨w.heap.size + 2, 3, none⟩ = false := r3.frozen 3
    have r4 := r3.set 3 (.slice none 0 0)
    have q4 : ((((wB.setCell ⟨w.heap.size + 2, 0, none⟩ (.int .i64 0)).setCell ⟨w.heap.size + 2, 1, none⟩ (.int .i64 0)).setCell ⟨w.heap.size + 2, 2, none⟩ (.int .i64 0)).setCell ⟨w.heap.size + 2, 3, none⟩ (.slice none 0 0)).cell? ⟨w.heap.size + 2, 4, none⟩ = some x4 := r4.cell (i := 4) (by omega)
    have z4 : ((((wB.setCell ⟨w.heap.size + 2, 0, none⟩ (.int .i64 0)).setCell ⟨w.heap.size + 2, 1, none⟩ (.int .i64 0)).setCell ⟨w.heap.size + 2, 2, none⟩ (.int .i64 0)).setCell ⟨w.heap.size + 2, 3, none⟩ (.slice none 0 0)).frozen? ⟨w.heap.size + 2, 4, none⟩ = false := r4.frozen 4
    have r5 := r4.set 4 (.slice none 0 0)
    have q5 : (((((wB.setCell ⟨w.heap.size + 2, 0, none⟩ (.int .i64 0)).setCell ⟨w.heap.size + 2, 1, none⟩ (.int .i64 0)).setCell ⟨w.heap.size + 2, 2, none⟩ (.int .i64 0)).setCell ⟨w.heap.size + 2, 3, none⟩ (.slice none 0 0)).setCell ⟨w.heap.size + 2, 4, none⟩ (.slice none 0 0)).cell? ⟨w.heap.size + 2, 5, none⟩ = some x5 := r5.cell (i := 5) (by omega)
    have z5 : (((((wB.setCell ⟨w.heap.size + 2, 0, none⟩ (.int .i64 0)).setCell ⟨w.heap.size + 2, 1, none⟩ (.int .i64 0)).setCell ⟨w.heap.size + 2, 2, none⟩ (.int .i64 0)).setCell ⟨w.heap.size + 2, 3, none⟩ (.slice none 0 0)).setCell ⟨w.heap.size + 2, 4, none⟩ (.slice none 0 0)).frozen? ⟨w.heap.size + 2, 5, none⟩ = false := r5.frozen 5
    have r6 := r5.set 5 (.slice none 0 0)
    obtain ⟨WF, hWF⟩ : ∃ W : World, W = ((((((wB.setCell ⟨w.heap.size + 2, 0, none⟩ (.int .i64 0)).setCell ⟨w.heap.size + 2, 1, none⟩ (.int .i64 0)).setCell ⟨w.heap.size + 2, 2, none⟩ (.int .i64 0)).setCell ⟨w.heap.size + 2, 3, none⟩ (.slice none 0 0)).setCell ⟨w.heap.size + 2, 4, none⟩ (.slice none 0 0)).setCell ⟨w.heap.size + 2, 5, none⟩ (.slice none 0 0)) := ⟨_, rfl⟩
    have hbWF : ∀ B (w0 : World), B ≤ w.heap.size + 2 → Below B w0 wB → Below B w0 WF := fun B w0 hl hb => by rw [hWF]; exact ((((((hb.setCell (by show B ≤ w.heap.size + 2; exact hl) _).setCell (by show B ≤ w.heap.size + 2; exact hl) _).setCell (by show B ≤ w.heap.size + 2; exact hl) _).setCell (by show B ≤ w.heap.size + 2; exact hl) _).setCell (by show B ≤ w.heap.size + 2; exact hl) _).setCell (by show B ≤ w.heap.size + 2; exact hl) _)
    have hsWF : ∀ lo hi, w.heap.size + 2 < lo ∨ hi ≤ w.heap.size + 2 → Same lo hi wB WF := fun lo hi hl => by rw [hWF]; exact ((((((Same.set _ hl).trans (Same.set _ hl)).trans (Same.set _ hl)).trans (Same.set _ hl)).trans (Same.set _ hl)).trans (Same.set _ hl))
    have hzWF : WF.heap.size = wB.heap.size := by rw [hWF]; simp
    rw [← hWF] at r6
    have f0 : WF.cell? ⟨w.heap.size + 2, 0, none⟩ = some (.int .i64 0) := r6.cell (i := 0) (by omega)
    have f1 : WF.cell? ⟨w.heap.size + 2, 1, none⟩ = some (.int .i64 0) := r6.cell (i := 1) (by omega)
    have f2 : WF.cell? ⟨w.heap.size + 2, 2, none⟩ = some (.int .i64 0) := r6.cell (i := 2) (by omega)
    have f3 : WF.cell? ⟨w.heap.size + 2, 3, none⟩ = some (.slice none 0 0) := r6.cell (i := 3) (by omega)
    have f4 : WF.cell? ⟨w.heap.size + 2, 4, none⟩ = some (.slice none 0 0) := r6.cell (i := 4) (by omega)
    have f5 : WF.cell? ⟨w.heap.size + 2, 5, none⟩ = some (.slice none 0 0) := r6.cell (i := 5) (by omega)
    have HWWF := Lib.hid hWF
    clear hr r0 r1 r2 r3 r4 r5 r6 hWF
    have HBF := Lib.hid (hbWF w.heap.size w (by omega) (HNX.out _ HBB.out).1.below)
    clear hsWF hbWF hzWF
    go_wp2
    rw [← HWWF.out]
    refine bodyPost_ret (v := .tuple #[.agg #[.int .i64 0, .int .i64 0, .int .i64 0, .slice none 0 0, .slice none 0 0, .slice none 0 0], .int .i64 3]) ?_ rfl ?_
    · simp only [results, HRES.out]
      go_simp
    · exact ⟨_, (0, 0, 0, [], [], []), 3, rfl, RwCp.nil _ _ _, HBF.out, by rw [HCODE.out]; exact RsOut.of_no (by decide)⟩
  by_cases hove : 24 < e + e2
  · have HCODE : Hid (adCode p d e il jl kl p d2 e2 il2 jl2 kl2 = 3) := Lib.hid (by unfold adCode; rw [if_neg (fun k => k ⟨HC.out, HC2.out⟩), if_neg (fun k => k rfl), if_pos (Or.inr hove)])
    have HR1 : ∃ x0 x1 x2 x3 x4 x5, wB.heap[w.heap.size + 2]? = some (.cells #[x0, x1, x2, x3, x4, x5] 40) := ⟨_, _, _, _, _, _, (HNX.out _ HBB.out).2.2⟩
    obtain ⟨x0, x1, x2, x3, x4, x5, hr⟩ := HR1
    have r0 : wB.rowIs (w.heap.size + 2) 40 6 (sel6 x0 x1 x2 x3 x4 x5) := rowIs6 hr
    have q0 : wB.cell? ⟨w.heap.size + 2, 0, none⟩ = some x0 := r0.cell (i := 0) (by omega)
    have z0 : wB.frozen? ⟨w.heap.size + 2, 0, none⟩ = false := r0.frozen 0
    have r1 := r0.set 0 (.int .i64 0)
    have q1 : (wB.setCell ⟨w.heap.size + 2, 0, none⟩ (.int .i64 0)).cell? ⟨w.heap.size + 2, 1, none⟩ = some x1 := r1.cell (i := 1) (by omega)
    have z1 : (wB.setCell ⟨w.heap.size + 2, 0, none⟩ (.int .i64 0)).frozen? ⟨w.heap.size + 2, 1, none⟩ = false := r1.frozen 1
    have r2 := r1.set 1 (.int .i64 0)
    have q2 : ((wB.setCell ⟨w.heap.size + 2, 0, none⟩ (.int .i64 0)).setCell ⟨w.heap.size + 2, 1, none⟩ (.int .i64 0)).cell? ⟨w.heap.size + 2, 2, none⟩ = some x2 := r2.cell (i := 2) (by omega)
    have z2 : ((wB.setCell ⟨w.heap.size + 2, 0, none⟩ (.int .i64 0)).setCell ⟨w.heap.size + 2, 1, none⟩ (.int .i64 0)).frozen? ⟨w.heap.size + 2, 2, none⟩ = false := r2.frozen 2
    have r3 := r2.set 2 (.int .i64 0)
    have q3 : (((wB.setCell ⟨w.heap.size + 2, 0, none⟩ (.int .i64 0)).setCell ⟨w.heap.size + 2, 1, none⟩ (.int .i64 0)).setCell ⟨w.heap.size + 2, 2, none⟩ (.int .i64 0)).cell? ⟨w.heap.size + 2, 3, none⟩ = some x3 := r3.cell (i := 3) (by omega)
    have z3 : (((wB.setCell ⟨w.heap.size + 2, 0, none⟩ (.int .i64 0)).setCell ⟨w.heap.size + 2, 1, none⟩ (.int .i64 0)).setCell ⟨w.heap.size + 2, 2, none⟩ (.int .i64 0)).frozen? ⟨w.heap.size + 2, 3, none⟩ = false := r3.frozen 3
    have r4 := r3.set 3 (.slice none 0 0)
    have q4 : ((((wB.setCell ⟨w.heap.size + 2, 0, none⟩ (.int .i64 0)).setCell ⟨w.heap.size + 2, 1, none⟩ (.int .i64 0)).setCell ⟨w.heap.size + 2, 2, none⟩ (.int .i64 0)).setCell ⟨w.heap.size + 2, 3, none⟩ (.slice none 0 0)).cell? ⟨w.heap.size + 2, 4, none⟩ = some x4 := r4.cell (i := 4) (by omega)
    have z4 : ((((wB.setCell ⟨w.heap.size + 2, 0, none⟩ (.int .i64 0)).setCell ⟨w.heap.size + 2, 1, none⟩ (.int .i64 0)).setCell ⟨w.heap.size + 2, 2, none⟩ (.int .i64 0)).setCell ⟨w.heap.size + 2, 3, none⟩ (.slice none 0 0)).frozen? ⟨w.heap.size + 2, 4, none⟩ = false := r4.frozen 4
    have r5 := r4.set 4 (.slice none 0 0)
    have q5 : (((((wB.setCell ⟨w.heap.size + 2, 0, none⟩ (.int .i64 0)).setCell ⟨w.heap.size + 2, 1, none⟩ (.int .i64 0)).setCell ⟨w.heap.size + 2, 2, none⟩ (.int .i64 0)).setCell ⟨w.heap.size + 2, 3, none⟩ (.slice none 0 0)).setCell ⟨w.heap.size + 2, 4, none⟩ (.slice none 0 0)).cell? ⟨w.heap.size + 2, 5, none⟩ = some x5 := r5.cell (i := 5) (by omega)
    have z5 : (((((wB.setCell ⟨w.heap.size + 2, 0, none⟩ (.int .i64 0)).setCell ⟨w.heap.size + 2, 1, none⟩ (.int .i64 0)).setCell ⟨w.heap.size + 2, 2, none⟩ (.int .i64 0)).setCell ⟨w.heap.size + 2, 3, none⟩ (.slice none 0 0)).setCell ⟨w.heap.size + 2, 4, none⟩ (.slice none 0 0)).frozen? ⟨w.heap.size + 2, 5, none⟩ = false := r5.frozen 5
    have r6 := r5.set 5 (.slice none 0 0)
    obtain ⟨WF, hWF⟩ : ∃ W : World, W = ((((((wB.setCell ⟨w.heap.size + 2, 0, none⟩ (.int .i64 0)).setCell ⟨w.heap.size + 2, 1, none⟩ (.int .i64 0)).setCell ⟨w.heap.size + 2, 2, none⟩ (.int .i64 0)).setCell ⟨w.heap.size + 2, 3, none⟩ (.slice none 0 0)).setCell ⟨w.heap.size + 2, 4, none⟩ (.slice none 0 0)).setCell ⟨w.heap.size + 2, 5, none⟩ (.slice none 0 0)) := ⟨_, rfl⟩
    have hbWF : ∀ B (w0 : World), B ≤ w.heap.size + 2 → Below B w0 wB → Below B w0 WF := fun B w0 hl hb => by rw [hWF]; exact ((((((hb.setCell (by show B ≤ w.heap.size + 2; exact hl) _).setCell (by show B ≤ w.heap.size + 2; exact hl) _).setCell (by show B ≤ w.heap.size + 2; exact hl) _).setCell (by show B ≤ w.heap.size + 2; exact hl) _).setCell (by show B ≤ w.heap.size + 2; exact hl) _).setCell (by show B ≤ w.heap.size + 2; exact hl) _)
    have hsWF : ∀ lo hi, w.heap.size + 2 < lo ∨ hi ≤ w.heap.size + 2 → Same lo hi wB WF := fun lo hi hl => by rw [hWF]; exact ((((((Same.set _ hl).trans (Same.set _ hl)).trans (Same.set _ hl)).trans (Same.set _ hl)).trans (Same.set _ hl)).trans (Same.set _ hl))
    have hzWF : WF.heap.size = wB.heap.size := by rw [hWF]; simp
    rw [← hWF] at r6
    have f0 : WF.cell? ⟨w.heap.size + 2, 0, none⟩ = some (.int .i64 0) := r6.cell (i := 0) (by omega)
    have f1 : WF.cell? ⟨w.heap.size + 2, 1, none⟩ = some (.int .i64 0) := r6.cell (i := 1) (by omega)
    have f2 : WF.cell? ⟨w.heap.size + 2, 2, none⟩ = some (.int .i64 0) := r6.cell (i := 2) (by omega)
    have f3 : WF.cell? ⟨w.heap.size + 2, 3, none⟩ = some (.slice none 0 0) := r6.cell (i := 3) (by omega)
    have f4 : WF.cell? ⟨w.heap.size + 2, 4, none⟩ = some (.slice none 0 0) := r6.cell (i := 4) (by omega)
    have f5 : WF.cell? ⟨w.heap.size + 2, 5, none⟩ = some (.slice none 0 0) := r6.cell (i := 5) (by omega)
    have HWWF := Lib.hid hWF
    clear hr r0 r1 r2 r3 r4 r5 r6 hWF
    have HBF := Lib.hid (hbWF w.heap.size w (by omega) (HNX.out _ HBB.out).1.below)
    clear hsWF hbWF hzWF
    go_wp2
    rw [← HWWF.out]
    refine bodyPost_ret (v := .tuple #[.agg #[.int .i64 0, .int .i64 0, .int .i64 0, .slice none 0 0, .slice none 0 0, .slice none 0 0], .int .i64 3]) ?_ rfl ?_
    · simp only [results, HRES.out]
      go_simp
    · exact ⟨_, (0, 0, 0, [], [], []), 3, rfl, RwCp.nil _ _ _, HBF.out, by rw [HCODE.out]; exact RsOut.of_no (by decide)⟩
  have HOK : Hid (AdOk p d e il jl kl p d2 e2 il2 jl2 kl2) := Lib.hid ⟨HC.out, HC2.out, rfl, by omega⟩
  go_upto_region 8 with fail
  obtain ⟨wD, hwD⟩ : ∃ wD, wD = wB.alloc (.cells #[.slice none 0 0, .slice none 0 0, .slice none 0 0] 104) := ⟨_, rfl⟩
  have hbD : Below wB.heap.size wB wD := by rw [hwD]; exact below_alloc1 _ _
  have hsD : wB.heap.size < wD.heap.size := by rw [hwD]; simp
  have HGD : Hid (wD.rowIs wB.heap.size 104 3 (fun _ => .slice none 0 0)) := Lib.hid (by rw [hwD]; exact ⟨#[.slice none 0 0, .slice none 0 0, .slice none 0 0], by simpa using heap_alloc_new wB (.cells #[.slice none 0 0, .slice none 0 0, .slice none 0 0] 104), rfl, fun i hi => by
    match i, hi with
    | 0, _ => rfl
    | 1, _ => rfl
    | 2, _ => rfl⟩)
  rw [← hwD]
  clear hwD
  have HBD := Lib.hid (HBB.out.trans (hbD.mono HBB.out.size))
  clear c0 c1 c2 c3 c4 c5 yc0 yc1 yc2 yc3 yc4 yc5
  clear hbD
  go_wp2_with fail
  refine (mapsOfCouples_any _).mono ?_
  rintro ee wE ⟨rfl, hb⟩
  have hsE : wD.heap.size ≤ wE.heap.size := hb.size
  have HBE := Lib.hid (HBD.out.trans (hb.mono HBD.out.size))
  have HFE : Hid (FillA wE wB.heap.size 3 0 (fun _ => .slice none 0 0) (fun _ => wB.heap.size + 1) [sumT il d.toNat il2 d2.toNat, sumT jl e.toNat jl2 e2.toNat, sumT kl d.toNat kl2 d2.toNat]) := Lib.hid (FillA.start (HGD.out.of_block (hb.block _ HGD.out.lt)) (by omega) _)
  clear hb HGD
  have hgR : w1.heap.size ≤ wB.heap.size := HBB.out.size
  obtain ⟨gs, hgs⟩ : ∃ gs, gs = wB.heap.size := ⟨_, rfl⟩
  rw [← hgs] at HFE hgR ⊢
  clear hgs hsD HBB HBA HBD HB0
  go_wp2
  go_loopw [7, 8, 9, 10, 42] (fun _ _ _ _ i wr => ∃ (k : Nat) (f : Nat → Value) (b : Nat → Nat), k ≤ 3 ∧ i = .int .i64 k ∧ Hid (Below w1.heap.size w1 wr) ∧ Hid (FillA wr gs 3 k f b [sumT il d.toNat il2 d2.toNat, sumT jl e.toNat jl2 e2.toNat, sumT kl d.toNat kl2 d2.toNat])) (fun _ _ _ _ i _ => 3 - (intOf i).toNat)
  case atStart => exact ⟨0, _, _, by omega, rfl, HBE, HFE⟩
  case round =>
    clear HFE HBE
    obtain ⟨k, f, b, hk, rfl, HB, HF⟩ := hrel
    obtain ⟨wx, hwx⟩ : ∃ wx : World, wx = wr := ⟨_, rfl⟩
    subst hwx
    have HNW : Hid (∀ W, Below wx.heap.size wx W → BxCp w W w.heap.size p d e (.slice ai il.length ci) (.slice aj jl.length cj) (.slice ak kl.length ck) il jl kl ∧ BxCp w W (w.heap.size + 1) p d2 e2 (.slice ai2 il2.length ci2) (.slice aj2 jl2.length cj2) (.slice ak2 kl2.length ck2) il2 jl2 kl2 ∧ Rz W (w.heap.size + 2) 40 #[.int .i64 0, .int .i64 0, .int .i64 0, .slice none 0 0, .slice none 0 0, .slice none 0 0]) := Lib.hid (fun W h => HNX.out W (HB.out.trans (h.mono HB.out.size)))
    have c0 := (HNX.out _ HB.out).1.c0
    have c1 := (HNX.out _ HB.out).1.c1
    have c2 := (HNX.out _ HB.out).1.c2
    have c3 := (HNX.out _ HB.out).1.c3
    have c4 := (HNX.out _ HB.out).1.c4
    have c5 := (HNX.out _ HB.out).1.c5
    have yc0 := (HNX.out _ HB.out).2.1.c0
    have yc1 := (HNX.out _ HB.out).2.1.c1
    have yc2 := (HNX.out _ HB.out).2.1.c2
    have yc3 := (HNX.out _ HB.out).2.1.c3
    have yc4 := (HNX.out _ HB.out).2.1.c4
    have yc5 := (HNX.out _ HB.out).2.1.c5
    by_cases hlt : k < 3
    · have hlk : (k : Int) < 3 := by omega
      have hlk2 : ¬ (3 : Int) ≤ (k : Int) := by omega
      have hk0 : (0 : Int) ≤ (k : Int) := by omega
      obtain ⟨fn, a, a2, n, n2, av, cv, av2, cv2, t, t2, hr⟩ := adRound_any p d e ai ci aj cj ak ck il jl kl p d2 e2 ai2 ci2 aj2 cj2 ak2 ck2 il2 jl2 kl2 HC.out HC2.out k hlt
      have HRD := Lib.hid hr
      have hidx := hr.idx
      clear hr
      go_upto_region 11 with fail
      clear hidx
      go_cut [9, 10] from 46 to 51 (fun s9 s10 wz => ∃ gA gB : Nat, s9 = .pointer (some ⟨gA, 0, none⟩) ∧ s10 = .pointer (some ⟨gB, 0, none⟩) ∧ Hid (Below wx.heap.size wx wz) ∧ Hid (Rz wz gA 92 #[.int .i64 p, .int .i64 a, .int .i64 (n : Int), .slice av t.length cv]) ∧ Hid (Rz wz gB 92 #[.int .i64 p, .int .i64 a2, .int .i64 (n2 : Int), .slice av2 t2.length cv2]))
      case first =>
        clear c0 yc0 c1 yc1 c2 yc2 c3 yc3 c4 yc4 c5 yc5
        go_wp2
        have hfn := HRD.out.fns
        refine wp_region_held (S := fun W => Below (wx.heap.size) wx W) (by kernel_rfl) ?_
        have S0 : Below (wx.heap.size) wx wx.drew := (Below.refl _ _).drew
        have hB0 : wx.heap.size ≤ wx.heap.size := Nat.le_refl _
        have hsd : wx.heap.size ≤ wx.drew.heap.size := Nat.le_refl _
        have hbd : Below wx.heap.size wx wx.drew := (Below.refl _ _).drew
        change wpAnyH _ _ _ _ _ _ _ _ wx.drew
        obtain ⟨wd, hwd⟩ : ∃ wd, wd = wx.drew := ⟨_, rfl⟩
        rw [← hwd] at S0 hsd hbd ⊢
        clear hwd
        refine held_take (i := 0) (v := .func (.func fn) #[] #[]) (some 46) rfl rfl (by kernel_rfl) (by kernel_rfl) (by kernel_rfl) (fun _ _ _ h => h) (yieldsIf_move (by kernel_rfl) rfl (by kernel_rfl)) S0 ?_
        refine held_take (i := 1) (v := .agg #[.int .i64 p, .int .i64 d, .int .i64 e, .slice ai il.length ci, .slice aj jl.length cj, .slice ak kl.length ck]) (some 47) rfl rfl (by kernel_rfl) (by kernel_rfl) (by kernel_rfl) (fun _ _ _ h => h) (yieldsIf_cell (by kernel_rfl) rfl (by kernel_rfl) (fun W h => hload6' W ((HNW.out W h).1))) S0 ?_
        refine held_take (i := 3) (v := .func (.func fn) #[] #[]) (some 49) rfl rfl (by kernel_rfl) (by kernel_rfl) (by kernel_rfl) (fun _ _ _ h => h) (yieldsIf_move (by kernel_rfl) rfl (by kernel_rfl)) S0 ?_
        refine held_take (i := 4) (v := .agg #[.int .i64 p, .int .i64 d2, .int .i64 e2, .slice ai2 il2.length ci2, .slice aj2 jl2.length cj2, .slice ak2 kl2.length ck2]) (some 50) rfl rfl (by kernel_rfl) (by kernel_rfl) (by kernel_rfl) (fun _ _ _ h => h) (yieldsIf_cell (by kernel_rfl) rfl (by kernel_rfl) (fun W h => hload6' W ((HNW.out W h).2.1))) S0 ?_
        refine held_three (i := 2) (j := 6) (l := 7) (by kernel_rfl) ?_ ?_ ?_
        · refine op_enter (i := 2) (some 48) (f := fn) (args := #[.agg #[.int .i64 p, .int .i64 d, .int .i64 e, .slice ai il.length ci, .slice aj jl.length cj, .slice ak kl.length ck]]) rfl rfl rfl (by rcases hfn with rfl | rfl | rfl <;> kernel_rfl) (HRD.out.one wd (HNW.out _ S0).1.cx) ?_ (fun c w' h => by cases h.1) (fun w' h => by cases h.1)
          rintro ee W1 ⟨he, hb1⟩
          injection he with he
          subst he
          have S1 : Below (wx.heap.size) wx W1 := S0.trans (hb1.mono (Nat.le_trans hB0 S0.size))
          refine ⟨S1, ?_⟩
          refine held_three (i := 5) (j := 6) (l := 7) (by kernel_rfl) ?_ ?_ ?_
          · refine op_enter (i := 5) (some 51) (f := fn) (args := #[.agg #[.int .i64 p, .int .i64 d2, .int .i64 e2, .slice ai2 il2.length ci2, .slice aj2 jl2.length cj2, .slice ak2 kl2.length ck2]]) rfl rfl rfl (by rcases hfn with rfl | rfl | rfl <;> kernel_rfl) (HRD.out.two W1 (HNW.out _ S1).2.1.cx) ?_ (fun c w' h => by cases h.1) (fun w' h => by cases h.1)
            rintro ee W2 ⟨he, hb2⟩
            injection he with he
            subst he
            have S2 : Below (wx.heap.size) wx W2 := S1.trans (hb2.mono (Nat.le_trans hB0 S1.size))
            refine ⟨S2, ?_⟩
            refine held_two (i := 6) (j := 7) (by kernel_rfl) ?_ ?_
            · obtain ⟨W3, hW3⟩ : ∃ W', W' = W2.alloc (.cells #[.int .i64 0, .int .i64 0, .int .i64 0, .slice none 0 0] 92) := ⟨_, rfl⟩
              have hb3 : Below W2.heap.size W2 W3 := by rw [hW3]; exact below_alloc1 _ _
              have hAA3 : Rz W3 W2.heap.size 92 #[.int .i64 0, .int .i64 0, .int .i64 0, .slice none 0 0] := by rw [hW3]; exact Rz.new _ _ _
              have S3 : Below (wx.heap.size) wx W3 := S2.trans (hb3.mono (Nat.le_trans hB0 S2.size))
              have hGA : wx.heap.size ≤ W2.heap.size := Nat.le_trans hB0 S2.size
              refine op_mem (i := 6) (v := .pointer (some ⟨W2.heap.size, 0, none⟩)) (w' := W3) (some 9) rfl rfl rfl (by rw [hW3]; go_simp) ?_
              refine ⟨S3, ?_⟩
              refine held_one (i := 7) (by kernel_rfl) ?_
              · obtain ⟨W4, hW4⟩ : ∃ W', W' = W3.alloc (.cells #[.int .i64 0, .int .i64 0, .int .i64 0, .slice none 0 0] 92) := ⟨_, rfl⟩
                have hb4 : Below W3.heap.size W3 W4 := by rw [hW4]; exact below_alloc1 _ _
                have hAB4 : Rz W4 W3.heap.size 92 #[.int .i64 0, .int .i64 0, .int .i64 0, .slice none 0 0] := by rw [hW4]; exact Rz.new _ _ _
                have S4 : Below (wx.heap.size) wx W4 := S3.trans (hb4.mono (Nat.le_trans hB0 S3.size))
                have hGB : wx.heap.size ≤ W3.heap.size := Nat.le_trans hB0 S3.size
                have hne : W2.heap.size ≠ W3.heap.size := Nat.ne_of_lt hAA3.lt
                have hAA4 := hAA3.next hb4
                refine op_mem (i := 7) (v := .pointer (some ⟨W3.heap.size, 0, none⟩)) (w' := W4) (some 10) rfl rfl rfl (by rw [hW4]; go_simp) ?_
                refine ⟨S4, ?_⟩
                have S5 : Below (wx.heap.size) wx (W4.setRow (W2.heap.size) #[.int .i64 p, .int .i64 a, .int .i64 (n : Int), .slice av t.length cv]) := below_setRow S4 hGA _
                refine held_one (i := 8) (by kernel_rfl) ?_
                refine op_row (i := 8) rfl rfl rfl 92 (.tmp 9) (.tmp 48) rfl (W2.heap.size) #[.int .i64 p, .int .i64 a, .int .i64 (n : Int), .slice av t.length cv] (by kernel_rfl) (by kernel_rfl) 92 _ hAA4 (Try.infoL _ _ _ _) (by kernel_rfl) (by kernel_rfl) ?_
                refine ⟨S5, ?_⟩
                have hAA5 := hAA4.set #[.int .i64 p, .int .i64 a, .int .i64 (n : Int), .slice av t.length cv]
                have hAB5 := hAB4.off (by first | exact hne | exact hne.symm) #[.int .i64 p, .int .i64 a, .int .i64 (n : Int), .slice av t.length cv]
                have S6 : Below (wx.heap.size) wx ((W4.setRow (W2.heap.size) #[.int .i64 p, .int .i64 a, .int .i64 (n : Int), .slice av t.length cv]).setRow (W3.heap.size) #[.int .i64 p, .int .i64 a2, .int .i64 (n2 : Int), .slice av2 t2.length cv2]) := below_setRow S5 hGB _
                refine held_one (i := 9) (by kernel_rfl) ?_
                refine op_row (i := 9) rfl rfl rfl 92 (.tmp 10) (.tmp 51) rfl (W3.heap.size) #[.int .i64 p, .int .i64 a2, .int .i64 (n2 : Int), .slice av2 t2.length cv2] (by kernel_rfl) (by kernel_rfl) 92 _ hAB5 (Try.infoL _ _ _ _) (by kernel_rfl) (by kernel_rfl) ?_
                refine ⟨S6, ?_⟩
                have hAA6 := hAA5.off (by first | exact hne | exact hne.symm) #[.int .i64 p, .int .i64 a2, .int .i64 (n2 : Int), .slice av2 t2.length cv2]
                have hAB6 := hAB5.set #[.int .i64 p, .int .i64 a2, .int .i64 (n2 : Int), .slice av2 t2.length cv2]
                refine wpAnyH_done (by kernel_rfl) ?_ _
                simp only [Act.put, List.setIfInBounds_toArray, List.set_cons_zero, List.set_cons_succ]
                go_wp2
                go_meet
                exact ⟨W2.heap.size, W3.heap.size, rfl, rfl, Lib.hid S6, Lib.hid hAA6, Lib.hid hAB6⟩
            · obtain ⟨W7, hW7⟩ : ∃ W', W' = W2.alloc (.cells #[.int .i64 0, .int .i64 0, .int .i64 0, .slice none 0 0] 92) := ⟨_, rfl⟩
              have hb7 : Below W2.heap.size W2 W7 := by rw [hW7]; exact below_alloc1 _ _
              have hAB7 : Rz W7 W2.heap.size 92 #[.int .i64 0, .int .i64 0, .int .i64 0, .slice none 0 0] := by rw [hW7]; exact Rz.new _ _ _
              have S7 : Below (wx.heap.size) wx W7 := S2.trans (hb7.mono (Nat.le_trans hB0 S2.size))
              have hGB : wx.heap.size ≤ W2.heap.size := Nat.le_trans hB0 S2.size
              refine op_mem (i := 7) (v := .pointer (some ⟨W2.heap.size, 0, none⟩)) (w' := W7) (some 10) rfl rfl rfl (by rw [hW7]; go_simp) ?_
              refine ⟨S7, ?_⟩
              refine held_one (i := 6) (by kernel_rfl) ?_
              · obtain ⟨W8, hW8⟩ : ∃ W', W' = W7.alloc (.cells #[.int .i64 0, .int .i64 0, .int .i64 0, .slice none 0 0] 92) := ⟨_, rfl⟩
                have hb8 : Below W7.heap.size W7 W8 := by rw [hW8]; exact below_alloc1 _ _
                have hAA8 : Rz W8 W7.heap.size 92 #[.int .i64 0, .int .i64 0, .int .i64 0, .slice none 0 0] := by rw [hW8]; exact Rz.new _ _ _
                have S8 : Below (wx.heap.size) wx W8 := S7.trans (hb8.mono (Nat.le_trans hB0 S7.size))
                have hGA : wx.heap.size ≤ W7.heap.size := Nat.le_trans hB0 S7.size
                have hne : W2.heap.size ≠ W7.heap.size := Nat.ne_of_lt hAB7.lt
                have hAB8 := hAB7.next hb8
                refine op_mem (i := 6) (v := .pointer (some ⟨W7.heap.size, 0, none⟩)) (w' := W8) (some 9) rfl rfl rfl (by rw [hW8]; go_simp) ?_
                refine ⟨S8, ?_⟩
                have S9 : Below (wx.heap.size) wx (W8.setRow (W7.heap.size) #[.int .i64 p, .int .i64 a, .int .i64 (n : Int), .slice av t.length cv]) := below_setRow S8 hGA _
                refine held_one (i := 8) (by kernel_rfl) ?_
                refine op_row (i := 8) rfl rfl rfl 92 (.tmp 9) (.tmp 48) rfl (W7.heap.size) #[.int .i64 p, .int .i64 a, .int .i64 (n : Int), .slice av t.length cv] (by kernel_rfl) (by kernel_rfl) 92 _ hAA8 (Try.infoL _ _ _ _) (by kernel_rfl) (by kernel_rfl) ?_
                refine ⟨S9, ?_⟩
                have hAB9 := hAB8.off (by first | exact hne | exact hne.symm) #[.int .i64 p, .int .i64 a, .int .i64 (n : Int), .slice av t.length cv]
                have hAA9 := hAA8.set #[.int .i64 p, .int .i64 a, .int .i64 (n : Int), .slice av t.length cv]
                have S10 : Below (wx.heap.size) wx ((W8.setRow (W7.heap.size) #[.int .i64 p, .int .i64 a, .int .i64 (n : Int), .slice av t.length cv]).setRow (W2.heap.size) #[.int .i64 p, .int .i64 a2, .int .i64 (n2 : Int), .slice av2 t2.length cv2]) := below_setRow S9 hGB _
                refine held_one (i := 9) (by kernel_rfl) ?_
                refine op_row (i := 9) rfl rfl rfl 92 (.tmp 10) (.tmp 51) rfl (W2.heap.size) #[.int .i64 p, .int .i64 a2, .int .i64 (n2 : Int), .slice av2 t2.length cv2] (by kernel_rfl) (by kernel_rfl) 92 _ hAB9 (Try.infoL _ _ _ _) (by kernel_rfl) (by kernel_rfl) ?_
                refine ⟨S10, ?_⟩
                have hAB10 := hAB9.set #[.int .i64 p, .int .i64 a2, .int .i64 (n2 : Int), .slice av2 t2.length cv2]
                have hAA10 := hAA9.off (by first | exact hne | exact hne.symm) #[.int .i64 p, .int .i64 a2, .int .i64 (n2 : Int), .slice av2 t2.length cv2]
                refine wpAnyH_done (by kernel_rfl) ?_ _
                simp only [Act.put, List.setIfInBounds_toArray, List.set_cons_zero, List.set_cons_succ]
                go_wp2
                go_meet
                exact ⟨W7.heap.size, W2.heap.size, rfl, rfl, Lib.hid S10, Lib.hid hAA10, Lib.hid hAB10⟩
          · obtain ⟨W11, hW11⟩ : ∃ W', W' = W1.alloc (.cells #[.int .i64 0, .int .i64 0, .int .i64 0, .slice none 0 0] 92) := ⟨_, rfl⟩
            have hb11 : Below W1.heap.size W1 W11 := by rw [hW11]; exact below_alloc1 _ _
            have hAA11 : Rz W11 W1.heap.size 92 #[.int .i64 0, .int .i64 0, .int .i64 0, .slice none 0 0] := by rw [hW11]; exact Rz.new _ _ _
            have S11 : Below (wx.heap.size) wx W11 := S1.trans (hb11.mono (Nat.le_trans hB0 S1.size))
            have hGA : wx.heap.size ≤ W1.heap.size := Nat.le_trans hB0 S1.size
            refine op_mem (i := 6) (v := .pointer (some ⟨W1.heap.size, 0, none⟩)) (w' := W11) (some 9) rfl rfl rfl (by rw [hW11]; go_simp) ?_
            refine ⟨S11, ?_⟩
            refine held_two (i := 5) (j := 7) (by kernel_rfl) ?_ ?_
            · refine op_enter (i := 5) (some 51) (f := fn) (args := #[.agg #[.int .i64 p, .int .i64 d2, .int .i64 e2, .slice ai2 il2.length ci2, .slice aj2 jl2.length cj2, .slice ak2 kl2.length ck2]]) rfl rfl rfl (by rcases hfn with rfl | rfl | rfl <;> kernel_rfl) (HRD.out.two W11 (HNW.out _ S11).2.1.cx) ?_ (fun c w' h => by cases h.1) (fun w' h => by cases h.1)
              rintro ee W12 ⟨he, hb12⟩
              injection he with he
              subst he
              have S12 : Below (wx.heap.size) wx W12 := S11.trans (hb12.mono (Nat.le_trans hB0 S11.size))
              have hAA12 := hAA11.next hb12
              refine ⟨S12, ?_⟩
              refine held_one (i := 7) (by kernel_rfl) ?_
              · obtain ⟨W13, hW13⟩ : ∃ W', W' = W12.alloc (.cells #[.int .i64 0, .int .i64 0, .int .i64 0, .slice none 0 0] 92) := ⟨_, rfl⟩
                have hb13 : Below W12.heap.size W12 W13 := by rw [hW13]; exact below_alloc1 _ _
                have hAB13 : Rz W13 W12.heap.size 92 #[.int .i64 0, .int .i64 0, .int .i64 0, .slice none 0 0] := by rw [hW13]; exact Rz.new _ _ _
                have S13 : Below (wx.heap.size) wx W13 := S12.trans (hb13.mono (Nat.le_trans hB0 S12.size))
                have hGB : wx.heap.size ≤ W12.heap.size := Nat.le_trans hB0 S12.size
                have hne : W1.heap.size ≠ W12.heap.size := Nat.ne_of_lt hAA12.lt
                have hAA13 := hAA12.next hb13
                refine op_mem (i := 7) (v := .pointer (some ⟨W12.heap.size, 0, none⟩)) (w' := W13) (some 10) rfl rfl rfl (by rw [hW13]; go_simp) ?_
                refine ⟨S13, ?_⟩
                have S14 : Below (wx.heap.size) wx (W13.setRow (W1.heap.size) #[.int .i64 p, .int .i64 a, .int .i64 (n : Int), .slice av t.length cv]) := below_setRow S13 hGA _
                refine held_one (i := 8) (by kernel_rfl) ?_
                refine op_row (i := 8) rfl rfl rfl 92 (.tmp 9) (.tmp 48) rfl (W1.heap.size) #[.int .i64 p, .int .i64 a, .int .i64 (n : Int), .slice av t.length cv] (by kernel_rfl) (by kernel_rfl) 92 _ hAA13 (Try.infoL _ _ _ _) (by kernel_rfl) (by kernel_rfl) ?_
                refine ⟨S14, ?_⟩
                have hAA14 := hAA13.set #[.int .i64 p, .int .i64 a, .int .i64 (n : Int), .slice av t.length cv]
                have hAB14 := hAB13.off (by first | exact hne | exact hne.symm) #[.int .i64 p, .int .i64 a, .int .i64 (n : Int), .slice av t.length cv]
                have S15 : Below (wx.heap.size) wx ((W13.setRow (W1.heap.size) #[.int .i64 p, .int .i64 a, .int .i64 (n : Int), .slice av t.length cv]).setRow (W12.heap.size) #[.int .i64 p, .int .i64 a2, .int .i64 (n2 : Int), .slice av2 t2.length cv2]) := below_setRow S14 hGB _
                refine held_one (i := 9) (by kernel_rfl) ?_
                refine op_row (i := 9) rfl rfl rfl 92 (.tmp 10) (.tmp 51) rfl (W12.heap.size) #[.int .i64 p, .int .i64 a2, .int .i64 (n2 : Int), .slice av2 t2.length cv2] (by kernel_rfl) (by kernel_rfl) 92 _ hAB14 (Try.infoL _ _ _ _) (by kernel_rfl) (by kernel_rfl) ?_
                refine ⟨S15, ?_⟩
                have hAA15 := hAA14.off (by first | exact hne | exact hne.symm) #[.int .i64 p, .int .i64 a2, .int .i64 (n2 : Int), .slice av2 t2.length cv2]
                have hAB15 := hAB14.set #[.int .i64 p, .int .i64 a2, .int .i64 (n2 : Int), .slice av2 t2.length cv2]
                refine wpAnyH_done (by kernel_rfl) ?_ _
                simp only [Act.put, List.setIfInBounds_toArray, List.set_cons_zero, List.set_cons_succ]
                go_wp2
                go_meet
                exact ⟨W1.heap.size, W12.heap.size, rfl, rfl, Lib.hid S15, Lib.hid hAA15, Lib.hid hAB15⟩
            · obtain ⟨W16, hW16⟩ : ∃ W', W' = W11.alloc (.cells #[.int .i64 0, .int .i64 0, .int .i64 0, .slice none 0 0] 92) := ⟨_, rfl⟩
              have hb16 : Below W11.heap.size W11 W16 := by rw [hW16]; exact below_alloc1 _ _
              have hAB16 : Rz W16 W11.heap.size 92 #[.int .i64 0, .int .i64 0, .int .i64 0, .slice none 0 0] := by rw [hW16]; exact Rz.new _ _ _
              have S16 : Below (wx.heap.size) wx W16 := S11.trans (hb16.mono (Nat.le_trans hB0 S11.size))
              have hGB : wx.heap.size ≤ W11.heap.size := Nat.le_trans hB0 S11.size
              have hne : W1.heap.size ≠ W11.heap.size := Nat.ne_of_lt hAA11.lt
              have hAA16 := hAA11.next hb16
              refine op_mem (i := 7) (v := .pointer (some ⟨W11.heap.size, 0, none⟩)) (w' := W16) (some 10) rfl rfl rfl (by rw [hW16]; go_simp) ?_
              refine ⟨S16, ?_⟩
              refine held_one (i := 5) (by kernel_rfl) ?_
              · refine op_enter (i := 5) (some 51) (f := fn) (args := #[.agg #[.int .i64 p, .int .i64 d2, .int .i64 e2, .slice ai2 il2.length ci2, .slice aj2 jl2.length cj2, .slice ak2 kl2.length ck2]]) rfl rfl rfl (by rcases hfn with rfl | rfl | rfl <;> kernel_rfl) (HRD.out.two W16 (HNW.out _ S16).2.1.cx) ?_ (fun c w' h => by cases h.1) (fun w' h => by cases h.1)
                rintro ee W17 ⟨he, hb17⟩
                injection he with he
                subst he
                have S17 : Below (wx.heap.size) wx W17 := S16.trans (hb17.mono (Nat.le_trans hB0 S16.size))
                have hAA17 := hAA16.next hb17
                have hAB17 := hAB16.next hb17
                refine ⟨S17, ?_⟩
                have S18 : Below (wx.heap.size) wx (W17.setRow (W1.heap.size) #[.int .i64 p, .int .i64 a, .int .i64 (n : Int), .slice av t.length cv]) := below_setRow S17 hGA _
                refine held_one (i := 8) (by kernel_rfl) ?_
                refine op_row (i := 8) rfl rfl rfl 92 (.tmp 9) (.tmp 48) rfl (W1.heap.size) #[.int .i64 p, .int .i64 a, .int .i64 (n : Int), .slice av t.length cv] (by kernel_rfl) (by kernel_rfl) 92 _ hAA17 (Try.infoL _ _ _ _) (by kernel_rfl) (by kernel_rfl) ?_
                refine ⟨S18, ?_⟩
                have hAA18 := hAA17.set #[.int .i64 p, .int .i64 a, .int .i64 (n : Int), .slice av t.length cv]
                have hAB18 := hAB17.off (by first | exact hne | exact hne.symm) #[.int .i64 p, .int .i64 a, .int .i64 (n : Int), .slice av t.length cv]
                have S19 : Below (wx.heap.size) wx ((W17.setRow (W1.heap.size) #[.int .i64 p, .int .i64 a, .int .i64 (n : Int), .slice av t.length cv]).setRow (W11.heap.size) #[.int .i64 p, .int .i64 a2, .int .i64 (n2 : Int), .slice av2 t2.length cv2]) := below_setRow S18 hGB _
                refine held_one (i := 9) (by kernel_rfl) ?_
                refine op_row (i := 9) rfl rfl rfl 92 (.tmp 10) (.tmp 51) rfl (W11.heap.size) #[.int .i64 p, .int .i64 a2, .int .i64 (n2 : Int), .slice av2 t2.length cv2] (by kernel_rfl) (by kernel_rfl) 92 _ hAB18 (Try.infoL _ _ _ _) (by kernel_rfl) (by kernel_rfl) ?_
                refine ⟨S19, ?_⟩
                have hAA19 := hAA18.off (by first | exact hne | exact hne.symm) #[.int .i64 p, .int .i64 a2, .int .i64 (n2 : Int), .slice av2 t2.length cv2]
                have hAB19 := hAB18.set #[.int .i64 p, .int .i64 a2, .int .i64 (n2 : Int), .slice av2 t2.length cv2]
                refine wpAnyH_done (by kernel_rfl) ?_ _
                simp only [Act.put, List.setIfInBounds_toArray, List.set_cons_zero, List.set_cons_succ]
                go_wp2
                go_meet
                exact ⟨W1.heap.size, W11.heap.size, rfl, rfl, Lib.hid S19, Lib.hid hAA19, Lib.hid hAB19⟩
          · obtain ⟨W20, hW20⟩ : ∃ W', W' = W1.alloc (.cells #[.int .i64 0, .int .i64 0, .int .i64 0, .slice none 0 0] 92) := ⟨_, rfl⟩
            have hb20 : Below W1.heap.size W1 W20 := by rw [hW20]; exact below_alloc1 _ _
            have hAB20 : Rz W20 W1.heap.size 92 #[.int .i64 0, .int .i64 0, .int .i64 0, .slice none 0 0] := by rw [hW20]; exact Rz.new _ _ _
            have S20 : Below (wx.heap.size) wx W20 := S1.trans (hb20.mono (Nat.le_trans hB0 S1.size))
            have hGB : wx.heap.size ≤ W1.heap.size := Nat.le_trans hB0 S1.size
            refine op_mem (i := 7) (v := .pointer (some ⟨W1.heap.size, 0, none⟩)) (w' := W20) (some 10) rfl rfl rfl (by rw [hW20]; go_simp) ?_
            refine ⟨S20, ?_⟩
            refine held_two (i := 5) (j := 6) (by kernel_rfl) ?_ ?_
            · refine op_enter (i := 5) (some 51) (f := fn) (args := #[.agg #[.int .i64 p, .int .i64 d2, .int .i64 e2, .slice ai2 il2.length ci2, .slice aj2 jl2.length cj2, .slice ak2 kl2.length ck2]]) rfl rfl rfl (by rcases hfn with rfl | rfl | rfl <;> kernel_rfl) (HRD.out.two W20 (HNW.out _ S20).2.1.cx) ?_ (fun c w' h => by cases h.1) (fun w' h => by cases h.1)
              rintro ee W21 ⟨he, hb21⟩
              injection he with he
              subst he
              have S21 : Below (wx.heap.size) wx W21 := S20.trans (hb21.mono (Nat.le_trans hB0 S20.size))
              have hAB21 := hAB20.next hb21
              refine ⟨S21, ?_⟩
              refine held_one (i := 6) (by kernel_rfl) ?_
              · obtain ⟨W22, hW22⟩ : ∃ W', W' = W21.alloc (.cells #[.int .i64 0, .int .i64 0, .int .i64 0, .slice none 0 0] 92) := ⟨_, rfl⟩
                have hb22 : Below W21.heap.size W21 W22 := by rw [hW22]; exact below_alloc1 _ _
                have hAA22 : Rz W22 W21.heap.size 92 #[.int .i64 0, .int .i64 0, .int .i64 0, .slice none 0 0] := by rw [hW22]; exact Rz.new _ _ _
                have S22 : Below (wx.heap.size) wx W22 := S21.trans (hb22.mono (Nat.le_trans hB0 S21.size))
                have hGA : wx.heap.size ≤ W21.heap.size := Nat.le_trans hB0 S21.size
                have hne : W1.heap.size ≠ W21.heap.size := Nat.ne_of_lt hAB21.lt
                have hAB22 := hAB21.next hb22
                refine op_mem (i := 6) (v := .pointer (some ⟨W21.heap.size, 0, none⟩)) (w' := W22) (some 9) rfl rfl rfl (by rw [hW22]; go_simp) ?_
                refine ⟨S22, ?_⟩
                have S23 : Below (wx.heap.size) wx (W22.setRow (W21.heap.size) #[.int .i64 p, .int .i64 a, .int .i64 (n : Int), .slice av t.length cv]) := below_setRow S22 hGA _
                refine held_one (i := 8) (by kernel_rfl) ?_
                refine op_row (i := 8) rfl rfl rfl 92 (.tmp 9) (.tmp 48) rfl (W21.heap.size) #[.int .i64 p, .int .i64 a, .int .i64 (n : Int), .slice av t.length cv] (by kernel_rfl) (by kernel_rfl) 92 _ hAA22 (Try.infoL _ _ _ _) (by kernel_rfl) (by kernel_rfl) ?_
                refine ⟨S23, ?_⟩
                have hAB23 := hAB22.off (by first | exact hne | exact hne.symm) #[.int .i64 p, .int .i64 a, .int .i64 (n : Int), .slice av t.length cv]
                have hAA23 := hAA22.set #[.int .i64 p, .int .i64 a, .int .i64 (n : Int), .slice av t.length cv]
                have S24 : Below (wx.heap.size) wx ((W22.setRow (W21.heap.size) #[.int .i64 p, .int .i64 a, .int .i64 (n : Int), .slice av t.length cv]).setRow (W1.heap.size) #[.int .i64 p, .int .i64 a2, .int .i64 (n2 : Int), .slice av2 t2.length cv2]) := below_setRow S23 hGB _
                refine held_one (i := 9) (by kernel_rfl) ?_
                refine op_row (i := 9) rfl rfl rfl 92 (.tmp 10) (.tmp 51) rfl (W1.heap.size) #[.int .i64 p, .int .i64 a2, .int .i64 (n2 : Int), .slice av2 t2.length cv2] (by kernel_rfl) (by kernel_rfl) 92 _ hAB23 (Try.infoL _ _ _ _) (by kernel_rfl) (by kernel_rfl) ?_
                refine ⟨S24, ?_⟩
                have hAB24 := hAB23.set #[.int .i64 p, .int .i64 a2, .int .i64 (n2 : Int), .slice av2 t2.length cv2]
                have hAA24 := hAA23.off (by first | exact hne | exact hne.symm) #[.int .i64 p, .int .i64 a2, .int .i64 (n2 : Int), .slice av2 t2.length cv2]
                refine wpAnyH_done (by kernel_rfl) ?_ _
                simp only [Act.put, List.setIfInBounds_toArray, List.set_cons_zero, List.set_cons_succ]
                go_wp2
                go_meet
                exact ⟨W21.heap.size, W1.heap.size, rfl, rfl, Lib.hid S24, Lib.hid hAA24, Lib.hid hAB24⟩
            · obtain ⟨W25, hW25⟩ : ∃ W', W' = W20.alloc (.cells #[.int .i64 0, .int .i64 0, .int .i64 0, .slice none 0 0] 92) := ⟨_, rfl⟩
              have hb25 : Below W20.heap.size W20 W25 := by rw [hW25]; exact below_alloc1 _ _
              have hAA25 : Rz W25 W20.heap.size 92 #[.int .i64 0, .int .i64 0, .int .i64 0, .slice none 0 0] := by rw [hW25]; exact Rz.new _ _ _
              have S25 : Below (wx.heap.size) wx W25 := S20.trans (hb25.mono (Nat.le_trans hB0 S20.size))
              have hGA : wx.heap.size ≤ W20.heap.size := Nat.le_trans hB0 S20.size
              have hne : W1.heap.size ≠ W20.heap.size := Nat.ne_of_lt hAB20.lt
              have hAB25 := hAB20.next hb25
              refine op_mem (i := 6) (v := .pointer (some ⟨W20.heap.size, 0, none⟩)) (w' := W25) (some 9) rfl rfl rfl (by rw [hW25]; go_simp) ?_
              refine ⟨S25, ?_⟩
              refine held_one (i := 5) (by kernel_rfl) ?_
              · refine op_enter (i := 5) (some 51) (f := fn) (args := #[.agg #[.int .i64 p, .int .i64 d2, .int .i64 e2, .slice ai2 il2.length ci2, .slice aj2 jl2.length cj2, .slice ak2 kl2.length ck2]]) rfl rfl rfl (by rcases hfn with rfl | rfl | rfl <;> kernel_rfl) (HRD.out.two W25 (HNW.out _ S25).2.1.cx) ?_ (fun c w' h => by cases h.1) (fun w' h => by cases h.1)
                rintro ee W26 ⟨he, hb26⟩
                injection he with he
                subst he
                have S26 : Below (wx.heap.size) wx W26 := S25.trans (hb26.mono (Nat.le_trans hB0 S25.size))
                have hAB26 := hAB25.next hb26
                have hAA26 := hAA25.next hb26
                refine ⟨S26, ?_⟩
                have S27 : Below (wx.heap.size) wx (W26.setRow (W20.heap.size) #[.int .i64 p, .int .i64 a, .int .i64 (n : Int), .slice av t.length cv]) := below_setRow S26 hGA _
                refine held_one (i := 8) (by kernel_rfl) ?_
                refine op_row (i := 8) rfl rfl rfl 92 (.tmp 9) (.tmp 48) rfl (W20.heap.size) #[.int .i64 p, .int .i64 a, .int .i64 (n : Int), .slice av t.length cv] (by kernel_rfl) (by kernel_rfl) 92 _ hAA26 (Try.infoL _ _ _ _) (by kernel_rfl) (by kernel_rfl) ?_
                refine ⟨S27, ?_⟩
                have hAB27 := hAB26.off (by first | exact hne | exact hne.symm) #[.int .i64 p, .int .i64 a, .int .i64 (n : Int), .slice av t.length cv]
                have hAA27 := hAA26.set #[.int .i64 p, .int .i64 a, .int .i64 (n : Int), .slice av t.length cv]
                have S28 : Below (wx.heap.size) wx ((W26.setRow (W20.heap.size) #[.int .i64 p, .int .i64 a, .int .i64 (n : Int), .slice av t.length cv]).setRow (W1.heap.size) #[.int .i64 p, .int .i64 a2, .int .i64 (n2 : Int), .slice av2 t2.length cv2]) := below_setRow S27 hGB _
                refine held_one (i := 9) (by kernel_rfl) ?_
                refine op_row (i := 9) rfl rfl rfl 92 (.tmp 10) (.tmp 51) rfl (W1.heap.size) #[.int .i64 p, .int .i64 a2, .int .i64 (n2 : Int), .slice av2 t2.length cv2] (by kernel_rfl) (by kernel_rfl) 92 _ hAB27 (Try.infoL _ _ _ _) (by kernel_rfl) (by kernel_rfl) ?_
                refine ⟨S28, ?_⟩
                have hAB28 := hAB27.set #[.int .i64 p, .int .i64 a2, .int .i64 (n2 : Int), .slice av2 t2.length cv2]
                have hAA28 := hAA27.off (by first | exact hne | exact hne.symm) #[.int .i64 p, .int .i64 a2, .int .i64 (n2 : Int), .slice av2 t2.length cv2]
                refine wpAnyH_done (by kernel_rfl) ?_ _
                simp only [Act.put, List.setIfInBounds_toArray, List.set_cons_zero, List.set_cons_succ]
                go_wp2
                go_meet
                exact ⟨W20.heap.size, W1.heap.size, rfl, rfl, Lib.hid S28, Lib.hid hAA28, Lib.hid hAB28⟩
        · obtain ⟨W29, hW29⟩ : ∃ W', W' = wd.alloc (.cells #[.int .i64 0, .int .i64 0, .int .i64 0, .slice none 0 0] 92) := ⟨_, rfl⟩
          have hb29 : Below wd.heap.size wd W29 := by rw [hW29]; exact below_alloc1 _ _
          have hAA29 : Rz W29 wd.heap.size 92 #[.int .i64 0, .int .i64 0, .int .i64 0, .slice none 0 0] := by rw [hW29]; exact Rz.new _ _ _
          have S29 : Below (wx.heap.size) wx W29 := S0.trans (hb29.mono (Nat.le_trans hB0 S0.size))
          have hGA : wx.heap.size ≤ wd.heap.size := Nat.le_trans hB0 S0.size
          refine op_mem (i := 6) (v := .pointer (some ⟨wd.heap.size, 0, none⟩)) (w' := W29) (some 9) rfl rfl rfl (by rw [hW29]; go_simp) ?_
          refine ⟨S29, ?_⟩
          refine held_two (i := 2) (j := 7) (by kernel_rfl) ?_ ?_
          · refine op_enter (i := 2) (some 48) (f := fn) (args := #[.agg #[.int .i64 p, .int .i64 d, .int .i64 e, .slice ai il.length ci, .slice aj jl.length cj, .slice ak kl.length ck]]) rfl rfl rfl (by rcases hfn with rfl | rfl | rfl <;> kernel_rfl) (HRD.out.one W29 (HNW.out _ S29).1.cx) ?_ (fun c w' h => by cases h.1) (fun w' h => by cases h.1)
            rintro ee W30 ⟨he, hb30⟩
            injection he with he
            subst he
            have S30 : Below (wx.heap.size) wx W30 := S29.trans (hb30.mono (Nat.le_trans hB0 S29.size))
            have hAA30 := hAA29.next hb30
            refine ⟨S30, ?_⟩
            refine held_two (i := 5) (j := 7) (by kernel_rfl) ?_ ?_
            · refine op_enter (i := 5) (some 51) (f := fn) (args := #[.agg #[.int .i64 p, .int .i64 d2, .int .i64 e2, .slice ai2 il2.length ci2, .slice aj2 jl2.length cj2, .slice ak2 kl2.length ck2]]) rfl rfl rfl (by rcases hfn with rfl | rfl | rfl <;> kernel_rfl) (HRD.out.two W30 (HNW.out _ S30).2.1.cx) ?_ (fun c w' h => by cases h.1) (fun w' h => by cases h.1)
              rintro ee W31 ⟨he, hb31⟩
              injection he with he
              subst he
              have S31 : Below (wx.heap.size) wx W31 := S30.trans (hb31.mono (Nat.le_trans hB0 S30.size))
              have hAA31 := hAA30.next hb31
              refine ⟨S31, ?_⟩
              refine held_one (i := 7) (by kernel_rfl) ?_
              · obtain ⟨W32, hW32⟩ : ∃ W', W' = W31.alloc (.cells #[.int .i64 0, .int .i64 0, .int .i64 0, .slice none 0 0] 92) := ⟨_, rfl⟩
                have hb32 : Below W31.heap.size W31 W32 := by rw [hW32]; exact below_alloc1 _ _
                have hAB32 : Rz W32 W31.heap.size 92 #[.int .i64 0, .int .i64 0, .int .i64 0, .slice none 0 0] := by rw [hW32]; exact Rz.new _ _ _
                have S32 : Below (wx.heap.size) wx W32 := S31.trans (hb32.mono (Nat.le_trans hB0 S31.size))
                have hGB : wx.heap.size ≤ W31.heap.size := Nat.le_trans hB0 S31.size
                have hne : wd.heap.size ≠ W31.heap.size := Nat.ne_of_lt hAA31.lt
                have hAA32 := hAA31.next hb32
                refine op_mem (i := 7) (v := .pointer (some ⟨W31.heap.size, 0, none⟩)) (w' := W32) (some 10) rfl rfl rfl (by rw [hW32]; go_simp) ?_
                refine ⟨S32, ?_⟩
                have S33 : Below (wx.heap.size) wx (W32.setRow (wd.heap.size) #[.int .i64 p, .int .i64 a, .int .i64 (n : Int), .slice av t.length cv]) := below_setRow S32 hGA _
                refine held_one (i := 8) (by kernel_rfl) ?_
                refine op_row (i := 8) rfl rfl rfl 92 (.tmp 9) (.tmp 48) rfl (wd.heap.size) #[.int .i64 p, .int .i64 a, .int .i64 (n : Int), .slice av t.length cv] (by kernel_rfl) (by kernel_rfl) 92 _ hAA32 (Try.infoL _ _ _ _) (by kernel_rfl) (by kernel_rfl) ?_
                refine ⟨S33, ?_⟩
                have hAA33 := hAA32.set #[.int .i64 p, .int .i64 a, .int .i64 (n : Int), .slice av t.length cv]
                have hAB33 := hAB32.off (by first | exact hne | exact hne.symm) #[.int .i64 p, .int .i64 a, .int .i64 (n : Int), .slice av t.length cv]
                have S34 : Below (wx.heap.size) wx ((W32.setRow (wd.heap.size) #[.int .i64 p, .int .i64 a, .int .i64 (n : Int), .slice av t.length cv]).setRow (W31.heap.size) #[.int .i64 p, .int .i64 a2, .int .i64 (n2 : Int), .slice av2 t2.length cv2]) := below_setRow S33 hGB _
                refine held_one (i := 9) (by kernel_rfl) ?_
                refine op_row (i := 9) rfl rfl rfl 92 (.tmp 10) (.tmp 51) rfl (W31.heap.size) #[.int .i64 p, .int .i64 a2, .int .i64 (n2 : Int), .slice av2 t2.length cv2] (by kernel_rfl) (by kernel_rfl) 92 _ hAB33 (Try.infoL _ _ _ _) (by kernel_rfl) (by kernel_rfl) ?_
                refine ⟨S34, ?_⟩
                have hAA34 := hAA33.off (by first | exact hne | exact hne.symm) #[.int .i64 p, .int .i64 a2, .int .i64 (n2 : Int), .slice av2 t2.length cv2]
                have hAB34 := hAB33.set #[.int .i64 p, .int .i64 a2, .int .i64 (n2 : Int), .slice av2 t2.length cv2]
                refine wpAnyH_done (by kernel_rfl) ?_ _
                simp only [Act.put, List.setIfInBounds_toArray, List.set_cons_zero, List.set_cons_succ]
                go_wp2
                go_meet
                exact ⟨wd.heap.size, W31.heap.size, rfl, rfl, Lib.hid S34, Lib.hid hAA34, Lib.hid hAB34⟩
            · obtain ⟨W35, hW35⟩ : ∃ W', W' = W30.alloc (.cells #[.int .i64 0, .int .i64 0, .int .i64 0, .slice none 0 0] 92) := ⟨_, rfl⟩
              have hb35 : Below W30.heap.size W30 W35 := by rw [hW35]; exact below_alloc1 _ _
              have hAB35 : Rz W35 W30.heap.size 92 #[.int .i64 0, .int .i64 0, .int .i64 0, .slice none 0 0] := by rw [hW35]; exact Rz.new _ _ _
              have S35 : Below (wx.heap.size) wx W35 := S30.trans (hb35.mono (Nat.le_trans hB0 S30.size))
              have hGB : wx.heap.size ≤ W30.heap.size := Nat.le_trans hB0 S30.size
              have hne : wd.heap.size ≠ W30.heap.size := Nat.ne_of_lt hAA30.lt
              have hAA35 := hAA30.next hb35
              refine op_mem (i := 7) (v := .pointer (some ⟨W30.heap.size, 0, none⟩)) (w' := W35) (some 10) rfl rfl rfl (by rw [hW35]; go_simp) ?_
              refine ⟨S35, ?_⟩
              refine held_one (i := 5) (by kernel_rfl) ?_
              · refine op_enter (i := 5) (some 51) (f := fn) (args := #[.agg #[.int .i64 p, .int .i64 d2, .int .i64 e2, .slice ai2 il2.length ci2, .slice aj2 jl2.length cj2, .slice ak2 kl2.length ck2]]) rfl rfl rfl (by rcases hfn with rfl | rfl | rfl <;> kernel_rfl) (HRD.out.two W35 (HNW.out _ S35).2.1.cx) ?_ (fun c w' h => by cases h.1) (fun w' h => by cases h.1)
                rintro ee W36 ⟨he, hb36⟩
                injection he with he
                subst he
                have S36 : Below (wx.heap.size) wx W36 := S35.trans (hb36.mono (Nat.le_trans hB0 S35.size))
                have hAA36 := hAA35.next hb36
                have hAB36 := hAB35.next hb36
                refine ⟨S36, ?_⟩
                have S37 : Below (wx.heap.size) wx (W36.setRow (wd.heap.size) #[.int .i64 p, .int .i64 a, .int .i64 (n : Int), .slice av t.length cv]) := below_setRow S36 hGA _
                refine held_one (i := 8) (by kernel_rfl) ?_
                refine op_row (i := 8) rfl rfl rfl 92 (.tmp 9) (.tmp 48) rfl (wd.heap.size) #[.int .i64 p, .int .i64 a, .int .i64 (n : Int), .slice av t.length cv] (by kernel_rfl) (by kernel_rfl) 92 _ hAA36 (Try.infoL _ _ _ _) (by kernel_rfl) (by kernel_rfl) ?_
                refine ⟨S37, ?_⟩
                have hAA37 := hAA36.set #[.int .i64 p, .int .i64 a, .int .i64 (n : Int), .slice av t.length cv]
                have hAB37 := hAB36.off (by first | exact hne | exact hne.symm) #[.int .i64 p, .int .i64 a, .int .i64 (n : Int), .slice av t.length cv]
                have S38 : Below (wx.heap.size) wx ((W36.setRow (wd.heap.size) #[.int .i64 p, .int .i64 a, .int .i64 (n : Int), .slice av t.length cv]).setRow (W30.heap.size) #[.int .i64 p, .int .i64 a2, .int .i64 (n2 : Int), .slice av2 t2.length cv2]) := below_setRow S37 hGB _
                refine held_one (i := 9) (by kernel_rfl) ?_
                refine op_row (i := 9) rfl rfl rfl 92 (.tmp 10) (.tmp 51) rfl (W30.heap.size) #[.int .i64 p, .int .i64 a2, .int .i64 (n2 : Int), .slice av2 t2.length cv2] (by kernel_rfl) (by kernel_rfl) 92 _ hAB37 (Try.infoL _ _ _ _) (by kernel_rfl) (by kernel_rfl) ?_
                refine ⟨S38, ?_⟩
                have hAA38 := hAA37.off (by first | exact hne | exact hne.symm) #[.int .i64 p, .int .i64 a2, .int .i64 (n2 : Int), .slice av2 t2.length cv2]
                have hAB38 := hAB37.set #[.int .i64 p, .int .i64 a2, .int .i64 (n2 : Int), .slice av2 t2.length cv2]
                refine wpAnyH_done (by kernel_rfl) ?_ _
                simp only [Act.put, List.setIfInBounds_toArray, List.set_cons_zero, List.set_cons_succ]
                go_wp2
                go_meet
                exact ⟨wd.heap.size, W30.heap.size, rfl, rfl, Lib.hid S38, Lib.hid hAA38, Lib.hid hAB38⟩
          · obtain ⟨W39, hW39⟩ : ∃ W', W' = W29.alloc (.cells #[.int .i64 0, .int .i64 0, .int .i64 0, .slice none 0 0] 92) := ⟨_, rfl⟩
            have hb39 : Below W29.heap.size W29 W39 := by rw [hW39]; exact below_alloc1 _ _
            have hAB39 : Rz W39 W29.heap.size 92 #[.int .i64 0, .int .i64 0, .int .i64 0, .slice none 0 0] := by rw [hW39]; exact Rz.new _ _ _
            have S39 : Below (wx.heap.size) wx W39 := S29.trans (hb39.mono (Nat.le_trans hB0 S29.size))
            have hGB : wx.heap.size ≤ W29.heap.size := Nat.le_trans hB0 S29.size
            have hne : wd.heap.size ≠ W29.heap.size := Nat.ne_of_lt hAA29.lt
            have hAA39 := hAA29.next hb39
            refine op_mem (i := 7) (v := .pointer (some ⟨W29.heap.size, 0, none⟩)) (w' := W39) (some 10) rfl rfl rfl (by rw [hW39]; go_simp) ?_
            refine ⟨S39, ?_⟩
            refine held_one (i := 2) (by kernel_rfl) ?_
            · refine op_enter (i := 2) (some 48) (f := fn) (args := #[.agg #[.int .i64 p, .int .i64 d, .int .i64 e, .slice ai il.length ci, .slice aj jl.length cj, .slice ak kl.length ck]]) rfl rfl rfl (by rcases hfn with rfl | rfl | rfl <;> kernel_rfl) (HRD.out.one W39 (HNW.out _ S39).1.cx) ?_ (fun c w' h => by cases h.1) (fun w' h => by cases h.1)
              rintro ee W40 ⟨he, hb40⟩
              injection he with he
              subst he
              have S40 : Below (wx.heap.size) wx W40 := S39.trans (hb40.mono (Nat.le_trans hB0 S39.size))
              have hAA40 := hAA39.next hb40
              have hAB40 := hAB39.next hb40
              refine ⟨S40, ?_⟩
              refine held_one (i := 5) (by kernel_rfl) ?_
              · refine op_enter (i := 5) (some 51) (f := fn) (args := #[.agg #[.int .i64 p, .int .i64 d2, .int .i64 e2, .slice ai2 il2.length ci2, .slice aj2 jl2.length cj2, .slice ak2 kl2.length ck2]]) rfl rfl rfl (by rcases hfn with rfl | rfl | rfl <;> kernel_rfl) (HRD.out.two W40 (HNW.out _ S40).2.1.cx) ?_ (fun c w' h => by cases h.1) (fun w' h => by cases h.1)
                rintro ee W41 ⟨he, hb41⟩
                injection he with he
                subst he
                have S41 : Below (wx.heap.size) wx W41 := S40.trans (hb41.mono (Nat.le_trans hB0 S40.size))
                have hAA41 := hAA40.next hb41
                have hAB41 := hAB40.next hb41
                refine ⟨S41, ?_⟩
                have S42 : Below (wx.heap.size) wx (W41.setRow (wd.heap.size) #[.int .i64 p, .int .i64 a, .int .i64 (n : Int), .slice av t.length cv]) := below_setRow S41 hGA _
                refine held_one (i := 8) (by kernel_rfl) ?_
                refine op_row (i := 8) rfl rfl rfl 92 (.tmp 9) (.tmp 48) rfl (wd.heap.size) #[.int .i64 p, .int .i64 a, .int .i64 (n : Int), .slice av t.length cv] (by kernel_rfl) (by kernel_rfl) 92 _ hAA41 (Try.infoL _ _ _ _) (by kernel_rfl) (by kernel_rfl) ?_
                refine ⟨S42, ?_⟩
                have hAA42 := hAA41.set #[.int .i64 p, .int .i64 a, .int .i64 (n : Int), .slice av t.length cv]
                have hAB42 := hAB41.off (by first | exact hne | exact hne.symm) #[.int .i64 p, .int .i64 a, .int .i64 (n : Int), .slice av t.length cv]
                have S43 : Below (wx.heap.size) wx ((W41.setRow (wd.heap.size) #[.int .i64 p, .int .i64 a, .int .i64 (n : Int), .slice av t.length cv]).setRow (W29.heap.size) #[.int .i64 p, .int .i64 a2, .int .i64 (n2 : Int), .slice av2 t2.length cv2]) := below_setRow S42 hGB _
                refine held_one (i := 9) (by kernel_rfl) ?_
                refine op_row (i := 9) rfl rfl rfl 92 (.tmp 10) (.tmp 51) rfl (W29.heap.size) #[.int .i64 p, .int .i64 a2, .int .i64 (n2 : Int), .slice av2 t2.length cv2] (by kernel_rfl) (by kernel_rfl) 92 _ hAB42 (Try.infoL _ _ _ _) (by kernel_rfl) (by kernel_rfl) ?_
                refine ⟨S43, ?_⟩
                have hAA43 := hAA42.off (by first | exact hne | exact hne.symm) #[.int .i64 p, .int .i64 a2, .int .i64 (n2 : Int), .slice av2 t2.length cv2]
                have hAB43 := hAB42.set #[.int .i64 p, .int .i64 a2, .int .i64 (n2 : Int), .slice av2 t2.length cv2]
                refine wpAnyH_done (by kernel_rfl) ?_ _
                simp only [Act.put, List.setIfInBounds_toArray, List.set_cons_zero, List.set_cons_succ]
                go_wp2
                go_meet
                exact ⟨wd.heap.size, W29.heap.size, rfl, rfl, Lib.hid S43, Lib.hid hAA43, Lib.hid hAB43⟩
        · obtain ⟨W44, hW44⟩ : ∃ W', W' = wd.alloc (.cells #[.int .i64 0, .int .i64 0, .int .i64 0, .slice none 0 0] 92) := ⟨_, rfl⟩
          have hb44 : Below wd.heap.size wd W44 := by rw [hW44]; exact below_alloc1 _ _
          have hAB44 : Rz W44 wd.heap.size 92 #[.int .i64 0, .int .i64 0, .int .i64 0, .slice none 0 0] := by rw [hW44]; exact Rz.new _ _ _
          have S44 : Below (wx.heap.size) wx W44 := S0.trans (hb44.mono (Nat.le_trans hB0 S0.size))
          have hGB : wx.heap.size ≤ wd.heap.size := Nat.le_trans hB0 S0.size
          refine op_mem (i := 7) (v := .pointer (some ⟨wd.heap.size, 0, none⟩)) (w' := W44) (some 10) rfl rfl rfl (by rw [hW44]; go_simp) ?_
          refine ⟨S44, ?_⟩
          refine held_two (i := 2) (j := 6) (by kernel_rfl) ?_ ?_
          · refine op_enter (i := 2) (some 48) (f := fn) (args := #[.agg #[.int .i64 p, .int .i64 d, .int .i64 e, .slice ai il.length ci, .slice aj jl.length cj, .slice ak kl.length ck]]) rfl rfl rfl (by rcases hfn with rfl | rfl | rfl <;> kernel_rfl) (HRD.out.one W44 (HNW.out _ S44).1.cx) ?_ (fun c w' h => by cases h.1) (fun w' h => by cases h.1)
            rintro ee W45 ⟨he, hb45⟩
            injection he with he
            subst he
            have S45 : Below (wx.heap.size) wx W45 := S44.trans (hb45.mono (Nat.le_trans hB0 S44.size))
            have hAB45 := hAB44.next hb45
            refine ⟨S45, ?_⟩
            refine held_two (i := 5) (j := 6) (by kernel_rfl) ?_ ?_
            · refine op_enter (i := 5) (some 51) (f := fn) (args := #[.agg #[.int .i64 p, .int .i64 d2, .int .i64 e2, .slice ai2 il2.length ci2, .slice aj2 jl2.length cj2, .slice ak2 kl2.length ck2]]) rfl rfl rfl (by rcases hfn with rfl | rfl | rfl <;> kernel_rfl) (HRD.out.two W45 (HNW.out _ S45).2.1.cx) ?_ (fun c w' h => by cases h.1) (fun w' h => by cases h.1)
              rintro ee W46 ⟨he, hb46⟩
              injection he with he
              subst he
              have S46 : Below (wx.heap.size) wx W46 := S45.trans (hb46.mono (Nat.le_trans hB0 S45.size))
              have hAB46 := hAB45.next hb46
              refine ⟨S46, ?_⟩
              refine held_one (i := 6) (by kernel_rfl) ?_
              · obtain ⟨W47, hW47⟩ : ∃ W', W' = W46.alloc (.cells #[.int .i64 0, .int .i64 0, .int .i64 0, .slice none 0 0] 92) := ⟨_, rfl⟩
                have hb47 : Below W46.heap.size W46 W47 := by rw [hW47]; exact below_alloc1 _ _
                have hAA47 : Rz W47 W46.heap.size 92 #[.int .i64 0, .int .i64 0, .int .i64 0, .slice none 0 0] := by rw [hW47]; exact Rz.new _ _ _
                have S47 : Below (wx.heap.size) wx W47 := S46.trans (hb47.mono (Nat.le_trans hB0 S46.size))
                have hGA : wx.heap.size ≤ W46.heap.size := Nat.le_trans hB0 S46.size
                have hne : wd.heap.size ≠ W46.heap.size := Nat.ne_of_lt hAB46.lt
                have hAB47 := hAB46.next hb47
                refine op_mem (i := 6) (v := .pointer (some ⟨W46.heap.size, 0, none⟩)) (w' := W47) (some 9) rfl rfl rfl (by rw [hW47]; go_simp) ?_
                refine ⟨S47, ?_⟩
                have S48 : Below (wx.heap.size) wx (W47.setRow (W46.heap.size) #[.int .i64 p, .int .i64 a, .int .i64 (n : Int), .slice av t.length cv]) := below_setRow S47 hGA _
                refine held_one (i := 8) (by kernel_rfl) ?_
                refine op_row (i := 8) rfl rfl rfl 92 (.tmp 9) (.tmp 48) rfl (W46.heap.size) #[.int .i64 p, .int .i64 a, .int .i64 (n : Int), .slice av t.length cv] (by kernel_rfl) (by kernel_rfl) 92 _ hAA47 (Try.infoL _ _ _ _) (by kernel_rfl) (by kernel_rfl) ?_
                refine ⟨S48, ?_⟩
                have hAB48 := hAB47.off (by first | exact hne | exact hne.symm) #[.int .i64 p, .int .i64 a, .int .i64 (n : Int), .slice av t.length cv]
                have hAA48 := hAA47.set #[.int .i64 p, .int .i64 a, .int .i64 (n : Int), .slice av t.length cv]
                have S49 : Below (wx.heap.size) wx ((W47.setRow (W46.heap.size) #[.int .i64 p, .int .i64 a, .int .i64 (n : Int), .slice av t.length cv]).setRow (wd.heap.size) #[.int .i64 p, .int .i64 a2, .int .i64 (n2 : Int), .slice av2 t2.length cv2]) := below_setRow S48 hGB _
                refine held_one (i := 9) (by kernel_rfl) ?_
                refine op_row (i := 9) rfl rfl rfl 92 (.tmp 10) (.tmp 51) rfl (wd.heap.size) #[.int .i64 p, .int .i64 a2, .int .i64 (n2 : Int), .slice av2 t2.length cv2] (by kernel_rfl) (by kernel_rfl) 92 _ hAB48 (Try.infoL _ _ _ _) (by kernel_rfl) (by kernel_rfl) ?_
                refine ⟨S49, ?_⟩
                have hAB49 := hAB48.set #[.int .i64 p, .int .i64 a2, .int .i64 (n2 : Int), .slice av2 t2.length cv2]
                have hAA49 := hAA48.off (by first | exact hne | exact hne.symm) #[.int .i64 p, .int .i64 a2, .int .i64 (n2 : Int), .slice av2 t2.length cv2]
                refine wpAnyH_done (by kernel_rfl) ?_ _
                simp only [Act.put, List.setIfInBounds_toArray, List.set_cons_zero, List.set_cons_succ]
                go_wp2
                go_meet
                exact ⟨W46.heap.size, wd.heap.size, rfl, rfl, Lib.hid S49, Lib.hid hAA49, Lib.hid hAB49⟩
            · obtain ⟨W50, hW50⟩ : ∃ W', W' = W45.alloc (.cells #[.int .i64 0, .int .i64 0, .int .i64 0, .slice none 0 0] 92) := ⟨_, rfl⟩
              have hb50 : Below W45.heap.size W45 W50 := by rw [hW50]; exact below_alloc1 _ _
              have hAA50 : Rz W50 W45.heap.size 92 #[.int .i64 0, .int .i64 0, .int .i64 0, .slice none 0 0] := by rw [hW50]; exact Rz.new _ _ _
              have S50 : Below (wx.heap.size) wx W50 := S45.trans (hb50.mono (Nat.le_trans hB0 S45.size))
              have hGA : wx.heap.size ≤ W45.heap.size := Nat.le_trans hB0 S45.size
              have hne : wd.heap.size ≠ W45.heap.size := Nat.ne_of_lt hAB45.lt
              have hAB50 := hAB45.next hb50
              refine op_mem (i := 6) (v := .pointer (some ⟨W45.heap.size, 0, none⟩)) (w' := W50) (some 9) rfl rfl rfl (by rw [hW50]; go_simp) ?_
              refine ⟨S50, ?_⟩
              refine held_one (i := 5) (by kernel_rfl) ?_
              · refine op_enter (i := 5) (some 51) (f := fn) (args := #[.agg #[.int .i64 p, .int .i64 d2, .int .i64 e2, .slice ai2 il2.length ci2, .slice aj2 jl2.length cj2, .slice ak2 kl2.length ck2]]) rfl rfl rfl (by rcases hfn with rfl | rfl | rfl <;> kernel_rfl) (HRD.out.two W50 (HNW.out _ S50).2.1.cx) ?_ (fun c w' h => by cases h.1) (fun w' h => by cases h.1)
                rintro ee W51 ⟨he, hb51⟩
                injection he with he
                subst he
                have S51 : Below (wx.heap.size) wx W51 := S50.trans (hb51.mono (Nat.le_trans hB0 S50.size))
                have hAB51 := hAB50.next hb51
                have hAA51 := hAA50.next hb51
                refine ⟨S51, ?_⟩
                have S52 : Below (wx.heap.size) wx (W51.setRow (W45.heap.size) #[.int .i64 p, .int .i64 a, .int .i64 (n : Int), .slice av t.length cv]) := below_setRow S51 hGA _
                refine held_one (i := 8) (by kernel_rfl) ?_
                refine op_row (i := 8) rfl rfl rfl 92 (.tmp 9) (.tmp 48) rfl (W45.heap.size) #[.int .i64 p, .int .i64 a, .int .i64 (n : Int), .slice av t.length cv] (by kernel_rfl) (by kernel_rfl) 92 _ hAA51 (Try.infoL _ _ _ _) (by kernel_rfl) (by kernel_rfl) ?_
                refine ⟨S52, ?_⟩
                have hAB52 := hAB51.off (by first | exact hne | exact hne.symm) #[.int .i64 p, .int .i64 a, .int .i64 (n : Int), .slice av t.length cv]
                have hAA52 := hAA51.set #[.int .i64 p, .int .i64 a, .int .i64 (n : Int), .slice av t.length cv]
                have S53 : Below (wx.heap.size) wx ((W51.setRow (W45.heap.size) #[.int .i64 p, .int .i64 a, .int .i64 (n : Int), .slice av t.length cv]).setRow (wd.heap.size) #[.int .i64 p, .int .i64 a2, .int .i64 (n2 : Int), .slice av2 t2.length cv2]) := below_setRow S52 hGB _
                refine held_one (i := 9) (by kernel_rfl) ?_
                refine op_row (i := 9) rfl rfl rfl 92 (.tmp 10) (.tmp 51) rfl (wd.heap.size) #[.int .i64 p, .int .i64 a2, .int .i64 (n2 : Int), .slice av2 t2.length cv2] (by kernel_rfl) (by kernel_rfl) 92 _ hAB52 (Try.infoL _ _ _ _) (by kernel_rfl) (by kernel_rfl) ?_
                refine ⟨S53, ?_⟩
                have hAB53 := hAB52.set #[.int .i64 p, .int .i64 a2, .int .i64 (n2 : Int), .slice av2 t2.length cv2]
                have hAA53 := hAA52.off (by first | exact hne | exact hne.symm) #[.int .i64 p, .int .i64 a2, .int .i64 (n2 : Int), .slice av2 t2.length cv2]
                refine wpAnyH_done (by kernel_rfl) ?_ _
                simp only [Act.put, List.setIfInBounds_toArray, List.set_cons_zero, List.set_cons_succ]
                go_wp2
                go_meet
                exact ⟨W45.heap.size, wd.heap.size, rfl, rfl, Lib.hid S53, Lib.hid hAA53, Lib.hid hAB53⟩
          · obtain ⟨W54, hW54⟩ : ∃ W', W' = W44.alloc (.cells #[.int .i64 0, .int .i64 0, .int .i64 0, .slice none 0 0] 92) := ⟨_, rfl⟩
            have hb54 : Below W44.heap.size W44 W54 := by rw [hW54]; exact below_alloc1 _ _
            have hAA54 : Rz W54 W44.heap.size 92 #[.int .i64 0, .int .i64 0, .int .i64 0, .slice none 0 0] := by rw [hW54]; exact Rz.new _ _ _
            have S54 : Below (wx.heap.size) wx W54 := S44.trans (hb54.mono (Nat.le_trans hB0 S44.size))
            have hGA : wx.heap.size ≤ W44.heap.size := Nat.le_trans hB0 S44.size
            have hne : wd.heap.size ≠ W44.heap.size := Nat.ne_of_lt hAB44.lt
            have hAB54 := hAB44.next hb54
            refine op_mem (i := 6) (v := .pointer (some ⟨W44.heap.size, 0, none⟩)) (w' := W54) (some 9) rfl rfl rfl (by rw [hW54]; go_simp) ?_
            refine ⟨S54, ?_⟩
            refine held_one (i := 2) (by kernel_rfl) ?_
            · refine op_enter (i := 2) (some 48) (f := fn) (args := #[.agg #[.int .i64 p, .int .i64 d, .int .i64 e, .slice ai il.length ci, .slice aj jl.length cj, .slice ak kl.length ck]]) rfl rfl rfl (by rcases hfn with rfl | rfl | rfl <;> kernel_rfl) (HRD.out.one W54 (HNW.out _ S54).1.cx) ?_ (fun c w' h => by cases h.1) (fun w' h => by cases h.1)
              rintro ee W55 ⟨he, hb55⟩
              injection he with he
              subst he
              have S55 : Below (wx.heap.size) wx W55 := S54.trans (hb55.mono (Nat.le_trans hB0 S54.size))
              have hAB55 := hAB54.next hb55
              have hAA55 := hAA54.next hb55
              refine ⟨S55, ?_⟩
              refine held_one (i := 5) (by kernel_rfl) ?_
              · refine op_enter (i := 5) (some 51) (f := fn) (args := #[.agg #[.int .i64 p, .int .i64 d2, .int .i64 e2, .slice ai2 il2.length ci2, .slice aj2 jl2.length cj2, .slice ak2 kl2.length ck2]]) rfl rfl rfl (by rcases hfn with rfl | rfl | rfl <;> kernel_rfl) (HRD.out.two W55 (HNW.out _ S55).2.1.cx) ?_ (fun c w' h => by cases h.1) (fun w' h => by cases h.1)
                rintro ee W56 ⟨he, hb56⟩
                injection he with he
                subst he
                have S56 : Below (wx.heap.size) wx W56 := S55.trans (hb56.mono (Nat.le_trans hB0 S55.size))
                have hAB56 := hAB55.next hb56
                have hAA56 := hAA55.next hb56
                refine ⟨S56, ?_⟩
                have S57 : Below (wx.heap.size) wx (W56.setRow (W44.heap.size) #[.int .i64 p, .int .i64 a, .int .i64 (n : Int), .slice av t.length cv]) := below_setRow S56 hGA _
                refine held_one (i := 8) (by kernel_rfl) ?_
                refine op_row (i := 8) rfl rfl rfl 92 (.tmp 9) (.tmp 48) rfl (W44.heap.size) #[.int .i64 p, .int .i64 a, .int .i64 (n : Int), .slice av t.length cv] (by kernel_rfl) (by kernel_rfl) 92 _ hAA56 (Try.infoL _ _ _ _) (by kernel_rfl) (by kernel_rfl) ?_
                refine ⟨S57, ?_⟩
                have hAB57 := hAB56.off (by first | exact hne | exact hne.symm) #[.int .i64 p, .int .i64 a, .int .i64 (n : Int), .slice av t.length cv]
                have hAA57 := hAA56.set #[.int .i64 p, .int .i64 a, .int .i64 (n : Int), .slice av t.length cv]
                have S58 : Below (wx.heap.size) wx ((W56.setRow (W44.heap.size) #[.int .i64 p, .int .i64 a, .int .i64 (n : Int), .slice av t.length cv]).setRow (wd.heap.size) #[.int .i64 p, .int .i64 a2, .int .i64 (n2 : Int), .slice av2 t2.length cv2]) := below_setRow S57 hGB _
                refine held_one (i := 9) (by kernel_rfl) ?_
                refine op_row (i := 9) rfl rfl rfl 92 (.tmp 10) (.tmp 51) rfl (wd.heap.size) #[.int .i64 p, .int .i64 a2, .int .i64 (n2 : Int), .slice av2 t2.length cv2] (by kernel_rfl) (by kernel_rfl) 92 _ hAB57 (Try.infoL _ _ _ _) (by kernel_rfl) (by kernel_rfl) ?_
                refine ⟨S58, ?_⟩
                have hAB58 := hAB57.set #[.int .i64 p, .int .i64 a2, .int .i64 (n2 : Int), .slice av2 t2.length cv2]
                have hAA58 := hAA57.off (by first | exact hne | exact hne.symm) #[.int .i64 p, .int .i64 a2, .int .i64 (n2 : Int), .slice av2 t2.length cv2]
                refine wpAnyH_done (by kernel_rfl) ?_ _
                simp only [Act.put, List.setIfInBounds_toArray, List.set_cons_zero, List.set_cons_succ]
                go_wp2
                go_meet
                exact ⟨W44.heap.size, wd.heap.size, rfl, rfl, Lib.hid S58, Lib.hid hAA58, Lib.hid hAB58⟩
      case rest =>
        obtain ⟨gA, gB, rfl, rfl, HBz, HA, HBt⟩ := hcut
        clear c0 c1 c2 c3 c4 c5 yc0 yc1 yc2 yc3 yc4 yc5
        have eA2 := HA.out.cell (i := 2) rfl
        have eA3 := HA.out.cell (i := 3) rfl
        have eB2 := HBt.out.cell (i := 2) rfl
        have eB3 := HBt.out.cell (i := 3) rfl
        have HNC := Lib.hid (HNW.out _ HBz.out)
        have HFC := Lib.hid (HF.out.below HBz.out)
        have HBC := Lib.hid (HB.out.trans (HBz.out.mono HB.out.size))
        have hgl := HF.out.row.lt
        have hgc : wx.heap.size ≤ wc.heap.size := HBz.out.size
        have h24 := HRD.out.l1
        have h242 := HRD.out.l2
        have hn24 := HRD.out.n1
        have hn242 := HRD.out.n2'
        go_wp2_with fail
        refine (sumTable_any _ _ t t2 n n2 _ (HRD.out.r1 _ HNC.out.1.cx) (HRD.out.r2 _ HNC.out.2.1.cx) (by omega) (by omega) (by omega) (by omega) HRD.out.w1 HRD.out.w2).mono ?_
        rintro ee w4 ⟨rfl, hm⟩
        have hrw := hm.rw2 (lo := wc.heap.size) (Nat.le_refl _) (by omega) (by omega)
        rw [tableOf_sumT HRD.out.w1 HRD.out.w2] at hrw
        have hst := HFC.out.step hm.below (show k < ([sumT il d.toNat il2 d2.toNat, sumT jl e.toNat jl2 e2.toNat, sumT kl d.toNat kl2 d2.toNat] : List (List (List Int))).length from hlt) (by rw [HRD.out.out hlt]; exact hrw)
        have hr4 := HFC.out.row.of_block (hm.below.block _ HFC.out.row.lt)
        have g1 : w4.cell? ⟨gs, k, none⟩ = some (f k) := hr4.cell hlt
        have g2 : w4.frozen? ⟨gs, k, none⟩ = false := hr4.frozen k
        have HST := Lib.hid hst
        have HB4 := Lib.hid ((HBC.out.trans (hm.below.mono HBC.out.size)).setCell (p := ⟨gs, k, none⟩) hgR (.slice (some ⟨wc.heap.size, 0, none⟩) (t.length + t2.length) (t.length + t2.length)))
        clear hrw hst hr4 hm eA2 eA3 eB2 eB3 HA HBt HF HFC HBC HNC HB HNW
        go_wp2
        go_roundw
        case rel => first | exact ⟨k + 1, _, _, by omega, by go_num, HB4, HST⟩ | ((repeat apply Exists.intro); exact ⟨⟨k + 1, _, _, by omega, by go_num, HB4, HST⟩, rfl⟩)
        case measure => simp [intOf]; omega
    · have hlk : ¬ (k : Int) < 3 := by omega
      have HF3 : Hid (FillA wx gs 3 3 f b [sumT il d.toNat il2 d2.toNat, sumT jl e.toNat jl2 e2.toNat, sumT kl d.toNat kl2 d2.toNat]) := Lib.hid (by have h0 := HF.out; rwa [show k = 3 by omega] at h0)
      have x0 := HF3.out.row.cell (i := 0) (by omega)
      have x1 := HF3.out.row.cell (i := 1) (by omega)
      have x2 := HF3.out.row.cell (i := 2) (by omega)
      have r0 := HF3.out.at' 0 (by simp) (by omega)
      have r1 := HF3.out.at' 1 (by simp) (by omega)
      have r2 := HF3.out.at' 2 (by simp) (by omega)
      obtain ⟨zz0, yy0, hv0⟩ := r0.shape
      obtain ⟨zz1, yy1, hv1⟩ := r1.shape
      obtain ⟨zz2, yy2, hv2⟩ := r2.shape
      rw [hv0] at x0 r0
      rw [hv1] at x1 r1
      rw [hv2] at x2 r2
      have hi0 := HF3.out.inc 0 (by omega)
      have hi1 := HF3.out.inc 1 (by omega)
      have hi2 := HF3.out.inc 2 (by omega)
      have hlo := HF3.out.lo
      have hhi := HF3.out.hi
      have hrc := RcCp.of (lo := w1.heap.size) (hi := wx.heap.size) r0 r1 r2 (by omega) hi0 hi1 hi2 hhi
      have HRC := Lib.hid hrc
      have HNF := Lib.hid (HNX.out _ HB.out)
      obtain ⟨m0, hm0⟩ : ∃ m, m = (sumT il d.toNat il2 d2.toNat).length := ⟨_, rfl⟩
      obtain ⟨m1, hm1⟩ : ∃ m, m = (sumT jl e.toNat jl2 e2.toNat).length := ⟨_, rfl⟩
      obtain ⟨m2, hm2⟩ : ∃ m, m = (sumT kl d.toNat kl2 d2.toNat).length := ⟨_, rfl⟩
      have x0' : wx.cell? ⟨gs, 0, none⟩ = some (.slice zz0 m0 yy0) := by rw [hm0]; exact x0
      have x1' : wx.cell? ⟨gs, 1, none⟩ = some (.slice zz1 m1 yy1) := by rw [hm1]; exact x1
      have x2' : wx.cell? ⟨gs, 2, none⟩ = some (.slice zz2 m2 yy2) := by rw [hm2]; exact x2
      have HM0 := Lib.hid hm0
      have HM1 := Lib.hid hm1
      have HM3 := Lib.hid hm2
      clear hi0 hi1 hi2 hlo hhi hrc r0 r1 r2 x0 x1 x2 hv0 hv1 hv2 hm0 hm1 hm2 HF HF3
      have HR1 : ∃ x0 x1 x2 x3 x4 x5, wx.heap[w.heap.size + 2]? = some (.cells #[x0, x1, x2, x3, x4, x5] 40) := ⟨_, _, _, _, _, _, HNF.out.2.2⟩
      obtain ⟨x0, x1, x2, x3, x4, x5, hr⟩ := HR1
      have r0 : wx.rowIs (w.heap.size + 2) 40 6 (sel6 x0 x1 x2 x3 x4 x5) := rowIs6 hr
      have q0 : wx.cell? ⟨w.heap.size + 2, 0, none⟩ = some x0 := r0.cell (i := 0) (by omega)
      have z0 : wx.frozen? ⟨w.heap.size + 2, 0, none⟩ = false := r0.frozen 0
      have r1 := r0.set 0 (.int .i64 p)
      have q1 : (wx.setCell ⟨w.heap.size + 2, 0, none⟩ (.int .i64 p)).cell? ⟨w.heap.size + 2, 1, none⟩ = some x1 := r1.cell (i := 1) (by omega)
      have z1 : (wx.setCell ⟨w.heap.size + 2, 0, none⟩ (.int .i64 p)).frozen? ⟨w.heap.size + 2, 1, none⟩ = false := r1.frozen 1
      have r2 := r1.set 1 (.int .i64 (d + d2))
      have q2 : ((wx.setCell ⟨w.heap.size + 2, 0, none⟩ (.int .i64 p)).setCell ⟨w.heap.size + 2, 1, none⟩ (.int .i64 (d + d2))).cell? ⟨w.heap.size + 2, 2, none⟩ = some x2 := r2.cell (i := 2) (by omega)
      have z2 : ((wx.setCell ⟨w.heap.size + 2, 0, none⟩ (.int .i64 p)).setCell ⟨w.heap.size + 2, 1, none⟩ (.int .i64 (d + d2))).frozen? ⟨w.heap.size + 2, 2, none⟩ = false := r2.frozen 2
      have r3 := r2.set 2 (.int .i64 (e + e2))
      have q3 : (((wx.setCell ⟨w.heap.size + 2, 0, none⟩ (.int .i64 p)).setCell ⟨w.heap.size + 2, 1, none⟩ (.int .i64 (d + d2))).setCell ⟨w.heap.size + 2, 2, none⟩ (.int .i64 (e + e2))).cell? ⟨w.heap.size + 2, 3, none⟩ = some x3 := r3.cell (i := 3) (by omega)
      have z3 : (((wx.setCell ⟨w.heap.size + 2, 0, none⟩ (.int .i64 p)).setCell ⟨w.heap.size + 2, 1, none⟩ (.int .i64 (d + d2))).setCell ⟨w.heap.size + 2, 2, none⟩ (.int .i64 (e + e2))).frozen? ⟨w.heap.size + 2, 3, none⟩ = false := r3.frozen 3
      have r4 := r3.set 3 (.slice zz0 m0 yy0)
      have q4 : ((((wx.setCell ⟨w.heap.size + 2, 0, none⟩ (.int .i64 p)).setCell ⟨w.heap.size + 2, 1, none⟩ (.int .i64 (d + d2))).setCell ⟨w.heap.size + 2, 2, none⟩ (.int .i64 (e + e2))).setCell ⟨w.heap.size + 2, 3, none⟩ (.slice zz0 m0 yy0)).cell? ⟨w.heap.size + 2, 4, none⟩ = some x4 := r4.cell (i := 4) (by omega)
      have z4 : ((((wx.setCell ⟨w.heap.size + 2, 0, none⟩ (.int .i64 p)).setCell ⟨w.heap.size + 2, 1, none⟩ (.int .i64 (d + d2))).setCell ⟨w.heap.size + 2, 2, none⟩ (.int .i64 (e + e2))).setCell ⟨w.heap.size + 2, 3, none⟩ (.slice zz0 m0 yy0)).frozen? ⟨w.heap.size + 2, 4, none⟩ = false := r4.frozen 4
      have r5 := r4.set 4 (.slice zz1 m1 yy1)
      have q5 : (((((wx.setCell ⟨w.heap.size + 2, 0, none⟩ (.int .i64 p)).setCell ⟨w.heap.size + 2, 1, none⟩ (.int .i64 (d + d2))).setCell ⟨w.heap.size + 2, 2, none⟩ (.int .i64 (e + e2))).setCell ⟨w.heap.size + 2, 3, none⟩ (.slice zz0 m0 yy0)).setCell ⟨w.heap.size + 2, 4, none⟩ (.slice zz1 m1 yy1)).cell? ⟨w.heap.size + 2, 5, none⟩ = some x5 := r5.cell (i := 5) (by omega)
      have z5 : (((((wx.setCell ⟨w.heap.size + 2, 0, none⟩ (.int .i64 p)).setCell ⟨w.heap.size + 2, 1, none⟩ (.int .i64 (d + d2))).setCell ⟨w.heap.size + 2, 2, none⟩ (.int .i64 (e + e2))).setCell ⟨w.heap.size + 2, 3, none⟩ (.slice zz0 m0 yy0)).setCell ⟨w.heap.size + 2, 4, none⟩ (.slice zz1 m1 yy1)).frozen? ⟨w.heap.size + 2, 5, none⟩ = false := r5.frozen 5
      have r6 := r5.set 5 (.slice zz2 m2 yy2)
      obtain ⟨WF, hWF⟩ : ∃ W : World, W = ((((((wx.setCell ⟨w.heap.size + 2, 0, none⟩ (.int .i64 p)).setCell ⟨w.heap.size + 2, 1, none⟩ (.int .i64 (d + d2))).setCell ⟨w.heap.size + 2, 2, none⟩ (.int .i64 (e + e2))).setCell ⟨w.heap.size + 2, 3, none⟩ (.slice zz0 m0 yy0)).setCell ⟨w.heap.size + 2, 4, none⟩ (.slice zz1 m1 yy1)).setCell ⟨w.heap.size + 2, 5, none⟩ (.slice zz2 m2 yy2)) := ⟨_, rfl⟩
      have hbWF : ∀ B (w0 : World), B ≤ w.heap.size + 2 → Below B w0 wx → Below B w0 WF := fun B w0 hl hb => by rw [hWF]; exact ((((((hb.setCell (by show B ≤ w.heap.size + 2; exact hl) _).setCell (by show B ≤ w.heap.size + 2; exact hl) _).setCell (by show B ≤ w.heap.size + 2; exact hl) _).setCell (by show B ≤ w.heap.size + 2; exact hl) _).setCell (by show B ≤ w.heap.size + 2; exact hl) _).setCell (by show B ≤ w.heap.size + 2; exact hl) _)
      have hsWF : ∀ lo hi, w.heap.size + 2 < lo ∨ hi ≤ w.heap.size + 2 → Same lo hi wx WF := fun lo hi hl => by rw [hWF]; exact ((((((Same.set _ hl).trans (Same.set _ hl)).trans (Same.set _ hl)).trans (Same.set _ hl)).trans (Same.set _ hl)).trans (Same.set _ hl))
      have hzWF : WF.heap.size = wx.heap.size := by rw [hWF]; simp
      rw [← hWF] at r6
      have f0 : WF.cell? ⟨w.heap.size + 2, 0, none⟩ = some (.int .i64 p) := r6.cell (i := 0) (by omega)
      have f1 : WF.cell? ⟨w.heap.size + 2, 1, none⟩ = some (.int .i64 (d + d2)) := r6.cell (i := 1) (by omega)
      have f2 : WF.cell? ⟨w.heap.size + 2, 2, none⟩ = some (.int .i64 (e + e2)) := r6.cell (i := 2) (by omega)
      have f3 : WF.cell? ⟨w.heap.size + 2, 3, none⟩ = some (.slice zz0 m0 yy0) := r6.cell (i := 3) (by omega)
      have f4 : WF.cell? ⟨w.heap.size + 2, 4, none⟩ = some (.slice zz1 m1 yy1) := r6.cell (i := 4) (by omega)
      have f5 : WF.cell? ⟨w.heap.size + 2, 5, none⟩ = some (.slice zz2 m2 yy2) := r6.cell (i := 5) (by omega)
      have HWWF := Lib.hid hWF
      clear hr r0 r1 r2 r3 r4 r5 r6 hWF
      have HRF := Lib.hid ((HRC.out.same (hsWF _ _ (Or.inl (by omega)))).wider (show w.heap.size ≤ w1.heap.size by omega) (Nat.le_of_eq hzWF.symm))
      have HBF := Lib.hid (hbWF w.heap.size w (by omega) HNF.out.1.below)
      clear hsWF hbWF hzWF HRC
      go_wp2
      rw [← HWWF.out]
      refine bodyPost_ret (v := .tuple #[.agg #[.int .i64 p, .int .i64 (d + d2), .int .i64 (e + e2), .slice zz0 m0 yy0, .slice zz1 m1 yy1, .slice zz2 m2 yy2], .int .i64 0]) ?_ rfl ?_
      · simp only [results, HRES.out]
        go_simp
      · exact ⟨_, adOut p d e il jl kl p d2 e2 il2 jl2 kl2, 0, rfl, ⟨zz0, yy0, zz1, yy1, zz2, yy2, by rw [HM0.out, HM1.out, HM3.out]; rfl, HRF.out⟩, HBF.out, RsOut.of_yes HOK.out.code rfl⟩
end Go.Proofs.Ytaaficdlckcgkaa
