/-
  Couple values as results. (gkr.py)
-/
import Derived.Test.YtaaficdlckcgkaaCp
import Derived.Test.YtaaficdlckcgkaaRw
import Derived.Test.YtaaficdlckcgkaaGt
import Derived.Test.YtaaficdlckcgkaaSd
namespace Go.Proofs.Ytaaficdlckcgkaa
open Go.RowKit
/-- Numbers, dimensions and tables. -/
abbrev CpO := Int × Int × Int × List (List Int) × List (List Int) × List (List Int)
structure PtCp (lo hi : Nat) (W : World) (iv jv kv : Value) (Ii Ij Ik : List Iv) : Prop where
  si : S2 lo hi W iv Ii
  ni : Nums lo hi W Ii
  di : Disj Ii
  zi : ivSize Ii ≤ 1099511627776
  sj : S2 lo hi W jv Ij
  nj : Nums lo hi W Ij
  dj : Disj Ij
  zj : ivSize Ij ≤ 1099511627776
  sk : S2 lo hi W kv Ik
  nk : Nums lo hi W Ik
  dk : Disj Ik
  zk : ivSize Ik ≤ 1099511627776
  aij : ∀ x ∈ Ii, ∀ y ∈ Ij, Apart x y
  aik : ∀ x ∈ Ii, ∀ y ∈ Ik, Apart x y
  ajk : ∀ x ∈ Ij, ∀ y ∈ Ik, Apart x y
theorem PtCp.same {lo hi : Nat} {W W' : World} {iv jv kv : Value} {Ii Ij Ik : List Iv} (h : PtCp lo hi W iv jv kv Ii Ij Ik) (s : Same lo hi W W') : PtCp lo hi W' iv jv kv Ii Ij Ik :=
  ⟨h.si.same s, h.ni.same s, h.di, h.zi, h.sj.same s, h.nj.same s, h.dj, h.zj, h.sk.same s, h.nk.same s, h.dk, h.zk, h.aij, h.aik, h.ajk⟩
theorem PtCp.wider {lo hi lo' hi' : Nat} {W : World} {iv jv kv : Value} {Ii Ij Ik : List Iv} (h : PtCp lo hi W iv jv kv Ii Ij Ik) (h1 : lo' ≤ lo) (h2 : hi ≤ hi') : PtCp lo' hi' W iv jv kv Ii Ij Ik :=
  ⟨h.si.wider h1 h2, h.ni.wider h1 h2, h.di, h.zi, h.sj.wider h1 h2, h.nj.wider h1 h2, h.dj, h.zj, h.sk.wider h1 h2, h.nk.wider h1 h2, h.dk, h.zk, h.aij, h.aik, h.ajk⟩
def RcCp (lo hi : Nat) (W : World) (iv jv kv : Value) (il : List (List Int)) (jl : List (List Int)) (kl : List (List Int)) : Prop := CpW lo hi W iv jv kv il jl kl ∧ ∃ Ii Ij Ik, PtCp lo hi W iv jv kv Ii Ij Ik
theorem RcCp.same {lo hi : Nat} {W W' : World} {iv jv kv : Value} {il : List (List Int)} {jl : List (List Int)} {kl : List (List Int)} (h : RcCp lo hi W iv jv kv il jl kl) (s : Same lo hi W W') : RcCp lo hi W' iv jv kv il jl kl := by
  obtain ⟨h0, Ii, Ij, Ik, h1⟩ := h
  exact ⟨h0.same s, Ii, Ij, Ik, h1.same s⟩
theorem RcCp.wider {lo hi lo' hi' : Nat} {W : World} {iv jv kv : Value} {il : List (List Int)} {jl : List (List Int)} {kl : List (List Int)} (h : RcCp lo hi W iv jv kv il jl kl) (h1 : lo' ≤ lo) (h2 : hi ≤ hi') : RcCp lo' hi' W iv jv kv il jl kl := by
  obtain ⟨h0, Ii, Ij, Ik, h3⟩ := h
  exact ⟨⟨h0.fi.wider h1 h2, h0.fj.wider h1 h2, h0.fk.wider h1 h2⟩, Ii, Ij, Ik, h3.wider h1 h2⟩
theorem RcCp.cx {lo hi : Nat} {W : World} {iv jv kv : Value} {il : List (List Int)} {jl : List (List Int)} {kl : List (List Int)} (h : RcCp lo hi W iv jv kv il jl kl) : Cp 0 W iv jv kv il jl kl := h.1.cx.lower (Nat.zero_le _)
/-- Parts one behind the other. -/
theorem RcCp.of {lo hi b0 b1 b2 b3 : Nat} {W : World} {iv jv kv : Value} {il : List (List Int)} {jl : List (List Int)} {kl : List (List Int)} (hqi : Rw2 b0 b1 W iv il) (hqj : Rw2 b1 b2 W jv jl) (hqk : Rw2 b2 b3 W kv kl) (hl : lo ≤ b0) (l0 : b0 ≤ b1) (l1 : b1 ≤ b2) (l2 : b2 ≤ b3) (hh : b3 ≤ hi) : RcCp lo hi W iv jv kv il jl kl := by
  obtain ⟨wi, Ii, si, ni, di, zi⟩ := hqi
  obtain ⟨wj, Ij, sj, nj, dj, zj⟩ := hqj
  obtain ⟨wk, Ik, sk, nk, dk, zk⟩ := hqk
  refine ⟨⟨wi.wider (by omega) (by omega), wj.wider (by omega) (by omega), wk.wider (by omega) (by omega)⟩, Ii, Ij, Ik, ⟨si.wider (by omega) (by omega), ni.wider (by omega) (by omega), di, zi, sj.wider (by omega) (by omega), nj.wider (by omega) (by omega), dj, zj, sk.wider (by omega) (by omega), nk.wider (by omega) (by omega), dk, zk, ?_, ?_, ?_⟩⟩
  · intro x hx y hy
    exact Or.inl (by have := (ni x hx).2.1; have := (nj y hy).1; omega)
  · intro x hx y hy
    exact Or.inl (by have := (ni x hx).2.1; have := (nk y hy).1; omega)
  · intro x hx y hy
    exact Or.inl (by have := (nj x hx).2.1; have := (nk y hy).1; omega)
def RwCp (lo hi : Nat) (W : World) (u : Value) (o : CpO) : Prop := ∃ ai ci aj cj ak ck, u = .agg #[.int .i64 o.1, .int .i64 o.2.1, .int .i64 o.2.2.1, .slice ai o.2.2.2.1.length ci, .slice aj o.2.2.2.2.1.length cj, .slice ak o.2.2.2.2.2.length ck] ∧ RcCp lo hi W (.slice ai o.2.2.2.1.length ci) (.slice aj o.2.2.2.2.1.length cj) (.slice ak o.2.2.2.2.2.length ck) o.2.2.2.1 o.2.2.2.2.1 o.2.2.2.2.2
def GwCp (base : Nat) (W : World) (u : Value) (o : CpO) : Prop := ∃ ai ci aj cj ak ck, u = .agg #[.int .i64 o.1, .int .i64 o.2.1, .int .i64 o.2.2.1, .slice ai o.2.2.2.1.length ci, .slice aj o.2.2.2.2.1.length cj, .slice ak o.2.2.2.2.2.length ck] ∧ Gs base W (.slice ai o.2.2.2.1.length ci) o.2.2.2.1 ∧ Gs base W (.slice aj o.2.2.2.2.1.length cj) o.2.2.2.2.1 ∧ Gs base W (.slice ak o.2.2.2.2.2.length ck) o.2.2.2.2.2
theorem RwCp.nil (lo hi : Nat) (W : World) : RwCp lo hi W (.agg #[.int .i64 0, .int .i64 0, .int .i64 0, .slice none 0 0, .slice none 0 0, .slice none 0 0]) (0, 0, 0, [], [], []) :=
  ⟨none, 0, none, 0, none, 0, rfl, ⟨Or.inl ⟨rfl, _, _, rfl⟩, Or.inl ⟨rfl, _, _, rfl⟩, Or.inl ⟨rfl, _, _, rfl⟩⟩, [], [], [], ⟨⟨none, 0, 0, fun _ => .slice none 0 0, fun _ => [], rfl, by omega, rfl, fun _ h => absurd h (Nat.not_lt_zero _), fun h => absurd h (Nat.lt_irrefl _)⟩, fun _ h => absurd h (by simp), List.Pairwise.nil, by simp [ivSize], ⟨none, 0, 0, fun _ => .slice none 0 0, fun _ => [], rfl, by omega, rfl, fun _ h => absurd h (Nat.not_lt_zero _), fun h => absurd h (Nat.lt_irrefl _)⟩, fun _ h => absurd h (by simp), List.Pairwise.nil, by simp [ivSize], ⟨none, 0, 0, fun _ => .slice none 0 0, fun _ => [], rfl, by omega, rfl, fun _ h => absurd h (Nat.not_lt_zero _), fun h => absurd h (Nat.lt_irrefl _)⟩, fun _ h => absurd h (by simp), List.Pairwise.nil, by simp [ivSize], fun _ h => absurd h (by simp), fun _ h => absurd h (by simp), fun _ h => absurd h (by simp)⟩⟩
theorem Gb.nilv (base : Nat) (w : World) : Gb base w (.slice none 0 0) [] := ⟨rfl, Or.inl ⟨rfl, rfl⟩⟩
theorem Gs.nilv (base : Nat) (w : World) : Gs base w (.slice none 0 0) [] := ⟨[], ⟨rfl, Or.inl ⟨rfl, rfl⟩⟩, fun _ h => absurd h (Nat.not_lt_zero _)⟩
theorem Gt.nilv (base : Nat) (w : World) : Gt base w (.slice none 0 0) [] := ⟨[], ⟨rfl, Or.inl ⟨rfl, rfl⟩⟩, fun _ h => absurd h (Nat.not_lt_zero _)⟩
theorem GwCp.nil (base : Nat) (W : World) : GwCp base W (.agg #[.int .i64 0, .int .i64 0, .int .i64 0, .slice none 0 0, .slice none 0 0, .slice none 0 0]) (0, 0, 0, [], [], []) := ⟨none, 0, none, 0, none, 0, rfl, Gs.nilv _ _, Gs.nilv _ _, Gs.nilv _ _⟩
/-- What a law asks of one that it compares. -/
def CpBo (o : CpO) : Prop := CpB 1048576 o.2.2.2.1 o.2.2.2.2.1 o.2.2.2.2.2
structure HcCp' (lo hi : Nat) (W : World) (iv jv kv : Value) (m : Int) (Ii Ij Ik : List Iv) : Prop where
  si : S2 lo hi W iv Ii
  mmi : Marked W Ii (1)
  ri : ∀ x ∈ Ii, lo ≤ x.1 ∧ x.1 < hi
  zi : ivSize Ii ≤ 1099511627776
  sj : S2 lo hi W jv Ij
  mmj : Marked W Ij (1 + (ivSize Ii : Int))
  rj : ∀ x ∈ Ij, lo ≤ x.1 ∧ x.1 < hi
  zj : ivSize Ij ≤ 1099511627776
  sk : S2 lo hi W kv Ik
  mmk : Marked W Ik (1 + (ivSize Ii : Int) + (ivSize Ij : Int))
  rk : ∀ x ∈ Ik, lo ≤ x.1 ∧ x.1 < hi
  zk : ivSize Ik ≤ 1099511627776
  me : m = 1 + (ivSize Ii : Int) + (ivSize Ij : Int) + (ivSize Ik : Int)
def HcCp (lo hi : Nat) (W : World) (iv jv kv : Value) (m : Int) : Prop := ∃ Ii Ij Ik, HcCp' lo hi W iv jv kv m Ii Ij Ik
theorem HcCp.same {lo hi : Nat} {W W' : World} {iv jv kv : Value} {m : Int} (h : HcCp lo hi W iv jv kv m) (s : Same lo hi W W') : HcCp lo hi W' iv jv kv m := by
  obtain ⟨Ii, Ij, Ik, h⟩ := h
  exact ⟨Ii, Ij, Ik, h.si.same s, h.mmi.same h.ri s, h.ri, h.zi, h.sj.same s, h.mmj.same h.rj s, h.rj, h.zj, h.sk.same s, h.mmk.same h.rk s, h.rk, h.zk, h.me⟩
def MkRCp (lo hi : Nat) (iv jv kv : Value) (w : World) (ee : Ending) (w' : World) : Prop := ∃ (m : Int) (w1 : World), ee = .returned (.int .i64 m) ∧ 1 ≤ m ∧ m ≤ 4611686018427387904 ∧ Below w.heap.size w w1 ∧ Only lo hi w1 w' ∧ HcCp lo hi w' iv jv kv m

set_option maxHeartbeats 1600000 in
theorem markRCp_any {lo hi : Nat} (p d e : Int) (iv jv kv : Value) (il : List (List Int)) (jl : List (List Int)) (kl : List (List Int)) (w : World) (h : RcCp lo hi w iv jv kv il jl kl) (hh : hi ≤ w.heap.size) :
    Calls Try.prog 27 #[.agg #[.int .i64 p, .int .i64 d, .int .i64 e, iv, jv, kv], .int .i64 1] w (MkRCp lo hi iv jv kv w) := by
  obtain ⟨_, Ii, Ij, Ik, h1⟩ := h
  have hb0 : Below w.heap.size w (w.alloc (.cells #[.int .i64 p, .int .i64 d, .int .i64 e, iv, jv, kv] 40)) := (Below.refl _ _).alloc (Nat.le_refl _) _
  have HP := Lib.hid (h1.same (Same.of_below hb0 hh))
  have HB0 := Lib.hid hb0
  have hzi := h1.zi
  have hzj := h1.zj
  have hzk := h1.zk
  clear h1 hb0
  go_enter Try.func27, Try.ntmps27
  go_wp2_with fail
  refine (mark2s_any iv Ii (1) _ HP.out.si HP.out.ni HP.out.di (by omega) (by omega)).mono ?_
  rintro ee w1 ⟨rfl, ho, ht, hc, hm⟩
  have c04 : w1.cell? ⟨w.heap.size, 4, none⟩ = some jv := (ho.cell (Or.inr hh)).trans (by simp)
  have c05 : w1.cell? ⟨w.heap.size, 5, none⟩ = some kv := (ho.cell (Or.inr hh)).trans (by simp)
  have HMi := Lib.hid hm
  have HO0 := Lib.hid (And.intro ho ht)
  clear ho ht hc hm
  go_wp2_with fail
  refine (mark2s_any jv Ij (1 + (ivSize Ii : Int)) _ (HP.out.sj.tame HO0.out.2) (HP.out.nj.tame HO0.out.2) HP.out.dj (by omega) (by omega)).mono ?_
  rintro ee w2 ⟨rfl, ho, ht, hc, hm⟩
  have c15 : w2.cell? ⟨w.heap.size, 5, none⟩ = some kv := (ho.cell (Or.inr hh)).trans c05
  clear c04 c05
  have HMi' := Lib.hid (HMi.out.keep hc HP.out.aij)
  clear HMi
  have HMi := HMi'
  clear HMi'
  have HMj := Lib.hid hm
  have HO1 := Lib.hid (And.intro (HO0.out.1.trans ho) (HO0.out.2.trans ht))
  clear ho ht hc hm
  go_wp2_with fail
  refine (mark2s_any kv Ik (1 + (ivSize Ii : Int) + (ivSize Ij : Int)) _ (HP.out.sk.tame HO1.out.2) (HP.out.nk.tame HO1.out.2) HP.out.dk (by omega) (by omega)).mono ?_
  rintro ee w3 ⟨rfl, ho, ht, hc, hm⟩
  clear c15
  have HMi' := Lib.hid (HMi.out.keep hc HP.out.aik)
  clear HMi
  have HMi := HMi'
  clear HMi'
  have HMj' := Lib.hid (HMj.out.keep hc HP.out.ajk)
  clear HMj
  have HMj := HMj'
  clear HMj'
  have HMk := Lib.hid hm
  have HO2 := Lib.hid (And.intro (HO1.out.1.trans ho) (HO1.out.2.trans ht))
  clear ho ht hc hm
  go_wp2
  go_ret
  exact ⟨_, _, rfl, by omega, by omega, HB0.out, HO2.out.1, Ii, Ij, Ik, ⟨HP.out.si.tame HO2.out.2, HMi.out, fun x hx => ⟨(HP.out.ni x hx).1, (HP.out.ni x hx).2.1⟩, hzi, HP.out.sj.tame HO2.out.2, HMj.out, fun x hx => ⟨(HP.out.nj x hx).1, (HP.out.nj x hx).2.1⟩, hzj, HP.out.sk.tame HO2.out.2, HMk.out, fun x hx => ⟨(HP.out.nk x hx).1, (HP.out.nk x hx).2.1⟩, hzk, rfl⟩⟩

set_option maxHeartbeats 1600000 in
theorem heldRCp_any {lo hi : Nat} (p d e : Int) (iv jv kv : Value) (m : Int) (w : World) (h : HcCp lo hi w iv jv kv m) (hh : hi ≤ w.heap.size) :
    Calls Try.prog 41 #[.agg #[.int .i64 p, .int .i64 d, .int .i64 e, iv, jv, kv], .int .i64 1] w (BR (.int .i64 m) w) := by
  have hb0 : Below w.heap.size w (w.alloc (.cells #[.int .i64 p, .int .i64 d, .int .i64 e, iv, jv, kv] 40)) := (Below.refl _ _).alloc (Nat.le_refl _) _
  obtain ⟨Ii, Ij, Ik, h1⟩ := h.same (Same.of_below hb0 hh)
  have hme := h1.me
  subst hme
  have HP := Lib.hid h1
  have HB0 := Lib.hid hb0
  have hzi := h1.zi
  have hzj := h1.zj
  have hzk := h1.zk
  have hn0 : ¬ (1 + (ivSize Ii : Int)) < 0 := by omega
  have hn1 : ¬ (1 + (ivSize Ii : Int) + (ivSize Ij : Int)) < 0 := by omega
  have hn2 : ¬ (1 + (ivSize Ii : Int) + (ivSize Ij : Int) + (ivSize Ik : Int)) < 0 := by omega
  clear h1 hb0 h
  go_enter Try.func41, Try.ntmps41
  go_wp2_with fail
  refine (held2s_any iv Ii (1) _ HP.out.si HP.out.mmi (by omega) (by omega)).mono ?_
  rintro ee w1 ⟨rfl, rfl⟩
  go_wp2_with fail
  refine (held2s_any jv Ij (1 + (ivSize Ii : Int)) _ HP.out.sj HP.out.mmj (by omega) (by omega)).mono ?_
  rintro ee w2 ⟨rfl, rfl⟩
  go_wp2_with fail
  refine (held2s_any kv Ik (1 + (ivSize Ii : Int) + (ivSize Ij : Int)) _ HP.out.sk HP.out.mmk (by omega) (by omega)).mono ?_
  rintro ee w3 ⟨rfl, rfl⟩
  go_wp2
  go_ret
  exact ⟨rfl, HB0.out⟩
/-- The cells of a box alone. -/
structure BcCp (wr : World) (b : Nat) (p d e : Int) (iv jv kv : Value) : Prop where
  c0 : wr.cell? ⟨b, 0, none⟩ = some (.int .i64 p)
  c1 : wr.cell? ⟨b, 1, none⟩ = some (.int .i64 d)
  c2 : wr.cell? ⟨b, 2, none⟩ = some (.int .i64 e)
  c3 : wr.cell? ⟨b, 3, none⟩ = some (iv)
  c4 : wr.cell? ⟨b, 4, none⟩ = some (jv)
  c5 : wr.cell? ⟨b, 5, none⟩ = some (kv)
  lt : b < wr.heap.size
theorem BcCp.start (w : World) (p d e : Int) (iv jv kv : Value) (t : TypeId) : BcCp (w.alloc (.cells #[.int .i64 p, .int .i64 d, .int .i64 e, iv, jv, kv] t)) w.heap.size p d e iv jv kv := ⟨by simp, by simp, by simp, by simp, by simp, by simp, by simp⟩
theorem BcCp.next {wr w' : World} {b : Nat} {p d e : Int} {iv jv kv : Value} (h : BcCp wr b p d e iv jv kv) (hb : Below wr.heap.size wr w') : BcCp w' b p d e iv jv kv :=
  ⟨later hb (Nat.le_refl _) h.c0, later hb (Nat.le_refl _) h.c1, later hb (Nat.le_refl _) h.c2, later hb (Nat.le_refl _) h.c3, later hb (Nat.le_refl _) h.c4, later hb (Nat.le_refl _) h.c5, Nat.lt_of_lt_of_le h.lt hb.size⟩
theorem BcCp.only {wr w' : World} {b lo hi : Nat} {p d e : Int} {iv jv kv : Value} (h : BcCp wr b p d e iv jv kv) (ho : Only lo hi wr w') (hb : b < lo ∨ hi ≤ b) : BcCp w' b p d e iv jv kv :=
  ⟨(ho.cell hb).trans h.c0, (ho.cell hb).trans h.c1, (ho.cell hb).trans h.c2, (ho.cell hb).trans h.c3, (ho.cell hb).trans h.c4, (ho.cell hb).trans h.c5, by have := ho.size; have := h.lt; omega⟩
theorem BcCp.bq {wr : World} {b : Nat} {p d e : Int} {iv jv kv : Value} {il : List (List Int)} {jl : List (List Int)} {kl : List (List Int)} (h : BcCp wr b p d e iv jv kv) (hc : Cp 0 wr iv jv kv il jl kl) : BqCp wr b p d e iv jv kv il jl kl := ⟨h.c0, h.c1, h.c2, h.c3, h.c4, h.c5, h.lt, hc⟩
theorem BcCp.row (W : World) (b : Nat) (p d e : Int) (iv jv kv : Value) {c0 : Array Value} {t : TypeId} (h : W.heap[b]? = some (.cells c0 t (0, 0))) : BcCp (W.setRow b #[.int .i64 p, .int .i64 d, .int .i64 e, iv, jv, kv]) b p d e iv jv kv := by
  have h0 := setRow_heap W b c0 #[.int .i64 p, .int .i64 d, .int .i64 e, iv, jv, kv] t _ h
  have hlt : b < W.heap.size := (Array.getElem?_eq_some_iff.1 h).1
  exact ⟨by simp [World.cell?, h0], by simp [World.cell?, h0], by simp [World.cell?, h0], by simp [World.cell?, h0], by simp [World.cell?, h0], by simp [World.cell?, h0], by simpa using hlt⟩
end Go.Proofs.Ytaaficdlckcgkaa
