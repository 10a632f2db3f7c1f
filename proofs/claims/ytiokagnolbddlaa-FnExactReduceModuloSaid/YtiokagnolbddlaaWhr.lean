/-
  Whole values as results. (gkr.py)
-/
import Derived.Test.YtiokagnolbddlaaWh
import Derived.Test.YtiokagnolbddlaaRw
import Derived.Test.YtiokagnolbddlaaGt
import Derived.Test.YtiokagnolbddlaaSd
namespace Go.Proofs.Ytiokagnolbddlaa
open Go.RowKit
/-- Numbers, dimensions and tables. -/
abbrev WhO := List Int × List (List (List Int))
structure PtWh (lo hi : Nat) (W : World) (dv mv : Value) (Id Im : List Iv) : Prop where
  sd : S1 lo hi W dv Id
  nd : Nums lo hi W Id
  dd : Disj Id
  zd : ivSize Id ≤ 1048576
  sm : S3 lo hi W mv Im
  nm : Nums lo hi W Im
  dm : Disj Im
  zm : ivSize Im ≤ 1152921504606846976
  adm : ∀ x ∈ Id, ∀ y ∈ Im, Apart x y
theorem PtWh.same {lo hi : Nat} {W W' : World} {dv mv : Value} {Id Im : List Iv} (h : PtWh lo hi W dv mv Id Im) (s : Same lo hi W W') : PtWh lo hi W' dv mv Id Im :=
  ⟨h.sd, h.nd.same s, h.dd, h.zd, h.sm.same s, h.nm.same s, h.dm, h.zm, h.adm⟩
theorem PtWh.wider {lo hi lo' hi' : Nat} {W : World} {dv mv : Value} {Id Im : List Iv} (h : PtWh lo hi W dv mv Id Im) (h1 : lo' ≤ lo) (h2 : hi ≤ hi') : PtWh lo' hi' W dv mv Id Im :=
  ⟨h.sd.wider h1 h2, h.nd.wider h1 h2, h.dd, h.zd, h.sm.wider h1 h2, h.nm.wider h1 h2, h.dm, h.zm, h.adm⟩
def RcWh (lo hi : Nat) (W : World) (dv mv : Value) (dl : List Int) (ml : List (List (List Int))) : Prop := WhW lo hi W dv mv dl ml ∧ ∃ Id Im, PtWh lo hi W dv mv Id Im
theorem RcWh.same {lo hi : Nat} {W W' : World} {dv mv : Value} {dl : List Int} {ml : List (List (List Int))} (h : RcWh lo hi W dv mv dl ml) (s : Same lo hi W W') : RcWh lo hi W' dv mv dl ml := by
  obtain ⟨h0, Id, Im, h1⟩ := h
  exact ⟨h0.same s, Id, Im, h1.same s⟩
theorem RcWh.wider {lo hi lo' hi' : Nat} {W : World} {dv mv : Value} {dl : List Int} {ml : List (List (List Int))} (h : RcWh lo hi W dv mv dl ml) (h1 : lo' ≤ lo) (h2 : hi ≤ hi') : RcWh lo' hi' W dv mv dl ml := by
  obtain ⟨h0, Id, Im, h3⟩ := h
  exact ⟨⟨h0.fd.wider h1 h2, h0.fm.wider h1 h2⟩, Id, Im, h3.wider h1 h2⟩
theorem RcWh.cx {lo hi : Nat} {W : World} {dv mv : Value} {dl : List Int} {ml : List (List (List Int))} (h : RcWh lo hi W dv mv dl ml) : Wh 0 W dv mv dl ml := h.1.cx.lower (Nat.zero_le _)
/-- Parts one behind the other. -/
theorem RcWh.of {lo hi b0 b1 b2 : Nat} {W : World} {dv mv : Value} {dl : List Int} {ml : List (List (List Int))} (hqd : Rw1 b0 b1 W dv dl) (hqm : Rw3 b1 b2 W mv ml) (hl : lo ≤ b0) (l0 : b0 ≤ b1) (l1 : b1 ≤ b2) (hh : b2 ≤ hi) : RcWh lo hi W dv mv dl ml := by
  obtain ⟨wd, Id, sd, nd, dd, zd⟩ := hqd
  obtain ⟨wm, Im, sm, nm, dm, zm⟩ := hqm
  refine ⟨⟨wd.wider (by omega) (by omega), wm.wider (by omega) (by omega)⟩, Id, Im, ⟨sd.wider (by omega) (by omega), nd.wider (by omega) (by omega), dd, zd, sm.wider (by omega) (by omega), nm.wider (by omega) (by omega), dm, zm, ?_⟩⟩
  · intro x hx y hy
    exact Or.inl (by have := (nd x hx).2.1; have := (nm y hy).1; omega)
def RwWh (lo hi : Nat) (W : World) (u : Value) (o : WhO) : Prop := ∃ ad cd am cm, u = .agg #[.slice ad o.1.length cd, .slice am o.2.length cm] ∧ RcWh lo hi W (.slice ad o.1.length cd) (.slice am o.2.length cm) o.1 o.2
def GwWh (base : Nat) (W : World) (u : Value) (o : WhO) : Prop := ∃ ad cd am cm, u = .agg #[.slice ad o.1.length cd, .slice am o.2.length cm] ∧ Gb base W (.slice ad o.1.length cd) o.1 ∧ Gt base W (.slice am o.2.length cm) o.2
theorem RwWh.nil (lo hi : Nat) (W : World) : RwWh lo hi W (.agg #[.slice none 0 0, .slice none 0 0]) ([], []) :=
  ⟨none, 0, none, 0, rfl, ⟨Or.inl ⟨rfl, _, _, rfl⟩, Or.inl ⟨rfl, _, _, rfl⟩⟩, [], [], ⟨Or.inl ⟨rfl, _, _, rfl⟩, fun _ h => absurd h (by simp), List.Pairwise.nil, by simp [ivSize], ⟨none, 0, 0, fun _ => .slice none 0 0, fun _ => [], rfl, by omega, rfl, fun _ h => absurd h (Nat.not_lt_zero _), fun h => absurd h (Nat.lt_irrefl _)⟩, fun _ h => absurd h (by simp), List.Pairwise.nil, by simp [ivSize], fun _ h => absurd h (by simp)⟩⟩
theorem Gb.nilv (base : Nat) (w : World) : Gb base w (.slice none 0 0) [] := ⟨rfl, Or.inl ⟨rfl, rfl⟩⟩
theorem Gs.nilv (base : Nat) (w : World) : Gs base w (.slice none 0 0) [] := ⟨[], ⟨rfl, Or.inl ⟨rfl, rfl⟩⟩, fun _ h => absurd h (Nat.not_lt_zero _)⟩
theorem Gt.nilv (base : Nat) (w : World) : Gt base w (.slice none 0 0) [] := ⟨[], ⟨rfl, Or.inl ⟨rfl, rfl⟩⟩, fun _ h => absurd h (Nat.not_lt_zero _)⟩
theorem GwWh.nil (base : Nat) (W : World) : GwWh base W (.agg #[.slice none 0 0, .slice none 0 0]) ([], []) := ⟨none, 0, none, 0, rfl, Gb.nilv _ _, Gt.nilv _ _⟩
/-- What a law asks of one that it compares. -/
def WhBo (o : WhO) : Prop := WhB 1048576 o.1 o.2
structure HcWh' (lo hi : Nat) (W : World) (dv mv : Value) (m : Int) (Id Im : List Iv) : Prop where
  sd : S1 lo hi W dv Id
  mmd : Marked W Id (1)
  rd : ∀ x ∈ Id, lo ≤ x.1 ∧ x.1 < hi
  zd : ivSize Id ≤ 1048576
  sm : S3 lo hi W mv Im
  mmm : Marked W Im (1 + (ivSize Id : Int))
  rm : ∀ x ∈ Im, lo ≤ x.1 ∧ x.1 < hi
  zm : ivSize Im ≤ 1152921504606846976
  me : m = 1 + (ivSize Id : Int) + (ivSize Im : Int)
def HcWh (lo hi : Nat) (W : World) (dv mv : Value) (m : Int) : Prop := ∃ Id Im, HcWh' lo hi W dv mv m Id Im
theorem HcWh.same {lo hi : Nat} {W W' : World} {dv mv : Value} {m : Int} (h : HcWh lo hi W dv mv m) (s : Same lo hi W W') : HcWh lo hi W' dv mv m := by
  obtain ⟨Id, Im, h⟩ := h
  exact ⟨Id, Im, h.sd, h.mmd.same h.rd s, h.rd, h.zd, h.sm.same s, h.mmm.same h.rm s, h.rm, h.zm, h.me⟩
def MkRWh (lo hi : Nat) (dv mv : Value) (w : World) (ee : Ending) (w' : World) : Prop := ∃ (m : Int) (w1 : World), ee = .returned (.int .i64 m) ∧ 1 ≤ m ∧ m ≤ 4611686018427387904 ∧ Below w.heap.size w w1 ∧ Only lo hi w1 w' ∧ HcWh lo hi w' dv mv m

set_option maxHeartbeats 1600000 in
theorem markRWh_any {lo hi : Nat}  (dv mv : Value) (dl : List Int) (ml : List (List (List Int))) (w : World) (h : RcWh lo hi w dv mv dl ml) (hh : hi ≤ w.heap.size) :
    Calls Try.prog 18 #[.agg #[dv, mv], .int .i64 1] w (MkRWh lo hi dv mv w) := by
  obtain ⟨_, Id, Im, h1⟩ := h
  have hb0 : Below w.heap.size w (w.alloc (.cells #[dv, mv] 25)) := (Below.refl _ _).alloc (Nat.le_refl _) _
  have HP := Lib.hid (h1.same (Same.of_below hb0 hh))
  have HB0 := Lib.hid hb0
  have hzd := h1.zd
  have hzm := h1.zm
  clear h1 hb0
  go_enter Try.func18, Try.ntmps18
  go_wp2_with fail
  refine (mark1s_any dv Id (1) _ HP.out.sd HP.out.nd (by omega) (by omega)).mono ?_
  rintro ee w1 ⟨rfl, ho, ht, hc, hm⟩
  have c01 : w1.cell? ⟨w.heap.size, 1, none⟩ = some mv := (ho.cell (Or.inr hh)).trans (by simp)
  have HMd := Lib.hid hm
  have HO0 := Lib.hid (And.intro ho ht)
  clear ho ht hc hm
  go_wp2_with fail
  refine (mark3s_any mv Im (1 + (ivSize Id : Int)) _ (HP.out.sm.tame HO0.out.2) (HP.out.nm.tame HO0.out.2) HP.out.dm (by omega) (by omega)).mono ?_
  rintro ee w2 ⟨rfl, ho, ht, hc, hm⟩
  clear c01
  have HMd' := Lib.hid (HMd.out.keep hc HP.out.adm)
  clear HMd
  have HMd := HMd'
  clear HMd'
  have HMm := Lib.hid hm
  have HO1 := Lib.hid (And.intro (HO0.out.1.trans ho) (HO0.out.2.trans ht))
  clear ho ht hc hm
  go_wp2
  go_ret
  exact ⟨_, _, rfl, by omega, by omega, HB0.out, HO1.out.1, Id, Im, ⟨HP.out.sd, HMd.out, fun x hx => ⟨(HP.out.nd x hx).1, (HP.out.nd x hx).2.1⟩, hzd, HP.out.sm.tame HO1.out.2, HMm.out, fun x hx => ⟨(HP.out.nm x hx).1, (HP.out.nm x hx).2.1⟩, hzm, rfl⟩⟩

set_option maxHeartbeats 1600000 in
theorem heldRWh_any {lo hi : Nat}  (dv mv : Value) (m : Int) (w : World) (h : HcWh lo hi w dv mv m) (hh : hi ≤ w.heap.size) :
    Calls Try.prog 19 #[.agg #[dv, mv], .int .i64 1] w (BR (.int .i64 m) w) := by
  have hb0 : Below w.heap.size w (w.alloc (.cells #[dv, mv] 25)) := (Below.refl _ _).alloc (Nat.le_refl _) _
  obtain ⟨Id, Im, h1⟩ := h.same (Same.of_below hb0 hh)
  have hme := h1.me
  subst hme
  have HP := Lib.hid h1
  have HB0 := Lib.hid hb0
  have hzd := h1.zd
  have hzm := h1.zm
  have hn0 : ¬ (1 + (ivSize Id : Int)) < 0 := by omega
  have hn1 : ¬ (1 + (ivSize Id : Int) + (ivSize Im : Int)) < 0 := by omega
  clear h1 hb0 h
  go_enter Try.func19, Try.ntmps19
  go_wp2_with fail
  refine (held1s_any dv Id (1) _ HP.out.sd HP.out.mmd (by omega) (by omega)).mono ?_
  rintro ee w1 ⟨rfl, rfl⟩
  go_wp2_with fail
  refine (held3s_any mv Im (1 + (ivSize Id : Int)) _ HP.out.sm HP.out.mmm (by omega) (by omega)).mono ?_
  rintro ee w2 ⟨rfl, rfl⟩
  go_wp2
  go_ret
  exact ⟨rfl, HB0.out⟩
/-- The cells of a box alone. -/
structure BcWh (wr : World) (b : Nat)  (dv mv : Value) : Prop where
  c0 : wr.cell? ⟨b, 0, none⟩ = some (dv)
  c1 : wr.cell? ⟨b, 1, none⟩ = some (mv)
  lt : b < wr.heap.size
theorem BcWh.start (w : World)  (dv mv : Value) (t : TypeId) : BcWh (w.alloc (.cells #[dv, mv] t)) w.heap.size  dv mv := ⟨by simp, by simp, by simp⟩
theorem BcWh.next {wr w' : World} {b : Nat}  {dv mv : Value} (h : BcWh wr b  dv mv) (hb : Below wr.heap.size wr w') : BcWh w' b  dv mv :=
  ⟨later hb (Nat.le_refl _) h.c0, later hb (Nat.le_refl _) h.c1, Nat.lt_of_lt_of_le h.lt hb.size⟩
theorem BcWh.only {wr w' : World} {b lo hi : Nat}  {dv mv : Value} (h : BcWh wr b  dv mv) (ho : Only lo hi wr w') (hb : b < lo ∨ hi ≤ b) : BcWh w' b  dv mv :=
  ⟨(ho.cell hb).trans h.c0, (ho.cell hb).trans h.c1, by have := ho.size; have := h.lt; omega⟩
theorem BcWh.bq {wr : World} {b : Nat}  {dv mv : Value} {dl : List Int} {ml : List (List (List Int))} (h : BcWh wr b  dv mv) (hc : Wh 0 wr dv mv dl ml) : BqWh wr b  dv mv dl ml := ⟨h.c0, h.c1, h.lt, hc⟩
theorem BcWh.row (W : World) (b : Nat)  (dv mv : Value) {c0 : Array Value} {t : TypeId} (h : W.heap[b]? = some (.cells c0 t (0, 0))) : BcWh (W.setRow b #[dv, mv]) b  dv mv := by
  have h0 := setRow_heap W b c0 #[dv, mv] t _ h
  have hlt : b < W.heap.size := (Array.getElem?_eq_some_iff.1 h).1
  exact ⟨by simp [World.cell?, h0], by simp [World.cell?, h0], by simpa using hlt⟩
end Go.Proofs.Ytiokagnolbddlaa
