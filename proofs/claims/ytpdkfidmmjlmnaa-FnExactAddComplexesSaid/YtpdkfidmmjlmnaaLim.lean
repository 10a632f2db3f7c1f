/-
  Limit numbers: impl.limitDimension, limitNumber, LimitNumber and spec.l02Held, LimitNumber by their contracts.
-/
import Derived.Test.YtpdkfidmmjlmnaaQi
namespace Go.Proofs.Ytpdkfidmmjlmnaa
open Go.RowKit

section
variable {md : Region.Mode} {ops : Array Oper} {Q : Exit → Act → World → Prop} {S : World → Prop}
/-- append of the rows of a table, in a drawn region. -/
theorem held_appendT {i : Nat} {oi : Oper} {fuel : Nat} {listed : Array Bool} {a : Act} {w : World} (d : Option Tmp) (hr : Region.ready md ops listed = [i]) (hi : ops[i]? = some oi) (hg : oi.guard = none) (hd : oi.dst = d)
    (s x : Operand) (ho : oi.op = .call { callee := .builtin .append, args := #[s, x], argTypes := #[41, 41] }) (base n : Nat) (v u : Value) (xs : List Value) (tb : List (List Int)) (vs : List Value) (hs : a.eval s = v) (hx : a.eval x = u) (hown : w.ownsRow base 22 1 v n xs) (hT : RowsAt w u tb vs)
    (hl : n + tb.length ≤ 2097152) (hb : base ≤ w.heap.size)
    (h : ∀ v' w', w'.ownsRow base 22 1 v' (n + tb.length) (xs ++ vs) → w.grownBy w' v.ownBlock → S w' ∧ wpAnyH Try.prog md ops Q S fuel (listed.setIfInBounds i true) (a.put d v') w') : wpAnyH Try.prog md ops Q S (fuel + 1) listed a w := by
  obtain ⟨ie, hie, hz, h1, h2⟩ := info_parts Try.infoS
  subst hd
  obtain ⟨ad, cap, hv, hc⟩ := hT.at'
  subst hv
  by_cases h0 : tb.length = 0
  · have hvs : vs = [] := List.eq_nil_of_length_eq_zero (by rw [hT.len, h0])
    subst hvs
    rw [h0] at hx h
    rw [List.append_nil] at h
    exact held_call hr hi hg (Lib.wp_append_run w s x 41 41 ho _ _ hs hx _ _ (run_append_none' w _ _ _ ie Try.underlying41 hie hown ad cap) (h v w hown ⟨rfl, rfl, rfl, Nat.le_refl _, fun _ _ _ => rfl⟩))
  · obtain ⟨a0, rfl, hcell⟩ := hc (by omega)
    exact held_call hr hi hg (wp_append_own w s x 41 ho base 22 ie _ 1 24 Try.underlying41 hie hz h1 h2 rfl (by decide) v n xs hs hown a0 tb.length cap vs hx (by rw [hT.len]; omega) hcell hT.one (by unfold maxLen; omega) (by omega) hb (fun v' w' h3 h4 _ => h v' w' h3 h4))
end
theorem Gs.rowsOf {base : Nat} {w : World} {u : Value} {tb : List (List Int)} (h : Gs base w u tb) : ∃ vs, RowsAt w u tb vs ∧ ∀ k (h1 : k < vs.length) (h2 : k < tb.length), G1 w vs[k] tb[k] := by
  obtain ⟨vs, ho, hr⟩ := h
  have hvl : vs.length = tb.length := by have := ho.1; omega
  refine ⟨vs, ⟨hvl, fun k h1 h2 => (hr k h1 h2).l1, fun x hx => ?_, ?_⟩, hr⟩
  · obtain ⟨k, hk, rfl⟩ := List.getElem_of_mem hx
    obtain ⟨ad, cap, e⟩ := Sl.shape (hr k hk (by omega)).l1
    rw [e]
    rfl
  · have ho' := ho
    rcases ho'.2 with ⟨h0, h1⟩ | ⟨g, cap, cur, hv, _, _, _⟩
    · exact ⟨none, 0, by rw [h0, h1], fun h2 => absurd h2 (by omega)⟩
    · refine ⟨_, cap, hv, fun _ => ⟨_, rfl, fun j x hj => ?_⟩⟩
      rw [hv] at ho
      have hjl : j < vs.length := (List.getElem?_eq_some_iff.1 hj).1
      rw [Addr.add_mid, Nat.zero_add, World.ownsRow.cellAt ho j (by omega)]
      exact hj
theorem ret2_int {a b : Int} {c : Value} (h : a = b) : Ending.returned (.tuple #[.int .i64 a, c]) = .returned (.tuple #[.int .i64 b, c]) := by rw [h]
/-- Rows of two tables behind each other read as both. -/
theorem cat_l2 {w : World} {base n : Nat} {v : Value} {xs ys : List Value} {ta tb : List (List Int)} (ho : w.ownsRow base 22 1 v n (xs ++ ys)) (ha : ∀ k (h1 : k < xs.length) (h2 : k < ta.length), G1 w xs[k] ta[k]) (hb : ∀ k (h1 : k < ys.length) (h2 : k < tb.length), G1 w ys[k] tb[k]) (h1 : xs.length = ta.length) (h2 : ys.length = tb.length) (hn : ta.length + tb.length = n) : L2 0 w v (ta ++ tb) := by
  refine sl_of_owns ho (Nat.zero_le _) (by simp; omega) (fun k hk hk2 => ?_)
  by_cases e : k < xs.length
  · rw [List.getElem_append_left e, List.getElem_append_left (by omega)]
    exact (ha k e (by omega)).l1
  · rw [List.getElem_append_right (by omega), List.getElem_append_right (by omega)]
    have h3 : k - xs.length < ys.length := by rw [List.length_append] at hk2; omega
    have := (hb (k - xs.length) h3 (by omega)).l1
    simpa [h1] using this

/-- Cycles of levels of at most q together with all boundaries. -/
def LimD (p : Int) (ds : List Int) (ms : List (List (List Int))) (ls : List (List Int)) (k : Nat) (q : Int) (v : Lin.V) : Prop :=
  ∃ Z B, SpF p (dimN ds (k : Int)) (ZcD p ds ms ls k q (-1)) Z ∧ SpF p (dimN ds (k : Int)) (Lin.Sp p ((tabN ms k).map ofL)) B ∧ Lin.Sp p (Z ++ B) v
def LDim (p : Int) (ds : List Int) (ms : List (List (List Int))) (ls : List (List Int)) (k : Nat) (q x : Int) : Prop := ∃ E, SpF p (dimN ds (k : Int)) (LimD p ds ms ls k q) E ∧ x = (E.length : Int)
theorem SpF.unique' {p : Int} {n : Nat} {S : Lin.V → Prop} {R R' : List Lin.V} (hp : 1 < p) (h : SpF p n S R) (k : SpF p n S R') : R = R' := Lin.Red.unique hp h.1 k.1 (fun v => (h.2.2 v).trans (k.2.2 v).symm)
theorem limD_of {p : Int} (hp : 1 < p) {ds : List Int} {ms : List (List (List Int))} {ls : List (List Int)} {k : Nat} {q : Int} {Z B E : List Lin.V} (hZ : SpF p (dimN ds (k : Int)) (ZcD p ds ms ls k q (-1)) Z) (hB : SpF p (dimN ds (k : Int)) (Lin.Sp p ((tabN ms k).map ofL)) B) (hE : Lin.Red p E) (he : Lin.Eqv p E (Z ++ B)) : SpF p (dimN ds (k : Int)) (LimD p ds ms ls k q) E := by
  refine ⟨hE, fun u hu => Lin.Sp.wd (fun x hx => ?_) ((he u).1 (Lin.Sp.mem hu (hE.md u hu))), fun v => ?_⟩
  · rcases List.mem_append.1 hx with h | h
    · exact hZ.2.1 x h
    · exact hB.2.1 x h
  · rw [he v]
    exact ⟨fun h => ⟨Z, B, hZ, hB, h⟩, fun ⟨Z', B', hZ', hB', h⟩ => by rw [hZ.unique' hp hZ', hB.unique' hp hB']; exact h⟩
theorem LDim.unique {p : Int} {ds : List Int} {ms : List (List (List Int))} {ls : List (List Int)} {k : Nat} {q x y : Int} (hp : 1 < p) (h : LDim p ds ms ls k q x) (h' : LDim p ds ms ls k q y) : x = y := by
  obtain ⟨A, a, rfl⟩ := h
  obtain ⟨B, b, rfl⟩ := h'
  rw [a.unique' hp b]
theorem LDim.bd {p : Int} {ds : List Int} {ms : List (List (List Int))} {ls : List (List Int)} {k : Nat} {q x : Int} (hcx : IsCx p ds ms) (h : LDim p ds ms ls k q x) : 0 ≤ x ∧ x ≤ 8 := by
  obtain ⟨A, a, rfl⟩ := h
  have := a.short
  have := (dimN_le8 hcx k).1
  omega
/-- Of cycles it does not matter by how much the levels go down. -/
theorem zc_low {p : Int} {ds : List Int} {ms : List (List (List Int))} {ls : List (List Int)} (hf : IsFil p ds ms ls) {k : Nat} (hk : k < ds.length) {q q0 : Int} (h0 : q0 < 0) (v : Lin.V) : ZcD p ds ms ls k q q0 v ↔ ZcD p ds ms ls k q (-1) v := by
  refine zcD_congr (fun j hj => ?_) v
  have hk0 : k ≠ 0 := fun e => by subst e; simp [cycM] at hj
  obtain ⟨m, rfl⟩ : ∃ m, k = m + 1 := ⟨k - 1, by omega⟩
  have hml : m < ls.length := by have := hf.2.len; omega
  have h1 := hf.2.lvs m hml
  have h2 := (dimN_le8 hf.1 m).2
  simp only [cycM, Nat.add_sub_cancel] at hj
  rw [if_neg (by omega)] at hj
  rw [Nat.add_sub_cancel]
  have hjl : j < (ls.getD m []).length := by have := h1.1; omega
  have := h1.2 _ (List.getElem_mem hjl)
  rw [← getD_of_lt 0 hjl] at this
  omega
def IntR (P : Int → Prop) (w : World) (e : Ending) (w' : World) : Prop := ∃ x : Int, e = .returned (.int .i64 x) ∧ Below w.heap.size w w' ∧ P x
/-- The limit number. -/
def LimNum (p : Int) (ds : List Int) (ms : List (List (List Int))) (ls : List (List Int)) (k : Nat) (q x : Int) : Prop := ∃ a b, LDim p ds ms ls k q a ∧ LDim p ds ms ls k (q - 1) b ∧ x = a - b
theorem LimNum.unique {p : Int} {ds : List Int} {ms : List (List (List Int))} {ls : List (List Int)} {k : Nat} {q x y : Int} (hp : 1 < p) (h : LimNum p ds ms ls k q x) (h' : LimNum p ds ms ls k q y) : x = y := by
  obtain ⟨a, b, ha, hb, rfl⟩ := h
  obtain ⟨c, d, hc, hd, rfl⟩ := h'
  rw [ha.unique hp hc, hb.unique hp hd]
/-- A number and a code. -/
structure NOut (P : Int → Prop) (c0 x c : Int) : Prop where
  code : c = c0
  bad : c0 ≠ 0 → x = 0
  good : c0 = 0 → P x
theorem NOut.unique {P : Int → Prop} {c0 x c y d : Int} (hu : c0 = 0 → ∀ a b, P a → P b → a = b) (h : NOut P c0 x c) (k : NOut P c0 y d) : x = y ∧ c = d := by
  refine ⟨?_, h.code.trans k.code.symm⟩
  by_cases h0 : c0 = 0
  · exact hu h0 _ _ (h.good h0) (k.good h0)
  · rw [h.bad h0, k.bad h0]
theorem NOut.of_no {P : Int → Prop} {c : Int} (h : c ≠ 0) : NOut P c 0 c := ⟨rfl, fun _ => rfl, fun h0 => absurd h0 h⟩
theorem NOut.of_ok {P : Int → Prop} {x : Int} (h : P x) : NOut P 0 x 0 := ⟨rfl, fun h0 => absurd rfl h0, fun _ => h⟩
def NumW (P : Int → Prop) (c0 : Int) (w : World) (e : Ending) (w' : World) : Prop := ∃ x c : Int, e = .returned (.tuple #[.int .i64 x, .int .i64 c]) ∧ Below w.heap.size w w' ∧ NOut P c0 x c
end Go.Proofs.Ytpdkfidmmjlmnaa
