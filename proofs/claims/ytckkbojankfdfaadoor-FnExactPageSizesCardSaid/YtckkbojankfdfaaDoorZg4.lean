/-
  Texts that ProofPzl needs, part 4.
-/
import Derived.Test.YtckkbojankfdfaaDoorZg3
import Derived.Great.BuildSlice
import Derived.Laws.AppendOwn
import Derived.Deep.AppendLies
import Derived.Lib.AppendZeros
import Derived.Deep.QuietTactic
import Derived.BigQuiet
import Derived.Deep.RegionHeld3
import Derived.Test.YtckkbojankfdfaaDoorChecked
import Derived.Outline
import Derived.Maps.AppendAt
import Derived.Test.YtckkbojankfdfaaDoorRows
import Derived.ProofKit
import Derived.OpenShut
import Derived.ChangeOld
import Derived.Deep.Slices
import Derived.Lib.SmallJoins
import Derived.KernelRfl
namespace Go.Proofs.YtckkbojankfdfaaDoor
open Go.RowKit

section
variable {P : Program} {md : Region.Mode} {ops : Array Oper} {Q : Exit → Act → World → Prop} {S : World → Prop}
theorem yieldsIf_bin {o : Oper} {a : Act} {x y : Operand} {v u i : Value} {b : BinOp} {t t' : TypeId} (hg : o.guard = none) (ho : o.op = .binOp b t x y t') (hx : a.eval x = u) (hy : a.eval y = i) (hge : ∀ w, (eqGuard b t x y u i).run P w = .ok () w) (hrun : ∀ w, (binOp b t u i).run P w = .ok v w) : YieldsIf P ops S o v a :=
  Or.inl ⟨by unfold Region.wanted; rw [hg], fun w _ => by
    unfold execOp
    simp only [ho, hx, hy, Sem.run_bind, hge w, hrun w, Result.andThen_ok]
    rfl⟩
theorem yieldsIf_run {o : Oper} {a : Act} {v : Value} (hg : o.guard = none) (hrun : ∀ w, S w → (execOp a.eval o).run P w = .ok (.value v) w) : YieldsIf P ops S o v a :=
  Or.inl ⟨by unfold Region.wanted; rw [hg], hrun⟩
theorem yieldsIf_assign {o : Oper} {a : Act} {x : Operand} {v : Value} (hg : o.guard = none) (ho : o.op = .assign x) (hx : a.eval x = v) : YieldsIf P ops S o v a :=
  Or.inl ⟨by unfold Region.wanted; rw [hg], fun w _ => by
    unfold execOp
    simp only [ho, hx]
    rfl⟩
end
section
variable {md : Region.Mode} {ops : Array Oper} {Q : Exit → Act → World → Prop} {S : World → Prop}
/-- A slice of one new number. -/
theorem held_buildI {i : Nat} {oi : Oper} {fuel : Nat} {listed : Array Bool} {a : Act} {w : World} (d : Option Tmp) (hr : Region.ready md ops listed = [i]) (hi : ops[i]? = some oi) (hg : oi.guard = none) (hd : oi.dst = d)
    (x : Operand) (n : Int) (ho : oi.op = .buildSlice 33 1 #[(0, x)]) (hx : a.eval x = .int .i64 n)
    (h : S (w.alloc (.cells #[.int .i64 n] 2)) ∧ wpAnyH Tryd.prog md ops Q S fuel (listed.setIfInBounds i true) (a.put d (.slice (some ⟨w.heap.size, 0, none⟩) 1 1)) (w.alloc (.cells #[.int .i64 n] 2))) : wpAnyH Tryd.prog md ops Q S (fuel + 1) listed a w := by
  obtain ⟨ie, hie, hz, h1, _⟩ := info_parts Tryd.infoI
  subst hd
  refine held_call hr hi hg (wp_buildSlice 33 2 1 #[(0, x)] ho #[.int .i64 n] ie _ Tryd.underlying33 hie hz (by rw [h1]; decide) (by rw [h1]; decide) ?_ h)
  simp only [h1, List.map_toArray, List.map_cons, List.map_nil, hx]
  first | kernel_rfl | simp [Instr.fill]
/-- A slice of one new row. -/
theorem held_buildS {i : Nat} {oi : Oper} {fuel : Nat} {listed : Array Bool} {a : Act} {w : World} (d : Option Tmp) (hr : Region.ready md ops listed = [i]) (hi : ops[i]? = some oi) (hg : oi.guard = none) (hd : oi.dst = d)
    (x : Operand) (ad : Option Addr) (n c : Nat) (ho : oi.op = .buildSlice 22 1 #[(0, x)]) (hx : a.eval x = .slice ad n c)
    (h : S (w.alloc (.cells #[.slice ad n c] 33)) ∧ wpAnyH Tryd.prog md ops Q S fuel (listed.setIfInBounds i true) (a.put d (.slice (some ⟨w.heap.size, 0, none⟩) 1 1)) (w.alloc (.cells #[.slice ad n c] 33))) : wpAnyH Tryd.prog md ops Q S (fuel + 1) listed a w := by
  obtain ⟨ie, hie, hz, h1, _⟩ := info_parts Tryd.infoS
  subst hd
  refine held_call hr hi hg (wp_buildSlice 22 33 1 #[(0, x)] ho #[.slice ad n c] ie _ Tryd.underlying22 hie hz (by rw [h1]; decide) (by rw [h1]; decide) ?_ h)
  simp only [h1, List.map_toArray, List.map_cons, List.map_nil, hx]
  first | kernel_rfl | simp [Instr.fill]
/-- append of one number. -/
theorem held_appendI {i : Nat} {oi : Oper} {fuel : Nat} {listed : Array Bool} {a : Act} {w : World} (d : Option Tmp) (hr : Region.ready md ops listed = [i]) (hi : ops[i]? = some oi) (hg : oi.guard = none) (hd : oi.dst = d)
    (s x : Operand) (ho : oi.op = .call { callee := .builtin .append, args := #[s, x], argTypes := #[33, 33] }) (base : Nat) (v : Value) (n : Nat) (xs : List Value) (hs : a.eval s = v) (hown : w.ownsRow base 2 1 v n xs)
    (b : Nat) (y : Int) (hx : a.eval x = .slice (some ⟨b, 0, none⟩) 1 1) (hc : w.cell? ⟨b, 0, none⟩ = some (.int .i64 y)) (hn : n ≤ 2097152) (hb : base ≤ w.heap.size)
    (h : ∀ v' w', w'.ownsRow base 2 1 v' (n + 1) (xs ++ [.int .i64 y]) → w.grownBy w' v.ownBlock → S w' ∧ wpAnyH Tryd.prog md ops Q S fuel (listed.setIfInBounds i true) (a.put d v') w') : wpAnyH Tryd.prog md ops Q S (fuel + 1) listed a w := by
  obtain ⟨ie, hie, hz, h1, h2⟩ := info_parts Tryd.infoI
  subst hd
  refine held_call hr hi hg (wp_append_own w s x 33 ho base 2 ie _ 1 8 Tryd.underlying33 hie hz h1 h2 rfl (by decide) v n xs hs hown ⟨b, 0, none⟩ 1 1 [.int .i64 y] hx rfl ?_ ?_ (by unfold maxLen; omega) (by omega) hb (fun v' w' h2 h3 _ => h v' w' h2 h3))
  · intro j u hj
    match j, hj with
    | 0, hj =>
      simp at hj
      subst hj
      exact hc
  · intro u hu
    simp at hu
    subst hu
    rfl
/-- append of one row. -/
theorem held_appendS {i : Nat} {oi : Oper} {fuel : Nat} {listed : Array Bool} {a : Act} {w : World} (d : Option Tmp) (hr : Region.ready md ops listed = [i]) (hi : ops[i]? = some oi) (hg : oi.guard = none) (hd : oi.dst = d)
    (s x : Operand) (ho : oi.op = .call { callee := .builtin .append, args := #[s, x], argTypes := #[22, 22] }) (base : Nat) (v : Value) (n : Nat) (xs : List Value) (hs : a.eval s = v) (hown : w.ownsRow base 33 1 v n xs)
    (b : Nat) (ad : Option Addr) (m c : Nat) (hx : a.eval x = .slice (some ⟨b, 0, none⟩) 1 1) (hc : w.cell? ⟨b, 0, none⟩ = some (.slice ad m c)) (hn : n ≤ 2097152) (hb : base ≤ w.heap.size)
    (h : ∀ v' w', w'.ownsRow base 33 1 v' (n + 1) (xs ++ [.slice ad m c]) → w.grownBy w' v.ownBlock → S w' ∧ wpAnyH Tryd.prog md ops Q S fuel (listed.setIfInBounds i true) (a.put d v') w') : wpAnyH Tryd.prog md ops Q S (fuel + 1) listed a w := by
  obtain ⟨ie, hie, hz, h1, h2⟩ := info_parts Tryd.infoS
  subst hd
  refine held_call hr hi hg (wp_append_own w s x 22 ho base 33 ie _ 1 24 Tryd.underlying22 hie hz h1 h2 rfl (by decide) v n xs hs hown ⟨b, 0, none⟩ 1 1 [.slice ad m c] hx rfl ?_ ?_ (by unfold maxLen; omega) (by omega) hb (fun v' w' h2 h3 _ => h v' w' h2 h3))
  · intro j u hj
    match j, hj with
    | 0, hj =>
      simp at hj
      subst hj
      exact hc
  · intro u hu
    simp at hu
    subst hu
    rfl
end
theorem hmulI {a b : Int} (h0 : -1000 ≤ a * b) (h1 : a * b ≤ 1000) (w : World) : (binOp .mul 2 (.int .i64 a) (.int .i64 b)).run Tryd.prog w = .ok (.int .i64 (a * b)) w := by
  have hw : IntKind.i64.wrap (a * b) = a * b := IntWalk.i64_in _ (by omega)
  go_simp
theorem hsubI {a b : Int} (h0 : -1000 ≤ a - b) (h1 : a - b ≤ 1000) (w : World) : (binOp .sub 2 (.int .i64 a) (.int .i64 b)).run Tryd.prog w = .ok (.int .i64 (a - b)) w := by
  have hw : IntKind.i64.wrap (a - b) = a - b := IntWalk.i64_in _ (by omega)
  go_simp
theorem cell_alloc1 (w : World) (v : Value) (t : TypeId) : (w.alloc (.cells #[v] t)).cell? ⟨w.heap.size, 0, none⟩ = some v := by
  unfold World.cell?
  rw [heap_alloc_new w (.cells #[v] t)]
  rfl
theorem hidxI (b o : Nat) {k n : Nat} (cap : Nat) (hk : k < n) (w : World) : (Instr.indexAt 33 (.slice (some ⟨b, o, none⟩) n cap) (.int .i64 k)).run Tryd.prog w = .ok (.pointer (some ⟨b, o + k, none⟩)) w := by
  have h2 : (0 : Int) ≤ (k : Int) := by omega
  have h3 : (k : Int) < (n : Int) := by omega
  go_simp
theorem hidxS (b o : Nat) {k n : Nat} (cap : Nat) (hk : k < n) (w : World) : (Instr.indexAt 22 (.slice (some ⟨b, o, none⟩) n cap) (.int .i64 k)).run Tryd.prog w = .ok (.pointer (some ⟨b, o + k, none⟩)) w := by
  have h2 : (0 : Int) ≤ (k : Int) := by omega
  have h3 : (k : Int) < (n : Int) := by omega
  go_simp
theorem hloadS (w : World) {b o : Nat} {x : Value} (h : w.cell? ⟨b, o, none⟩ = some x) : (Instr.loadAt 33 (.pointer (some ⟨b, o, none⟩))).run Tryd.prog w = .ok x w := by go_simp
end Go.Proofs.YtckkbojankfdfaaDoor

namespace Go.Proofs.YtckkbojankfdfaaDoor
open Go.RowKit

theorem ld_ltn {n : Nat} {v : Lin.V} (hw : Lin.Wd n v) (hne : v ≠ Lin.zv) : Lin.ld v < n ∧ v (Lin.ld v) ≠ 0 ∧ ∀ j, j < Lin.ld v → v j = 0 := by
  obtain ⟨i, hi⟩ := Lin.ne_zv hne
  obtain ⟨h1, h2⟩ := Lin.ld_spec hi
  refine ⟨Classical.byContradiction fun hn => h1 (hw _ (by omega)), h1, h2⟩
theorem leadOf_toL {n : Nat} {u : Lin.V} (hw : Lin.Wd n u) (hne : u ≠ Lin.zv) : leadOf (toL n u) = (Lin.ld u : Int) := by
  obtain ⟨h1, h2, h3⟩ := ld_ltn hw hne
  refine leadOf_at (k := Lin.ld u) (by rw [toL_length]; exact h1) (fun j hj hjk => ?_) ?_
  · rw [toL_get]; exact h3 j hjk
  · rw [toL_get]; exact h2
theorem leadOf_zv (n : Nat) : leadOf (toL n Lin.zv) = -1 := leadOf_zero (fun j hj => by rw [toL_get]; rfl)
theorem leadOf_of_toL {n : Nat} {u : Lin.V} (hw : Lin.Wd n u) (h : leadOf (toL n u) < 0) : u = Lin.zv := Classical.byContradiction fun hne => by
  rw [leadOf_toL hw hne] at h
  omega

/-- What a reduced list of rows of n numbers has to do with a list. -/
structure RedN (p : Int) (n : Nat) (R T : List Lin.V) : Prop where
  red : Lin.Red p R
  wd : ∀ u ∈ R, Lin.Wd n u
  eqv : Lin.Eqv p R T
theorem RedN.nil (p : Int) (n : Nat) : RedN p n [] [] := ⟨Lin.Red.nil p, by simp, Lin.Eqv.refl _ _⟩
theorem RedN.skip {p : Int} (hp : 0 < p) {n : Nat} {R T : List Lin.V} (h : RedN p n R T) {v : Lin.V} (hT : ∀ w ∈ T, Lin.Md p w) (hv : Lin.Md p v) (hr : Lin.Rest p R v R.length Lin.zv) : RedN p n R (T ++ [v]) :=
  ⟨h.red, h.wd, Lin.skip_eqv hp h.red hT hv h.eqv hr⟩
theorem RedN.put {p : Int} (hp : 1 < p) {n : Nat} {R T : List Lin.V} (h : RedN p n R T) {v r u : Lin.V} {k : Nat} (hT : ∀ w ∈ T, Lin.Md p w) (hv : Lin.Md p v) (hr : Lin.Rest p R v R.length r) (hne : r ≠ Lin.zv) (hu : Lin.Unit p r u) (huw : Lin.Wd n u) (hk : k ≤ R.length)
    (hlo : ∀ w ∈ R.take k, Lin.ld w < Lin.ld u) (hhi : ∀ w ∈ R.drop k, ¬ Lin.ld w < Lin.ld u) : RedN p n (Lin.put p R k u) (T ++ [v]) := by
  have hf := Lin.fits_of hr hne hu hk hlo hhi
  refine ⟨hf.red hp h.red, fun x hx => ?_, Lin.put_eqv hp h.red hT hv h.eqv hr hu hf⟩
  rcases Lin.put_mem.1 hx with rfl | ⟨y, hy, rfl⟩
  · exact huw
  · exact Lin.add_wd _ (h.wd y hy) huw
theorem RedN.same {p : Int} (hp : 1 < p) {n : Nat} {R R' T : List Lin.V} (h : RedN p n R T) (k : RedOf p R' T) : R' = R :=
  Lin.Red.unique hp k.red h.red (fun v => (k.eqv v).trans (h.eqv v).symm)
theorem RedN.unique {p : Int} (hp : 1 < p) {n n' : Nat} {R R' T T' : List Lin.V} (h : RedN p n R T) (k : RedN p n' R' T') (e : Lin.Eqv p T T') : R' = R :=
  Lin.Red.unique hp k.red h.red (fun v => ((k.eqv v).trans (e v).symm).trans (h.eqv v).symm)

/-- A row less its multiple of u. -/
noncomputable def less1 (p : Int) (u w : Lin.V) : Lin.V := Lin.add p w (-(w (Lin.ld u))) u
/-- The next list while it is gathered: j rows have been seen; pt: the new row is in. -/
def Nx (p : Int) (R : List Lin.V) (u : Lin.V) (j : Nat) (pt : Bool) (N : List Lin.V) : Prop :=
  if pt then ∃ K, K ≤ j ∧ (∃ h : K < R.length, Lin.ld u < Lin.ld R[K]) ∧ (∀ w ∈ R.take K, Lin.ld w < Lin.ld u) ∧ N = Lin.put p (R.take j) K u
  else (∀ w ∈ R.take j, Lin.ld w < Lin.ld u) ∧ N = (R.take j).map (less1 p u)
theorem Nx.start (p : Int) (R : List Lin.V) (u : Lin.V) : Nx p R u 0 false [] := ⟨by simp, by simp⟩
theorem put_more {p : Int} {R : List Lin.V} {u : Lin.V} {j K : Nat} (hK : K ≤ j) (hj : j < R.length) : Lin.put p (R.take j) K u ++ [less1 p u R[j]] = Lin.put p (R.take (j + 1)) K u := by
  have hl : (R.take j).length = j := by simp; omega
  rw [List.take_succ_eq_append_getElem hj]
  unfold Lin.put
  rw [List.take_append_of_le_length (by omega), List.drop_append_of_le_length (by omega), List.map_append, List.append_assoc]
  rfl
theorem put_last {p : Int} {R : List Lin.V} {u : Lin.V} : (R.map (less1 p u)) ++ [u] = Lin.put p R R.length u := by
  unfold Lin.put
  rw [List.take_of_length_le (Nat.le_refl _), List.drop_of_length_le (Nat.le_refl _)]
  rfl
theorem Nx.keep {p : Int} {R : List Lin.V} {u : Lin.V} {j : Nat} {N : List Lin.V} (h : Nx p R u j true N) (hj : j < R.length) : Nx p R u (j + 1) true (N ++ [less1 p u R[j]]) := by
  obtain ⟨K, hK, hx, hlo, rfl⟩ := h
  exact ⟨K, by omega, hx, hlo, put_more hK hj⟩
theorem Nx.pass {p : Int} {R : List Lin.V} {u : Lin.V} {j : Nat} {N : List Lin.V} (h : Nx p R u j false N) (hj : j < R.length) (hlt : Lin.ld R[j] < Lin.ld u) : Nx p R u (j + 1) false (N ++ [less1 p u R[j]]) := by
  obtain ⟨hlo, rfl⟩ := h
  refine ⟨fun w hw => ?_, ?_⟩
  · rw [List.take_succ_eq_append_getElem hj] at hw
    rcases List.mem_append.1 hw with h1 | h1
    · exact hlo w h1
    · rw [List.mem_singleton.1 h1]; exact hlt
  · rw [List.take_succ_eq_append_getElem hj, List.map_append]
    rfl
theorem Nx.in' {p : Int} {R : List Lin.V} {u : Lin.V} {j : Nat} {N : List Lin.V} (h : Nx p R u j false N) (hj : j < R.length) (hlt : Lin.ld u < Lin.ld R[j]) : Nx p R u (j + 1) true (N ++ [u] ++ [less1 p u R[j]]) := by
  obtain ⟨hlo, rfl⟩ := h
  have hl : (R.take j).length = j := by simp; omega
  refine ⟨j, by omega, ⟨hj, hlt⟩, hlo, ?_⟩
  have e := put_last (p := p) (R := R.take j) (u := u)
  rw [e, hl]
  exact put_more (Nat.le_refl _) hj
theorem Nx.done {p : Int} {R : List Lin.V} {u : Lin.V} {N : List Lin.V} (hR : Lin.Red p R) (h : Nx p R u R.length true N) : ∃ K, K ≤ R.length ∧ N = Lin.put p R K u ∧ (∀ w ∈ R.take K, Lin.ld w < Lin.ld u) ∧ ∀ w ∈ R.drop K, ¬ Lin.ld w < Lin.ld u := by
  obtain ⟨K, hK, ⟨hk, hx⟩, hlo, rfl⟩ := h
  refine ⟨K, hK, by rw [List.take_of_length_le (Nat.le_refl _)], hlo, fun w hw => ?_⟩
  rw [List.drop_eq_getElem_cons hk] at hw
  have hp := hR.inc
  rw [← List.take_append_drop K R, List.drop_eq_getElem_cons hk] at hp
  have h2 := (List.pairwise_append.1 hp).2.1
  rcases List.mem_cons.1 hw with rfl | hw
  · omega
  · have := (List.pairwise_cons.1 h2).1 w hw
    omega
theorem Nx.end {p : Int} {R : List Lin.V} {u : Lin.V} {N : List Lin.V} (h : Nx p R u R.length false N) : ∃ K, K ≤ R.length ∧ N ++ [u] = Lin.put p R K u ∧ (∀ w ∈ R.take K, Lin.ld w < Lin.ld u) ∧ ∀ w ∈ R.drop K, ¬ Lin.ld w < Lin.ld u := by
  obtain ⟨hlo, rfl⟩ := h
  refine ⟨R.length, Nat.le_refl _, ?_, hlo, ?_⟩
  · rw [List.take_of_length_le (Nat.le_refl _)]
    exact put_last
  · rw [List.drop_of_length_le (Nat.le_refl _)]
    simp
theorem Nx.length {p : Int} {R : List Lin.V} {u : Lin.V} {j : Nat} {pt : Bool} {N : List Lin.V} (h : Nx p R u j pt N) (hj : j ≤ R.length) : N.length ≤ j + 1 := by
  have hl : (R.take j).length = j := by simp; omega
  cases pt with
  | true =>
    obtain ⟨K, hK, _, _, rfl⟩ := h
    rw [put_length p _ K u (by omega)]
    omega
  | false =>
    obtain ⟨_, rfl⟩ := h
    rw [List.length_map]
    omega
/-- A unit row's lead is none of the list's. -/
theorem lead_apart {p : Int} {R : List Lin.V} {v r u w : Lin.V} (hr : Lin.Rest p R v R.length r) (hu : Lin.Unit p r u) (hw : w ∈ R) : Lin.ld w ≠ Lin.ld u := fun e => by
  have h0 := hu.at0 _ (hr.off w (by rw [List.take_of_length_le (Nat.le_refl _)]; exact hw))
  rw [e, hu.one] at h0
  exact absurd h0 (by decide)
/-- The remainder as the reference model takes it. -/
theorem mod_twice {p x : Int} (hp : 0 < p) : (x.tmod p + p).tmod p = x % p := by
  have h1 : 0 ≤ x.tmod p + p := by
    have := Int.lt_tmod_of_pos x hp
    omega
  rw [Int.tmod_eq_emod_of_nonneg h1, Int.add_emod_right]
  rcases Int.le_total 0 x with h | h
  · rw [Int.tmod_eq_emod_of_nonneg h, Int.emod_emod_of_dvd x (Int.dvd_refl p)]
  · have e := Int.mul_tdiv_add_tmod x p
    have : x.tmod p = x + p * (-(x.tdiv p)) := by rw [Int.mul_neg]; omega
    rw [this, Int.add_mul_emod_self_left]
end Go.Proofs.YtckkbojankfdfaaDoor

namespace Go.Proofs.YtckkbojankfdfaaDoor
open Go.RowKit

/-- A row of numbers that a call has gathered above a base. -/
def Gb (base : Nat) (w : World) (u : Value) (xs : List Int) : Prop := w.ownsRow base 2 1 u xs.length (xs.map (Value.int .i64))
theorem Gb.g1 {base : Nat} {w : World} {u : Value} {xs : List Int} (h : Gb base w u xs) : G1 w u xs := owns_mono h (Nat.zero_le _)
theorem Gb.l1 {base : Nat} {w : World} {u : Value} {xs : List Int} (h : Gb base w u xs) : L1 0 w u xs := h.g1.l1
theorem Gb.below {base : Nat} {w w' : World} {u : Value} {xs : List Int} (h : Gb base w u xs) (hb : Below w.heap.size w w') : Gb base w' u xs := owns_below h hb
theorem Gb.mono {base base' : Nat} {w : World} {u : Value} {xs : List Int} (h : Gb base w u xs) (hb : base' ≤ base) : Gb base' w u xs := owns_mono h hb

theorem toL_succ (q : Nat) (v : Lin.V) : toL (q + 1) v = toL q v ++ [v q] := by simp [toL, List.range_succ]

def GbR (xs : List Int) (w : World) (e : Ending) (w' : World) : Prop := ∃ u, e = .returned u ∧ Gb w.heap.size w' u xs ∧ Below w.heap.size w w'

theorem run_append_zero (w : World) (ty : TypeId) (g : Nat) (ad : Option Addr) (cap : Nat) :
    (Builtin.append_ #[33, 33] ty #[.slice (some ⟨g, 0, none⟩) 0 0, .slice ad 0 cap]).run Tryd.prog w = .ok (.slice (some ⟨g, 0, none⟩) 0 0) w := by
  obtain ⟨i, hi, _, _, _⟩ := info_parts Tryd.infoI
  cases ad with
  | none => simp [Builtin.append_, run_underlying Tryd.underlying33, sizeOf, typeInfo, hi, Builtin.lenOf, Builtin.firstCells, storeCells]
  | some a =>
    have hl := run_loadCells_list (P := Tryd.prog) w a [] (by simp)
    simp at hl
    simp [Builtin.append_, run_underlying Tryd.underlying33, sizeOf, typeInfo, hi, Builtin.lenOf, Builtin.firstCells, storeCells, hl]
theorem wpList_append_run {ops : Array Oper} {rest : List Oper} {o : Oper} {a : Act} {w : World} {Q : Exit → Act → World → Prop} {P : Program} (hgd : o.guard = none) (d s : Operand) (t t' : TypeId)
    (ho : o.op = .call { callee := .builtin .append, args := #[d, s], argTypes := #[t, t'] }) (v u : Value) (hd : a.eval d = v) (hs : a.eval s = u) {v' : Value} {w' : World}
    (hr : (Builtin.append_ #[t, t'] o.type #[v, u]).run P w = .ok v' w') (h : wpList P ops Q rest (a.put o.dst v') w') : wpList P ops Q (o :: rest) a w :=
  wpList_plain hgd fun K hK => by
    unfold Oper.wp execOp
    simp only [ho, resolve, invoke, builtin, Sem.run_bind, Sem.run_pure, Result.andThen_ok, List.map_toArray, List.map_cons, List.map_nil, hd, hs, hr]
    exact hK _ _ h

set_option maxHeartbeats 800000 in
theorem l01Own_any (v : Value) (xs : List Int) (w : World) (h : L1 0 w v xs) (hm : xs.length ≤ 1048576) :
    Calls Tryd.prog 62 #[v] w (GbR xs w) := by
  have HOWN := Lib.hid (World.ownsRow_made (base := w.heap.size) (e := 2) (size := 1) w #[] 0 (Nat.le_refl _) (by unfold maxLen; omega) (by simp))
  obtain ⟨i1, hj, hy0, hy1, hy2⟩ := info_parts Tryd.infoI
  refine Sl.cases h (fun ad cap hx hv => ?_) (fun b o cap hv _ hpos hc => ?_)
  · subst hx hv
    clear h
    have hrun := fun W ty => run_append_zero W ty w.heap.size ad cap
    go_enter Tryd.func62, Tryd.ntmps62
    go_wp2_with (at_builtin; refine wpList_append_run rfl (.tmp 3) (.tmp 4) 33 33 rfl _ _ rfl rfl (hrun _ _) ?_)
    go_wp2
    go_ret
    exact ⟨_, rfl, by simpa [Gb] using HOWN.out, (Below.refl _ _).alloc (Nat.le_refl _) _⟩
  · subst hv
    clear h
    have HC := Lib.hid hc
    clear hc
    go_enter Tryd.func62, Tryd.ntmps62
    go_wp2_with (at_builtin; refine wpList_append_own _ rfl (.tmp 3) (.tmp 4) 33 rfl w.heap.size 2 i1 (.int .i64 0) 1 8 Tryd.underlying33 hj hy0 hy1 hy2 rfl (by decide) _ _ _ rfl HOWN.out ⟨b, o, none⟩ xs.length cap (xs.map (Value.int .i64)) rfl ?c0 ?c1 ?c2 ?c3 ?c4 ?c5 ?_)
    case c0 => simp
    case c1 =>
      intro j u hju
      have hj' : j < xs.length := by
        have := (List.getElem?_eq_some_iff.1 hju).1
        simpa using this
      obtain ⟨u2, h2, h3⟩ := HC.out j hj'
      rw [Addr.add_lit]
      have h4 := cell_lt h2
      rw [((Below.refl w.heap.size w).alloc (Nat.le_refl _) _).cell (p := ⟨b, o + j, none⟩) h4, h2, h3]
      simp [hj'] at hju
      rw [hju]
    case c2 => intro u hu; obtain ⟨x, _, rfl⟩ := List.mem_map.1 hu; rfl
    case c3 => unfold maxLen; omega
    case c4 => omega
    case c5 => simp
    intro v' w3 hown' hgrow _
    have HB3 : Hid (Below w.heap.size w w3) := Lib.hid (((Below.refl _ _).alloc (Nat.le_refl _) _).grown hgrow (by simp) (fun g hg => ((HOWN.out.lt) g hg).1))
    have HO3 := Lib.hid hown'
    clear hown' hgrow
    go_wp2
    go_ret
    exact ⟨_, rfl, by simpa [Gb] using HO3.out, HB3.out⟩

theorem tmod_bd {p x : Int} (hp : IsP p) : -7 < x.tmod p ∧ x.tmod p < 7 := by
  have h1 := Int.lt_tmod_of_pos x (show 0 < p by have := hp.lo; omega)
  have h2 := Int.tmod_lt_of_pos x (show 0 < p by have := hp.lo; omega)
  have := hp.hi
  omega
set_option maxHeartbeats 400000 in
theorem l01Mod_any (p x : Int) (w : World) (hp : IsP p) : Calls Tryd.prog 63 #[.int .i64 p, .int .i64 x] w (QW (.int .i64 (x % p)) w) := by
  have HM := Lib.hid (mod_twice (x := x) (show 0 < p by have := hp.lo; omega))
  obtain ⟨hb0, hb1⟩ := tmod_bd (x := x) hp
  have hp0 := hp.lo
  have hp1 := hp.hi
  obtain ⟨r, hr⟩ : ∃ r, r = x.tmod p := ⟨_, rfl⟩
  rw [← hr] at hb0 hb1
  have HR := Lib.hid hr
  clear hr
  go_enter Tryd.func63, Tryd.ntmps63
  go_wp2
  rw [← HR.out]
  have hw : wrap64 (r + p) = r + p := by unfold wrap64; omega
  go_ret
  exact ⟨ret_int (by rw [← HM.out, ← HR.out, hw]), rfl⟩

set_option maxHeartbeats 800000 in
theorem l01Inverse_any (p a : Int) (w : World) (hp : IsP p) (h0 : 0 < a) (h1 : a < p) : Calls Tryd.prog 60 #[.int .i64 p, .int .i64 a] w (InvR p a w) := by
  obtain ⟨d, hd1, hdp, hd⟩ := inv_ex hp h0 h1
  have hp7 := hp.hi7
  have hp1 := hp.lo1
  have HD := Lib.hid hd
  have HP := Lib.hid hp
  have HAM : Hid (a % p = a) := Lib.hid (Int.emod_eq_of_lt (by omega) h1)
  clear hd hp
  go_enter Tryd.func60, Tryd.ntmps60
  go_wp2
  go_loop [5] (fun i => ∃ k : Nat, 1 ≤ k ∧ k ≤ d ∧ i = .int .i64 k) (fun i => d + 1 - (intOf i).toNat)
  case atStart => exact ⟨1, Nat.le_refl _, hd1, rfl⟩
  case round =>
    obtain ⟨k, hk1, hk, rfl⟩ := hrel
    obtain ⟨hm0, hm1⟩ := mul_bd HP.out (a := (k : Int)) (b := a) (by omega) (by omega) (by omega) (by omega)
    have hkp : (k : Int) < p := by omega
    go_wp2_with fail
    have hmod := l01Mod_any p a w HP.out
    rw [HAM.out] at hmod
    refine hmod.mono ?_
    clear hmod
    rintro e w' ⟨rfl, rfl⟩
    by_cases hq : (k : Int) * a % p = 1
    · have hx : ((k : Int) * a % p == 1) = true := by rw [hq]; rfl
      have HQ := Lib.hid hq
      clear hq
      go_wp2
      go_ret
      exact ⟨k, rfl, rfl, hk1, by omega, HQ.out⟩
    · have hx : ((k : Int) * a % p == 1) = false := by simp [hq]
      have hkd : k < d := by
        rcases Nat.lt_or_ge k d with h | h
        · exact h
        · have : k = d := by omega
          subst this
          exact absurd HD.out hq
      clear hq
      go_wp2
      go_round
      case rel => exact ⟨k + 1, by omega, by omega, by go_num⟩
      case measure => simp [intOf]; omega

/-- What l01Less computes, number by number, stays small. -/
theorem less_bd {p k a b : Int} (hp : IsP p) (hb : 0 ≤ b ∧ b < p) (hk : 0 ≤ k ∧ k < p) : 0 ≤ k * b ∧ k * b ≤ 42 ∧ (a - k * b) % p = (a + -k * b) % p := by
  obtain ⟨h1, h2⟩ := mul_bd hp hk.1 hk.2 hb.1 (Int.le_of_lt hb.2)
  exact ⟨h1, h2, by rw [Int.neg_mul, Int.sub_eq_add_neg]⟩

set_option maxHeartbeats 3200000 in
set_option maxRecDepth 100000 in
theorem l01Less_any (p k : Int) (n : Nat) (va vb : Value) (u t : Lin.V) (w : World) (hp : IsP p) (ha : L1 0 w va (toL n u)) (hb : L1 0 w vb (toL n t)) (hu : Lin.Md p u) (ht : Lin.Md p t) (hk : 0 ≤ k ∧ k < p) (hn : n ≤ 1048576) :
    Calls Tryd.prog 61 #[.int .i64 p, va, vb, .int .i64 k] w (GbR (toL n (Lin.add p u (-k) t)) w) := by
  have HP := Lib.hid hp
  have hp7 := hp.hi7
  have hp1 := hp.lo1
  have HA := Lib.hid ha
  have HB := Lib.hid hb
  have HU := Lib.hid hu
  have HT := Lib.hid ht
  obtain ⟨y, hy⟩ : ∃ y, y = Lin.add p u (-k) t := ⟨_, rfl⟩
  have HY := Lib.hid hy
  rw [← hy]
  obtain ⟨i1, hj, hy0, hy1, hy2⟩ := info_parts Tryd.infoI
  have HOWN := Lib.hid (World.ownsRow_made (base := w.heap.size) (e := 2) (size := 1) w #[] 0 (Nat.le_refl _) (by unfold maxLen; omega) (by simp))
  obtain ⟨ada, capa, hva⟩ := Sl.shape ha
  obtain ⟨adb, capb, hvb⟩ := Sl.shape hb
  rw [toL_length] at hva hvb
  subst hva hvb
  clear hp ha hb hu ht hy
  go_enter Tryd.func61, Tryd.ntmps61
  go_wp2
  go_loopw [9, 10] (fun o i wr => ∃ (q : Nat), q ≤ n ∧ i = .int .i64 q ∧ Hid (Below w.heap.size w wr) ∧ Hid (wr.ownsRow w.heap.size 2 1 o q ((toL q y).map (Value.int .i64)))) (fun _ i _ => n - (intOf i).toNat)
  case atStart => exact ⟨0, Nat.zero_le _, rfl, Lib.hid ((Below.refl _ _).alloc (Nat.le_refl _) _), Lib.hid (by simpa [toL] using HOWN.out)⟩
  case round =>
    clear HOWN
    obtain ⟨q, hq, rfl, HBE, HO⟩ := hrel
    by_cases hlt : q < n
    · refine Sl.cases HA.out (fun _ _ hx _ => absurd hlt (by have := congrArg List.length hx; rw [toL_length] at this; simp at this; omega)) (fun ba oa ca hva _ _ hca => ?_)
      refine Sl.cases HB.out (fun _ _ hx _ => absurd hlt (by have := congrArg List.length hx; rw [toL_length] at this; simp at this; omega)) (fun bb ob cb hvb _ _ hcb => ?_)
      rw [toL_length] at hva hvb
      obtain ⟨rfl, rfl⟩ : ada = some ⟨ba, oa, none⟩ ∧ capa = ca := by simpa using hva
      obtain ⟨rfl, rfl⟩ : adb = some ⟨bb, ob, none⟩ ∧ capb = cb := by simpa using hvb
      obtain ⟨ua, hua, hra⟩ := hca q (by rw [toL_length]; exact hlt)
      obtain ⟨ub, hub, hrb⟩ := hcb q (by rw [toL_length]; exact hlt)
      rw [toL_get] at hra hrb
      obtain ⟨a, haa⟩ : ∃ a, a = u q := ⟨_, rfl⟩
      obtain ⟨b, hbb⟩ : ∃ b, b = t q := ⟨_, rfl⟩
      have hab := HU.out q
      have hbb2 := HT.out q
      rw [← haa] at hra hab
      rw [← hbb] at hrb hbb2
      have h1 : wr.cell? ⟨ba, oa + q, none⟩ = some (.int .i64 a) := by rw [later HBE.out (Nat.le_refl _) hua, hra]
      have h2 : wr.cell? ⟨bb, ob + q, none⟩ = some (.int .i64 b) := by rw [later HBE.out (Nat.le_refl _) hub, hrb]
      obtain ⟨m0, m1, m2⟩ := less_bd (a := a) HP.out hbb2 hk
      have HM2 : Hid ((a - k * b) % p = y q) := Lib.hid (by rw [m2, HY.out, haa, hbb]; rfl)
      have hmod := fun W => l01Mod_any p (a - k * b) W HP.out
      rw [HM2.out] at hmod
      have HMOD := Lib.hid hmod
      have hsz : w.heap.size ≤ wr.heap.size := HBE.out.size
      have hca1 : ∀ W, Below w.heap.size w W → W.cell? ⟨ba, oa + q, none⟩ = some (.int .i64 a) := fun W h => by rw [later h (Nat.le_refl _) hua, hra]
      have hcb1 : ∀ W, Below w.heap.size w W → W.cell? ⟨bb, ob + q, none⟩ = some (.int .i64 b) := fun W h => by rw [later h (Nat.le_refl _) hub, hrb]
      have hmul : ∀ w, (binOp .mul 2 (.int .i64 k) (.int .i64 b)).run Tryd.prog w = .ok (.int .i64 (k * b)) w := fun w => hmulI (by omega) (by omega) w
      have hsub : ∀ w, (binOp .sub 2 (.int .i64 a) (.int .i64 (k * b))).run Tryd.prog w = .ok (.int .i64 (a - k * b)) w := fun w => hsubI (by omega) (by omega) w
      clear h1 h2
      clear hra hrb hca hcb hva hvb m2 haa hbb hmod
      go_wp2
      refine wp_region_held (S := fun W => Below w.heap.size w W) (by kernel_rfl) ?_
      have S0 : Below w.heap.size w wr.drew := HBE.out.drew
      refine held_take (i := 0) (v := u9) (some 18) rfl rfl (by kernel_rfl) (by kernel_rfl) (by kernel_rfl) (fun _ _ _ h => h) (yieldsIf_move (by kernel_rfl) rfl (by kernel_rfl)) S0 ?_
      refine held_take (i := 1) (v := .int .i64 p) (some 19) rfl rfl (by kernel_rfl) (by kernel_rfl) (by kernel_rfl) (fun _ _ _ h => h) (yieldsIf_move (by kernel_rfl) rfl (by kernel_rfl)) S0 ?_
      refine held_take (i := 2) (v := .slice (some ⟨ba, oa, none⟩) n capa) (some 20) rfl rfl (by kernel_rfl) (by kernel_rfl) (by kernel_rfl) (fun _ _ _ h => h) (yieldsIf_move (by kernel_rfl) rfl (by kernel_rfl)) S0 ?_
      refine held_take (i := 3) (v := .int .i64 (q : Int)) (some 21) rfl rfl (by kernel_rfl) (by kernel_rfl) (by kernel_rfl) (fun _ _ _ h => h) (yieldsIf_move (by kernel_rfl) rfl (by kernel_rfl)) S0 ?_
      refine held_take (i := 4) (v := .pointer (some ⟨ba, oa + q, none⟩)) (some 22) rfl rfl (by kernel_rfl) (by kernel_rfl) (by kernel_rfl) (fun _ _ _ h => h) (yieldsIf_index (by kernel_rfl) rfl (by kernel_rfl) (by kernel_rfl) (hidxI ba oa capa hlt)) S0 ?_
      refine held_take (i := 5) (v := .int .i64 a) (some 23) rfl rfl (by kernel_rfl) (by kernel_rfl) (by kernel_rfl) (fun _ _ _ h => h) (yieldsIf_cell (by kernel_rfl) rfl (by kernel_rfl) (fun W h => hload W (hca1 W h))) S0 ?_
      refine held_take (i := 6) (v := .int .i64 k) (some 24) rfl rfl (by kernel_rfl) (by kernel_rfl) (by kernel_rfl) (fun _ _ _ h => h) (yieldsIf_move (by kernel_rfl) rfl (by kernel_rfl)) S0 ?_
      refine held_take (i := 7) (v := .slice (some ⟨bb, ob, none⟩) n capb) (some 25) rfl rfl (by kernel_rfl) (by kernel_rfl) (by kernel_rfl) (fun _ _ _ h => h) (yieldsIf_move (by kernel_rfl) rfl (by kernel_rfl)) S0 ?_
      refine held_take (i := 8) (v := .int .i64 (q : Int)) (some 26) rfl rfl (by kernel_rfl) (by kernel_rfl) (by kernel_rfl) (fun _ _ _ h => h) (yieldsIf_move (by kernel_rfl) rfl (by kernel_rfl)) S0 ?_
      refine held_take (i := 9) (v := .pointer (some ⟨bb, ob + q, none⟩)) (some 27) rfl rfl (by kernel_rfl) (by kernel_rfl) (by kernel_rfl) (fun _ _ _ h => h) (yieldsIf_index (by kernel_rfl) rfl (by kernel_rfl) (by kernel_rfl) (hidxI bb ob capb hlt)) S0 ?_
      refine held_take (i := 10) (v := .int .i64 b) (some 28) rfl rfl (by kernel_rfl) (by kernel_rfl) (by kernel_rfl) (fun _ _ _ h => h) (yieldsIf_cell (by kernel_rfl) rfl (by kernel_rfl) (fun W h => hload W (hcb1 W h))) S0 ?_
      refine held_take (i := 11) (v := .int .i64 (k * b)) (some 29) rfl rfl (by kernel_rfl) (by kernel_rfl) (by kernel_rfl) (fun _ _ _ h => h) (yieldsIf_bin (by kernel_rfl) rfl (by kernel_rfl) (by kernel_rfl) (fun _ => rfl) hmul) S0 ?_
      refine held_take (i := 12) (v := .int .i64 (a - k * b)) (some 30) rfl rfl (by kernel_rfl) (by kernel_rfl) (by kernel_rfl) (fun _ _ _ h => h) (yieldsIf_bin (by kernel_rfl) rfl (by kernel_rfl) (by kernel_rfl) (fun _ => rfl) hsub) S0 ?_
      refine held_enter (i := 13) (some 31) (f := 63) (args := #[.int .i64 p, .int .i64 (a - k * b)]) (by kernel_rfl) rfl rfl rfl (by kernel_rfl) (HMOD.out _) ?_ (fun c w' h => by cases h.1) (fun w' h => by cases h.1)
      rintro e4 W4 ⟨he4, rfl⟩
      injection he4 with he4
      subst he4
      refine ⟨S0, ?_⟩
      have S1 : Below w.heap.size w (wr.drew.alloc (.cells #[.int .i64 (y q)] 2)) := S0.alloc hsz _
      have HOX := Lib.hid (HO.out.alloc (.cells #[.int .i64 (y q)] 2))
      refine held_buildI (i := 14) (some 32) (by kernel_rfl) rfl rfl rfl (.tmp 31) (y q) rfl (by kernel_rfl) ⟨S1, ?_⟩
      refine held_appendI (i := 15) (some 33) (by kernel_rfl) rfl rfl rfl (.tmp 18) (.tmp 32) rfl w.heap.size u9 q _ (by kernel_rfl) HOX.out wr.heap.size (y q) (by kernel_rfl) (cell_alloc1 wr.drew _ _) (by omega) (by simp; omega) ?_
      intro v' w3 hown hgrow
      have S2 : Below w.heap.size w w3 := S1.grown hgrow (by simp; omega) (fun g hg => ((HOX.out.lt) g hg).1)
      have HB3 := Lib.hid S2
      have HO3 : Hid (w3.ownsRow w.heap.size 2 1 v' (q + 1) ((toL (q + 1) y).map (Value.int .i64))) := Lib.hid (by rw [toL_succ, List.map_append]; exact hown)
      refine ⟨S2, ?_⟩
      refine held_take (i := 16) (v := v') (some 9) rfl rfl (by kernel_rfl) (by kernel_rfl) (by kernel_rfl) (fun _ _ _ h => h) (yieldsIf_assign (by kernel_rfl) rfl (by kernel_rfl)) S2 ?_
      refine wpAnyH_done (by kernel_rfl) ?_ _
      simp only [Act.put, List.setIfInBounds_toArray, List.set_cons_zero, List.set_cons_succ]
      clear S0 S1 S2 hown hgrow hca1 hcb1 hmul hsub HOX HO HBE
      go_wp2
      go_roundw
      case rel => exact ⟨q + 1, by omega, by go_num, HB3, HO3⟩
      case measure => simp [intOf]; omega
    · have hqq : Hid (q = n) := Lib.hid (by omega)
      go_wp2
      go_ret
      refine ⟨_, rfl, ?_, HBE.out⟩
      have := HO.out
      rw [hqq.out] at this
      unfold Gb
      rw [toL_length]
      exact this
end Go.Proofs.YtckkbojankfdfaaDoor

namespace Go.Proofs.YtckkbojankfdfaaDoor
open Go.RowKit

def RestR (p : Int) (n : Nat) (R : List Lin.V) (v : Lin.V) (w : World) (e : Ending) (w' : World) : Prop :=
  ∃ (u : Value) (r : Lin.V), e = .returned u ∧ Gb w.heap.size w' u (toL n r) ∧ Below w.heap.size w w' ∧ Lin.Rest p R v R.length r ∧ Lin.Wd n r

/-- A row of n numbers lies somewhere, if there are any. -/
theorem l1_toL {lo : Nat} {w : World} {u : Value} {n : Nat} {v : Lin.V} (h : L1 lo w u (toL n v)) (hn : 0 < n) : ∃ b o cap, u = .slice (some ⟨b, o, none⟩) n cap ∧ ∀ k, k < n → w.cell? ⟨b, o + k, none⟩ = some (.int .i64 (v k)) := by
  refine Sl.cases h (fun _ _ hx _ => by have := congrArg List.length hx; rw [toL_length] at this; simp at this; omega) (fun b o cap hv _ _ hc => ⟨b, o, cap, by rw [hv, toL_length], fun k hk => ?_⟩)
  obtain ⟨x, hx, hr⟩ := hc k (by rw [toL_length]; exact hk)
  rw [toL_get] at hr
  rw [hx, hr]
theorem l1_slice {lo : Nat} {w : World} {u : Value} {n : Nat} {v : Lin.V} (h : L1 lo w u (toL n v)) : ∃ ad cap, u = .slice ad n cap := by
  obtain ⟨ad, cap, hv⟩ := Sl.shape h
  exact ⟨ad, cap, by rw [hv, toL_length]⟩

set_option maxHeartbeats 3200000 in
set_option maxRecDepth 100000 in
theorem l01Rest_any (p : Int) (n : Nat) (vl vr : Value) (R : List Lin.V) (v : Lin.V) (w : World) (hp : IsP p) (hL : L2 0 w vl (R.map (toL n))) (hv : L1 0 w vr (toL n v)) (hR : Lin.Red p R) (hw : ∀ u ∈ R, Lin.Wd n u) (hm : Lin.Md p v) (hvw : Lin.Wd n v) (hn : n ≤ 1048576) (hl : R.length ≤ 1048576) :
    Calls Tryd.prog 44 #[.int .i64 p, vl, vr] w (RestR p n R v w) := by
  have HP := Lib.hid hp
  have HL := Lib.hid hL
  have HR := Lib.hid hR
  have HW := Lib.hid hw
  have HM := Lib.hid hm
  have HVW := Lib.hid hvw
  have HOWN := Lib.hid (l01Own_any vr (toL n v) w hv (by rw [toL_length]; exact hn))
  obtain ⟨al, cl, hvl⟩ := Sl.shape hL
  rw [List.length_map] at hvl
  subst hvl
  clear hp hL hR hw hm hvw hv
  go_enter Tryd.func44, Tryd.ntmps44
  go_wp2_with fail
  refine HOWN.out.mono ?_
  rintro e w1 ⟨u1, rfl, hg1, hb1⟩
  have HG1 := Lib.hid hg1
  have HB1 := Lib.hid hb1
  clear hg1 hb1 HOWN
  go_wp2
  go_loopw [7, 8] (fun o i wr => ∃ (k : Nat) (r : Lin.V), k ≤ R.length ∧ i = .int .i64 k ∧ Hid (Below w.heap.size w wr) ∧ Hid (Gb w.heap.size wr o (toL n r)) ∧ Hid (Lin.Rest p R v k r) ∧ Hid (Lin.Wd n r)) (fun _ i _ => R.length - (intOf i).toNat)
  case atStart => exact ⟨0, v, Nat.zero_le _, rfl, HB1, HG1, Lib.hid (Lin.Rest.start HM.out), HVW⟩
  case round =>
    clear HG1 HB1
    obtain ⟨k, r, hk, rfl, HB, HG, HRE, HRW⟩ := hrel
    have hsz : w.heap.size ≤ wr.heap.size := HB.out.size
    by_cases hlt : k < R.length
    · refine Sl.cases HL.out (fun _ _ hx _ => absurd hlt (by have := congrArg List.length hx; simp at this; simp [this])) (fun b o c2 hvv _ _ hc => ?_)
      rw [List.length_map] at hvv
      obtain ⟨rfl, rfl⟩ : al = some ⟨b, o, none⟩ ∧ cl = c2 := by simpa using hvv
      obtain ⟨ur, hur, hrr⟩ := hc k (by rw [List.length_map]; exact hlt)
      rw [List.getElem_map] at hrr
      obtain ⟨t, ht⟩ : ∃ t, t = R[k] := ⟨_, rfl⟩
      have HTE := Lib.hid ht
      rw [← ht] at hrr
      have HTW : Hid (Lin.Wd n t) := Lib.hid (by rw [ht]; exact HW.out _ (List.getElem_mem hlt))
      have HTM : Hid (Lin.Md p t) := Lib.hid (by rw [ht]; exact HR.out.md _ (List.getElem_mem hlt))
      have HTN : Hid (t ≠ Lin.zv) := Lib.hid (by rw [ht]; exact HR.out.ne (List.getElem_mem hlt))
      obtain ⟨hdn, _, _⟩ := ld_ltn HTW.out HTN.out
      obtain ⟨d, hd⟩ : ∃ d, d = Lin.ld t := ⟨_, rfl⟩
      have HD := Lib.hid hd
      rw [← hd] at hdn
      obtain ⟨g, og, cg, hou, hcell⟩ := l1_toL HG.out.l1 (show 0 < n by omega)
      subst hou
      obtain ⟨f, hf⟩ : ∃ f, f = r d := ⟨_, rfl⟩
      have HF := Lib.hid hf
      have hfb := HRE.out.md d
      rw [← hf] at hfb
      obtain ⟨ar, cr, hus⟩ := l1_slice hrr
      subst hus
      have HROW := Lib.hid hrr
      have hrow1 : ∀ W, Below wr.heap.size wr W → W.cell? ⟨b, o + k, none⟩ = some (.slice ar n cr) := fun W h => later (HB.out.trans (h.mono hsz)) (Nat.le_refl _) hur
      have hcell1 : ∀ W, Below wr.heap.size wr W → W.cell? ⟨g, og + d, none⟩ = some (.int .i64 f) := fun W h => by rw [hf]; exact later h (Nat.le_refl _) (hcell d hdn)
      obtain ⟨y, hy⟩ : ∃ y, y = Lin.add p r (-f) t := ⟨_, rfl⟩
      have HRE2 : Hid (Lin.Rest p R v (k + 1) y) := Lib.hid (by rw [hy, HF.out, HD.out, HTE.out]; exact HRE.out.step (by have := HP.out.lo1; omega) HR.out hlt)
      have HYW : Hid (Lin.Wd n y) := Lib.hid (by rw [hy]; exact Lin.add_wd _ HRW.out HTW.out)
      have HLEAD : Hid (∀ W, Below wr.heap.size wr W → Calls Tryd.prog 59 #[.slice ar n cr] W (QW (.int .i64 (d : Int)) W)) := Lib.hid (fun W h => by
        have := l01Lead_any _ _ W (HROW.out.below (HB.out.trans (h.mono hsz))) (by rw [toL_length]; exact hn)
        rwa [leadOf_toL HTW.out HTN.out, ← HD.out] at this)
      have HLESS : Hid (∀ W, Below wr.heap.size wr W → Calls Tryd.prog 61 #[.int .i64 p, .slice (some ⟨g, og, none⟩) n cg, .slice ar n cr, .int .i64 f] W (GbR (toL n y) W)) := Lib.hid (fun W h => by
        rw [hy]
        exact l01Less_any p f n _ _ r t W HP.out ((HG.out.below h).l1) (HROW.out.below (HB.out.trans (h.mono hsz))) HRE.out.md HTM.out hfb hn)
      clear hvv hc hur hrr ht hd hcell hf hy hfb
      go_wp2
      refine wp_region_held (S := fun W => Below wr.heap.size wr W) (by kernel_rfl) ?_
      have S0 : Below wr.heap.size wr wr.drew := (Below.refl _ _).drew
      refine held_take (i := 0) (v := .int .i64 p) (some 17) rfl rfl (by kernel_rfl) (by kernel_rfl) (by kernel_rfl) (fun _ _ _ h => h) (yieldsIf_move (by kernel_rfl) rfl (by kernel_rfl)) S0 ?_
      refine held_take (i := 1) (v := .slice (some ⟨g, og, none⟩) n cg) (some 18) rfl rfl (by kernel_rfl) (by kernel_rfl) (by kernel_rfl) (fun _ _ _ h => h) (yieldsIf_move (by kernel_rfl) rfl (by kernel_rfl)) S0 ?_
      refine held_take (i := 2) (v := .slice (some ⟨b, o, none⟩) R.length cl) (some 19) rfl rfl (by kernel_rfl) (by kernel_rfl) (by kernel_rfl) (fun _ _ _ h => h) (yieldsIf_move (by kernel_rfl) rfl (by kernel_rfl)) S0 ?_
      refine held_take (i := 3) (v := .int .i64 (k : Int)) (some 20) rfl rfl (by kernel_rfl) (by kernel_rfl) (by kernel_rfl) (fun _ _ _ h => h) (yieldsIf_move (by kernel_rfl) rfl (by kernel_rfl)) S0 ?_
      refine held_take (i := 4) (v := .pointer (some ⟨b, o + k, none⟩)) (some 21) rfl rfl (by kernel_rfl) (by kernel_rfl) (by kernel_rfl) (fun _ _ _ h => h) (yieldsIf_index (by kernel_rfl) rfl (by kernel_rfl) (by kernel_rfl) (hidxS b o cl hlt)) S0 ?_
      refine held_take (i := 5) (v := .slice ar n cr) (some 22) rfl rfl (by kernel_rfl) (by kernel_rfl) (by kernel_rfl) (fun _ _ _ h => h) (yieldsIf_cell (by kernel_rfl) rfl (by kernel_rfl) (fun W h => hloadS W (hrow1 W h))) S0 ?_
      refine held_take (i := 6) (v := .slice (some ⟨g, og, none⟩) n cg) (some 23) rfl rfl (by kernel_rfl) (by kernel_rfl) (by kernel_rfl) (fun _ _ _ h => h) (yieldsIf_move (by kernel_rfl) rfl (by kernel_rfl)) S0 ?_
      refine held_take (i := 7) (v := .slice (some ⟨b, o, none⟩) R.length cl) (some 24) rfl rfl (by kernel_rfl) (by kernel_rfl) (by kernel_rfl) (fun _ _ _ h => h) (yieldsIf_move (by kernel_rfl) rfl (by kernel_rfl)) S0 ?_
      refine held_take (i := 8) (v := .int .i64 (k : Int)) (some 25) rfl rfl (by kernel_rfl) (by kernel_rfl) (by kernel_rfl) (fun _ _ _ h => h) (yieldsIf_move (by kernel_rfl) rfl (by kernel_rfl)) S0 ?_
      refine held_take (i := 9) (v := .pointer (some ⟨b, o + k, none⟩)) (some 26) rfl rfl (by kernel_rfl) (by kernel_rfl) (by kernel_rfl) (fun _ _ _ h => h) (yieldsIf_index (by kernel_rfl) rfl (by kernel_rfl) (by kernel_rfl) (hidxS b o cl hlt)) S0 ?_
      refine held_take (i := 10) (v := .slice ar n cr) (some 27) rfl rfl (by kernel_rfl) (by kernel_rfl) (by kernel_rfl) (fun _ _ _ h => h) (yieldsIf_cell (by kernel_rfl) rfl (by kernel_rfl) (fun W h => hloadS W (hrow1 W h))) S0 ?_
      refine held_enter (i := 11) (some 28) (f := 59) (args := #[.slice ar n cr]) (by kernel_rfl) rfl rfl rfl (by kernel_rfl) (HLEAD.out _ S0) ?_ (fun c w' h => by cases h.1) (fun w' h => by cases h.1)
      rintro e4 W4 ⟨he4, rfl⟩
      injection he4 with he4
      subst he4
      refine ⟨S0, ?_⟩
      refine held_take (i := 12) (v := .pointer (some ⟨g, og + d, none⟩)) (some 29) rfl rfl (by kernel_rfl) (by kernel_rfl) (by kernel_rfl) (fun _ _ _ h => h) (yieldsIf_index (by kernel_rfl) rfl (by kernel_rfl) (by kernel_rfl) (hidxI g og cg hdn)) S0 ?_
      refine held_take (i := 13) (v := .int .i64 f) (some 30) rfl rfl (by kernel_rfl) (by kernel_rfl) (by kernel_rfl) (fun _ _ _ h => h) (yieldsIf_cell (by kernel_rfl) rfl (by kernel_rfl) (fun W h => hload W (hcell1 W h))) S0 ?_
      refine held_enter (i := 14) (some 31) (f := 61) (args := #[.int .i64 p, .slice (some ⟨g, og, none⟩) n cg, .slice ar n cr, .int .i64 f]) (by kernel_rfl) rfl rfl rfl (by kernel_rfl) (HLESS.out _ S0) ?_ (fun c w' h => by obtain ⟨_, h, _⟩ := h; cases h) (fun w' h => by obtain ⟨_, h, _⟩ := h; cases h)
      rintro e5 W5 ⟨u5, he5, hg5, hb5⟩
      injection he5 with he5
      subst he5
      have S1 : Below wr.heap.size wr W5 := S0.trans hb5
      have HB5 := Lib.hid (HB.out.trans (S1.mono hsz))
      have HG5 : Hid (Gb w.heap.size W5 e5 (toL n y)) := Lib.hid (hg5.mono hsz)
      refine ⟨S1, ?_⟩
      refine held_take (i := 15) (v := e5) (some 7) rfl rfl (by kernel_rfl) (by kernel_rfl) (by kernel_rfl) (fun _ _ _ h => h) (yieldsIf_assign (by kernel_rfl) rfl (by kernel_rfl)) S1 ?_
      refine wpAnyH_done (by kernel_rfl) ?_ _
      simp only [Act.put, List.setIfInBounds_toArray, List.set_cons_zero, List.set_cons_succ]
      clear S0 S1 hg5 hb5 hrow1 hcell1 HLEAD HLESS HB HG
      go_wp2
      go_roundw
      case rel => exact ⟨k + 1, y, by omega, by go_num, HB5, HG5, HRE2, HYW⟩
      case measure => simp [intOf]; omega
    · have hkk : Hid (k = R.length) := Lib.hid (by omega)
      go_wp2
      go_ret
      exact ⟨_, r, rfl, HG.out, HB.out, by have := HRE.out; rwa [hkk.out] at this, HRW.out⟩
end Go.Proofs.YtckkbojankfdfaaDoor

namespace Go.Proofs.YtckkbojankfdfaaDoor
open Go.RowKit

/-- A table gathered row by row, above a base. -/
def Gs (base : Nat) (w : World) (u : Value) (t : List (List Int)) : Prop := ∃ vs, w.ownsRow base 33 1 u t.length vs ∧ ∀ k (h1 : k < vs.length) (h2 : k < t.length), G1 w vs[k] t[k]
theorem Gs.below {base : Nat} {w w' : World} {u : Value} {t : List (List Int)} (h : Gs base w u t) (hb : Below w.heap.size w w') : Gs base w' u t := by
  obtain ⟨vs, ho, hr⟩ := h
  exact ⟨vs, owns_below ho hb, fun k h1 h2 => (hr k h1 h2).below hb⟩
theorem Gs.mono {base base' : Nat} {w : World} {u : Value} {t : List (List Int)} (h : Gs base w u t) (hb : base' ≤ base) : Gs base' w u t := by
  obtain ⟨vs, ho, hr⟩ := h
  exact ⟨vs, owns_mono ho hb, hr⟩
theorem Gs.l2 {base : Nat} {w : World} {u : Value} {t : List (List Int)} (h : Gs base w u t) : L2 0 w u t := by
  obtain ⟨vs, ho, hr⟩ := h
  exact sl_of_owns ho (Nat.zero_le _) rfl (fun k h1 h2 => (hr k h2 h1).l1)
theorem Gs.push {base : Nat} {w w3 : World} {v v' row : Value} {t : List (List Int)} {vs : List Value} {x : List Int} (ho : w.ownsRow base 33 1 v t.length vs) (hr : ∀ k (h1 : k < vs.length) (h2 : k < t.length), G1 w vs[k] t[k]) (hx : G1 w row x)
    (ho3 : w3.ownsRow base 33 1 v' (t.length + 1) (vs ++ [row])) (hg : w.grownBy w3 v.ownBlock) : Gs base w3 v' (t ++ [x]) := by
  have hvl : vs.length = t.length := by have := ho.1; omega
  have keep : ∀ u xs, G1 w u xs → G1 w3 u xs := fun u xs h => owns_grown h ho (by decide) hg
  refine ⟨vs ++ [row], by simpa using ho3, fun k h1 h2 => ?_⟩
  by_cases e : k < vs.length
  · rw [List.getElem_append_left e, List.getElem_append_left (by omega)]
    exact keep _ _ (hr k e (by omega))
  · have e2 : k = vs.length := by simp at h1; omega
    subst e2
    rw [List.getElem_append_right (by omega), List.getElem_append_right (by omega)]
    simp only [hvl, Nat.sub_self, List.getElem_cons_zero]
    exact keep _ _ hx

/-- The first q numbers of a row multiplied. -/
def scal (p inv : Int) (r : Lin.V) (q : Nat) : Lin.V := fun i => if i < q then r i * inv % p else r i
theorem scal_zero (p inv : Int) (r : Lin.V) : scal p inv r 0 = r := by (funext i; simp [scal])
theorem toL_congr {n : Nat} {u v : Lin.V} (h : ∀ i, i < n → u i = v i) : toL n u = toL n v := List.map_congr_left (fun i hi => h i (List.mem_range.1 hi))
theorem toL_set {n : Nat} (v : Lin.V) (q : Nat) (x : Int) : ((toL n v).map (Value.int .i64)).set q (.int .i64 x) = (toL n (fun i => if i = q then x else v i)).map (Value.int .i64) := by
  refine List.ext_getElem (by simp [toL_length]) fun i h1 h2 => ?_
  rw [List.getElem_set]
  by_cases e : q = i
  · subst e
    simp [toL]
  · have e2 : ¬ i = q := fun h => e h.symm
    simp [toL, e, e2]

def EchR (p : Int) (n : Nat) (TS : List Lin.V) (w : World) (e : Ending) (w' : World) : Prop :=
  ∃ (u : Value) (R : List Lin.V), e = .returned u ∧ Gs w.heap.size w' u (R.map (toL n)) ∧ Below w.heap.size w w' ∧ RedN p n R TS ∧ R.length ≤ TS.length

set_option maxHeartbeats 12800000 in
set_option maxRecDepth 100000 in
theorem l01Echelon_any (p : Int) (n : Nat) (vl : Value) (TS : List Lin.V) (w : World) (hp : IsP p) (hL : L2 0 w vl (TS.map (toL n))) (hm : ∀ u ∈ TS, Lin.Md p u) (hw : ∀ u ∈ TS, Lin.Wd n u) (hn : n ≤ 1048576) (hl : TS.length ≤ 1048575) :
    Calls Tryd.prog 42 #[.int .i64 p, vl] w (EchR p n TS w) := by
  have HP := Lib.hid hp
  have HL := Lib.hid hL
  have HTM := Lib.hid hm
  have HTW := Lib.hid hw
  have hp7 := hp.hi7
  have hp1 := hp.lo1
  obtain ⟨al, cl, hvl⟩ := Sl.shape hL
  rw [List.length_map] at hvl
  subst hvl
  obtain ⟨i0, hi0, hz0, hz1, hz2⟩ := info_parts Tryd.infoS
  have HOWN0 := Lib.hid (World.ownsRow_made (base := w.heap.size) (e := 33) (size := 1) w #[] 0 (Nat.le_refl _) (by unfold maxLen; omega) (by simp))
  clear hp hL hm hw
  go_enter Tryd.func42, Tryd.ntmps42
  go_wp2
  go_loopw [5, 6] (fun o i wr => ∃ (k : Nat) (R : List Lin.V), k ≤ TS.length ∧ i = .int .i64 k ∧ Hid (Below w.heap.size w wr) ∧ Hid (Gs w.heap.size wr o (R.map (toL n))) ∧ Hid (RedN p n R (TS.take k)) ∧ R.length ≤ k) (fun _ i _ => TS.length - (intOf i).toNat)
  case atStart => exact ⟨0, [], Nat.zero_le _, rfl, Lib.hid ((Below.refl _ _).alloc (Nat.le_refl _) _), Lib.hid ⟨[], by simpa using HOWN0.out, fun k h1 _ => absurd h1 (Nat.not_lt_zero _)⟩, Lib.hid (by rw [List.take_zero]; exact RedN.nil p n), Nat.le_refl _⟩
  case round =>
    clear HOWN0
    obtain ⟨k, R, hk, rfl, HB, HO, HR, hRk⟩ := hrel
    obtain ⟨wo, hwo⟩ : ∃ wo : World, wo = wr := ⟨_, rfl⟩
    subst hwo
    have hsz : w.heap.size ≤ wo.heap.size := HB.out.size
    obtain ⟨ao, co, hov⟩ := Sl.shape HO.out.l2
    rw [List.length_map] at hov
    subst hov
    by_cases hlt : k < TS.length
    · refine Sl.cases HL.out (fun _ _ hx _ => absurd hlt (by have := congrArg List.length hx; simp at this; simp [this])) (fun b o c2 hvv _ _ hc => ?_)
      rw [List.length_map] at hvv
      obtain ⟨rfl, rfl⟩ : al = some ⟨b, o, none⟩ ∧ cl = c2 := by simpa using hvv
      obtain ⟨ur, hur, hrr⟩ := hc k (by rw [List.length_map]; exact hlt)
      rw [List.getElem_map] at hrr
      obtain ⟨t, ht⟩ : ∃ t, t = TS[k] := ⟨_, rfl⟩
      have HTK : Hid (TS.take (k + 1) = TS.take k ++ [t]) := Lib.hid (by rw [ht]; exact List.take_succ_eq_append_getElem hlt)
      have HTKM : Hid (∀ x ∈ TS.take k, Lin.Md p x) := Lib.hid (fun x hx => HTM.out x (List.mem_of_mem_take hx))
      rw [← ht] at hrr
      have HTT : Hid (Lin.Md p t ∧ Lin.Wd n t) := Lib.hid (by rw [ht]; exact ⟨HTM.out _ (List.getElem_mem hlt), HTW.out _ (List.getElem_mem hlt)⟩)
      have hur2 := later HB.out (Nat.le_refl _) hur
      obtain ⟨ar, cr, hus⟩ := l1_slice hrr
      subst hus
      have HRST := Lib.hid (l01Rest_any p n _ _ R t wo HP.out HO.out.l2 (hrr.below HB.out) HR.out.red HR.out.wd HTT.out.1 HTT.out.2 hn (by omega))
      clear hvv hc hur hrr ht
      go_wp2_with fail
      refine HRST.out.mono ?_
      rintro e w1 ⟨u7, r, rfl, hg1, hb1, hrest, hrw⟩
      have HRE := Lib.hid hrest
      have HRW := Lib.hid hrw
      have HB1 := Lib.hid hb1
      have hs1 : wo.heap.size ≤ w1.heap.size := hb1.size
      by_cases hz : r = Lin.zv
      · have hlead := l01Lead_any u7 (toL n r) w1 hg1.l1 (by rw [toL_length]; exact hn)
        rw [hz, leadOf_zv] at hlead
        have HR2 : Hid (RedN p n R (TS.take (k + 1))) := Lib.hid (by
          rw [HTK.out]
          have := HRE.out
          rw [hz] at this
          exact HR.out.skip (by omega) HTKM.out HTT.out.1 this)
        have HLEAD := Lib.hid hlead
        obtain ⟨a7, c7, hv7⟩ := l1_slice hg1.l1
        subst hv7
        clear hlead hg1 hb1 hrest hrw hz hur2 HRST
        go_wp2_with fail
        refine HLEAD.out.mono ?_
        rintro e w' ⟨rfl, rfl⟩
        go_wp2
        go_roundw
        case rel => exact ⟨k + 1, R, by omega, by go_num, Lib.hid (HB.out.trans (HB1.out.mono hsz)), Lib.hid (HO.out.below HB1.out), HR2, by omega⟩
        case measure => simp [intOf]; omega
      · obtain ⟨hdn, hdne, _⟩ := ld_ltn hrw hz
        have hlead := l01Lead_any u7 (toL n r) w1 hg1.l1 (by rw [toL_length]; exact hn)
        rw [leadOf_toL hrw hz] at hlead
        obtain ⟨d, hd⟩ : ∃ d, d = Lin.ld r := ⟨_, rfl⟩
        have HD := Lib.hid hd
        rw [← hd] at hlead hdn hdne
        have hown := hg1
        unfold Gb at hown
        rw [toL_length] at hown
        obtain ⟨g, c7, hv7, hgb, hgl⟩ := World.ownsRow.form hown (by omega)
        subst hv7
        obtain ⟨a, ha⟩ : ∃ a, a = r d := ⟨_, rfl⟩
        have HA := Lib.hid ha
        have hab := hrest.md d
        rw [← ha] at hab hdne
        have hcell : w1.cell? ⟨g, d, none⟩ = some (.int .i64 a) := by
          rw [World.ownsRow.cellAt hown d (by omega), ha]
          simp [toL, hdn]
        have HZ := Lib.hid hz
        have HOWN := Lib.hid hown
        have HLEAD := Lib.hid hlead
        have HINV := Lib.hid (l01Inverse_any p a w1 HP.out (by omega) (by omega))
        clear hlead hg1 hb1 hrest hrw hz hur2 HRST hd ha hown
        go_wp2_with fail
        refine HLEAD.out.mono ?_
        rintro e w' ⟨rfl, rfl⟩
        go_wp2_with fail
        refine HINV.out.mono ?_
        rintro e w' ⟨inv, rfl, rfl, hi1, hip, hinv⟩
        have HIV := Lib.hid hinv
        clear hinv hcell HINV HLEAD
        go_wp2
        go_loopw [10] (fun i wr => ∃ (q : Nat), q ≤ n ∧ i = .int .i64 q ∧ Hid (Below wo.heap.size wo wr) ∧ Hid (wr.ownsRow wo.heap.size 2 1 (.slice (some ⟨g, 0, none⟩) n c7) n ((toL n (scal p inv r q)).map (Value.int .i64)))) (fun i _ => n - (intOf i).toNat)
        case atStart => exact ⟨0, Nat.zero_le _, rfl, HB1, Lib.hid (by rw [scal_zero]; exact HOWN.out)⟩
        case round =>
          clear HOWN HB1
          obtain ⟨q, hq, rfl, HBI, HOI⟩ := hrel
          by_cases hltq : q < n
          · obtain ⟨x, hx⟩ : ∃ x, x = r q := ⟨_, rfl⟩
            have hxb := HRE.out.md q
            rw [← hx] at hxb
            have hc : wr.cell? ⟨g, q, none⟩ = some (.int .i64 x) := by
              rw [World.ownsRow.cellAt HOI.out q (by omega), hx]
              simp [toL, scal, hltq]
            have hf := World.ownsRow.frozenAt HOI.out q
            obtain ⟨m0, m1⟩ := mul_bd HP.out (a := x) (b := (inv : Int)) hxb.1 hxb.2 (by omega) (by omega)
            have hst := World.ownsRow.stored HOI.out q (.int .i64 (x * inv % p))
            have HO2 : Hid ((wr.setCell ⟨g, q, none⟩ (.int .i64 (x * inv % p))).ownsRow wo.heap.size 2 1 (.slice (some ⟨g, 0, none⟩) n c7) n ((toL n (scal p inv r (q + 1))).map (Value.int .i64))) := Lib.hid (by
              have h := hst.1
              rw [toL_set] at h
              have e : toL n (scal p inv r (q + 1)) = toL n (fun i => if i = q then x * inv % p else scal p inv r q i) := toL_congr (fun i _ => by
                unfold scal
                by_cases e1 : i = q
                · subst e1
                  rw [if_pos (Nat.lt_succ_self _), if_pos rfl, hx]
                · rw [if_neg e1]
                  by_cases e2 : i < q
                  · rw [if_pos e2, if_pos (by omega)]
                  · rw [if_neg e2, if_neg (by omega)])
              rw [e]
              exact h)
            have HB2 : Hid (Below wo.heap.size wo (wr.setCell ⟨g, q, none⟩ (.int .i64 (x * inv % p)))) := Lib.hid (HBI.out.setCell hgb _)
            clear hst hx HOI HBI
            go_wp2
            go_roundw
            case rel => exact ⟨q + 1, by omega, by go_num, HB2, HO2⟩
            case measure => simp [intOf]; omega
          · obtain ⟨w2, hw2⟩ : ∃ w2 : World, w2 = wr := ⟨_, rfl⟩
            subst hw2
            have hqq : Hid (q = n) := Lib.hid (by omega)
            obtain ⟨u, hu⟩ : ∃ u : Lin.V, u = fun i => (inv : Int) * r i % p := ⟨_, rfl⟩
            have HUU : Hid (Lin.Unit p r u) := Lib.hid (by rw [hu]; exact Lin.Unit.mk' (by omega) HRE.out.md HZ.out (by rw [← HD.out, ← HA.out]; exact HIV.out))
            have HUW : Hid (Lin.Wd n u) := Lib.hid (fun i hi => by rw [hu]; simp [HRW.out i hi])
            have HLU : Hid (Lin.ld u = d) := Lib.hid (HUU.out.lead.trans HD.out.symm)
            have HOWN7 : Hid (G1 w2 (.slice (some ⟨g, 0, none⟩) n c7) (toL n u)) := Lib.hid (by
              have h := HOI.out
              have e : toL n (scal p inv r q) = toL n u := toL_congr (fun i hi => by
                unfold scal
                rw [hu, if_pos (by have := hqq.out; omega), Int.mul_comm])
              rw [e] at h
              unfold G1
              rw [toL_length]
              exact owns_mono h (Nat.zero_le _))
            have hs2 : wo.heap.size ≤ w2.heap.size := HBI.out.size
            have HO2 := Lib.hid (HO.out.below HBI.out)
            have HB2 := HBI
            have HOWN1 := Lib.hid (World.ownsRow_made (base := w2.heap.size) (e := 33) (size := 1) w2 #[] 0 (Nat.le_refl _) (by unfold maxLen; omega) (by simp))
            clear HOI HBI hu HIV HA hqq
            go_wp2
            go_loopw [11, 12, 13] (fun nx pb i wr => ∃ (j : Nat) (pt : Bool) (N : List Lin.V), j ≤ R.length ∧ i = .int .i64 j ∧ pb = .bool pt ∧ Hid (Below w2.heap.size w2 wr) ∧ Hid (Gs w2.heap.size wr nx (N.map (toL n))) ∧ Hid (Nx p R u j pt N)) (fun _ _ i _ => R.length - (intOf i).toNat)
            case atStart => exact ⟨0, false, [], Nat.zero_le _, rfl, rfl, Lib.hid ((Below.refl _ _).alloc (Nat.le_refl _) _), Lib.hid ⟨[], by simpa using HOWN1.out, fun k h1 _ => absurd h1 (Nat.not_lt_zero _)⟩, Lib.hid (Nx.start p R u)⟩
            case round =>
              clear HOWN1
              obtain ⟨j, pt, N, hjl, rfl, rfl, HBX, HGN0, HNX⟩ := hrel
              have hsx : w2.heap.size ≤ wr.heap.size := HBX.out.size
              have hNl : N.length ≤ j + 1 := HNX.out.length hjl
              obtain ⟨vs, hvo, hvr⟩ := HGN0.out
              have HVO := Lib.hid hvo
              have HVR := Lib.hid hvr
              obtain ⟨an, cn, hnv⟩ := Sl.shape HGN0.out.l2
              rw [List.length_map] at hnv
              subst hnv
              clear hvo hvr
              by_cases hj : j < R.length
              · refine Sl.cases HO2.out.l2 (fun _ _ hx _ => absurd hj (by have := congrArg List.length hx; simp at this; simp [this])) (fun bo oo c2 hvv _ _ hc => ?_)
                rw [List.length_map] at hvv
                obtain ⟨rfl, rfl⟩ : ao = some ⟨bo, oo, none⟩ ∧ co = c2 := by simpa using hvv
                obtain ⟨uj, huj, hrj⟩ := hc j (by rw [List.length_map]; exact hj)
                rw [List.getElem_map] at hrj
                obtain ⟨s, hs⟩ : ∃ s, s = R[j] := ⟨_, rfl⟩
                have HSE := Lib.hid hs
                rw [← hs] at hrj
                have HSW : Hid (Lin.Wd n s) := Lib.hid (by rw [hs]; exact HR.out.wd _ (List.getElem_mem hj))
                have HSM : Hid (Lin.Md p s) := Lib.hid (by rw [hs]; exact HR.out.red.md _ (List.getElem_mem hj))
                have HSN : Hid (s ≠ Lin.zv) := Lib.hid (by rw [hs]; exact HR.out.red.ne (List.getElem_mem hj))
                have HSL : Hid (Lin.ld s ≠ Lin.ld u) := Lib.hid (by rw [hs]; exact lead_apart HRE.out HUU.out (List.getElem_mem hj))
                obtain ⟨bj, oj, cj, huv, hcj⟩ := l1_toL hrj (show 0 < n by omega)
                subst huv
                obtain ⟨f, hf⟩ : ∃ f, f = s d := ⟨_, rfl⟩
                have hfb := HSM.out d
                rw [← hf] at hfb
                have HROWJ := Lib.hid hrj
                have hrowj : ∀ W, Below w2.heap.size w2 W → W.cell? ⟨bo, oo + j, none⟩ = some (.slice (some ⟨bj, oj, none⟩) n cj) := fun W h => later h (Nat.le_refl _) huj
                have hcellj : ∀ W, Below w2.heap.size w2 W → W.cell? ⟨bj, oj + d, none⟩ = some (.int .i64 f) := fun W h => by rw [hf]; exact later h (Nat.le_refl _) (hcj d hdn)
                have HLESS : Hid (∀ W, Below w2.heap.size w2 W → Calls Tryd.prog 61 #[.int .i64 p, .slice (some ⟨bj, oj, none⟩) n cj, .slice (some ⟨g, 0, none⟩) n c7, .int .i64 f] W (GbR (toL n (less1 p u R[j])) W)) := Lib.hid (fun W h => by
                  have e : less1 p u R[j] = Lin.add p s (-f) u := by rw [less1, ← HSE.out, HLU.out, hf]
                  rw [e]
                  exact l01Less_any p f n _ _ s u W HP.out (HROWJ.out.below h) ((HOWN7.out.below h).l1) HSM.out HUU.out.md hfb hn)
                have hrow0 := hrowj _ HBX.out
                have HLJ : Hid (Calls Tryd.prog 59 #[.slice (some ⟨bj, oj, none⟩) n cj] wr (QW (.int .i64 (Lin.ld s : Int)) wr)) := Lib.hid (by
                  have := l01Lead_any _ _ wr (HROWJ.out.below HBX.out) (by rw [toL_length]; exact hn)
                  rwa [leadOf_toL HSW.out HSN.out] at this)
                clear hvv hc huj hrj hs hcj hf hfb
                cases pt with
                | true =>
                  clear HLJ
                  go_wp2
                  clear hrow0
                  refine wp_region_held (S := fun W => Below w2.heap.size w2 W) (by kernel_rfl) ?_
                  have S0 : Below w2.heap.size w2 wr.drew := HBX.out.drew
                  refine held_take (i := 0) (v := .slice an N.length cn) (some 77) rfl rfl (by kernel_rfl) (by kernel_rfl) (by kernel_rfl) (fun _ _ _ h => h) (yieldsIf_move (by kernel_rfl) rfl (by kernel_rfl)) S0 ?_
                  refine held_take (i := 1) (v := .int .i64 p) (some 78) rfl rfl (by kernel_rfl) (by kernel_rfl) (by kernel_rfl) (fun _ _ _ h => h) (yieldsIf_move (by kernel_rfl) rfl (by kernel_rfl)) S0 ?_
                  refine held_take (i := 2) (v := .slice (some ⟨bo, oo, none⟩) R.length co) (some 79) rfl rfl (by kernel_rfl) (by kernel_rfl) (by kernel_rfl) (fun _ _ _ h => h) (yieldsIf_move (by kernel_rfl) rfl (by kernel_rfl)) S0 ?_
                  refine held_take (i := 3) (v := .int .i64 (j : Int)) (some 80) rfl rfl (by kernel_rfl) (by kernel_rfl) (by kernel_rfl) (fun _ _ _ h => h) (yieldsIf_move (by kernel_rfl) rfl (by kernel_rfl)) S0 ?_
                  refine held_take (i := 4) (v := .pointer (some ⟨bo, oo + j, none⟩)) (some 81) rfl rfl (by kernel_rfl) (by kernel_rfl) (by kernel_rfl) (fun _ _ _ h => h) (yieldsIf_index (by kernel_rfl) rfl (by kernel_rfl) (by kernel_rfl) (hidxS bo oo co hj)) S0 ?_
                  refine held_take (i := 5) (v := .slice (some ⟨bj, oj, none⟩) n cj) (some 82) rfl rfl (by kernel_rfl) (by kernel_rfl) (by kernel_rfl) (fun _ _ _ h => h) (yieldsIf_cell (by kernel_rfl) rfl (by kernel_rfl) (fun W h => hloadS W (hrowj W h))) S0 ?_
                  refine held_take (i := 6) (v := .slice (some ⟨g, 0, none⟩) n c7) (some 83) rfl rfl (by kernel_rfl) (by kernel_rfl) (by kernel_rfl) (fun _ _ _ h => h) (yieldsIf_move (by kernel_rfl) rfl (by kernel_rfl)) S0 ?_
                  refine held_take (i := 7) (v := .slice (some ⟨bo, oo, none⟩) R.length co) (some 84) rfl rfl (by kernel_rfl) (by kernel_rfl) (by kernel_rfl) (fun _ _ _ h => h) (yieldsIf_move (by kernel_rfl) rfl (by kernel_rfl)) S0 ?_
                  refine held_take (i := 8) (v := .int .i64 (j : Int)) (some 85) rfl rfl (by kernel_rfl) (by kernel_rfl) (by kernel_rfl) (fun _ _ _ h => h) (yieldsIf_move (by kernel_rfl) rfl (by kernel_rfl)) S0 ?_
                  refine held_take (i := 9) (v := .pointer (some ⟨bo, oo + j, none⟩)) (some 86) rfl rfl (by kernel_rfl) (by kernel_rfl) (by kernel_rfl) (fun _ _ _ h => h) (yieldsIf_index (by kernel_rfl) rfl (by kernel_rfl) (by kernel_rfl) (hidxS bo oo co hj)) S0 ?_
                  refine held_take (i := 10) (v := .slice (some ⟨bj, oj, none⟩) n cj) (some 87) rfl rfl (by kernel_rfl) (by kernel_rfl) (by kernel_rfl) (fun _ _ _ h => h) (yieldsIf_cell (by kernel_rfl) rfl (by kernel_rfl) (fun W h => hloadS W (hrowj W h))) S0 ?_
                  refine held_take (i := 11) (v := .int .i64 (d : Int)) (some 88) rfl rfl (by kernel_rfl) (by kernel_rfl) (by kernel_rfl) (fun _ _ _ h => h) (yieldsIf_move (by kernel_rfl) rfl (by kernel_rfl)) S0 ?_
                  refine held_take (i := 12) (v := .pointer (some ⟨bj, oj + d, none⟩)) (some 89) rfl rfl (by kernel_rfl) (by kernel_rfl) (by kernel_rfl) (fun _ _ _ h => h) (yieldsIf_index (by kernel_rfl) rfl (by kernel_rfl) (by kernel_rfl) (hidxI bj oj cj hdn)) S0 ?_
                  refine held_take (i := 13) (v := .int .i64 f) (some 90) rfl rfl (by kernel_rfl) (by kernel_rfl) (by kernel_rfl) (fun _ _ _ h => h) (yieldsIf_cell (by kernel_rfl) rfl (by kernel_rfl) (fun W h => hload W (hcellj W h))) S0 ?_
                  refine held_enter (i := 14) (some 91) (f := 61) (args := #[.int .i64 p, .slice (some ⟨bj, oj, none⟩) n cj, .slice (some ⟨g, 0, none⟩) n c7, .int .i64 f]) (by kernel_rfl) rfl rfl rfl (by kernel_rfl) (HLESS.out _ S0) ?_ (fun c w' h => by obtain ⟨_, h, _⟩ := h; cases h) (fun w' h => by obtain ⟨_, h, _⟩ := h; cases h)
                  rintro e5 W5 ⟨u5, he5, hg5, hb5⟩
                  injection he5 with he5
                  subst he5
                  have S1 : Below w2.heap.size w2 W5 := S0.trans (hb5.mono S0.size)
                  have hb5' : Below wr.heap.size wr W5 := ((Below.refl wr.heap.size wr).drew).trans hb5
                  have HO5 := Lib.hid (owns_below HVO.out hb5')
                  have HG5 := Lib.hid hg5.g1
                  obtain ⟨a5, c5, hv5⟩ := l1_slice hg5.l1
                  subst hv5
                  refine ⟨S1, ?_⟩
                  have hs5 : w2.heap.size ≤ W5.heap.size := S1.size
                  have S2 : Below w2.heap.size w2 (W5.alloc (.cells #[.slice a5 n c5] 33)) := S1.alloc hs5 _
                  have hba : Below W5.heap.size W5 (W5.alloc (.cells #[.slice a5 n c5] 33)) := (Below.refl _ _).alloc (Nat.le_refl _) _
                  have HOX := Lib.hid (owns_below HO5.out hba)
                  refine held_buildS (i := 15) (some 92) (by kernel_rfl) rfl rfl rfl (.tmp 91) a5 n c5 rfl (by kernel_rfl) ⟨S2, ?_⟩
                  refine held_appendS (i := 16) (some 93) (by kernel_rfl) rfl rfl rfl (.tmp 77) (.tmp 92) rfl w2.heap.size (.slice an N.length cn) _ _ (by kernel_rfl) HOX.out W5.heap.size a5 n c5 (by kernel_rfl) (cell_alloc1 W5 _ _) (by simp; omega) (by simp; omega) ?_
                  intro v' w3 hown hgrow
                  have S3 : Below w2.heap.size w2 w3 := S2.grown hgrow (by simp; omega) (fun g hg => ((HOX.out.lt) g hg).1)
                  have HB3 := Lib.hid S3
                  have HGS3 : Hid (Gs w2.heap.size w3 v' ((N ++ [less1 p u R[j]]).map (toL n))) := Lib.hid (by
                    rw [List.map_append]
                    exact Gs.push HOX.out (fun i h1 h2 => ((HVR.out i h1 h2).below hb5').below hba) (HG5.out.below hba) hown hgrow)
                  refine ⟨S3, ?_⟩
                  refine held_take (i := 17) (v := v') (some 11) rfl rfl (by kernel_rfl) (by kernel_rfl) (by kernel_rfl) (fun _ _ _ h => h) (yieldsIf_assign (by kernel_rfl) rfl (by kernel_rfl)) S3 ?_
                  refine wpAnyH_done (by kernel_rfl) ?_ _
                  simp only [Act.put, List.setIfInBounds_toArray, List.set_cons_zero, List.set_cons_succ]
                  clear S0 S1 S2 S3 hown hgrow hb5 hb5' hba hg5 HOX HO5 HG5 hrowj hcellj HLESS hs5
                  go_wp2
                  go_roundw
                  case rel => exact ⟨j + 1, true, _, by omega, by go_num, rfl, HB3, HGS3, Lib.hid (HNX.out.keep hj)⟩
                  case measure => simp [intOf]; omega
                | false =>
                  by_cases hgt : Lin.ld u < Lin.ld s
                  · have hgt2 : (d : Int) < (Lin.ld s : Int) := by have := HLU.out; omega
                    have HNX2 : Hid (Nx p R u (j + 1) true (N ++ [u] ++ [less1 p u R[j]])) := Lib.hid (HNX.out.in' hj (by rw [← HSE.out]; exact hgt))
                    go_wp2_with fail
                    refine HLJ.out.mono ?_
                    rintro e w' ⟨rfl, rfl⟩
                    clear hrow0 HLJ
                    go_wp2_with (at_builtin; refine wpList_append_own _ rfl (.tmp 73) (.tmp 75) 22 rfl w2.heap.size 33 i0 (.slice none 0 0) 1 24 Tryd.underlying22 hi0 hz0 hz1 hz2 rfl (by decide) _ _ _ rfl (HVO.out.alloc _) ⟨wr.heap.size, 0, none⟩ 1 1 [.slice (some ⟨g, 0, none⟩) n c7] rfl rfl ?c1 ?c2 ?c3 ?c4 ?c5 ?_)
                    case c1 =>
                      intro j u hj
                      match j, hj with
                      | 0, hj => simp at hj; subst hj; simp [Addr.add]
                    case c2 => intro u hu; simp at hu; subst hu; rfl
                    case c3 => rw [List.length_map]; unfold maxLen; omega
                    case c4 => rw [List.length_map]; omega
                    case c5 => simp; omega
                    intro v' w3 hown hgrow _
                    have hba : Below wr.heap.size wr (wr.alloc (.cells #[.slice (some ⟨g, 0, none⟩) n c7] 33)) := (Below.refl _ _).alloc (Nat.le_refl _) _
                    have HOX := Lib.hid (owns_below HVO.out hba)
                    have HBN := Lib.hid ((HBX.out.alloc hsx (.cells #[.slice (some ⟨g, 0, none⟩) n c7] 33)).grown hgrow (by simp; omega) (fun g hg => ((HOX.out.lt) g hg).1))
                    have HGN : Hid (Gs w2.heap.size w3 v' ((N ++ [u]).map (toL n))) := Lib.hid (by
                      rw [List.map_append]
                      exact Gs.push HOX.out (fun i h1 h2 => (HVR.out i h1 h2).below hba) ((HOWN7.out.below HBX.out).below hba) (by rw [List.length_map]; exact hown) hgrow)
                    clear hown hgrow hba HOX
                    have HNE : Hid (True) := Lib.hid trivial
                    obtain ⟨vs3, hvo3, hvr3⟩ := HGN.out
                    have HVO3 := Lib.hid hvo3
                    have HVR3 := Lib.hid hvr3
                    clear hvo3 hvr3 HNE
                    go_wp2
                    refine wp_region_held (S := fun W => Below w2.heap.size w2 W) (by kernel_rfl) ?_
                    have S0 : Below w2.heap.size w2 w3.drew := HBN.out.drew
                    refine held_take (i := 0) (v := v') (some 77) rfl rfl (by kernel_rfl) (by kernel_rfl) (by kernel_rfl) (fun _ _ _ h => h) (yieldsIf_move (by kernel_rfl) rfl (by kernel_rfl)) S0 ?_
                    refine held_take (i := 1) (v := .int .i64 p) (some 78) rfl rfl (by kernel_rfl) (by kernel_rfl) (by kernel_rfl) (fun _ _ _ h => h) (yieldsIf_move (by kernel_rfl) rfl (by kernel_rfl)) S0 ?_
                    refine held_take (i := 2) (v := .slice (some ⟨bo, oo, none⟩) R.length co) (some 79) rfl rfl (by kernel_rfl) (by kernel_rfl) (by kernel_rfl) (fun _ _ _ h => h) (yieldsIf_move (by kernel_rfl) rfl (by kernel_rfl)) S0 ?_
                    refine held_take (i := 3) (v := .int .i64 (j : Int)) (some 80) rfl rfl (by kernel_rfl) (by kernel_rfl) (by kernel_rfl) (fun _ _ _ h => h) (yieldsIf_move (by kernel_rfl) rfl (by kernel_rfl)) S0 ?_
                    refine held_take (i := 4) (v := .pointer (some ⟨bo, oo + j, none⟩)) (some 81) rfl rfl (by kernel_rfl) (by kernel_rfl) (by kernel_rfl) (fun _ _ _ h => h) (yieldsIf_index (by kernel_rfl) rfl (by kernel_rfl) (by kernel_rfl) (hidxS bo oo co hj)) S0 ?_
                    refine held_take (i := 5) (v := .slice (some ⟨bj, oj, none⟩) n cj) (some 82) rfl rfl (by kernel_rfl) (by kernel_rfl) (by kernel_rfl) (fun _ _ _ h => h) (yieldsIf_cell (by kernel_rfl) rfl (by kernel_rfl) (fun W h => hloadS W (hrowj W h))) S0 ?_
                    refine held_take (i := 6) (v := .slice (some ⟨g, 0, none⟩) n c7) (some 83) rfl rfl (by kernel_rfl) (by kernel_rfl) (by kernel_rfl) (fun _ _ _ h => h) (yieldsIf_move (by kernel_rfl) rfl (by kernel_rfl)) S0 ?_
                    refine held_take (i := 7) (v := .slice (some ⟨bo, oo, none⟩) R.length co) (some 84) rfl rfl (by kernel_rfl) (by kernel_rfl) (by kernel_rfl) (fun _ _ _ h => h) (yieldsIf_move (by kernel_rfl) rfl (by kernel_rfl)) S0 ?_
                    refine held_take (i := 8) (v := .int .i64 (j : Int)) (some 85) rfl rfl (by kernel_rfl) (by kernel_rfl) (by kernel_rfl) (fun _ _ _ h => h) (yieldsIf_move (by kernel_rfl) rfl (by kernel_rfl)) S0 ?_
                    refine held_take (i := 9) (v := .pointer (some ⟨bo, oo + j, none⟩)) (some 86) rfl rfl (by kernel_rfl) (by kernel_rfl) (by kernel_rfl) (fun _ _ _ h => h) (yieldsIf_index (by kernel_rfl) rfl (by kernel_rfl) (by kernel_rfl) (hidxS bo oo co hj)) S0 ?_
                    refine held_take (i := 10) (v := .slice (some ⟨bj, oj, none⟩) n cj) (some 87) rfl rfl (by kernel_rfl) (by kernel_rfl) (by kernel_rfl) (fun _ _ _ h => h) (yieldsIf_cell (by kernel_rfl) rfl (by kernel_rfl) (fun W h => hloadS W (hrowj W h))) S0 ?_
                    refine held_take (i := 11) (v := .int .i64 (d : Int)) (some 88) rfl rfl (by kernel_rfl) (by kernel_rfl) (by kernel_rfl) (fun _ _ _ h => h) (yieldsIf_move (by kernel_rfl) rfl (by kernel_rfl)) S0 ?_
                    refine held_take (i := 12) (v := .pointer (some ⟨bj, oj + d, none⟩)) (some 89) rfl rfl (by kernel_rfl) (by kernel_rfl) (by kernel_rfl) (fun _ _ _ h => h) (yieldsIf_index (by kernel_rfl) rfl (by kernel_rfl) (by kernel_rfl) (hidxI bj oj cj hdn)) S0 ?_
                    refine held_take (i := 13) (v := .int .i64 f) (some 90) rfl rfl (by kernel_rfl) (by kernel_rfl) (by kernel_rfl) (fun _ _ _ h => h) (yieldsIf_cell (by kernel_rfl) rfl (by kernel_rfl) (fun W h => hload W (hcellj W h))) S0 ?_
                    refine held_enter (i := 14) (some 91) (f := 61) (args := #[.int .i64 p, .slice (some ⟨bj, oj, none⟩) n cj, .slice (some ⟨g, 0, none⟩) n c7, .int .i64 f]) (by kernel_rfl) rfl rfl rfl (by kernel_rfl) (HLESS.out _ S0) ?_ (fun c w' h => by obtain ⟨_, h, _⟩ := h; cases h) (fun w' h => by obtain ⟨_, h, _⟩ := h; cases h)
                    rintro e5 W5 ⟨u5, he5, hg5, hb5⟩
                    injection he5 with he5
                    subst he5
                    have S1 : Below w2.heap.size w2 W5 := S0.trans (hb5.mono S0.size)
                    have hb5' : Below w3.heap.size w3 W5 := ((Below.refl w3.heap.size w3).drew).trans hb5
                    have HO5 := Lib.hid (owns_below HVO3.out hb5')
                    have HG5 := Lib.hid hg5.g1
                    obtain ⟨a5, c5, hv5⟩ := l1_slice hg5.l1
                    subst hv5
                    refine ⟨S1, ?_⟩
                    have hs5 : w2.heap.size ≤ W5.heap.size := S1.size
                    have S2 : Below w2.heap.size w2 (W5.alloc (.cells #[.slice a5 n c5] 33)) := S1.alloc hs5 _
                    have hba : Below W5.heap.size W5 (W5.alloc (.cells #[.slice a5 n c5] 33)) := (Below.refl _ _).alloc (Nat.le_refl _) _
                    have HOX := Lib.hid (owns_below HO5.out hba)
                    refine held_buildS (i := 15) (some 92) (by kernel_rfl) rfl rfl rfl (.tmp 91) a5 n c5 rfl (by kernel_rfl) ⟨S2, ?_⟩
                    refine held_appendS (i := 16) (some 93) (by kernel_rfl) rfl rfl rfl (.tmp 77) (.tmp 92) rfl w2.heap.size (v') _ _ (by kernel_rfl) HOX.out W5.heap.size a5 n c5 (by kernel_rfl) (cell_alloc1 W5 _ _) (by simp; omega) (by simp; omega) ?_
                    intro v4 w4 hown hgrow
                    have S3 : Below w2.heap.size w2 w4 := S2.grown hgrow (by simp; omega) (fun g hg => ((HOX.out.lt) g hg).1)
                    have HB3 := Lib.hid S3
                    have HGS3 : Hid (Gs w2.heap.size w4 v4 (((N ++ [u]) ++ [less1 p u R[j]]).map (toL n))) := Lib.hid (by
                      rw [List.map_append]
                      exact Gs.push HOX.out (fun i h1 h2 => ((HVR3.out i h1 h2).below hb5').below hba) (HG5.out.below hba) hown hgrow)
                    refine ⟨S3, ?_⟩
                    refine held_take (i := 17) (v := v4) (some 11) rfl rfl (by kernel_rfl) (by kernel_rfl) (by kernel_rfl) (fun _ _ _ h => h) (yieldsIf_assign (by kernel_rfl) rfl (by kernel_rfl)) S3 ?_
                    refine wpAnyH_done (by kernel_rfl) ?_ _
                    simp only [Act.put, List.setIfInBounds_toArray, List.set_cons_zero, List.set_cons_succ]
                    clear S0 S1 S2 S3 hown hgrow hb5 hb5' hba hg5 HOX HO5 HG5 hrowj hcellj HLESS hs5
                    go_wp2
                    go_roundw
                    case rel => exact ⟨j + 1, true, _, by omega, by go_num, rfl, HB3, HGS3, Lib.hid (HNX2.out)⟩
                    case measure => simp [intOf]; omega
                  · have hle2 : ¬ ((d : Int) < (Lin.ld s : Int)) := by have := HLU.out; omega
                    have HNX2 : Hid (Nx p R u (j + 1) false (N ++ [less1 p u R[j]])) := Lib.hid (HNX.out.pass hj (by rw [← HSE.out]; have := HSL.out; omega))
                    go_wp2_with fail
                    refine HLJ.out.mono ?_
                    rintro e w' ⟨rfl, rfl⟩
                    clear hrow0 HLJ
                    go_wp2
                    refine wp_region_held (S := fun W => Below w2.heap.size w2 W) (by kernel_rfl) ?_
                    have S0 : Below w2.heap.size w2 wr.drew := HBX.out.drew
                    refine held_take (i := 0) (v := .slice an N.length cn) (some 77) rfl rfl (by kernel_rfl) (by kernel_rfl) (by kernel_rfl) (fun _ _ _ h => h) (yieldsIf_move (by kernel_rfl) rfl (by kernel_rfl)) S0 ?_
                    refine held_take (i := 1) (v := .int .i64 p) (some 78) rfl rfl (by kernel_rfl) (by kernel_rfl) (by kernel_rfl) (fun _ _ _ h => h) (yieldsIf_move (by kernel_rfl) rfl (by kernel_rfl)) S0 ?_
                    refine held_take (i := 2) (v := .slice (some ⟨bo, oo, none⟩) R.length co) (some 79) rfl rfl (by kernel_rfl) (by kernel_rfl) (by kernel_rfl) (fun _ _ _ h => h) (yieldsIf_move (by kernel_rfl) rfl (by kernel_rfl)) S0 ?_
                    refine held_take (i := 3) (v := .int .i64 (j : Int)) (some 80) rfl rfl (by kernel_rfl) (by kernel_rfl) (by kernel_rfl) (fun _ _ _ h => h) (yieldsIf_move (by kernel_rfl) rfl (by kernel_rfl)) S0 ?_
                    refine held_take (i := 4) (v := .pointer (some ⟨bo, oo + j, none⟩)) (some 81) rfl rfl (by kernel_rfl) (by kernel_rfl) (by kernel_rfl) (fun _ _ _ h => h) (yieldsIf_index (by kernel_rfl) rfl (by kernel_rfl) (by kernel_rfl) (hidxS bo oo co hj)) S0 ?_
                    refine held_take (i := 5) (v := .slice (some ⟨bj, oj, none⟩) n cj) (some 82) rfl rfl (by kernel_rfl) (by kernel_rfl) (by kernel_rfl) (fun _ _ _ h => h) (yieldsIf_cell (by kernel_rfl) rfl (by kernel_rfl) (fun W h => hloadS W (hrowj W h))) S0 ?_
                    refine held_take (i := 6) (v := .slice (some ⟨g, 0, none⟩) n c7) (some 83) rfl rfl (by kernel_rfl) (by kernel_rfl) (by kernel_rfl) (fun _ _ _ h => h) (yieldsIf_move (by kernel_rfl) rfl (by kernel_rfl)) S0 ?_
                    refine held_take (i := 7) (v := .slice (some ⟨bo, oo, none⟩) R.length co) (some 84) rfl rfl (by kernel_rfl) (by kernel_rfl) (by kernel_rfl) (fun _ _ _ h => h) (yieldsIf_move (by kernel_rfl) rfl (by kernel_rfl)) S0 ?_
                    refine held_take (i := 8) (v := .int .i64 (j : Int)) (some 85) rfl rfl (by kernel_rfl) (by kernel_rfl) (by kernel_rfl) (fun _ _ _ h => h) (yieldsIf_move (by kernel_rfl) rfl (by kernel_rfl)) S0 ?_
                    refine held_take (i := 9) (v := .pointer (some ⟨bo, oo + j, none⟩)) (some 86) rfl rfl (by kernel_rfl) (by kernel_rfl) (by kernel_rfl) (fun _ _ _ h => h) (yieldsIf_index (by kernel_rfl) rfl (by kernel_rfl) (by kernel_rfl) (hidxS bo oo co hj)) S0 ?_
                    refine held_take (i := 10) (v := .slice (some ⟨bj, oj, none⟩) n cj) (some 87) rfl rfl (by kernel_rfl) (by kernel_rfl) (by kernel_rfl) (fun _ _ _ h => h) (yieldsIf_cell (by kernel_rfl) rfl (by kernel_rfl) (fun W h => hloadS W (hrowj W h))) S0 ?_
                    refine held_take (i := 11) (v := .int .i64 (d : Int)) (some 88) rfl rfl (by kernel_rfl) (by kernel_rfl) (by kernel_rfl) (fun _ _ _ h => h) (yieldsIf_move (by kernel_rfl) rfl (by kernel_rfl)) S0 ?_
                    refine held_take (i := 12) (v := .pointer (some ⟨bj, oj + d, none⟩)) (some 89) rfl rfl (by kernel_rfl) (by kernel_rfl) (by kernel_rfl) (fun _ _ _ h => h) (yieldsIf_index (by kernel_rfl) rfl (by kernel_rfl) (by kernel_rfl) (hidxI bj oj cj hdn)) S0 ?_
                    refine held_take (i := 13) (v := .int .i64 f) (some 90) rfl rfl (by kernel_rfl) (by kernel_rfl) (by kernel_rfl) (fun _ _ _ h => h) (yieldsIf_cell (by kernel_rfl) rfl (by kernel_rfl) (fun W h => hload W (hcellj W h))) S0 ?_
                    refine held_enter (i := 14) (some 91) (f := 61) (args := #[.int .i64 p, .slice (some ⟨bj, oj, none⟩) n cj, .slice (some ⟨g, 0, none⟩) n c7, .int .i64 f]) (by kernel_rfl) rfl rfl rfl (by kernel_rfl) (HLESS.out _ S0) ?_ (fun c w' h => by obtain ⟨_, h, _⟩ := h; cases h) (fun w' h => by obtain ⟨_, h, _⟩ := h; cases h)
                    rintro e5 W5 ⟨u5, he5, hg5, hb5⟩
                    injection he5 with he5
                    subst he5
                    have S1 : Below w2.heap.size w2 W5 := S0.trans (hb5.mono S0.size)
                    have hb5' : Below wr.heap.size wr W5 := ((Below.refl wr.heap.size wr).drew).trans hb5
                    have HO5 := Lib.hid (owns_below HVO.out hb5')
                    have HG5 := Lib.hid hg5.g1
                    obtain ⟨a5, c5, hv5⟩ := l1_slice hg5.l1
                    subst hv5
                    refine ⟨S1, ?_⟩
                    have hs5 : w2.heap.size ≤ W5.heap.size := S1.size
                    have S2 : Below w2.heap.size w2 (W5.alloc (.cells #[.slice a5 n c5] 33)) := S1.alloc hs5 _
                    have hba : Below W5.heap.size W5 (W5.alloc (.cells #[.slice a5 n c5] 33)) := (Below.refl _ _).alloc (Nat.le_refl _) _
                    have HOX := Lib.hid (owns_below HO5.out hba)
                    refine held_buildS (i := 15) (some 92) (by kernel_rfl) rfl rfl rfl (.tmp 91) a5 n c5 rfl (by kernel_rfl) ⟨S2, ?_⟩
                    refine held_appendS (i := 16) (some 93) (by kernel_rfl) rfl rfl rfl (.tmp 77) (.tmp 92) rfl w2.heap.size (.slice an N.length cn) _ _ (by kernel_rfl) HOX.out W5.heap.size a5 n c5 (by kernel_rfl) (cell_alloc1 W5 _ _) (by simp; omega) (by simp; omega) ?_
                    intro v' w3 hown hgrow
                    have S3 : Below w2.heap.size w2 w3 := S2.grown hgrow (by simp; omega) (fun g hg => ((HOX.out.lt) g hg).1)
                    have HB3 := Lib.hid S3
                    have HGS3 : Hid (Gs w2.heap.size w3 v' ((N ++ [less1 p u R[j]]).map (toL n))) := Lib.hid (by
                      rw [List.map_append]
                      exact Gs.push HOX.out (fun i h1 h2 => ((HVR.out i h1 h2).below hb5').below hba) (HG5.out.below hba) hown hgrow)
                    refine ⟨S3, ?_⟩
                    refine held_take (i := 17) (v := v') (some 11) rfl rfl (by kernel_rfl) (by kernel_rfl) (by kernel_rfl) (fun _ _ _ h => h) (yieldsIf_assign (by kernel_rfl) rfl (by kernel_rfl)) S3 ?_
                    refine wpAnyH_done (by kernel_rfl) ?_ _
                    simp only [Act.put, List.setIfInBounds_toArray, List.set_cons_zero, List.set_cons_succ]
                    clear S0 S1 S2 S3 hown hgrow hb5 hb5' hba hg5 HOX HO5 HG5 hrowj hcellj HLESS hs5
                    go_wp2
                    go_roundw
                    case rel => exact ⟨j + 1, false, _, by omega, by go_num, rfl, HB3, HGS3, Lib.hid (HNX2.out)⟩
                    case measure => simp [intOf]; omega
              · have hjj : Hid (j = R.length) := Lib.hid (by omega)
                have HBO : Hid (Below w.heap.size w wr) := Lib.hid (HB.out.trans ((HB2.out.trans (HBX.out.mono hs2)).mono hsz))
                cases pt with
                | true =>
                  have hdone : ∃ K, K ≤ R.length ∧ N = Lin.put p R K u ∧ (∀ w ∈ R.take K, Lin.ld w < Lin.ld u) ∧ ∀ w ∈ R.drop K, ¬ Lin.ld w < Lin.ld u := Nx.done HR.out.red (by have := HNX.out; rwa [hjj.out] at this)
                  obtain ⟨KK, hK, hN, hlo, hhi⟩ := hdone
                  have HR6 : Hid (RedN p n N (TS.take (k + 1))) := Lib.hid (by
                    rw [HTK.out, hN]
                    exact HR.out.put hp1 HTKM.out HTT.out.1 HRE.out HZ.out HUU.out HUW.out hK hlo hhi)
                  have hNl2 : N.length ≤ k + 1 := by rw [hN, put_length p R KK u hK]; omega
                  clear hlo hhi hN
                  go_wp2
                  go_roundw
                  case rel => exact ⟨k + 1, N, by omega, by go_num, HBO, Lib.hid (HGN0.out.mono (by omega)), HR6, hNl2⟩
                  case measure => simp [intOf]; omega
                | false =>
                  have hdone : ∃ K, K ≤ R.length ∧ N ++ [u] = Lin.put p R K u ∧ (∀ w ∈ R.take K, Lin.ld w < Lin.ld u) ∧ ∀ w ∈ R.drop K, ¬ Lin.ld w < Lin.ld u := Nx.end (by have := HNX.out; rwa [hjj.out] at this)
                  obtain ⟨KK, hK, hN, hlo, hhi⟩ := hdone
                  have HR6 : Hid (RedN p n (N ++ [u]) (TS.take (k + 1))) := Lib.hid (by
                    rw [HTK.out, hN]
                    exact HR.out.put hp1 HTKM.out HTT.out.1 HRE.out HZ.out HUU.out HUW.out hK hlo hhi)
                  have hNl2 : (N ++ [u]).length ≤ k + 1 := by rw [hN, put_length p R KK u hK]; omega
                  clear hlo hhi hN
                  go_wp2_with (at_builtin; refine wpList_append_own _ rfl (.tmp 96) (.tmp 98) 22 rfl w2.heap.size 33 i0 (.slice none 0 0) 1 24 Tryd.underlying22 hi0 hz0 hz1 hz2 rfl (by decide) _ _ _ rfl (HVO.out.alloc _) ⟨wr.heap.size, 0, none⟩ 1 1 [.slice (some ⟨g, 0, none⟩) n c7] rfl rfl ?c1 ?c2 ?c3 ?c4 ?c5 ?_)
                  case c1 =>
                    intro j u hj
                    match j, hj with
                    | 0, hj => simp at hj; subst hj; simp [Addr.add]
                  case c2 => intro u hu; simp at hu; subst hu; rfl
                  case c3 => rw [List.length_map]; unfold maxLen; omega
                  case c4 => rw [List.length_map]; omega
                  case c5 => simp; omega
                  intro v' w3 hown hgrow _
                  have hba : Below wr.heap.size wr (wr.alloc (.cells #[.slice (some ⟨g, 0, none⟩) n c7] 33)) := (Below.refl _ _).alloc (Nat.le_refl _) _
                  have HOX := Lib.hid (owns_below HVO.out hba)
                  have HBN := Lib.hid ((HBX.out.alloc hsx (.cells #[.slice (some ⟨g, 0, none⟩) n c7] 33)).grown hgrow (by simp; omega) (fun g hg => ((HOX.out.lt) g hg).1))
                  have HGN : Hid (Gs w2.heap.size w3 v' ((N ++ [u]).map (toL n))) := Lib.hid (by
                    rw [List.map_append]
                    exact Gs.push HOX.out (fun i h1 h2 => (HVR.out i h1 h2).below hba) ((HOWN7.out.below HBX.out).below hba) (by rw [List.length_map]; exact hown) hgrow)
                  clear hown hgrow hba HOX
                  have HBO2 : Hid (Below w.heap.size w w3) := Lib.hid (HB.out.trans ((HB2.out.trans (HBN.out.mono hs2)).mono hsz))
                  go_wp2
                  go_roundw
                  case rel => exact ⟨k + 1, N ++ [u], by omega, by go_num, HBO2, Lib.hid (HGN.out.mono (by omega)), HR6, hNl2⟩
                  case measure => simp [intOf]; omega
    · have hkk : Hid (TS.take k = TS) := Lib.hid (List.take_of_length_le (by omega))
      go_wp2
      go_ret
      exact ⟨_, R, rfl, HO.out, HB.out, by have := HR.out; rwa [hkk.out] at this, by omega⟩
end Go.Proofs.YtckkbojankfdfaaDoor


namespace Go.Proofs.YtckkbojankfdfaaDoor
open Go.RowKit

/-- What the functions on spaces take. -/
def SpOk (p n : Int) (rows : List (List Int)) : Prop := IsP p ∧ (0 ≤ n ∧ n ≤ 40) ∧ rows.length ≤ 40 ∧ TabOk p (rows.length : Int) n rows
theorem SpOk.row {p n : Int} {rows : List (List Int)} (h : SpOk p n rows) {r : List Int} (hr : r ∈ rows) : RowOk p n r := h.2.2.2.2 r hr
theorem SpOk.md {p n : Int} {rows : List (List Int)} (h : SpOk p n rows) : ∀ u ∈ rows.map ofL, Lin.Md p u := fun u hu => by
  obtain ⟨r, hr, rfl⟩ := List.mem_map.1 hu
  exact ofL_md (by have := h.1.lo; omega) (h.row hr)
theorem SpOk.wd {p n : Int} {rows : List (List Int)} (h : SpOk p n rows) : ∀ u ∈ rows.map ofL, Lin.Wd n.toNat u := fun u hu => by
  obtain ⟨r, hr, rfl⟩ := List.mem_map.1 hu
  exact ofL_wd (by have := (h.row hr).1; omega)
theorem SpOk.short {p n : Int} {rows : List (List Int)} (h : SpOk p n rows) : ∀ r ∈ rows, r.length ≤ 40 := fun r hr => by
  have := (h.row hr).1
  have := h.2.1
  omega
theorem wd_wider {n m : Nat} {u : Lin.V} (h : Lin.Wd n u) (hm : n ≤ m) : Lin.Wd m u := fun i hi => h i (by omega)

theorem led_length {n : Nat} : ∀ (L : List Lin.V) (k : Nat), L.Pairwise (fun v w => Lin.ld v < Lin.ld w) → (∀ u ∈ L, k ≤ Lin.ld u ∧ Lin.ld u < n) → L.length ≤ n - k
  | [], _, _, _ => by simp
  | v :: L, k, hp, h => by
    have h1 := List.pairwise_cons.1 hp
    have h0 := h v (by simp)
    have := led_length L (Lin.ld v + 1) h1.2 (fun u hu => ⟨h1.1 u hu, (h u (by simp [hu])).2⟩)
    simp only [List.length_cons]
    omega
theorem red_length {p : Int} {n : Nat} {R : List Lin.V} (h : Lin.Red p R) (hw : ∀ u ∈ R, Lin.Wd n u) : R.length ≤ n := by
  have := led_length (n := n) R 0 h.inc (fun u hu => ⟨Nat.zero_le _, (ld_ltn (hw u hu) (h.ne hu)).1⟩)
  omega

/-- What such a function answers: the reduced list of a space, or a code. -/
structure SpOut (p : Int) (n : Nat) (S : Lin.V → Prop) (c0 : Int) (out : List (List Int)) (c : Int) : Prop where
  good : c0 = 0 → ∃ R, Lin.Red p R ∧ (∀ u ∈ R, Lin.Wd n u) ∧ (∀ v, Lin.Sp p R v ↔ S v) ∧ out = R.map (toL n)
  bad : c0 ≠ 0 → out = []
  code : c = c0
theorem SpOut.unique {p : Int} {n : Nat} {S : Lin.V → Prop} {c0 : Int} {o1 o2 : List (List Int)} {c1 c2 : Int} (hp : c0 = 0 → 1 < p) (h1 : SpOut p n S c0 o1 c1) (h2 : SpOut p n S c0 o2 c2) : o1 = o2 ∧ c1 = c2 := by
  refine ⟨?_, h1.code.trans h2.code.symm⟩
  by_cases h0 : c0 = 0
  · obtain ⟨R1, a1, _, b1, rfl⟩ := h1.good h0
    obtain ⟨R2, a2, _, b2, rfl⟩ := h2.good h0
    rw [Lin.Red.unique (hp h0) a1 a2 (fun v => (b1 v).trans (b2 v).symm)]
  · rw [h1.bad h0, h2.bad h0]
theorem SpOut.bd {p : Int} {n : Nat} {S : Lin.V → Prop} {c0 : Int} {o : List (List Int)} {c : Int} (h : SpOut p n S c0 o c) (hn : c0 = 0 → n ≤ 1048576) : Bd2 1048576 o := by
  by_cases h0 : c0 = 0
  · obtain ⟨R, a, b, _, rfl⟩ := h.good h0
    have := red_length a b
    have hn := hn h0
    refine ⟨by rw [List.length_map]; omega, fun r hr => ?_⟩
    obtain ⟨u, _, rfl⟩ := List.mem_map.1 hr
    unfold Bd1
    rw [toL_length]
    exact hn
  · rw [h.bad h0]
    exact ⟨by simp, by simp⟩
theorem SpOut.of_no {p : Int} {n : Nat} {S : Lin.V → Prop} {c0 : Int} (h : c0 ≠ 0) : SpOut p n S c0 [] c0 := ⟨fun h0 => absurd h0 h, fun _ => rfl, rfl⟩
theorem TW.wider {lo lo' hi : Nat} {W : World} {u : Value} {R : List (List Int)} (h : TW lo hi W u R) (hl : lo' ≤ lo) : TW lo' hi W u R := by
  rcases h with h | ⟨g, r, c, Z, h1, h2, h3, h4, h5, h6, h7⟩
  · exact Or.inl h
  · exact Or.inr ⟨g, r, c, Z, by omega, h2, h3, h4, h5, h6, h7⟩
end Go.Proofs.YtckkbojankfdfaaDoor

namespace Go.Proofs.YtckkbojankfdfaaDoor
open Go.RowKit

end Go.Proofs.YtckkbojankfdfaaDoor

namespace Go.Proofs.YtckkbojankfdfaaDoor
open Go.RowKit

/-- append of no elements. -/
theorem run_append_none' {P : Program} (w : World) (t ty e : TypeId) (i : TypeInfo) (ht : P.underlying t = some (.slice e)) (hi : P.info? e = some i) {base size n : Nat} {v : Value} {xs : List Value} (hown : w.ownsRow base e size v n xs) (ad : Option Addr) (cap : Nat) :
    (Builtin.append_ #[t, t] ty #[v, .slice ad 0 cap]).run P w = .ok v w := by
  cases ad with
  | none =>
    rcases hown.2 with ⟨rfl, rfl⟩ | ⟨g, cap, cur, rfl, _, _, hnc, _⟩
    · simp [Builtin.append_, run_underlying ht, sizeOf, typeInfo, hi, Builtin.lenOf, Builtin.firstCells]
    · simp [Builtin.append_, run_underlying ht, sizeOf, typeInfo, hi, Builtin.lenOf, Builtin.firstCells, hnc, storeCells]
  | some a =>
    have hl := run_loadCells_list (P := P) w a [] (by simp)
    simp at hl
    rcases hown.2 with ⟨rfl, rfl⟩ | ⟨g, cap, cur, rfl, _, _, hnc, _⟩
    · simp [Builtin.append_, run_underlying ht, sizeOf, typeInfo, hi, Builtin.lenOf, Builtin.firstCells, hl]
    · simp [Builtin.append_, run_underlying ht, sizeOf, typeInfo, hi, Builtin.lenOf, Builtin.firstCells, hnc, storeCells, hl]

end Go.Proofs.YtckkbojankfdfaaDoor

namespace Go.Proofs.YtckkbojankfdfaaDoor
open Go.RowKit

/-- The rows' values of a table. -/
structure RowsAt (w : World) (v : Value) (tb : List (List Int)) (vs : List Value) : Prop where
  len : vs.length = tb.length
  row : ∀ k (h1 : k < vs.length) (h2 : k < tb.length), L1 0 w vs[k] tb[k]
  one : ∀ u ∈ vs, u.oneCell' = true
  at' : ∃ ad cap, v = .slice ad tb.length cap ∧ (0 < tb.length → ∃ a, ad = some a ∧ ∀ j u, vs[j]? = some u → w.cell? (a.add j) = some u)
theorem RowsAt.below {w w' : World} {v : Value} {tb : List (List Int)} {vs : List Value} (h : RowsAt w v tb vs) (hb : Below w.heap.size w w') : RowsAt w' v tb vs := by
  obtain ⟨ad, cap, hv, hc⟩ := h.at'
  refine ⟨h.len, fun k h1 h2 => (h.row k h1 h2).below hb, h.one, ad, cap, hv, fun h0 => ?_⟩
  obtain ⟨a, ha, hc⟩ := hc h0
  exact ⟨a, ha, fun j u hj => by rw [hb.cell (World.block_lt_of_cell? _ _ (hc j u hj)), hc j u hj]⟩
end Go.Proofs.YtckkbojankfdfaaDoor


namespace Go.Proofs.YtckkbojankfdfaaDoor
open Go.RowKit

end Go.Proofs.YtckkbojankfdfaaDoor

namespace Go.Proofs.YtckkbojankfdfaaDoor
open Go.RowKit

/-- The dimension of a degree, 0 beyond the top. -/
def dimZ (ds : List Int) (n : Int) : Int := if 0 ≤ n ∧ n ≤ (ds.length : Int) - 1 then ds.getD n.toNat 0 else 0

/-- The rows of the differential of a degree; for the degree 0, and beyond the top, rows without numbers. -/
def mapZ (ds : List Int) (ms : List (List (List Int))) (n : Int) : List (List Int) := if 1 ≤ n ∧ n ≤ (ds.length : Int) - 1 then ms.getD (n.toNat - 1) [] else List.replicate (dimZ ds n).toNat []
end Go.Proofs.YtckkbojankfdfaaDoor

namespace Go.Proofs.YtckkbojankfdfaaDoor
open Go.RowKit

end Go.Proofs.YtckkbojankfdfaaDoor


namespace Go.Proofs.YtckkbojankfdfaaDoor
open Go.RowKit

open Classical in
/-- The code of two complexes. -/
noncomputable def endCode (p p2 : Int) (ds : List Int) (ms : List (List (List Int))) (ds2 : List Int) (ms2 : List (List (List Int))) : Int :=
  if ¬ (IsCx p ds ms ∧ IsCx p2 ds2 ms2) then 1 else if p = p2 ∧ ds.length = ds2.length then 0 else 2
structure EndOk (p p2 : Int) (ds : List Int) (ms : List (List (List Int))) (ds2 : List Int) (ms2 : List (List (List Int))) : Prop where
  x : IsCx p ds ms
  y : IsCx p2 ds2 ms2
  prime : p = p2
  len : ds.length = ds2.length
theorem EndOk.code {p p2 : Int} {ds : List Int} {ms : List (List (List Int))} {ds2 : List Int} {ms2 : List (List (List Int))} (h : EndOk p p2 ds ms ds2 ms2) : endCode p p2 ds ms ds2 ms2 = 0 := by
  unfold endCode
  rw [if_neg (fun k => k ⟨h.x, h.y⟩), if_pos ⟨h.prime, h.len⟩]
theorem bb_no {P : Prop} {b : Bool} (h : b = true ↔ P) (hp : ¬ P) : b = false := by
  cases b with
  | false => rfl
  | true => exact absurd (h.1 rfl) hp

/-- The cells of two complexes in a row. -/
structure Row2 (w : World) (b : Nat) (p p2 : Int) (dv mv dv2 mv2 : Value) : Prop where
  c0 : w.cell? ⟨b, 0, none⟩ = some (.int .i64 p)
  c1 : w.cell? ⟨b, 1, none⟩ = some dv
  c2 : w.cell? ⟨b, 2, none⟩ = some mv
  d0 : w.cell? ⟨b, 3, none⟩ = some (.int .i64 p2)
  d1 : w.cell? ⟨b, 4, none⟩ = some dv2
  d2 : w.cell? ⟨b, 5, none⟩ = some mv2
theorem Row2.next {w w' : World} {b : Nat} {p p2 : Int} {dv mv dv2 mv2 : Value} (h : Row2 w b p p2 dv mv dv2 mv2) (hb : Below w.heap.size w w') : Row2 w' b p p2 dv mv dv2 mv2 :=
  ⟨later hb (Nat.le_refl _) h.c0, later hb (Nat.le_refl _) h.c1, later hb (Nat.le_refl _) h.c2, later hb (Nat.le_refl _) h.d0, later hb (Nat.le_refl _) h.d1, later hb (Nat.le_refl _) h.d2⟩

open Classical in
/-- The code of two complexes with the same prime. -/
noncomputable def prCode (p p2 : Int) (ds : List Int) (ms : List (List (List Int))) (ds2 : List Int) (ms2 : List (List (List Int))) : Int :=
  if ¬ (IsCx p ds ms ∧ IsCx p2 ds2 ms2) then 1 else if p = p2 then 0 else 2
structure PrOk (p p2 : Int) (ds : List Int) (ms : List (List (List Int))) (ds2 : List Int) (ms2 : List (List (List Int))) : Prop where
  x : IsCx p ds ms
  y : IsCx p2 ds2 ms2
  prime : p = p2
theorem PrOk.code {p p2 : Int} {ds : List Int} {ms : List (List (List Int))} {ds2 : List Int} {ms2 : List (List (List Int))} (h : PrOk p p2 ds ms ds2 ms2) : prCode p p2 ds ms ds2 ms2 = 0 := by
  unfold prCode
  rw [if_neg (fun k => k ⟨h.x, h.y⟩), if_pos h.prime]
/-- The cells of a box of a complex, whatever stood there when it was made. -/
structure Bq (wr : World) (b : Nat) (p : Int) (dv mv : Value) (ds : List Int) (ms : List (List (List Int))) : Prop where
  c0 : wr.cell? ⟨b, 0, none⟩ = some (.int .i64 p)
  c1 : wr.cell? ⟨b, 1, none⟩ = some dv
  c2 : wr.cell? ⟨b, 2, none⟩ = some mv
  lt : b < wr.heap.size
  cx : Cx 0 wr dv mv ds ms
theorem Bx.bq {w wr : World} {b : Nat} {p : Int} {dv mv : Value} {ds : List Int} {ms : List (List (List Int))} (h : Bx w wr b p dv mv ds ms) : Bq wr b p dv mv ds ms := ⟨h.c0, h.c1, h.c2, h.lt, h.cx⟩
theorem Bq.next {wr w' : World} {b : Nat} {p : Int} {dv mv : Value} {ds : List Int} {ms : List (List (List Int))} (h : Bq wr b p dv mv ds ms) (hb : Below wr.heap.size wr w') : Bq w' b p dv mv ds ms :=
  ⟨later hb (Nat.le_refl _) h.c0, later hb (Nat.le_refl _) h.c1, later hb (Nat.le_refl _) h.c2, Nat.lt_of_lt_of_le h.lt hb.size, h.cx.below hb⟩
theorem Bq.only {wr w' : World} {b lo hi : Nat} {p : Int} {dv mv : Value} {ds : List Int} {ms : List (List (List Int))} (h : Bq wr b p dv mv ds ms) (ho : Only lo hi wr w') (hc : Cx 0 w' dv mv ds ms) (hb : b < lo ∨ hi ≤ b) : Bq w' b p dv mv ds ms :=
  ⟨(ho.cell hb).trans h.c0, (ho.cell hb).trans h.c1, (ho.cell hb).trans h.c2, by have := ho.size; have := h.lt; omega, hc⟩
end Go.Proofs.YtckkbojankfdfaaDoor


namespace Go.Proofs.YtckkbojankfdfaaDoor
open Go.RowKit

/-- The dimension of a degree. -/
def dimN (ds : List Int) (n : Int) : Nat := (ds.getD n.toNat 0).toNat

/-- What a function on a complex and a degree answers as a list of vectors. -/
def SpF (p : Int) (n : Nat) (S : Lin.V → Prop) (R : List Lin.V) : Prop := Lin.Red p R ∧ (∀ u ∈ R, Lin.Wd n u) ∧ (∀ v, Lin.Sp p R v ↔ S v)
theorem SpF.short {p : Int} {n : Nat} {S : Lin.V → Prop} {R : List Lin.V} (h : SpF p n S R) : R.length ≤ n := red_length h.1 h.2.1

end Go.Proofs.YtckkbojankfdfaaDoor

namespace Go.Proofs.YtckkbojankfdfaaDoor
open Go.RowKit

/-- The table from the degree k + 1 to k, none beyond the degrees. -/
def tabN (ms : List (List (List Int))) (k : Nat) : List (List Int) := ms.getD k []
theorem vecs_md {p d : Int} {rows : List (List Int)} (hp : 0 < p) (h : ∀ r ∈ rows, RowOk p d r) : ∀ u ∈ rows.map ofL, Lin.Md p u := fun u hu => by
  obtain ⟨r, hr, rfl⟩ := List.mem_map.1 hu
  exact ofL_md hp (h r hr)
theorem vecs_wd {n : Nat} {rows : List (List Int)} (h : ∀ r ∈ rows, r.length = n) : ∀ u ∈ rows.map ofL, Lin.Wd n u := fun u hu => by
  obtain ⟨r, hr, rfl⟩ := List.mem_map.1 hu
  exact ofL_wd (by rw [h r hr]; exact Nat.le_refl _)
theorem rows_toL' {n : Nat} {rows : List (List Int)} (h : ∀ r ∈ rows, r.length = n) : (rows.map ofL).map (toL n) = rows := by
  rw [List.map_map]
  have : ∀ r ∈ rows, (toL n ∘ ofL) r = id r := fun r hr => toL_ofL (h r hr)
  rw [List.map_congr_left this, List.map_id]

end Go.Proofs.YtckkbojankfdfaaDoor

namespace Go.Proofs.YtckkbojankfdfaaDoor
open Go.RowKit

/-- append of numbers to a row that the call owns. -/
theorem wpList_appendN {ops : Array Oper} {rest : List Oper} {o : Oper} {a : Act} {w : World} {Q : Exit → Act → World → Prop} (hgd : o.guard = none) (dst : Option Tmp) (hdst : o.dst = dst) (s x : Operand)
    (ho : o.op = .call { callee := .builtin .append, args := #[s, x], argTypes := #[33, 33] }) (base : Nat) (v u : Value) (xs ys : List Int) (hs : a.eval s = v) (hx : a.eval x = u) (hown : Gb base w v xs) (hy : L1 0 w u ys)
    (hl : xs.length + ys.length ≤ 2097152) (hb : base ≤ w.heap.size)
    (h : ∀ v' w', Gb base w' v' (xs ++ ys) → w.grownBy w' v.ownBlock → wpList Tryd.prog ops Q rest (a.put dst v') w') : wpList Tryd.prog ops Q (o :: rest) a w := by
  obtain ⟨i, hi, hz, hs1, hb1⟩ := info_parts Tryd.infoI
  subst hdst
  refine Sl.cases hy (fun ad cap hys hu => ?_) (fun b o' cap hu _ hpos hc => ?_)
  · subst hys hu
    refine Lib.wpList_append_run _ hgd s x _ _ ho _ _ hs hx _ _ (run_append_none' w _ _ _ i Tryd.underlying33 hi hown ad cap) ?_
    rw [List.append_nil] at h
    exact h v w hown ⟨rfl, rfl, rfl, Nat.le_refl _, fun _ _ _ => rfl⟩
  · subst hu
    refine wpList_append_own w hgd s x 33 ho base 2 i _ 1 8 Tryd.underlying33 hi hz hs1 hb1 rfl (by decide) v xs.length (xs.map (Value.int .i64)) hs hown ⟨b, o', none⟩ ys.length cap (ys.map (Value.int .i64)) hx (by simp) ?_ ?_ (by unfold maxLen; omega) (by omega) hb (fun v' w' h1 h2 _ => h v' w' ?_ h2)
    · intro j y hj
      have hj' : j < ys.length := by have := (List.getElem?_eq_some_iff.1 hj).1; simpa using this
      obtain ⟨u2, h2, h3⟩ := hc j hj'
      rw [Addr.add_lit, h2, h3]
      simp [hj'] at hj
      rw [hj]
    · intro y hy2
      obtain ⟨z, _, rfl⟩ := List.mem_map.1 hy2
      rfl
    · unfold Gb
      rw [List.length_append, List.map_append]
      exact h1
theorem Gs.lt {base : Nat} {w : World} {v : Value} {tb : List (List Int)} (h : Gs base w v tb) : ∀ k, v.ownBlock = some k → base ≤ k ∧ k < w.heap.size := by
  obtain ⟨vs, ho, _⟩ := h
  exact World.ownsRow.lt ho
theorem Gs.row {base : Nat} {w : World} {u : Value} {tb : List (List Int)} (h : Gs base w u tb) {k : Nat} (hk : k < tb.length) (hpos : 0 < (tb[k]).length) :
    ∃ b c, u = .slice (some ⟨b, 0, none⟩) tb.length c ∧ ∃ g cap, w.cell? ⟨b, k, none⟩ = some (.slice (some ⟨g, 0, none⟩) (tb[k]).length cap) ∧ (tb[k]).length ≤ cap ∧ G1 w (.slice (some ⟨g, 0, none⟩) (tb[k]).length cap) tb[k] := by
  obtain ⟨vs, ho, hr⟩ := h
  obtain ⟨b, c, rfl, _, _⟩ := World.ownsRow.form ho (by omega)
  have hvl : vs.length = tb.length := by have := ho.1; omega
  have hg := hr k (by omega) hk
  obtain ⟨g, cap, hv, _, _⟩ := World.ownsRow.form hg hpos
  refine ⟨b, c, rfl, g, cap, ?_, ?_, by rw [← hv]; exact hg⟩
  · rw [World.ownsRow.cellAt ho k (by omega), List.getElem?_eq_getElem (by omega), hv]
  · rw [hv] at hg
    rcases hg.2 with ⟨h0, _⟩ | ⟨g', cap', cur, h0, _, _, hnc, _⟩
    · cases h0
    · injection h0 with _ _ e3
      omega
/-- append of one row to a table that the call gathers. -/
theorem wpList_appendG {ops : Array Oper} {rest : List Oper} {o : Oper} {a : Act} {w : World} {Q : Exit → Act → World → Prop} (hgd : o.guard = none) (dst : Option Tmp) (hdst : o.dst = dst) (s x : Operand)
    (ho : o.op = .call { callee := .builtin .append, args := #[s, x], argTypes := #[22, 22] }) (base : Nat) (v : Value) (tb : List (List Int)) (hs : a.eval s = v) (hown : Gs base w v tb)
    (b : Nat) (hx : a.eval x = .slice (some ⟨b, 0, none⟩) 1 1) (ar : Option Addr) (nr cr : Nat) (hc : w.cell? ⟨b, 0, none⟩ = some (.slice ar nr cr)) (y : List Int) (hy : G1 w (.slice ar nr cr) y) (hl : tb.length ≤ 2097151) (hb : base ≤ w.heap.size)
    (h : ∀ v' w', Gs base w' v' (tb ++ [y]) → w.grownBy w' v.ownBlock → wpList Tryd.prog ops Q rest (a.put dst v') w') : wpList Tryd.prog ops Q (o :: rest) a w := by
  obtain ⟨i, hi, hz, hs1, hb1⟩ := info_parts Tryd.infoS
  obtain ⟨vs, hvo, hvr⟩ := hown
  subst hdst
  refine wpList_append_own w hgd s x 22 ho base 33 i _ 1 24 Tryd.underlying22 hi hz hs1 hb1 rfl (by decide) v tb.length vs hs hvo ⟨b, 0, none⟩ 1 1 [.slice ar nr cr] hx rfl ?_ ?_ (by unfold maxLen; omega) (by omega) hb (fun v' w' h1 h2 _ => h v' w' (Gs.push hvo hvr hy h1 h2) h2)
  · intro j u hj
    match j, hj with
    | 0, hj =>
      simp at hj
      subst hj
      exact hc
  · intro u hu
    simp at hu
    subst hu
    rfl

/-- The vectors of n numbers that all columns of a table annihilate. -/
def CycS (p : Int) (n m : Nat) (t : List (List Int)) (v : Lin.V) : Prop := Lin.Md p v ∧ Lin.Wd n v ∧ ∀ j, j < m → Lin.dot n (Lin.col (fun i => ofL (t.getD i [])) j) v % p = 0
def unitV (k : Nat) : Lin.V := fun i => if i = k then 1 else 0
theorem long_toL {m n k : Nat} (r : Lin.V) : toL m r ++ toL n (unitV k) = toL (m + n) (Lin.long m r k) := by
  refine List.ext_getElem (by simp [toL_length]) fun i h1 h2 => ?_
  rw [toL_get]
  by_cases h : i < m
  · rw [List.getElem_append_left (by rw [toL_length]; exact h), toL_get]
    simp [Lin.long, h]
  · rw [List.getElem_append_right (by rw [toL_length]; omega), toL_get]
    simp only [toL_length, unitV, Lin.long, if_neg h]
    by_cases e : i = m + k
    · rw [if_pos e, if_pos (by omega)]
    · rw [if_neg e, if_neg (by omega)]
/-- The first k long rows. -/
def longs (m : Nat) (t : List (List Int)) (k : Nat) : List Lin.V := (List.range k).map fun i => Lin.long m (ofL (t.getD i [])) i
theorem longs_succ (m : Nat) (t : List (List Int)) (k : Nat) : longs m t (k + 1) = longs m t k ++ [Lin.long m (ofL (t.getD k [])) k] := by simp [longs, List.range_succ]
theorem longs_length (m : Nat) (t : List (List Int)) (k : Nat) : (longs m t k).length = k := by simp [longs]
theorem longs_mem (m n : Nat) (t : List (List Int)) : Lin.Longs m n (fun i => ofL (t.getD i [])) (longs m t n) := ⟨fun y => by
  simp only [longs, List.mem_map, List.mem_range]
  exact ⟨fun ⟨i, hi, e⟩ => ⟨i, hi, e.symm⟩, fun ⟨i, hi, e⟩ => ⟨i, hi, e.symm⟩⟩⟩
theorem longs_wd {m n : Nat} {t : List (List Int)} : ∀ y ∈ longs m t n, Lin.Wd (m + n) y := fun y hy => by
  obtain ⟨i, hi, rfl⟩ := ((longs_mem m n t).mem y).1 hy
  intro j hj
  simp [Lin.long, show ¬ j < m by omega, show ¬ j = m + i by omega]
/-- The rows whose leads stand behind m, cut. -/
noncomputable def cuts (m : Nat) (E : List Lin.V) : List Lin.V := (E.filter fun y => decide (m ≤ Lin.ld y)).map (Lin.tail m)
theorem cuts_cut {p : Int} {m : Nat} {E : List Lin.V} (hE : Lin.Red p E) : Lin.Cut p m E (cuts m E) := by
  refine ⟨fun x => ?_, ?_⟩
  · simp only [cuts, List.mem_map, List.mem_filter, decide_eq_true_eq]
    exact ⟨fun ⟨y, ⟨h1, h2⟩, e⟩ => ⟨y, h1, h2, e.symm⟩, fun ⟨y, h1, h2, e⟩ => ⟨y, ⟨h1, h2⟩, e.symm⟩⟩
  · unfold cuts
    rw [List.pairwise_map]
    refine List.Pairwise.imp_of_mem (fun {a b} ha hb h => ?_) (hE.inc.filter _)
    obtain ⟨ha1, ha2⟩ := List.mem_filter.1 ha
    obtain ⟨hb1, hb2⟩ := List.mem_filter.1 hb
    have ha3 : m ≤ Lin.ld a := by simpa using ha2
    have hb3 : m ≤ Lin.ld b := by simpa using hb2
    rw [(Lin.cut_ld hE ha1 ha3).2.1, (Lin.cut_ld hE hb1 hb3).2.1]
    omega
theorem cuts_keep {m : Nat} {E : List Lin.V} {k : Nat} (hk : k < E.length) (h : m ≤ Lin.ld E[k]) : cuts m (E.take (k + 1)) = cuts m (E.take k) ++ [Lin.tail m E[k]] := by
  unfold cuts
  rw [List.take_succ_eq_append_getElem hk, List.filter_append, List.map_append, List.filter_cons_of_pos (by simpa using h)]
  rfl
theorem cuts_skip {m : Nat} {E : List Lin.V} {k : Nat} (hk : k < E.length) (h : ¬ m ≤ Lin.ld E[k]) : cuts m (E.take (k + 1)) = cuts m (E.take k) := by
  unfold cuts
  rw [List.take_succ_eq_append_getElem hk, List.filter_append, List.map_append, List.filter_cons_of_neg (by simpa using h)]
  simp
theorem cuts_length (m : Nat) (E : List Lin.V) : (cuts m E).length ≤ E.length := by
  unfold cuts
  rw [List.length_map]
  exact List.length_filter_le _ _
/-- What the model's kernel answers. -/
theorem kernel_spf {p : Int} (hp : 1 < p) {m n : Nat} {t : List (List Int)} {E : List Lin.V} (h : RedN p (m + n) E (longs m t n)) : SpF p n (CycS p n m t) (cuts m E) := by
  have hc := cuts_cut (m := m) h.red
  refine ⟨hc.red h.red, fun u hu => ?_, fun x => hc.ker hp h.red (longs_mem m n t) h.eqv x⟩
  obtain ⟨y, hy, _, rfl⟩ := (hc.mem u).1 hu
  intro i hi
  exact h.wd y hy _ (by omega)

theorem unit_row (w : World) {n k : Nat} (hk : k < n) : (w.alloc (.cells ((madeCells #[.int .i64 0] n).setIfInBounds k (.int .i64 1)) 2)).rowIs w.heap.size 2 n (fun i => .int .i64 (unitV k i)) := by
  refine ⟨_, heap_alloc_new w _, by simp [size_madeCells], fun i hi => ?_⟩
  rw [Array.getElem?_setIfInBounds]
  unfold unitV
  by_cases e : k = i
  · subst e
    simp [size_madeCells, hk]
  · have e2 : ¬ i = k := fun h => e h.symm
    simp [e, e2, madeCells, hi, Nat.mod_one]
def KerR (p : Int) (n m : Nat) (t : List (List Int)) (w : World) (e : Ending) (w' : World) : Prop :=
  ∃ (u : Value) (R : List Lin.V), e = .returned u ∧ Gs w.heap.size w' u (R.map (toL n)) ∧ Below w.heap.size w w' ∧ SpF p n (CycS p n m t) R

set_option maxHeartbeats 12800000 in
set_option maxRecDepth 100000 in
theorem l01Kernel_any (p : Int) (n m : Nat) (vt : Value) (t : List (List Int)) (w : World) (hp : IsP p) (ht : L2 0 w vt t) (htn : t.length = n) (hrow : ∀ r ∈ t, RowOk p (m : Int) r) (hn : n ≤ 1000) (hm : m ≤ 1000) :
    Calls Tryd.prog 43 #[.int .i64 p, .int .i64 n, vt] w (KerR p n m t w) := by
  have HP := Lib.hid hp
  have hp1 := hp.lo1
  have HT := Lib.hid ht
  have HROW := Lib.hid hrow
  have HTN := Lib.hid htn
  have hmk := run_make_row' (P := Tryd.prog) 33 2 (.int .i64 0) 8 Tryd.underlying33 Tryd.infoI rfl .i64 .i64 n (by omega) (by omega)
  have HMK := Lib.hid hmk
  obtain ⟨at', ct, hvt⟩ := Sl.shape ht
  rw [htn] at hvt
  subst hvt
  have HOWN0 := Lib.hid (World.ownsRow_made (base := w.heap.size) (e := 33) (size := 1) w #[] 0 (Nat.le_refl _) (by unfold maxLen; omega) (by simp))
  clear hp ht hrow htn hmk
  go_enter Tryd.func43, Tryd.ntmps43
  go_wp2
  go_loopw [7, 8, 9] (fun lv wv i wr => ∃ (k : Nat), k ≤ n ∧ i = .int .i64 k ∧ wv = .int .i64 (if k = 0 then 0 else (m : Int)) ∧ Hid (Below w.heap.size w wr) ∧ Hid (Gs w.heap.size wr lv ((longs m t k).map (toL (m + n))))) (fun _ _ i _ => n - (intOf i).toNat)
  case atStart => exact ⟨0, Nat.zero_le _, rfl, rfl, Lib.hid ((Below.refl _ _).alloc (Nat.le_refl _) _), Lib.hid ⟨[], by simpa [longs] using HOWN0.out, fun k h1 _ => absurd h1 (Nat.not_lt_zero _)⟩⟩
  case round =>
    clear HOWN0
    obtain ⟨k, hk, rfl, rfl, HB, HG⟩ := hrel
    obtain ⟨wx, hwx⟩ : ∃ wx : World, wx = wr := ⟨_, rfl⟩
    subst hwx
    have hsz : w.heap.size ≤ wx.heap.size := HB.out.size
    obtain ⟨al, cl, hlv⟩ := Sl.shape HG.out.l2
    rw [List.length_map, longs_length] at hlv
    subst hlv
    by_cases hlt : k < n
    · have hkt : k < t.length := by rw [HTN.out]; exact hlt
      refine Sl.cases HT.out (fun _ _ hx _ => absurd hkt (by simp [hx])) (fun b o c2 hvv _ _ hc => ?_)
      rw [HTN.out] at hvv
      obtain ⟨rfl, rfl⟩ : at' = some ⟨b, o, none⟩ ∧ ct = c2 := by simpa using hvv
      obtain ⟨ur, hur, hrr⟩ := hc k hkt
      obtain ⟨r, hr⟩ : ∃ r, r = t[k] := ⟨_, rfl⟩
      have HRE : Hid (t.getD k [] = r) := Lib.hid (by rw [getD_of_lt _ hkt, hr])
      have hrm : r.length = m := by have := (HROW.out _ (List.getElem_mem hkt)).1; rw [← hr] at this; omega
      rw [← hr] at hrr
      obtain ⟨ar, cr, hus⟩ := Sl.shape hrr
      rw [hrm] at hus
      subst hus
      have HRR := Lib.hid hrr
      have HUR : Hid (∀ W, Below w.heap.size w W → W.cell? ⟨b, o + k, none⟩ = some (.slice ar m cr)) := Lib.hid (fun W h => later h (Nat.le_refl _) hur)
      have HRM := Lib.hid hrm
      have hq1 : (k : Int) < (n : Int) := by omega
      have hq2 : (0 : Int) ≤ (k : Int) := by omega
      clear hvv hc hur hrr hr hrm
      have hmk := HMK.out
      have hrow0 := World.rowIs_made wx (.int .i64 0) n 2
      have hc0 := hrow0.cell hlt
      have hf0 := hrow0.frozen k
      have HR1 := Lib.hid (unit_row wx hlt)
      have HB1 : Hid (Below wx.heap.size wx (wx.alloc (.cells ((madeCells #[.int .i64 0] n).setIfInBounds k (.int .i64 1)) 2))) := Lib.hid ((Below.refl _ _).alloc (Nat.le_refl _) _)
      clear hrow0
      go_upto_region 8 with fail
      refine forget_wp (fun W => Hid (W.rowIs wx.heap.size 2 n (fun i => .int .i64 (unitV k i)) ∧ Below wx.heap.size wx W)) (Lib.hid ⟨HR1.out, HB1.out⟩) ?_
      intro W3 HS3
      clear hmk hc0 hf0 HR1 HB1
      have HB3 := Lib.hid (HB.out.trans (HS3.out.2.mono hsz))
      have hcell := HUR.out _ HB3.out
      have HG3 := Lib.hid (HG.out.below HS3.out.2)
      have HUN : Hid (L1 0 W3 (.slice (some ⟨wx.heap.size, 0, none⟩) n n) (toL n (unitV k))) := Lib.hid (Or.inr ⟨wx.heap.size, 0, n, by rw [toL_length], Nat.zero_le _, by rw [toL_length]; omega, fun i hi => ⟨_, by rw [Nat.zero_add]; exact HS3.out.1.cell (by rw [toL_length] at hi; exact hi), by rw [toL_get]; rfl⟩⟩)
      go_wp2_with fail
      refine (l01Own_any _ r W3 (HRR.out.below HB3.out) (by rw [HRM.out]; omega)).mono ?_
      rintro e W4 ⟨u4, rfl, hg4, hb4⟩
      have HG4 := Lib.hid hg4
      have HB4 := Lib.hid (HB3.out.trans (hb4.mono HB3.out.size))
      have HUN4 := Lib.hid (HUN.out.below hb4)
      have HGL4 := Lib.hid (HG3.out.below hb4)
      have hs34 : W3.heap.size ≤ W4.heap.size := hb4.size
      have HB34 := Lib.hid hb4
      clear hb4 hg4 hcell HUN HGL4
      go_wp2_with (at_builtin; refine wpList_appendN rfl (some 37) rfl (.tmp 35) (.tmp 36) rfl W3.heap.size _ _ r (toL n (unitV k)) rfl rfl HG4.out HUN4.out ?c1 ?c2 ?_)
      case c1 => rw [toL_length, HRM.out]; omega
      case c2 => exact hs34
      intro v5 W5 hg5 hgr5
      have HB45 : Hid (Below W3.heap.size W3 W5) := Lib.hid (HB34.out.grown hgr5 hs34 (fun g hg => ((World.ownsRow.lt HG4.out) g hg).1))
      have HROWL : Hid (r ++ toL n (unitV k) = toL (m + n) (Lin.long m (ofL (t.getD k [])) k)) := Lib.hid (by
        rw [← long_toL, HRE.out, toL_ofL HRM.out])
      have HG5 : Hid (G1 W5 v5 (toL (m + n) (Lin.long m (ofL (t.getD k [])) k))) := Lib.hid (by rw [← HROWL.out]; exact hg5.g1)
      have HGL5 := Lib.hid (HG3.out.below HB45.out)
      obtain ⟨a5, c5, hv5⟩ := l1_slice HG5.out.l1
      subst hv5
      have hs35 : w.heap.size ≤ W5.heap.size := by have := HB3.out.size; have := HB45.out.size; omega
      have hba : Below W5.heap.size W5 (W5.alloc (.cells #[.slice a5 (m + n) c5] 33)) := below_alloc1 _ _
      have HGL6 := Lib.hid (HGL5.out.below hba)
      have HG6 := Lib.hid (HG5.out.below hba)
      have hcell6 := cell_alloc1 W5 (.slice a5 (m + n) c5) 33
      have HB6 := Lib.hid ((HB3.out.trans (HB45.out.mono HB3.out.size)).trans (hba.mono hs35))
      clear hg5 hgr5 hba HG4 HUN4 HB34 HB4 HG3 HB45
      go_wp2_with (at_builtin; refine wpList_appendG rfl (some 39) rfl (.tmp 30) (.tmp 38) rfl w.heap.size _ ((longs m t k).map (toL (m + n))) rfl HGL6.out W5.heap.size rfl a5 (m + n) c5 hcell6 _ HG6.out ?c1 ?c2 ?_)
      case c1 => rw [List.length_map, longs_length]; omega
      case c2 => simp; omega
      intro v7 W7 hg7 hgr7
      have HG7 : Hid (Gs w.heap.size W7 v7 ((longs m t (k + 1)).map (toL (m + n)))) := Lib.hid (by
        rw [longs_succ, List.map_append]
        exact hg7)
      have HB7 : Hid (Below w.heap.size w W7) := Lib.hid (HB6.out.grown hgr7 (by simp; omega) (fun g hg => (HGL6.out.lt g hg).1))
      have hk1 : (if k + 1 = 0 then 0 else (m : Int)) = (m : Int) := by simp
      clear hg7 hgr7 hcell6
      go_wp2
      go_roundw
      case rel => exact ⟨k + 1, by omega, by go_num, by rw [hk1], HB7, HG7⟩
      case measure => simp [intOf]; omega
    · have hkn : Hid (k = n) := Lib.hid (by omega)
      have HGN : Hid (Gs w.heap.size wx (.slice al k cl) ((longs m t n).map (toL (m + n)))) := Lib.hid (by have := HG.out; rwa [hkn.out] at this ⊢)
      have HLM : Hid (∀ y ∈ longs m t n, Lin.Md p y) := Lib.hid ((longs_mem m n t).md hp1 (fun i hi => by
        have hit : i < t.length := by rw [HTN.out]; exact hi
        rw [getD_of_lt _ hit]
        exact ofL_md (by omega) (HROW.out _ (List.getElem_mem hit))))
      have HECH := Lib.hid (l01Echelon_any p (m + n) (.slice al k cl) (longs m t n) wx HP.out HGN.out.l2 HLM.out longs_wd (by omega) (by rw [longs_length]; omega))
      obtain ⟨wv, hwv⟩ : ∃ wv : Int, wv = (if k = 0 then 0 else (m : Int)) := ⟨_, rfl⟩
      have HWV : Hid (0 < n → wv = (m : Int)) := Lib.hid (fun h => by rw [hwv, if_neg (by have := hkn.out; omega)])
      have HEN : Hid (n = 0 → longs m t n = []) := Lib.hid (fun h => by rw [h]; rfl)
      rw [← hwv]
      clear hwv HG HGN
      go_wp2_with fail
      refine HECH.out.mono ?_
      rintro e w2 ⟨u2, E, rfl, hg2, hb2, hr2, hl2⟩
      have HE := Lib.hid hr2
      have HGE := Lib.hid hg2
      have HB2 := Lib.hid (HB.out.trans (hb2.mono hsz))
      have hs2 : w.heap.size ≤ w2.heap.size := HB2.out.size
      have hEl : E.length ≤ n := by rw [longs_length] at hl2; exact hl2
      have HOWN2 := Lib.hid (World.ownsRow_made (base := w.heap.size) (e := 33) (size := 1) w2 #[] 0 hs2 (by unfold maxLen; omega) (by simp))
      obtain ⟨ae, ce, hev⟩ := Sl.shape HGE.out.l2
      rw [List.length_map] at hev
      subst hev
      clear hg2 hb2 hr2 hl2 HECH HB
      go_wp2
      go_loopw [12, 13] (fun ov i wr => ∃ (q : Nat), q ≤ E.length ∧ i = .int .i64 q ∧ Hid (Below w2.heap.size w2 wr) ∧ Hid (Gs w2.heap.size wr ov ((cuts m (E.take q)).map (toL n)))) (fun _ i _ => E.length - (intOf i).toNat)
      case atStart => exact ⟨0, Nat.zero_le _, rfl, Lib.hid ((Below.refl _ _).alloc (Nat.le_refl _) _), Lib.hid ⟨[], by simpa [cuts] using World.ownsRow_made (base := w2.heap.size) (e := 33) (size := 1) w2 #[] 0 (Nat.le_refl _) (by unfold maxLen; omega) (by simp), fun k h1 _ => absurd h1 (Nat.not_lt_zero _)⟩⟩
      case round =>
        clear HOWN2
        obtain ⟨q, hq, rfl, HBX, HGO⟩ := hrel
        obtain ⟨wy, hwy⟩ : ∃ wy : World, wy = wr := ⟨_, rfl⟩
        subst hwy
        have hsy : w2.heap.size ≤ wy.heap.size := HBX.out.size
        have hcl : (cuts m (E.take q)).length ≤ q := by have := cuts_length m (E.take q); rw [List.length_take] at this; omega
        obtain ⟨ao, co, hov⟩ := Sl.shape HGO.out.l2
        rw [List.length_map] at hov
        subst hov
        by_cases hltq : q < E.length
        · have hn0 : 0 < n := by omega
          obtain rfl : wv = (m : Int) := HWV.out hn0
          obtain ⟨y, hy⟩ : ∃ y, y = E[q] := ⟨_, rfl⟩
          have HYE := Lib.hid hy
          have HYW : Hid (Lin.Wd (m + n) y) := Lib.hid (by rw [hy]; exact HE.out.wd _ (List.getElem_mem hltq))
          have HYN : Hid (y ≠ Lin.zv) := Lib.hid (by rw [hy]; exact HE.out.red.ne (List.getElem_mem hltq))
          obtain ⟨b, c2, hvv, by', cy, huy, hcap, hry⟩ := HGE.out.row (k := q) (by rw [List.length_map]; exact hltq) (by rw [List.getElem_map, toL_length]; omega)
          rw [List.getElem_map, toL_length] at huy hcap hry
          rw [← hy] at hry
          rw [List.length_map] at hvv
          obtain ⟨rfl, rfl⟩ : ae = some ⟨b, 0, none⟩ ∧ ce = c2 := by simpa using hvv
          have hry := hry.l1
          obtain ⟨b3, oy, cy3, huv, hcy⟩ := l1_toL hry (show 0 < m + n by omega)
          obtain ⟨rfl, rfl, rfl⟩ : by' = b3 ∧ oy = 0 ∧ cy = cy3 := by
            injection huv with e1 _ e3
            injection e1 with e1
            injection e1 with e1 e2
            exact ⟨e1, e2.symm, e3⟩
          have HRY := Lib.hid hry
          have hne1 : ¬ cy = m := by omega
          have hne2 : ¬ m = cy := by omega
          have huy2 := later HBX.out (Nat.le_refl _) huy
          have hlead := l01Lead_any _ _ wy (hry.below HBX.out) (by rw [toL_length]; omega)
          rw [leadOf_toL HYW.out HYN.out] at hlead
          have HLEAD := Lib.hid hlead
          have hldlt := (ld_ltn HYW.out HYN.out).1
          have HTAIL : Hid (L1 0 w2 (.slice (some ⟨by', m, none⟩) n (cy - m)) (toL n (Lin.tail m y))) := Lib.hid (Or.inr ⟨by', m, cy - m, by rw [toL_length], Nat.zero_le _, by rw [toL_length]; omega, fun i hi => by
            rw [toL_length] at hi
            refine ⟨_, by have := hcy (m + i) (by omega); rwa [Nat.zero_add] at this, ?_⟩
            rw [toL_get]
            rfl⟩)
          clear hvv huy hry hy hlead hcy huv
          by_cases hge : m ≤ Lin.ld y
          · have hge2 : (m : Int) ≤ (Lin.ld y : Int) := by omega
            have hmn : m + n - m = n := by omega
            have hm0 : (0 : Int) ≤ (m : Int) := by omega
            have HCUT : Hid (cuts m (E.take (q + 1)) = cuts m (E.take q) ++ [Lin.tail m y]) := Lib.hid (by rw [cuts_keep hltq (by rw [← HYE.out]; exact hge), ← HYE.out])
            go_wp2_with fail
            refine HLEAD.out.mono ?_
            rintro e w' ⟨rfl, rfl⟩
            go_wp2_with fail
            refine (l01Own_any _ (toL n (Lin.tail m y)) wy (HTAIL.out.below HBX.out) (by rw [toL_length]; omega)).mono ?_
            rintro e W4 ⟨u4, rfl, hg4, hb4⟩
            obtain ⟨a4, c4, hv4⟩ := l1_slice hg4.l1
            subst hv4
            have hba : Below W4.heap.size W4 (W4.alloc (.cells #[.slice a4 n c4] 33)) := below_alloc1 _ _
            have hs4 : wy.heap.size ≤ W4.heap.size := hb4.size
            have HG4 := Lib.hid (hg4.g1.below hba)
            have HGO4 := Lib.hid ((HGO.out.below hb4).below hba)
            have hcell4 := cell_alloc1 W4 (.slice a4 n c4) 33
            have HB4 := Lib.hid ((HBX.out.trans (hb4.mono hsy)).trans (hba.mono (show w2.heap.size ≤ W4.heap.size by omega)))
            clear hg4 hb4 hba huy2
            go_wp2_with (at_builtin; refine wpList_appendG rfl (some 66) rfl (.tmp 57) (.tmp 65) rfl w2.heap.size _ ((cuts m (E.take q)).map (toL n)) rfl HGO4.out W4.heap.size rfl a4 n c4 hcell4 _ HG4.out ?c1 ?c2 ?_)
            case c1 => rw [List.length_map]; omega
            case c2 => simp; omega
            intro v7 W7 hg7 hgr7
            have HG7 : Hid (Gs w2.heap.size W7 v7 ((cuts m (E.take (q + 1))).map (toL n))) := Lib.hid (by
              rw [HCUT.out, List.map_append]
              exact hg7)
            have HB7 : Hid (Below w2.heap.size w2 W7) := Lib.hid (HB4.out.grown hgr7 (by simp; omega) (fun g hg => (HGO4.out.lt g hg).1))
            clear hg7 hgr7 hcell4
            go_wp2
            go_roundw
            case rel => exact ⟨q + 1, by omega, by go_num, HB7, HG7⟩
            case measure => simp [intOf]; omega
          · have hge2 : ¬ ((m : Int) ≤ (Lin.ld y : Int)) := by omega
            have HCUT : Hid (cuts m (E.take (q + 1)) = cuts m (E.take q)) := Lib.hid (by rw [cuts_skip hltq (by rw [← HYE.out]; exact hge)])
            go_wp2_with fail
            refine HLEAD.out.mono ?_
            rintro e w' ⟨rfl, rfl⟩
            clear huy2
            go_wp2
            go_roundw
            case rel => exact ⟨q + 1, by omega, by go_num, HBX, Lib.hid (by have := HGO.out; rw [HCUT.out]; exact this)⟩
            case measure => simp [intOf]; omega
        · have hqq : Hid (E.take q = E) := Lib.hid (List.take_of_length_le (by omega))
          have HSP := Lib.hid (kernel_spf hp1 HE.out)
          go_wp2
          go_ret
          exact ⟨_, cuts m (E.take q), rfl, HGO.out.mono hs2, HB2.out.trans (HBX.out.mono hs2), by rw [hqq.out]; exact HSP.out⟩
end Go.Proofs.YtckkbojankfdfaaDoor

namespace Go.Proofs.YtckkbojankfdfaaDoor
open Go.RowKit

def bl : List Value := List.replicate 40 (.bool false)
set_option maxRecDepth 100000 in
theorem allocB_run (ρ : Operand → Value) (o : Oper) (w : World) : (execOp ρ { o with op := .alloc 105 }).run Tryd.prog w = .ok (.value (.pointer (some ⟨w.heap.size, 0, none⟩))) (w.alloc (.cells bl.toArray 105)) := by kernel_rfl
theorem rowIs_bl (w : World) : (w.alloc (.cells bl.toArray 105)).rowIs w.heap.size 105 40 (fun _ => .bool false) := by
  have h := World.rowIs_alloc w bl.toArray 105 (fun _ => .bool false) (fun i hi => by
    have hi' : i < 40 := by simpa [bl] using hi
    rw [List.getElem?_toArray, bl, List.getElem?_replicate, if_pos hi'])
  simpa [bl] using h
theorem wpList_allocB {ops : Array Oper} {rest : List Oper} {o : Oper} {a : Act} {w : World} {Q : Exit → Act → World → Prop} (hg : o.guard = none) (dst : Option Tmp) (hdst : o.dst = dst) (ho : o.op = .alloc 105)
    (h : ∀ W, Below w.heap.size w W → W.heap.size = w.heap.size + 1 → W.rowIs w.heap.size 105 40 (fun _ => .bool false) → wpList Tryd.prog ops Q rest (a.put dst (.pointer (some ⟨w.heap.size, 0, none⟩))) W) : wpList Tryd.prog ops Q (o :: rest) a w := by
  refine Great.wpList_runTo hg dst hdst (.pointer (some ⟨w.heap.size, 0, none⟩)) (w.alloc (.cells bl.toArray 105)) ?_ (h _ (below_alloc1 _ _) (by simp) (rowIs_bl w))
  have := allocB_run a.eval o w
  rw [← ho] at this
  exact this
theorem hindexB (b : Nat) {k : Nat} (hk : k < 40) (w : World) : (Instr.indexAt 105 (.pointer (some ⟨b, 0, none⟩)) (.int .i64 k)).run Tryd.prog w = .ok (.pointer (some ⟨b, k, none⟩)) w := by
  have h2 : (0 : Int) ≤ (k : Int) := by omega
  have h3 : (k : Int) < 40 := by omega
  have h4 : ¬ (40 : Int) ≤ (k : Int) := by omega
  go_simp
theorem hremI {a b : Int} (h0 : 0 ≤ a) (h1 : 0 < b) (h2 : b ≤ 1000) (w : World) : (binOp .rem 2 (.int .i64 a) (.int .i64 b)).run Tryd.prog w = .ok (.int .i64 (a % b)) w := by
  have hb : ¬ b = 0 := by omega
  have hb1 : ¬ b = -1 := by omega
  go_simp
  rw [Int.tmod_eq_emod_of_nonneg h0]
theorem hstoreI (w : World) {b o : Nat} {u : Value} (x : Int) (hc : w.cell? ⟨b, o, none⟩ = some u) (hf : w.frozen? ⟨b, o, none⟩ = false) : (Instr.storeAt 2 (.pointer (some ⟨b, o, none⟩)) (.int .i64 x)).run Tryd.prog w = .ok () (w.setCell ⟨b, o, none⟩ (.int .i64 x)) := by go_simp
section
variable {md : Region.Mode} {ops : Array Oper} {Q : Exit → Act → World → Prop} {S : World → Prop}
/-- A store of one number. -/
theorem held_storeI {i : Nat} {oi : Oper} {fuel : Nat} {listed : Array Bool} {a : Act} {w : World} (hr : Region.ready md ops listed = [i]) (hi : ops[i]? = some oi) (hg : oi.guard = none) (hd : oi.dst = none)
    (x y : Operand) (ho : oi.op = .store 2 x y) (b o : Nat) (z : Int) (u : Value) (hx : a.eval x = .pointer (some ⟨b, o, none⟩)) (hy : a.eval y = .int .i64 z) (hc : w.cell? ⟨b, o, none⟩ = some u) (hf : w.frozen? ⟨b, o, none⟩ = false)
    (h : S (w.setCell ⟨b, o, none⟩ (.int .i64 z)) ∧ wpAnyH Tryd.prog md ops Q S fuel (listed.setIfInBounds i true) a (w.setCell ⟨b, o, none⟩ (.int .i64 z))) : wpAnyH Tryd.prog md ops Q S (fuel + 1) listed a w :=
  held_call hr hi hg (by
    have e : a.put oi.dst undef = a := by rw [hd]; rfl
    rw [← e] at h
    unfold Oper.wp execOp
    simp only [ho, hx, hy, Sem.run_bind, Sem.run_pure, hstoreI w z hc hf, Result.andThen_ok]
    exact h)
end

open Classical in
/-- Whether a place is a lead of the first k rows. -/
noncomputable def isLd (R : List Lin.V) (k i : Nat) : Bool := decide (∃ w ∈ R.take k, Lin.ld w = i)
theorem isLd_true {R : List Lin.V} {i : Nat} (h : isLd R R.length i = true) : ¬ Lin.Free R i := fun hf => by
  obtain ⟨w, hw, e⟩ := of_decide_eq_true h
  rw [List.take_of_length_le (Nat.le_refl _)] at hw
  exact hf w hw e
theorem isLd_false {R : List Lin.V} {i : Nat} (h : isLd R R.length i = false) : Lin.Free R i := fun w hw e => by
  have := of_decide_eq_false h
  exact this ⟨w, by rw [List.take_of_length_le (Nat.le_refl _)]; exact hw, e⟩
theorem isLd_succ {R : List Lin.V} {k : Nat} (hk : k < R.length) (i : Nat) : isLd R (k + 1) i = if i = Lin.ld R[k] then true else isLd R k i := by
  unfold isLd
  rw [List.take_succ_eq_append_getElem hk]
  by_cases e : i = Lin.ld R[k]
  · rw [if_pos e]
    exact decide_eq_true ⟨R[k], List.mem_append_right _ (List.mem_singleton.2 rfl), e.symm⟩
  · rw [if_neg e]
    refine decide_eq_decide.2 ⟨fun ⟨w, hw, h⟩ => ?_, fun ⟨w, hw, h⟩ => ⟨w, List.mem_append_left _ hw, h⟩⟩
    rcases List.mem_append.1 hw with h1 | h1
    · exact ⟨w, h1, h⟩
    · rw [List.mem_singleton.1 h1] at h
      exact absurd h.symm e

/-- The solutions gathered from the places before f. -/
structure Sols (p : Int) (R : List Lin.V) (f : Nat) (L : List Lin.V) : Prop where
  all : ∀ g, g < f → Lin.Free R g → ∃ s ∈ L, Lin.Sol p R g s
  only : ∀ s ∈ L, ∃ g, g < f ∧ Lin.Free R g ∧ Lin.Sol p R g s
  len : L.length ≤ f
theorem Sols.nil (p : Int) (R : List Lin.V) : Sols p R 0 [] := ⟨fun g h => absurd h (Nat.not_lt_zero _), by simp, by simp⟩
theorem Sols.skip {p : Int} {R : List Lin.V} {f : Nat} {L : List Lin.V} (h : Sols p R f L) (hf : ¬ Lin.Free R f) : Sols p R (f + 1) L :=
  ⟨fun g hg hfr => by
    by_cases e : g = f
    · subst e; exact absurd hfr hf
    · exact h.all g (by omega) hfr, fun s hs => by obtain ⟨g, h1, h2⟩ := h.only s hs; exact ⟨g, by omega, h2⟩, by have := h.len; omega⟩
theorem Sols.add {p : Int} {R : List Lin.V} {f : Nat} {L : List Lin.V} (h : Sols p R f L) (hf : Lin.Free R f) {s : Lin.V} (hs : Lin.Sol p R f s) : Sols p R (f + 1) (L ++ [s]) :=
  ⟨fun g hg hfr => by
    by_cases e : g = f
    · subst e; exact ⟨s, by simp, hs⟩
    · obtain ⟨t, ht, h2⟩ := h.all g (by omega) hfr
      exact ⟨t, by simp [ht], h2⟩, fun t ht => by
    rcases List.mem_append.1 ht with h1 | h1
    · obtain ⟨g, h2, h3⟩ := h.only t h1; exact ⟨g, by omega, h3⟩
    · rw [List.mem_singleton.1 h1]; exact ⟨f, by omega, hf, hs⟩, by have := h.len; simp; omega⟩
theorem sol_wd {p : Int} {R : List Lin.V} {n f : Nat} {s : Lin.V} (hR : Lin.Red p R) (hw : ∀ u ∈ R, Lin.Wd n u) (hf : f < n) (h : Lin.Sol p R f s) : Lin.Wd n s := fun i hi => h.rest i (by omega) (fun w hww e => by
  have := (ld_ltn (hw w hww) (hR.ne hww)).1
  omega)
/-- A solution while it is made: k rows have been seen. -/
structure SolTo (p : Int) (R : List Lin.V) (f k : Nat) (s : Lin.V) : Prop where
  at1 : s f = 1
  lead : ∀ w ∈ R.take k, s (Lin.ld w) = (p - w f) % p
  rest : ∀ i, i ≠ f → (∀ w ∈ R.take k, Lin.ld w ≠ i) → s i = 0
theorem SolTo.start (p : Int) (R : List Lin.V) (f : Nat) : SolTo p R f 0 (fun i => if i = f then 1 else Lin.zv i) := ⟨by simp, by simp, fun i h _ => by simp [h, Lin.zv]⟩
theorem SolTo.step {p : Int} {R : List Lin.V} {f k : Nat} {s : Lin.V} (hR : Lin.Red p R) (hf : Lin.Free R f) (h : SolTo p R f k s) (hk : k < R.length) : SolTo p R f (k + 1) (fun i => if i = Lin.ld R[k] then (p - R[k] f) % p else s i) := by
  have hne : ∀ w ∈ R.take k, Lin.ld w ≠ Lin.ld R[k] := fun w hw e => by
    obtain ⟨j, hj, rfl⟩ := List.getElem_of_mem hw
    have hjk : j < k := by simp at hj; omega
    have := List.pairwise_iff_getElem.1 hR.inc j k (by omega) hk hjk
    rw [List.getElem_take] at e
    omega
  refine ⟨?_, fun w hw => ?_, fun i hi hn => ?_⟩
  · rw [if_neg (fun e => hf _ (List.getElem_mem hk) e.symm)]
    exact h.at1
  · rw [List.take_succ_eq_append_getElem hk] at hw
    rcases List.mem_append.1 hw with h1 | h1
    · rw [if_neg (hne w h1)]
      exact h.lead w h1
    · rw [List.mem_singleton.1 h1, if_pos rfl]
  · have hn2 := hn R[k] (by rw [List.take_succ_eq_append_getElem hk]; exact List.mem_append_right _ (List.mem_singleton.2 rfl))
    rw [if_neg (fun e => hn2 e.symm)]
    exact h.rest i hi (fun w hw => hn w (by rw [List.take_succ_eq_append_getElem hk]; exact List.mem_append_left _ hw))
theorem SolTo.done {p : Int} {R : List Lin.V} {f : Nat} {s : Lin.V} (h : SolTo p R f R.length s) : Lin.Sol p R f s := by
  have e : R.take R.length = R := List.take_of_length_le (Nat.le_refl _)
  exact ⟨h.at1, fun w hw => h.lead w (by rw [e]; exact hw), fun i hi hn => h.rest i hi (fun w hw => hn w (by rw [e] at hw; exact hw))⟩

set_option maxHeartbeats 12800000 in
set_option maxRecDepth 100000 in
theorem annihilator_any (p : Int) (n : Nat) (s : Value) (L : List Lin.V) (w : World) (hp : IsP p) (hs : Vs 0 w s L) (hLm : ∀ u ∈ L, Lin.Md p u) (hLw : ∀ u ∈ L, Lin.Wd n u) (hn : n ≤ 40) (hl : L.length ≤ 1048575) :
    Calls Tryd.prog 88 #[.int .i64 p, .int .i64 n, s] w (VsR (SpF p n (Lin.Ker p n L)) w) := by
  have HP := Lib.hid hp
  have hp7 := hp.hi7
  have hp1 := hp.lo1
  have HLM := Lib.hid hLm
  have HLW := Lib.hid hLw
  have HRED := Lib.hid (reducedList_any p s L w hp hs hLm (fun u hu => wd_wider (hLw u hu) hn) hl)
  clear hp hs hLm hLw
  go_enter Tryd.func88, Tryd.ntmps88
  go_wp2_with fail
  refine HRED.out.mono ?_
  rintro e w1 ⟨s1, R, rfl, hb1, ho1, hr1, hlr⟩
  have HB1 := Lib.hid hb1
  have HR := Lib.hid hr1
  have HVS := Lib.hid (ho1.vs.lower (Nat.zero_le _))
  have HRW : Hid (∀ u ∈ R, Lin.Wd n u) := Lib.hid (fun u hu => Lin.Sp.wd HLW.out ((hr1.eqv u).1 (Lin.Sp.mem hu (hr1.red.md u hu))))
  have hRn : R.length ≤ n := red_length hr1.red HRW.out
  obtain ⟨ads, caps, rfl⟩ := ho1.shape
  clear hb1 ho1 hr1 hlr HRED
  go_wp2_with (with_reducible refine wpList_allocB rfl (some 8) rfl rfl ?_; intro w2 hb2 hs2 hrow2; have HB2 := Lib.hid hb2; have HROW2 := Lib.hid hrow2; clear hb2 hrow2)
  go_wp2
  go_loopw [10, 21] (fun _ i wr => ∃ (k : Nat), k ≤ R.length ∧ i = .int .i64 k ∧ Hid (Below w1.heap.size w1 wr) ∧ Hid (wr.rowIs w1.heap.size 105 40 (fun i => .bool (isLd R k i)))) (fun _ i _ => R.length - (intOf i).toNat)
  case atStart => exact ⟨0, Nat.zero_le _, rfl, HB2, Lib.hid (HROW2.out.congr (fun i _ => by simp [isLd]))⟩
  case round =>
    clear HB2 HROW2
    obtain ⟨k, hk, rfl, HB, HROW⟩ := hrel
    obtain ⟨wx, hwx⟩ : ∃ wx : World, wx = wr := ⟨_, rfl⟩
    subst hwx
    by_cases hlt : k < R.length
    · refine Vs.cases (HVS.out.below HB.out) (fun _ _ hx _ => absurd hlt (by simp [hx])) (fun b o cap2 hv _ _ hc => ?_)
      obtain ⟨rfl, rfl⟩ : ads = some ⟨b, o, none⟩ ∧ caps = cap2 := by simpa using hv
      obtain ⟨u, hu⟩ : ∃ u, u = R[k] := ⟨_, rfl⟩
      have HVA : Hid (At wx b (o + k * 40) u) := Lib.hid (by rw [hu]; exact hc k hlt)
      have HI2V := Lib.hid (Tryd.infoVl u)
      have HIS : Hid ((Tryd.prog.info? 82).map (·.size) = some (vl u).toArray.size) := Lib.hid (by have := HI2V.out; simpa using this)
      have HUW : Hid (Lin.Wd 40 u) := Lib.hid (by rw [hu]; exact wd_wider (HRW.out _ (List.getElem_mem hlt)) hn)
      have HUN : Hid (u ≠ Lin.zv) := Lib.hid (by rw [hu]; exact HR.out.red.ne (List.getElem_mem hlt))
      obtain ⟨hd40, _, _⟩ := ld_lt HUW.out HUN.out
      obtain ⟨d, hd⟩ : ∃ d, d = Lin.ld u := ⟨_, rfl⟩
      have HD := Lib.hid hd
      have HUE := Lib.hid hu
      rw [← hd] at hd40
      have hsz : w1.heap.size ≤ wx.heap.size := HB.out.size
      clear hv hc hu hd
      go_upto_region 6 with (first | (with_reducible refine wpList_load_mid rfl 82 (.tmp 23) rfl b (o + k * 40) rfl (vl u) _ HVA.out.range Tryd.underlyingV rfl HI2V.out ?_) | (with_reducible refine wpList_allocV rfl (some 10) rfl rfl ?_; intro W2 hn2; have HN2 := Lib.hid hn2; have HT2 : Hid (W2.there wx.heap.size 0 (vl u).toArray.size) := (Lib.hid (by have := hn2.there; simpa [vl_length] using this)); clear hn2) | (with_reducible refine wpList_store_mid rfl 82 (.tmp 10) (.tmp 24) rfl wx.heap.size 0 (vl u).toArray rfl rfl HT2.out HIS.out (vl_all _) ?_))
      refine forget_wp (fun W => Hid (At W wx.heap.size 0 u ∧ Below wx.heap.size wx W)) (Lib.hid ?_) ?_
      · have hp2 := HN2.out.put u
        exact ⟨hp2.2.1, hp2.1⟩
      intro W3 HS3
      clear HN2 HT2 HVA HIS
      simp only [Act.put]
      go_wp2_with (with_reducible refine wpList_load_mid rfl 82 (.tmp 10) rfl wx.heap.size 0 rfl (vl u) _ HS3.out.1.range Tryd.underlyingV rfl HI2V.out ?_)
      refine (leadOf_any u _ HUW.out HUN.out).mono ?_
      rw [← HD.out]
      rintro e W4 ⟨rfl, hb4⟩
      have HB4 := Lib.hid ((HB.out.trans (HS3.out.2.mono hsz)).trans (hb4.mono (by have := HS3.out.2.size; omega)))
      have HROW4 := Lib.hid (rowIs_below (rowIs_below HROW.out HS3.out.2) hb4)
      have hcell := HROW4.out.cell hd40
      have hfz := HROW4.out.frozen d
      have hib := hindexB w1.heap.size hd40
      have HROW5 := Lib.hid ((HROW4.out.set d (.bool true)).congr (g := fun i => .bool (isLd R (k + 1) i)) (fun i _ => by
        rw [isLd_succ hlt, ← HUE.out, ← HD.out]
        by_cases e : i = d
        · simp [e]
        · simp [e]))
      have HB5 : Hid (Below w1.heap.size w1 (W4.setCell ⟨w1.heap.size, d, none⟩ (.bool true))) := Lib.hid (HB4.out.setCell (Nat.le_refl _) _)
      clear hb4 HS3 HROW4 HB4 HROW HB
      go_wp2
      go_roundw
      case rel => exact ⟨k + 1, by omega, by go_num, HB5, HROW5⟩
      case measure => simp [intOf]; omega
    · have hkk : Hid (k = R.length) := Lib.hid (by omega)
      have HROWL : Hid (wx.rowIs w1.heap.size 105 40 (fun i => .bool (isLd R R.length i))) := Lib.hid (by have := HROW.out; rwa [hkk.out] at this)
      have HVSL := Lib.hid (HVS.out.below HB.out)
      have hsL : w.heap.size ≤ wx.heap.size := by have := HB1.out.size; have := HB.out.size; omega
      have HBL := Lib.hid (HB1.out.trans (HB.out.mono HB1.out.size))
      obtain ⟨wl, hwl⟩ : ∃ wl : World, wl = wx := ⟨_, rfl⟩
      subst hwl
      clear HROW HB HVS HB1 hkk
      go_wp2
      go_loopw [11, 30] (fun sv i wr => ∃ (f : Nat) (SL : List Lin.V), f ≤ n ∧ i = .int .i64 f ∧ Hid (Below wl.heap.size wl wr) ∧ Hid (Ow wl.heap.size wr sv SL) ∧ Hid (Sols p R f SL)) (fun _ i _ => n - (intOf i).toNat)
      case atStart => exact ⟨0, [], Nat.zero_le _, rfl, Lib.hid (Below.refl _ _), Lib.hid (Ow.nil _ _), Lib.hid (Sols.nil p R)⟩
      case round =>
        obtain ⟨f, SL, hf, rfl, HB, HO, HSL⟩ := hrel
        obtain ⟨wx, hwx⟩ : ∃ wx : World, wx = wr := ⟨_, rfl⟩
        subst hwx
        obtain ⟨ado, capo, rfl⟩ := HO.out.shape
        have hsx : wl.heap.size ≤ wx.heap.size := HB.out.size
        by_cases hfn : f < n
        · have hf40 : f < 40 := by omega
          have hib := hindexB w1.heap.size hf40
          have hcell := (rowIs_below HROWL.out HB.out).cell hf40
          cases hfree : isLd R R.length f with
          | true =>
            rw [hfree] at hcell
            have HS2 := Lib.hid (HSL.out.skip (isLd_true hfree))
            clear hfree
            go_wp2
            go_roundw
            case rel => exact ⟨f + 1, SL, by omega, by go_num, HB, HO, HS2⟩
            case measure => simp [intOf]; omega
          | false =>
            rw [hfree] at hcell
            have HFR := Lib.hid (isLd_false hfree)
            have HI2V := Lib.hid (Tryd.infoVl Lin.zv)
            have HIS : Hid ((Tryd.prog.info? 82).map (·.size) = some (vl Lin.zv).toArray.size) := Lib.hid (by have := HI2V.out; simpa using this)
            clear hfree
            go_upto_region 14 with (first | (with_reducible refine wpList_buildZ rfl (some 36) rfl rfl ?_) | (with_reducible refine wpList_allocV rfl (some 13) rfl rfl ?_; intro W2 hn2; have HN2 := Lib.hid hn2; have HT2 : Hid (W2.there wx.heap.size 0 (vl Lin.zv).toArray.size) := (Lib.hid (by have := hn2.there; simpa [vl_length] using this)); clear hn2) | (with_reducible refine wpList_store_mid rfl 82 (.tmp 13) (.tmp 36) rfl wx.heap.size 0 (vl Lin.zv).toArray rfl rfl HT2.out HIS.out (vl_all _) ?_))
            refine forget_wp (fun W => Hid (At W wx.heap.size 0 Lin.zv ∧ W.there wx.heap.size 0 40 ∧ Below wx.heap.size wx W)) (Lib.hid ?_) ?_
            · have hp2 := HN2.out.put Lin.zv
              exact ⟨hp2.2.1, World.there_setCells HN2.out.there _ _ _, hp2.1⟩
            intro W3 HS3
            clear HN2 HT2 HI2V HIS hcell hib
            simp only [Act.put]
            have hc3 := HS3.out.1.cell hf40
            rw [Nat.zero_add] at hc3
            have hf3 := (HS3.out.2.1 f hf40).2
            rw [Nat.zero_add] at hf3
            have hiv := hindexV wx.heap.size hf40
            have hat4 := HS3.out.1.set hf40 1
            rw [Nat.zero_add] at hat4
            obtain ⟨v1, hv1⟩ : ∃ v1 : Lin.V, v1 = (fun i => if i = f then 1 else Lin.zv i) := ⟨_, rfl⟩
            rw [← hv1] at hat4
            have HST : Hid (SolTo p R f 0 v1) := Lib.hid (by rw [hv1]; exact SolTo.start p R f)
            have HN4 : Hid (Below wx.heap.size wx (W3.setCell ⟨wx.heap.size, f, none⟩ (.int .i64 1)) ∧ At (W3.setCell ⟨wx.heap.size, f, none⟩ (.int .i64 1)) wx.heap.size 0 v1 ∧ (W3.setCell ⟨wx.heap.size, f, none⟩ (.int .i64 1)).there wx.heap.size 0 40) := Lib.hid ⟨HS3.out.2.2.setCell (Nat.le_refl _) _, hat4, there_set HS3.out.2.1 _ _⟩
            clear hat4 hv1 HS3
            go_wp2
            clear hc3 hf3 hiv
            have HBW := Lib.hid (HB.out)
            obtain ⟨wo, hwo⟩ : ∃ wo : World, wo = wx := ⟨_, rfl⟩
            subst hwo
            go_loopw [15, 41] (fun _ i wr => ∃ (j : Nat) (v : Lin.V), j ≤ R.length ∧ i = .int .i64 j ∧ Hid (Below wo.heap.size wo wr) ∧ Hid (At wr wo.heap.size 0 v) ∧ Hid (wr.there wo.heap.size 0 40) ∧ Hid (SolTo p R f j v)) (fun _ i _ => R.length - (intOf i).toNat)
            case atStart => exact ⟨0, v1, Nat.zero_le _, rfl, Lib.hid HN4.out.1, Lib.hid HN4.out.2.1, Lib.hid HN4.out.2.2, HST⟩
            case round =>
              clear HN4 HST
              obtain ⟨j, v, hj, rfl, HBX, HAT, HTH, HSO⟩ := hrel
              obtain ⟨wx, hwx⟩ : ∃ wx : World, wx = wr := ⟨_, rfl⟩
              subst hwx
              have hsw : wo.heap.size ≤ wx.heap.size := HBX.out.size
              have hvlt : wo.heap.size < wx.heap.size := HAT.out.lt
              by_cases hltj : j < R.length
              · refine Vs.cases (HVSL.out.below (HB.out.trans (HBX.out.mono hsx))) (fun _ _ hx _ => absurd hltj (by simp [hx])) (fun b o cap2 hv _ _ hc => ?_)
                obtain ⟨rfl, rfl⟩ : ads = some ⟨b, o, none⟩ ∧ caps = cap2 := by simpa using hv
                obtain ⟨u, hu⟩ : ∃ u, u = R[j] := ⟨_, rfl⟩
                have HVA : Hid (At wx b (o + j * 40) u) := Lib.hid (by rw [hu]; exact hc j hltj)
                have HI2V := Lib.hid (Tryd.infoVl u)
                have HIS : Hid ((Tryd.prog.info? 82).map (·.size) = some (vl u).toArray.size) := Lib.hid (by have := HI2V.out; simpa using this)
                have HUW : Hid (Lin.Wd 40 u) := Lib.hid (by rw [hu]; exact wd_wider (HRW.out _ (List.getElem_mem hltj)) hn)
                have HUN : Hid (u ≠ Lin.zv) := Lib.hid (by rw [hu]; exact HR.out.red.ne (List.getElem_mem hltj))
                have HUM : Hid (Lin.Md p u) := Lib.hid (by rw [hu]; exact HR.out.red.md _ (List.getElem_mem hltj))
                obtain ⟨hd40, _, _⟩ := ld_lt HUW.out HUN.out
                obtain ⟨d, hd⟩ : ∃ d, d = Lin.ld u := ⟨_, rfl⟩
                have HD := Lib.hid hd
                have HUE := Lib.hid hu
                rw [← hd] at hd40
                obtain ⟨x, hx⟩ : ∃ x, x = u f := ⟨_, rfl⟩
                have hxb := HUM.out f
                rw [← hx] at hxb
                have HXE := Lib.hid hx
                obtain ⟨y, hy⟩ : ∃ y, y = (p - x) % p := ⟨_, rfl⟩
                have HYE := Lib.hid hy
                have hrem : ∀ w, (binOp .rem 2 (.int .i64 (p - x)) (.int .i64 p)).run Tryd.prog w = .ok (.int .i64 y) w := fun w => by rw [hy]; exact hremI (by omega) (by omega) (by omega) w
                have HLD := Lib.hid (leadOf_any u · HUW.out HUN.out)
                rw [← HD.out] at HLD
                have HSO2 : Hid (SolTo p R f (j + 1) (fun i => if i = d then y else v i)) := Lib.hid (by
                  have := HSO.out.step HR.out.red HFR.out hltj
                  rwa [← HUE.out, ← HD.out, ← HXE.out, ← HYE.out] at this)
                clear hv hc hu hd hx hy
                go_upto_region 18 with (first | (with_reducible refine wpList_load_mid rfl 82 (.tmp 43) rfl b (o + j * 40) rfl (vl u) _ HVA.out.range Tryd.underlyingV rfl HI2V.out ?_) | (with_reducible refine wpList_allocV rfl (some 15) rfl rfl ?_; intro W2 hn2; have HN2 := Lib.hid hn2; have HT2 : Hid (W2.there wx.heap.size 0 (vl u).toArray.size) := (Lib.hid (by have := hn2.there; simpa [vl_length] using this)); clear hn2) | (with_reducible refine wpList_store_mid rfl 82 (.tmp 15) (.tmp 44) rfl wx.heap.size 0 (vl u).toArray rfl rfl HT2.out HIS.out (vl_all _) ?_))
                refine forget_wp (fun W => Hid (At W wx.heap.size 0 u ∧ Below wx.heap.size wx W)) (Lib.hid ?_) ?_
                · have hp2 := HN2.out.put u
                  exact ⟨hp2.2.1, hp2.1⟩
                intro W3 HS3
                clear HN2 HT2 HVA HIS
                simp only [Act.put, List.setIfInBounds_toArray, List.set_cons_zero, List.set_cons_succ]
                have hcx : ∀ W, (At W wx.heap.size 0 u ∧ Below wo.heap.size wo W) → W.cell? ⟨wx.heap.size, f, none⟩ = some (.int .i64 x) := fun W h => by
                  have := h.1.cell hf40
                  rwa [Nat.zero_add, ← HXE.out] at this
                refine wp_region_held (S := fun W => At W wx.heap.size 0 u ∧ Below wo.heap.size wo W) (by kernel_rfl) ?_
                have hb3 : Below wx.heap.size wx W3.drew := HS3.out.2.drew
                have S0 : At W3.drew wx.heap.size 0 u ∧ Below wo.heap.size wo W3.drew := ⟨HS3.out.1, HBX.out.trans (hb3.mono hsw)⟩
                refine held_take (i := 0) (v := .agg (vl u).toArray) (some 45) rfl rfl (by kernel_rfl) (by kernel_rfl) (by kernel_rfl) (fun _ _ _ h => h) (yieldsIf_load_mid (by kernel_rfl) 82 (.tmp 15) (by kernel_rfl) wx.heap.size 0 (by kernel_rfl) (vl u) _ (fun W h => h.1) Tryd.underlyingV rfl HI2V.out) S0 ?_
                refine held_take (i := 2) (v := .int .i64 p) (some 47) rfl rfl (by kernel_rfl) (by kernel_rfl) (by kernel_rfl) (fun _ _ _ h => h) (yieldsIf_move (by kernel_rfl) rfl (by kernel_rfl)) S0 ?_
                refine held_take (i := 3) (v := .int .i64 (f : Int)) (some 48) rfl rfl (by kernel_rfl) (by kernel_rfl) (by kernel_rfl) (fun _ _ _ h => h) (yieldsIf_move (by kernel_rfl) rfl (by kernel_rfl)) S0 ?_
                refine held_take (i := 4) (v := .pointer (some ⟨wx.heap.size, f, none⟩)) (some 49) rfl rfl (by kernel_rfl) (by kernel_rfl) (by kernel_rfl) (fun _ _ _ h => h) (yieldsIf_index (by kernel_rfl) rfl (by kernel_rfl) (by kernel_rfl) (hindexV wx.heap.size hf40)) S0 ?_
                refine held_take (i := 5) (v := .int .i64 x) (some 50) rfl rfl (by kernel_rfl) (by kernel_rfl) (by kernel_rfl) (fun _ _ _ h => h) (yieldsIf_cell (by kernel_rfl) rfl (by kernel_rfl) (fun W h => hload W (hcx W h))) S0 ?_
                refine held_take (i := 6) (v := .int .i64 (p - x)) (some 51) rfl rfl (by kernel_rfl) (by kernel_rfl) (by kernel_rfl) (fun _ _ _ h => h) (yieldsIf_bin (by kernel_rfl) rfl (by kernel_rfl) (by kernel_rfl) (fun _ => rfl) (hsubI (by omega) (by omega))) S0 ?_
                refine held_take (i := 7) (v := .int .i64 p) (some 52) rfl rfl (by kernel_rfl) (by kernel_rfl) (by kernel_rfl) (fun _ _ _ h => h) (yieldsIf_move (by kernel_rfl) rfl (by kernel_rfl)) S0 ?_
                refine held_take (i := 8) (v := .int .i64 y) (some 53) rfl rfl (by kernel_rfl) (by kernel_rfl) (by kernel_rfl) (fun _ _ _ h => h) (yieldsIf_bin (by kernel_rfl) rfl (by kernel_rfl) (by kernel_rfl) (fun _ => rfl) hrem) S0 ?_
                refine held_enter (i := 1) (some 46) (f := 81) (args := #[vv u]) (by kernel_rfl) rfl rfl rfl (by kernel_rfl) (HLD.out _) ?_ (fun c w' h => by cases h.1) (fun w' h => by cases h.1)
                rintro e4 W4 ⟨he4, hb4⟩
                injection he4 with he4
                subst he4
                have hb34 : Below wx.heap.size wx W4 := hb3.trans (hb4.mono hb3.size)
                have S1 : At W4 wx.heap.size 0 u ∧ Below wo.heap.size wo W4 := ⟨S0.1.later hb4, HBX.out.trans (hb34.mono hsw)⟩
                refine ⟨S1, ?_⟩
                refine held_take (i := 9) (v := .pointer (some ⟨wo.heap.size, d, none⟩)) (some 54) rfl rfl (by kernel_rfl) (by kernel_rfl) (by kernel_rfl) (fun _ _ _ h => h) (yieldsIf_index (by kernel_rfl) rfl (by kernel_rfl) (by kernel_rfl) (hindexV wo.heap.size hd40)) S1 ?_
                have HAT4 := HAT.out.later hb34
                have HTH4 := there_below HTH.out hb34 hvlt
                have hc4 := HAT4.cell hd40
                rw [Nat.zero_add] at hc4
                have hf4 := (HTH4 d hd40).2
                rw [Nat.zero_add] at hf4
                have hat5 := HAT4.set hd40 y
                rw [Nat.zero_add] at hat5
                have S2 : At (W4.setCell ⟨wo.heap.size, d, none⟩ (.int .i64 y)) wx.heap.size 0 u ∧ Below wo.heap.size wo (W4.setCell ⟨wo.heap.size, d, none⟩ (.int .i64 y)) := ⟨S1.1.setOther (by show wo.heap.size ≠ wx.heap.size; omega) _, S1.2.setCell (Nat.le_refl _) _⟩
                have HN5 : Hid (Below wo.heap.size wo (W4.setCell ⟨wo.heap.size, d, none⟩ (.int .i64 y)) ∧ At (W4.setCell ⟨wo.heap.size, d, none⟩ (.int .i64 y)) wo.heap.size 0 (fun i => if i = d then y else v i) ∧ (W4.setCell ⟨wo.heap.size, d, none⟩ (.int .i64 y)).there wo.heap.size 0 40) := Lib.hid ⟨S2.2, hat5, there_set HTH4 _ _⟩
                refine held_storeI (i := 10) (by kernel_rfl) rfl rfl rfl (.tmp 54) (.tmp 53) rfl wo.heap.size d y _ (by kernel_rfl) (by kernel_rfl) hc4 hf4 ⟨S2, ?_⟩
                refine wpAnyH_done (by kernel_rfl) ?_ _
                simp only [Act.put, List.setIfInBounds_toArray, List.set_cons_zero, List.set_cons_succ]
                clear S0 S1 S2 hat5 hc4 hf4 HAT4 HTH4 hcx hrem hb3 hb34 hb4 HS3 HLD HAT HTH HBX HSO
                go_wp2
                go_roundw
                case rel => exact ⟨j + 1, _, by omega, by go_num, Lib.hid HN5.out.1, Lib.hid HN5.out.2.1, Lib.hid HN5.out.2.2, HSO2⟩
                case measure => simp [intOf]; omega
              · have hjj : Hid (j = R.length) := Lib.hid (by omega)
                have HSOL : Hid (Lin.Sol p R f v) := Lib.hid (SolTo.done (by have := HSO.out; rwa [hjj.out] at this))
                have HO5 := Lib.hid (HO.out.below HBX.out)
                have HB5 := Lib.hid (HB.out.trans (HBX.out.mono hsx))
                have hs5 : wl.heap.size ≤ wx.heap.size := by omega
                have hSl : SL.length ≤ 1048576 := by have := HSL.out.len; omega
                have HSL2 := Lib.hid (HSL.out.add HFR.out HSOL.out)
                have HI2V := Lib.hid (Tryd.infoVl v)
                go_wp2_with (first | (with_reducible refine wpList_load_mid rfl 82 (.tmp 13) rfl wo.heap.size 0 rfl (vl v) _ HAT.out.range Tryd.underlyingV rfl HI2V.out ?_) | (with_reducible refine wpList_oneV rfl (some 58) rfl (.tmp 57) rfl v rfl ?_; intro W7 hn7; have HN7 := Lib.hid hn7; have HZ7 : Hid (wl.heap.size ≤ W7.heap.size) := (Lib.hid (by have := hn7.size; omega)); have HO7 := Lib.hid (HO5.out.below hn7.below); clear hn7) | (at_builtin; with_reducible refine wpList_appendV rfl (some 59) rfl (.tmp 56) (.tmp 58) rfl wl.heap.size (.slice ado SL.length capo) SL rfl HO7.out wx.heap.size 1 v rfl HN7.out.at' hSl HZ7.out ?_; intro s8 W8 ho8 hg8; have HO8 := Lib.hid ho8; have HG8 := Lib.hid hg8; clear ho8 hg8))
                have HB7 := Lib.hid (HB5.out.trans (HN7.out.below.mono hs5))
                have HB8 : Hid (Below wl.heap.size wl W8) := Lib.hid (HB7.out.grown HG8.out (by have := HB7.out.size; omega) (fun g hg => ((HO7.out.lt) g hg).1))
                go_roundw
                case rel => exact ⟨f + 1, SL ++ [v], by omega, by go_num, HB8, HO8, HSL2⟩
                case measure => simp [intOf]; omega
        · have hff : Hid (f = n) := Lib.hid (by omega)
          have HSN : Hid (Sols p R n SL) := Lib.hid (by have := HSL.out; rwa [hff.out] at this)
          have HSM : Hid (∀ t ∈ SL, Lin.Md p t) := Lib.hid (fun t ht => by obtain ⟨g, _, _, h⟩ := HSN.out.only t ht; exact h.md hp1)
          have HSW : Hid (∀ t ∈ SL, Lin.Wd n t) := Lib.hid (fun t ht => by obtain ⟨g, h1, _, h⟩ := HSN.out.only t ht; exact sol_wd HR.out.red HRW.out h1 h)
          have hSl : SL.length ≤ 1048575 := by have := HSL.out.len; omega
          have HOV := Lib.hid (HO.out.vs.lower (Nat.zero_le _))
          go_wp2_with fail
          refine (reducedList_any p _ SL _ HP.out HOV.out HSM.out (fun t ht => wd_wider (HSW.out t ht) hn) hSl).mono ?_
          rintro e W9 ⟨s9, R9, rfl, hb9, ho9, hr9, _⟩
          have hsw : w.heap.size ≤ wx.heap.size := by omega
          have HB9 := Lib.hid (HBL.out.trans ((HB.out.trans (hb9.mono hsx)).mono hsL))
          have HO9 : Hid (Ow w.heap.size W9 s9 R9) := Lib.hid ⟨ho9.1, ho9.2.imp id (fun ⟨g, cap, cur, h1, h2, h3⟩ => ⟨g, cap, cur, h1, Nat.le_trans hsw h2, h3⟩)⟩
          have HR9 := Lib.hid hr9
          clear hb9 ho9 hr9
          go_wp2
          go_ret
          refine ⟨_, R9, rfl, HB9.out, HO9.out, HR9.out.red, fun t ht => Lin.Sp.wd HSW.out ((HR9.out.eqv t).1 (Lin.Sp.mem ht (HR9.out.red.md t ht))), fun x => ?_⟩
          rw [HR9.out.eqv x, Lin.sols_eqv hp1 HR.out.red HRW.out (fun g hg hfr => HSN.out.all g hg hfr) (fun t ht => HSN.out.only t ht) x]
          exact ⟨fun h => h.eqv HLM.out HR.out.eqv, fun h => h.eqv HR.out.red.md HR.out.eqv.symm⟩
end Go.Proofs.YtckkbojankfdfaaDoor

namespace Go.Proofs.YtckkbojankfdfaaDoor
open Go.RowKit

theorem hloadT (w : World) {b o : Nat} {x : Value} (h : w.cell? ⟨b, o, none⟩ = some x) : (Instr.loadAt 22 (.pointer (some ⟨b, o, none⟩))).run Tryd.prog w = .ok x w := by go_simp
/-- The table whose columns the cycles of a degree annihilate, and its width. -/
def cycT (ds : List Int) (ms : List (List (List Int))) (q : Nat) : List (List Int) := mapZ ds ms (q : Int)
def cycM (ds : List Int) (q : Nat) : Nat := if q = 0 then 0 else dimN ds ((q - 1 : Nat) : Int)
theorem dimN_le8 {p : Int} {ds : List Int} {ms : List (List (List Int))} (h : IsCx p ds ms) (q : Nat) : dimN ds (q : Int) ≤ 8 ∧ ds.getD q 0 = (dimN ds (q : Int) : Int) := by
  have := h.1.dim q
  unfold dimN
  rw [Int.toNat_natCast]
  omega
/-- The columns as vectors. -/
theorem ker_cols {p : Int} {d c : Nat} {t : List (List Int)} (htl : t.length = d) (v : Lin.V) : Lin.Ker p d ((flipT c t).map ofL) v ↔ CycS p d c t v := by
  have key : ∀ j, j < c → Lin.dot d (ofL ((List.range t.length).map fun i => (t.getD i []).getD j 0)) v = Lin.dot d (Lin.col (fun i => ofL (t.getD i [])) j) v := fun j _ => Lin.dot_congr (fun i hi => by
    have : ofL ((List.range t.length).map fun i => (t.getD i []).getD j 0) i = (t.getD i []).getD j 0 := by
      rw [ofL_at (by simp; omega)]
      simp
    rw [this]
    rfl)
  constructor
  · intro h
    refine ⟨h.md, h.wd, fun j hj => ?_⟩
    rw [← key j hj]
    exact h.ann _ (List.mem_map.2 ⟨_, List.mem_map.2 ⟨j, List.mem_range.2 hj, rfl⟩, rfl⟩)
  · rintro ⟨h1, h2, h3⟩
    refine ⟨h1, h2, fun r hr => ?_⟩
    obtain ⟨row, hrow, rfl⟩ := List.mem_map.1 hr
    obtain ⟨j, hj, rfl⟩ := List.mem_map.1 hrow
    have hj' := List.mem_range.1 hj
    rw [key j hj']
    exact h3 j hj'
theorem SpF.congr {p : Int} {n : Nat} {S S' : Lin.V → Prop} {R : List Lin.V} (h : SpF p n S R) (e : ∀ v, S v ↔ S' v) : SpF p n S' R := ⟨h.1, h.2.1, fun v => (h.2.2 v).trans (e v)⟩
theorem flip_row {p : Int} {c : Nat} {t : List (List Int)} (h : ∀ r ∈ t, RowOk p (c : Int) r) : ∀ r ∈ flipT c t, RowOk p (t.length : Int) r := fun r hr => by
  obtain ⟨j, hj, rfl⟩ := List.mem_map.1 hr
  have hj' := List.mem_range.1 hj
  refine ⟨by simp, fun x hx => ?_⟩
  obtain ⟨i, hi, rfl⟩ := List.mem_map.1 hx
  have hi' := List.mem_range.1 hi
  have hro := h _ (List.getElem_mem hi')
  show 0 ≤ (t.getD i []).getD j 0 ∧ (t.getD i []).getD j 0 ≤ p - 1
  rw [getD_of_lt _ hi']
  have hl : j < (t[i]).length := by have := hro.1; omega
  rw [getD_of_lt _ hl]
  exact hro.2 _ (List.getElem_mem hl)

set_option maxHeartbeats 1600000 in
set_option maxRecDepth 100000 in
theorem kernelSpace_any (p : Int) (d c : Nat) (vt : Value) (t : List (List Int)) (w : World) (hp : IsP p) (ht : L2 0 w vt t) (htl : t.length = d) (hrow : ∀ r ∈ t, RowOk p (c : Int) r) (hd : d ≤ 40) (hc : c ≤ 1048575) :
    Calls Tryd.prog 78 #[.int .i64 p, vt, .int .i64 (c : Int)] w (VsR (SpF p d (CycS p d c t)) w) := by
  obtain ⟨at', ct, rfl⟩ := Sl.shape ht
  have hp1 := hp.lo
  have HP := Lib.hid hp
  have HT := Lib.hid ht
  have HTL := Lib.hid htl
  have HTR := Lib.hid hrow
  clear hp ht htl hrow
  go_enter Tryd.func78, Tryd.ntmps78
  go_wp2_with fail
  refine (transposedTable_any c _ t _ HT.out (by have := HTL.out; omega) (by omega) (fun r hr => by have := (HTR.out r hr).1; omega)).mono ?_
  rintro e4 W4 ⟨rfl, hm4⟩
  have HB4 := Lib.hid hm4.below
  have HT4 : Hid (L2 0 W4 (.slice (some ⟨w.heap.size, 0, none⟩) c c) (flipT c t)) := Lib.hid (hm4.w2.l2.lower (Nat.zero_le _))
  have HFR := Lib.hid (flip_row HTR.out)
  have HFL : Hid ((flipT c t).length = c) := Lib.hid (by simp [flipT, tableOf])
  clear hm4
  go_wp2_with fail
  refine (vectorsOf_any _ (flipT c t) W4 HT4.out (by have := HFL.out; omega) (fun r hr => by have := (HFR.out r hr).1; have := HTL.out; omega)).mono ?_
  rintro e5 W5 ⟨s5, M, rfl, hb5, ho5, rfl⟩
  have HB5 := Lib.hid hb5
  have HO5 := Lib.hid (ho5.vs.lower (Nat.zero_le _))
  clear hb5 ho5
  have HD : Hid ((t.length : Int) = (d : Int)) := Lib.hid (by rw [HTL.out])
  rw [HD.out]
  go_wp2_with fail
  refine (annihilator_any p d _ ((flipT c t).map ofL) _ HP.out HO5.out (vecs_md (by omega) HFR.out) (fun u hu => by have := vecs_wd (n := d) (fun r hr => by have := (HFR.out r hr).1; have := HTL.out; omega) u hu; exact this) (by omega) ?hlen).mono ?_
  case hlen => rw [List.length_map, HFL.out]; omega
  rintro e6 W6 ⟨s6, R, rfl, hb6, ho6, hsp⟩
  have HB6 := Lib.hid hb6
  have HO6 := Lib.hid ho6
  have HSP := Lib.hid hsp
  have hs5 : w.heap.size ≤ W5.heap.size := Nat.le_trans HB4.out.size HB5.out.size
  clear hb6 ho6 hsp
  go_wp2
  go_ret
  exact ⟨_, R, rfl, HB4.out.trans ((HB5.out.mono HB4.out.size).trans (HB6.out.mono hs5)), ⟨HO6.out.1, HO6.out.2.imp id (fun ⟨g, cap, cur, h1, h2, h3⟩ => ⟨g, cap, cur, h1, Nat.le_trans hs5 h2, h3⟩)⟩, HSP.out.congr (fun v => ker_cols HTL.out v)⟩

end Go.Proofs.YtckkbojankfdfaaDoor


namespace Go.Proofs.YtckkbojankfdfaaDoor
open Go.RowKit

/-- The rests of a list modulo a reduced one. -/
structure RestsOf (p : Int) (n : Nat) (B C tt : List Lin.V) : Prop where
  rest : ∀ i (h : i < tt.length) (h2 : i < C.length), Lin.Rest p B C[i] B.length tt[i]
  wd : ∀ u ∈ tt, Lin.Wd n u
theorem RestsOf.nil (p : Int) (n : Nat) (B C : List Lin.V) : RestsOf p n B C [] := ⟨fun i h => absurd h (Nat.not_lt_zero _), by simp⟩
theorem RestsOf.push {p : Int} {n : Nat} {B C tt : List Lin.V} (h : RestsOf p n B C tt) {r : Lin.V} (hk : tt.length < C.length) (hr : Lin.Rest p B C[tt.length] B.length r) (hw : Lin.Wd n r) : RestsOf p n B C (tt ++ [r]) := by
  refine ⟨fun i h1 h2 => ?_, fun u hu => ?_⟩
  · by_cases e : i < tt.length
    · rw [List.getElem_append_left e]
      exact h.rest i e h2
    · have e2 : i = tt.length := by simp at h1; omega
      subst e2
      rw [List.getElem_append_right (Nat.le_refl _)]
      simpa using hr
  · rcases List.mem_append.1 hu with h1 | h1
    · exact h.wd u h1
    · rw [List.mem_singleton.1 h1]; exact hw
theorem sp_off {p : Int} {tt B : List Lin.V} (h : ∀ u ∈ tt, ∀ w ∈ B, u (Lin.ld w) = 0) {t : Lin.V} (ht : Lin.Sp p tt t) : ∀ w ∈ B, t (Lin.ld w) = 0 := by
  induction ht with
  | zero => intro w _; rfl
  | step c _ hu ih =>
    intro w hw
    simp [Lin.add, ih w hw, h _ hu w hw]
theorem sp_parts {p : Int} (hp : 0 < p) {tt B : List Lin.V} {v : Lin.V} (h : Lin.Sp p (tt ++ B) v) : ∃ t b, Lin.Sp p tt t ∧ Lin.Sp p B b ∧ v = Lin.add p t 1 b := by
  induction h with
  | zero => exact ⟨Lin.zv, Lin.zv, .zero, .zero, (Lin.add_zv (Lin.zv_md hp) 1).symm⟩
  | step c _ hw ih =>
    obtain ⟨t, b, h1, h2, rfl⟩ := ih
    rcases List.mem_append.1 hw with h3 | h3
    · exact ⟨_, b, .step c h1 h3, h2, Lin.add_swap p t b _ 1 c⟩
    · refine ⟨t, _, h1, .step c h2 h3, ?_⟩
      rw [Lin.add_add, Int.one_mul]
theorem rests_sp {p : Int} (hp : 1 < p) {n : Nat} {B C tt : List Lin.V} (hB : Lin.Red p B) (h : RestsOf p n B C tt) (hl : tt.length = C.length) (v : Lin.V) : Lin.Sp p tt v ↔ Lin.Sp p (C ++ B) v ∧ ∀ w ∈ B, v (Lin.ld w) = 0 := by
  have hp0 : 0 < p := by omega
  have hoff : ∀ u ∈ tt, ∀ w ∈ B, u (Lin.ld w) = 0 := fun u hu w hw => by
    obtain ⟨i, hi, rfl⟩ := List.getElem_of_mem hu
    exact (h.rest i hi (by omega)).off w (by rw [List.take_of_length_le (Nat.le_refl _)]; exact hw)
  have hm : ∀ u ∈ tt, Lin.Md p u := fun u hu => by
    obtain ⟨i, hi, rfl⟩ := List.getElem_of_mem hu
    exact (h.rest i hi (by omega)).md
  constructor
  · intro hv
    refine ⟨Lin.Sp.trans hp0 (fun u hu => ?_) hv, sp_off hoff hv⟩
    obtain ⟨i, hi, rfl⟩ := List.getElem_of_mem hu
    have hic : i < C.length := by omega
    refine Lin.Sp.mono (fun x hx => ?_) (h.rest i hi hic).to
    rcases List.mem_cons.1 hx with rfl | h1
    · exact List.mem_append_left _ (List.getElem_mem hic)
    · exact List.mem_append_right _ h1
  · rintro ⟨hv, h0⟩
    have h1 : Lin.Sp p (tt ++ B) v := Lin.Sp.trans hp0 (fun u hu => by
      rcases List.mem_append.1 hu with h2 | h2
      · obtain ⟨i, hi, rfl⟩ := List.getElem_of_mem h2
        have hit : i < tt.length := by omega
        refine Lin.Sp.mono (fun x hx => ?_) (h.rest i hit hi).of
        rcases List.mem_cons.1 hx with rfl | h3
        · exact List.mem_append_left _ (List.getElem_mem hit)
        · exact List.mem_append_right _ h3
      · exact Lin.Sp.mem (List.mem_append_right _ h2) (hB.md u h2)) hv
    obtain ⟨t, b, ht, hb, rfl⟩ := sp_parts hp0 h1
    have htz := sp_off hoff ht
    have hbz : b = Lin.zv := hB.zero_of hp0 hb (fun w hw => by
      have := h0 w hw
      rw [Lin.add, htz w hw, Int.zero_add, Int.one_mul] at this
      have hbm := hb.md hp0 (Lin.ld w)
      rwa [Lin.md_mod hbm.1 hbm.2] at this)
    rw [hbz, Lin.add_zv (ht.md hp0) 1]
    exact ht

theorem fill_set (tt : List Lin.V) (m : Nat) (r : Lin.V) : (tt ++ List.replicate (m + 1) Lin.zv).set tt.length r = (tt ++ [r]) ++ List.replicate m Lin.zv := by
  rw [List.set_append_right _ _ (Nat.le_refl _), Nat.sub_self, List.replicate_succ, List.set_cons_zero, List.append_assoc]
  rfl

set_option maxHeartbeats 3200000 in
set_option maxRecDepth 100000 in
theorem spaceOfRests_any (p : Int) (n : Nat) (sc sb : Value) (C B : List Lin.V) (w : World) (hp : IsP p) (hn : n ≤ 40) (hC : Vs 0 w sc C) (hB : Vs 0 w sb B) (hCm : ∀ u ∈ C, Lin.Md p u) (hCw : ∀ u ∈ C, Lin.Wd n u) (hBr : Lin.Red p B) (hBw : ∀ u ∈ B, Lin.Wd n u) (hlc : C.length ≤ 1048575) (hlb : B.length ≤ 1048576) :
    Calls Tryd.prog 70 #[.int .i64 p, sc, sb] w (VsR (fun R => ∃ tt, RestsOf p n B C tt ∧ tt.length = C.length ∧ RedOf p R tt) w) := by
  have HP := Lib.hid hp
  have HC := Lib.hid hC
  have HB0 := Lib.hid hB
  have HCM := Lib.hid hCm
  have HCW := Lib.hid hCw
  have HBR := Lib.hid hBr
  have HBW := Lib.hid hBw
  obtain ⟨ac, cc, rfl⟩ := Vs.shape hC
  clear hp hC hB hCm hCw hBr hBw
  go_enter Tryd.func70, Tryd.ntmps70
  go_wp2_with (with_reducible refine wpList_makeV rfl (some 12) rfl (.tmp 11) rfl C.length rfl (by omega) ?_; intro W1 hw1 hb1; have HX1 := Lib.hid hw1; have HB1 := Lib.hid hb1; clear hw1 hb1)
  go_wp2
  go_loopw [8, 9, 15] (fun _ _ i wr => ∃ (k : Nat) (tt : List Lin.V), k ≤ C.length ∧ i = .int .i64 k ∧ tt.length = k ∧ Hid (Below w.heap.size w wr) ∧ Hid (Ox w.heap.size wr w.heap.size C.length (tt ++ List.replicate (C.length - k) Lin.zv)) ∧ Hid (RestsOf p n B C tt)) (fun _ _ i _ => C.length - (intOf i).toNat)
  case atStart => exact ⟨0, [], Nat.zero_le _, rfl, rfl, HB1, HX1, Lib.hid (RestsOf.nil p n B C)⟩
  case round =>
    clear HX1 HB1
    obtain ⟨k, tt, hk, rfl, hTl, HB, HX, HR⟩ := hrel
    obtain ⟨wx, hwx⟩ : ∃ wx : World, wx = wr := ⟨_, rfl⟩
    subst hwx
    by_cases hlt : k < C.length
    · refine Vs.cases (HC.out.below HB.out) (fun _ _ hx _ => absurd hlt (by simp [hx])) (fun b o cap2 hv _ _ hc => ?_)
      obtain ⟨rfl, rfl⟩ : ac = some ⟨b, o, none⟩ ∧ cc = cap2 := by simpa using hv
      obtain ⟨u, hu⟩ : ∃ u, u = C[k] := ⟨_, rfl⟩
      have HVA : Hid (At wx b (o + k * 40) u) := Lib.hid (by rw [hu]; exact hc k hlt)
      have HI2V := Lib.hid (Tryd.infoVl u)
      have HIS : Hid ((Tryd.prog.info? 82).map (·.size) = some (vl u).toArray.size) := Lib.hid (by have := HI2V.out; simpa using this)
      have HUM : Hid (Lin.Md p u) := Lib.hid (by rw [hu]; exact HCM.out _ (List.getElem_mem hlt))
      have HUW : Hid (Lin.Wd n u) := Lib.hid (by rw [hu]; exact HCW.out _ (List.getElem_mem hlt))
      have HUE : Hid (∀ (h : tt.length < C.length), C[tt.length] = u) := Lib.hid (fun h => by
        subst hTl
        exact hu.symm)
      have hsz : w.heap.size ≤ wx.heap.size := HB.out.size
      clear hv hc hu
      go_upto_region 5 with (first | (with_reducible refine wpList_load_mid rfl 82 (.tmp 18) rfl b (o + k * 40) rfl (vl u) _ HVA.out.range Tryd.underlyingV rfl HI2V.out ?_) | (with_reducible refine wpList_allocV rfl (some 9) rfl rfl ?_; intro W2 hn2; have HN2 := Lib.hid hn2; have HT2 : Hid (W2.there wx.heap.size 0 (vl u).toArray.size) := (Lib.hid (by have := hn2.there; simpa [vl_length] using this)); clear hn2) | (with_reducible refine wpList_store_mid rfl 82 (.tmp 9) (.tmp 19) rfl wx.heap.size 0 (vl u).toArray rfl rfl HT2.out HIS.out (vl_all _) ?_))
      refine forget_wp (fun W => Hid (At W wx.heap.size 0 u ∧ Below wx.heap.size wx W)) (Lib.hid ?_) ?_
      · have hp2 := HN2.out.put u
        exact ⟨hp2.2.1, hp2.1⟩
      intro W3 HS3
      clear HN2 HT2 HVA HIS
      have HB3 := Lib.hid (HB.out.trans (HS3.out.2.mono hsz))
      have HREST := Lib.hid (restModulo_any p u sb B W3 HP.out HUM.out (wd_wider HUW.out hn) (HB0.out.below HB3.out) HBR.out (fun x hx => wd_wider (HBW.out x hx) hn) hlb)
      go_wp2_with (with_reducible refine wpList_load_mid rfl 82 (.tmp 9) rfl wx.heap.size 0 rfl (vl u) _ HS3.out.1.range Tryd.underlyingV rfl HI2V.out ?_)
      refine HREST.out.mono ?_
      rintro e W4 ⟨r, rfl, hb4, hr4, _⟩
      have HB4 := Lib.hid (HB3.out.trans (hb4.mono HB3.out.size))
      have hkT : k < (tt ++ List.replicate (C.length - k) Lin.zv).length := by simp [hTl]; omega
      have HP4 := Lib.hid (((HX.out.below HS3.out.2).below hb4).put (k := k) hkT r)
      have HRW : Hid (Lin.Wd n r) := Lib.hid (Lin.Sp.wd (fun x hx => by
        rcases List.mem_cons.1 hx with rfl | h
        · exact HUW.out
        · exact HBW.out x h) hr4.to)
      have HR5 : Hid (RestsOf p n B C (tt ++ [r])) := Lib.hid (HR.out.push (by omega) (by rw [HUE.out (by omega)]; exact hr4) HRW.out)
      have HX5 : Hid (Ox w.heap.size (W4.setCells w.heap.size (k * 40) (vl r)) w.heap.size C.length ((tt ++ [r]) ++ List.replicate (C.length - (k + 1)) Lin.zv)) := Lib.hid (by
        have h := HP4.out.1
        have e : (tt ++ List.replicate (C.length - k) Lin.zv).set k r = (tt ++ [r]) ++ List.replicate (C.length - (k + 1)) Lin.zv := by
          rw [show C.length - k = (C.length - (k + 1)) + 1 by omega]
          subst hTl
          exact fill_set tt _ r
        rw [e] at h
        exact h)
      have HB5 : Hid (Below w.heap.size w (W4.setCells w.heap.size (k * 40) (vl r))) := Lib.hid (below_setCells _ (Nat.le_refl _) _ _ _ HB4.out)
      have HIr := Lib.hid (Tryd.infoVl r)
      have HI2 : Hid ((Tryd.prog.info? 82).map (·.size) = some (vl r).toArray.size) := Lib.hid (by have := HIr.out; simpa using this)
      have HTH : Hid (W4.there w.heap.size (k * 40) (vl r).toArray.size) := Lib.hid (by have := HP4.out.2; simpa [vl_length] using this)
      unfold vv
      clear hb4 hr4 HX HREST HS3 hkT HP4
      go_wp2_with (with_reducible refine wpList_store_mid rfl 82 (.tmp 26) (.tmp 25) rfl w.heap.size (k * 40) (vl r).toArray rfl rfl HTH.out HI2.out (vl_all _) ?_)
      go_roundw
      case rel => exact ⟨k + 1, tt ++ [r], by omega, by go_num, by simp [hTl], HB5, HX5, HR5⟩
      case measure => simp [intOf]; omega
    · have hTL : tt.length = C.length := by omega
      have HOV : Hid (Vs 0 wx (.slice (some ⟨w.heap.size, 0, none⟩) C.length C.length) tt) := Lib.hid (by
        have h := HX.out.own
        rw [show C.length - k = 0 by omega, List.replicate_zero, List.append_nil, hTL] at h
        exact h.vs.lower (Nat.zero_le _))
      have HTM : Hid (∀ x ∈ tt, Lin.Md p x) := Lib.hid (fun x hx => by
        obtain ⟨i, hi, rfl⟩ := List.getElem_of_mem hx
        exact (HR.out.rest i hi (by omega)).md)
      go_wp2_with fail
      refine (reducedList_any p _ tt _ HP.out HOV.out HTM.out (fun x hx => wd_wider (HR.out.wd x hx) hn) (by omega)).mono ?_
      rintro e W9 ⟨s9, R9, rfl, hb9, ho9, hr9, _⟩
      have hsz : w.heap.size ≤ wx.heap.size := HB.out.size
      have HB9 := Lib.hid (HB.out.trans (hb9.mono hsz))
      have HO9 : Hid (Ow w.heap.size W9 s9 R9) := Lib.hid ⟨ho9.1, ho9.2.imp id (fun ⟨g, cap, cur, h1, h2, h3⟩ => ⟨g, cap, cur, h1, Nat.le_trans hsz h2, h3⟩)⟩
      have HR9 := Lib.hid hr9
      clear hb9 ho9 hr9
      go_wp2
      go_ret
      exact ⟨_, R9, rfl, HB9.out, HO9.out, tt, HR.out, hTL, HR9.out⟩

/-- A table that is being gathered: the empty literal yet, or rows of its own. -/
def GsE (base g : Nat) (w : World) (v : Value) (tb : List (List Int)) : Prop := (tb = [] ∧ v = .slice (some ⟨g, 0, none⟩) 0 0) ∨ Gs base w v tb
theorem GsE.below {base g : Nat} {w w' : World} {v : Value} {tb : List (List Int)} (h : GsE base g w v tb) (hb : Below w.heap.size w w') : GsE base g w' v tb := h.imp id (fun h => h.below hb)
theorem GsE.l2 {base g : Nat} {w : World} {v : Value} {tb : List (List Int)} (h : GsE base g w v tb) : L2 0 w v tb := by
  rcases h with ⟨rfl, rfl⟩ | h
  · exact Or.inl ⟨rfl, _, _, rfl⟩
  · exact h.l2
section
variable {md : Region.Mode} {ops : Array Oper} {Q : Exit → Act → World → Prop} {S : World → Prop}
end

end Go.Proofs.YtckkbojankfdfaaDoor


namespace Go.Proofs.YtckkbojankfdfaaDoor.Lin

theorem len_le {L : List Nat} : ∀ {M : List Nat}, L.Nodup → (∀ x ∈ L, x ∈ M) → L.length ≤ M.length := by
  induction L with
  | nil => intros; simp
  | cons x L ih =>
    intro M hn hs
    have hx := hs x (by simp)
    rw [List.nodup_cons] at hn
    have h1 := ih (M := M.erase x) hn.2 (fun y hy => by
      have hne : y ≠ x := fun e => hn.1 (e ▸ hy)
      exact (List.mem_erase_of_ne hne).2 (hs y (by simp [hy])))
    rw [List.length_erase_of_mem hx] at h1
    have h2 := List.length_pos_of_mem hx
    simp only [List.length_cons]
    omega
noncomputable def lds (L : List V) : List Nat := L.map ld
theorem Red.lds_nodup {p : Int} {L : List V} (h : Red p L) : (lds L).Nodup := by
  unfold lds List.Nodup
  rw [List.pairwise_map]
  exact h.inc.imp (fun hab => Nat.ne_of_lt hab)
theorem Red.lds_mem {p : Int} (hp : 0 < p) {L : List V} (h : Red p L) {x : Nat} : x ∈ lds L ↔ ∃ v, Sp p L v ∧ v ≠ zv ∧ ld v = x := by
  constructor
  · intro hx
    obtain ⟨w, hw, rfl⟩ := List.mem_map.1 hx
    exact ⟨w, Sp.mem hw (h.md w hw), h.ne hw, rfl⟩
  · rintro ⟨v, hv, hne, rfl⟩
    obtain ⟨w, hw, e⟩ := h.lead hp hv hne
    exact List.mem_map.2 ⟨w, hw, e⟩
theorem ld_ne {v : V} (h : v ≠ zv) : v (ld v) ≠ 0 ∧ ∀ j, j < ld v → v j = 0 := by
  obtain ⟨i, hi⟩ := ne_zv h
  exact ld_spec hi
/-- The numbers at the leads of a list, as a vector. -/
noncomputable def crd (W : List V) (v : V) : V := fun k => if h : k < W.length then v (ld W[k]) else 0
theorem crd_add (p : Int) (W : List V) (v : V) (c : Int) (w : V) : crd W (add p v c w) = add p (crd W v) c (crd W w) := funext fun k => by
  by_cases h : k < W.length <;> simp [crd, add, h]
theorem crd_zv (W : List V) : crd W zv = zv := funext fun k => by
  by_cases h : k < W.length <;> simp [crd, zv, h]
theorem crd_sp {p : Int} {W L : List V} {v : V} (h : Sp p L v) : Sp p (L.map (crd W)) (crd W v) := by
  induction h with
  | zero => rw [crd_zv]; exact .zero
  | step c _ hw ih => rw [crd_add]; exact .step c ih (List.mem_map.2 ⟨_, hw, rfl⟩)
theorem crd_of {p : Int} {W L : List V} {u : V} (h : Sp p (L.map (crd W)) u) : ∃ v, Sp p L v ∧ u = crd W v := by
  induction h with
  | zero => exact ⟨zv, .zero, (crd_zv W).symm⟩
  | step c _ hw ih =>
    obtain ⟨v, hv, rfl⟩ := ih
    obtain ⟨x, hx, rfl⟩ := List.mem_map.1 hw
    exact ⟨add p v c x, .step c hv hx, (crd_add p W v c x).symm⟩
end Go.Proofs.YtckkbojankfdfaaDoor.Lin


namespace Go.Proofs.YtckkbojankfdfaaDoor.Lin

theorem eqv_of_len {p : Int} (hp : 1 < p) {A B : List V} (hA : Red p A) (hB : Red p B) (h : ∀ w ∈ A, Sp p B w) (hl : A.length = B.length) : ∀ v, Sp p A v ↔ Sp p B v := by
  have hp0 : 0 < p := by omega
  have hAB : ∀ v, Sp p A v → Sp p B v := fun v hv => Sp.trans hp0 h hv
  have hs : ∀ x ∈ lds A, x ∈ lds B := fun x hx => by
    obtain ⟨v, hv, hne, e⟩ := (hA.lds_mem hp0).1 hx
    exact (hB.lds_mem hp0).2 ⟨v, hAB v hv, hne, e⟩
  have ht : ∀ x ∈ lds B, x ∈ lds A := fun x hx => Classical.byContradiction fun hn => by
    have h1 := len_le (L := x :: lds A) (M := lds B) (List.nodup_cons.2 ⟨hn, hA.lds_nodup⟩) (fun y hy => by
      rcases List.mem_cons.1 hy with rfl | hy
      · exact hx
      · exact hs y hy)
    simp only [List.length_cons, lds, List.length_map] at h1
    omega
  refine fun v => ⟨hAB v, fun hv => ?_⟩
  obtain ⟨r, hr⟩ := rest_ex hp0 hA (Sp.md hp0 hv) A.length (Nat.le_refl _)
  have hrB : Sp p B r := Sp.trans hp0 (fun w hw => by
    rcases List.mem_cons.1 hw with rfl | hw
    · exact hv
    · exact h w hw) hr.to
  by_cases h0 : r = zv
  · subst h0
    exact hr.inside hp0 hA
  · exfalso
    obtain ⟨w, hw, e⟩ := hB.lead hp0 hrB h0
    have hm := ht (ld w) (List.mem_map.2 ⟨w, hw, rfl⟩)
    obtain ⟨a, ha, e2⟩ := List.mem_map.1 hm
    have h1 := hr.off a (by rw [List.take_length]; exact ha)
    rw [e2, e] at h1
    exact (ld_ne h0).1 h1
end Go.Proofs.YtckkbojankfdfaaDoor.Lin
namespace Go.Proofs.YtckkbojankfdfaaDoor

/-- What one table makes is that of which the next one makes 0. -/
def ExAt (p : Int) (n m : Nat) (t u : List (List Int)) : Prop := ∀ v, Lin.Sp p (t.map ofL) v ↔ CycS p n m u v
/-- A couple is exact. -/
def ExOk (p : Int) (dn en : Nat) (il jl kl : List (List Int)) : Prop := ExAt p dn en il jl ∧ ExAt p en dn jl kl ∧ ExAt p dn dn kl il
theorem exAt_eq {p : Int} (hp : 1 < p) {n m : Nat} {t u : List (List Int)} {R K : List Lin.V} (hR : Lin.Red p R) (hE : Lin.Eqv p R (t.map ofL)) (hK : SpF p n (CycS p n m u) K) : R = K ↔ ExAt p n m t u := by
  constructor
  · rintro rfl v
    exact ((hE v).symm).trans (hK.2.2 v)
  · intro h
    exact Lin.Red.unique hp hR hK.1 (fun v => (hE v).trans ((h v).trans (hK.2.2 v).symm))
theorem exAt_len {p : Int} (hp : 1 < p) {n m : Nat} {t u : List (List Int)} {R K : List Lin.V} (hR : Lin.Red p R) (hE : Lin.Eqv p R (t.map ofL)) (hK : SpF p n (CycS p n m u) K) : (R.length = K.length ∧ ∀ w ∈ R, Lin.Sp p K w) ↔ ExAt p n m t u := by
  constructor
  · rintro ⟨hl, hs⟩ v
    exact (hE v).symm.trans ((Lin.eqv_of_len hp hR hK.1 hs hl v).trans (hK.2.2 v))
  · intro h
    have e := (exAt_eq hp hR hE hK).2 h
    subst e
    exact ⟨rfl, fun w hw => Lin.Sp.mem hw (hR.md w hw)⟩
end Go.Proofs.YtckkbojankfdfaaDoor


namespace Go.Proofs.YtckkbojankfdfaaDoor
open Go.RowKit

set_option maxHeartbeats 400000 in
theorem sz1_any {lo : Nat} (v : Value) (xs : List Int) (left : Int) (w : World) (h : L1 lo w v xs) (h0 : 0 ≤ left) (h1 : left ≤ 1048576) (hm : xs.length ≤ 9223372036854775807) :
    Calls Tryd.prog 38 #[v, .int .i64 left] w (SzR left (Bd1 1048576 xs) w) := by
  obtain ⟨ad, cap, rfl⟩ := Sl.shape h
  by_cases hlt : left - xs.length < 0
  · go_enter Tryd.func38, Tryd.ntmps38
    go_wp2
    go_ret
    exact ⟨_, rfl, rfl, Or.inl rfl⟩
  · go_enter Tryd.func38, Tryd.ntmps38
    go_wp2
    go_ret
    exact ⟨_, rfl, rfl, Or.inr ⟨by omega, by omega, by unfold Bd1; omega⟩⟩

set_option maxHeartbeats 400000 in
theorem sz2_any {lo : Nat} (v : Value) (xs : List (List Int)) (left : Int) (w : World) (h : L2 lo w v xs) (h0 : 0 ≤ left) (h1 : left ≤ 1048576) (hm : Bd2 9223372036854775807 xs) :
    Calls Tryd.prog 20 #[v, .int .i64 left] w (SzR left (Bd2 1048576 xs) w) := by
  have hm0 : xs.length ≤ 9223372036854775807 := hm.1
  refine Sl.cases h (fun ad cap hx hv => ?_) (fun b o cap hv _ hpos hc => ?_)
  · subst hx hv
    go_enter Tryd.func20, Tryd.ntmps20
    go_wp2
    refine wp_loop_rounds 1 ?_
    rw [rounds_succ]
    go_wp2
    go_ret
    exact ⟨_, rfl, rfl, Or.inr ⟨by omega, by omega, by simp [Bd2]⟩⟩
  · subst hv
    clear h
    by_cases hlt : left - xs.length < 0
    · go_enter Tryd.func20, Tryd.ntmps20
      go_wp2
      go_ret
      exact ⟨_, rfl, rfl, Or.inl rfl⟩
    · have HM := Lib.hid hm
      have HC := Lib.hid hc
      clear hm hc
      go_enter Tryd.func20, Tryd.ntmps20
      go_wp2
      go_loop [1, 5] (fun l i => ∃ (k : Nat) (r : Int), k ≤ xs.length ∧ i = .int .i64 k ∧ l = .int .i64 r ∧ 0 ≤ r ∧ r ≤ left ∧ Hid (∀ j (hj : j < xs.length), j < k → Bd1 1048576 xs[j])) (fun _ i => xs.length - (intOf i).toNat)
      case atStart => exact ⟨0, _, Nat.zero_le _, rfl, rfl, by omega, by omega, Lib.hid (fun _ _ h => absurd h (Nat.not_lt_zero _))⟩
      case round =>
        obtain ⟨k, r, hk, rfl, rfl, hr0, hr1, HD⟩ := hrel
        by_cases hlt2 : k < xs.length
        · obtain ⟨u, hu, hr⟩ := HC.out k hlt2
          have hmu : (xs[k]).length ≤ 9223372036854775807 := HM.out.2 _ (List.getElem_mem hlt2)
          go_wp2_with fail
          refine (sz1_any u xs[k] r _ hr hr0 (by omega) hmu).mono ?_
          rintro e w' ⟨r2, rfl, rfl, hpost⟩
          rcases hpost with rfl | ⟨hp0, hp1, hp2⟩
          · go_wp2
            go_ret
            exact ⟨_, rfl, rfl, Or.inl rfl⟩
          · go_wp2
            go_round
            case rel => exact ⟨k + 1, r2, by omega, by go_num, rfl, hp0, by omega, Lib.hid (fun j hj hjk => by
              by_cases e : j = k
              · subst e; exact hp2
              · exact HD.out j hj (by omega))⟩
            case measure => simp [intOf]; omega
        · go_wp2
          go_ret
          exact ⟨_, rfl, rfl, Or.inr ⟨hr0, hr1, by omega, fun x hx => by
            obtain ⟨j, hj, rfl⟩ := List.getElem_of_mem hx
            exact HD.out j hj (by omega)⟩⟩
end Go.Proofs.YtckkbojankfdfaaDoor

namespace Go.Proofs.YtckkbojankfdfaaDoor
open Go.RowKit

structure Fi (lo : Nat) (w : World) (dv mv lv : Value) (ds : List Int) (ms : List (List (List Int))) (ls : List (List Int)) : Prop where
  cx : Cx lo w dv mv ds ms
  lv : L2 lo w lv ls
theorem Fi.below {lo : Nat} {w w' : World} {dv mv lv : Value} {ds : List Int} {ms : List (List (List Int))} {ls : List (List Int)} (h : Fi lo w dv mv lv ds ms ls) (hb : Below w.heap.size w w') : Fi lo w' dv mv lv ds ms ls := ⟨h.cx.below hb, h.lv.below hb⟩
theorem Fi.zero {lo : Nat} {w : World} {dv mv lv : Value} {ds : List Int} {ms : List (List (List Int))} {ls : List (List Int)} (h : Fi lo w dv mv lv ds ms ls) : Fi 0 w dv mv lv ds ms ls := ⟨h.cx.zero, h.lv.lower (Nat.zero_le _)⟩
theorem Fi.drew {lo : Nat} {w : World} {dv mv lv : Value} {ds : List Int} {ms : List (List (List Int))} {ls : List (List Int)} (h : Fi lo w dv mv lv ds ms ls) : Fi lo w.drew dv mv lv ds ms ls := h.below (Below.refl _ _).drew
theorem Fi.shapes {lo : Nat} {w : World} {dv mv lv : Value} {ds : List Int} {ms : List (List (List Int))} {ls : List (List Int)} (h : Fi lo w dv mv lv ds ms ls) : (∃ a c, dv = .slice a ds.length c) ∧ (∃ a c, mv = .slice a ms.length c) ∧ ∃ a c, lv = .slice a ls.length c := ⟨h.cx.shapes.1, h.cx.shapes.2, Sl.shape h.lv⟩

/-- What stands in the box of a filtered complex, in whatever later world. -/
structure Fx (w wr : World) (b : Nat) (p : Int) (dv mv lv : Value) (ds : List Int) (ms : List (List (List Int))) (ls : List (List Int)) : Prop where
  below : Below w.heap.size w wr
  c0 : wr.cell? ⟨b, 0, none⟩ = some (.int .i64 p)
  c1 : wr.cell? ⟨b, 1, none⟩ = some dv
  c2 : wr.cell? ⟨b, 2, none⟩ = some mv
  c3 : wr.cell? ⟨b, 3, none⟩ = some lv
  lt : b < wr.heap.size
  fi : Fi 0 wr dv mv lv ds ms ls
theorem Fx.next {w wr w' : World} {b : Nat} {p : Int} {dv mv lv : Value} {ds : List Int} {ms : List (List (List Int))} {ls : List (List Int)} (h : Fx w wr b p dv mv lv ds ms ls) (hb : Below wr.heap.size wr w') : Fx w w' b p dv mv lv ds ms ls :=
  ⟨h.below.trans (hb.mono h.below.size), later hb (Nat.le_refl _) h.c0, later hb (Nat.le_refl _) h.c1, later hb (Nat.le_refl _) h.c2, later hb (Nat.le_refl _) h.c3, Nat.lt_of_lt_of_le h.lt hb.size, h.fi.below hb⟩
theorem Fx.start {w : World} {p : Int} {dv mv lv : Value} {ds : List Int} {ms : List (List (List Int))} {ls : List (List Int)} (t : TypeId) (h : Fi 0 w dv mv lv ds ms ls) : Fx w (w.alloc (.cells #[.int .i64 p, dv, mv, lv] t)) w.heap.size p dv mv lv ds ms ls :=
  ⟨(Below.refl _ _).alloc (Nat.le_refl _) _, by simp, by simp, by simp, by simp, by simp, h.below ((Below.refl _ _).alloc (Nat.le_refl _) _)⟩

end Go.Proofs.YtckkbojankfdfaaDoor

namespace Go.Proofs.YtckkbojankfdfaaDoor
open Go.RowKit

end Go.Proofs.YtckkbojankfdfaaDoor

namespace Go.Proofs.YtckkbojankfdfaaDoor
open Go.RowKit

theorem Fx.all {w wr : World} {b : Nat} {p : Int} {dv mv lv : Value} {ds : List Int} {ms : List (List (List Int))} {ls : List (List Int)} (h : Hid (Fx w wr b p dv mv lv ds ms ls)) :
    wr.cell? ⟨b, 0, none⟩ = some (.int .i64 p) ∧ wr.cell? ⟨b, 1, none⟩ = some dv ∧ wr.cell? ⟨b, 2, none⟩ = some mv ∧ wr.cell? ⟨b, 3, none⟩ = some lv ∧ Hid (Fx w wr b p dv mv lv ds ms ls) := ⟨h.out.c0, h.out.c1, h.out.c2, h.out.c3, h⟩

end Go.Proofs.YtckkbojankfdfaaDoor

namespace Go.Proofs.YtckkbojankfdfaaDoor
open Go.RowKit

end Go.Proofs.YtckkbojankfdfaaDoor


namespace Go.Proofs.YtckkbojankfdfaaDoor
open Go.RowKit

/-- Approximate cycles: no numbers at levels above q, and a differential without numbers at levels above q0. -/
structure ZcS (p : Int) (d m : Nat) (t : List (List Int)) (l l0 : List Int) (q q0 : Int) (v : Lin.V) : Prop where
  md : Lin.Md p v
  wd : Lin.Wd d v
  up : ∀ i, i < d → q < l.getD i 0 → v i = 0
  dn : ∀ j, j < m → q0 < l0.getD j 0 → Lin.dot d (Lin.col (fun i => ofL (t.getD i [])) j) v % p = 0

theorem ZcS.zv {p : Int} (hp : 0 < p) (d m : Nat) (t : List (List Int)) (l l0 : List Int) (q q0 : Int) : ZcS p d m t l l0 q q0 Lin.zv :=
  ⟨Lin.zv_md hp, Lin.zv_wd d, fun _ _ _ => rfl, fun j _ _ => by rw [Lin.dot_nil (fun i _ => by simp [Lin.zv])]; rfl⟩
theorem ZcS.add {p : Int} (hp : 0 < p) {d m : Nat} {t : List (List Int)} {l l0 : List Int} {q q0 : Int} {v w : Lin.V} (hv : ZcS p d m t l l0 q q0 v) (c : Int) (hw : ZcS p d m t l l0 q q0 w) : ZcS p d m t l l0 q q0 (Lin.add p v c w) := by
  refine ⟨Lin.add_md hp _ _ _, Lin.add_wd c hv.wd hw.wd, fun i hi h => ?_, fun j hj h => ?_⟩
  · simp [Lin.add, hv.up i hi h, hw.up i hi h]
  · rw [Lin.dot_add]
    have h1 := hv.dn j hj h
    have h2 := hw.dn j hj h
    generalize Lin.dot d (Lin.col (fun i => ofL (t.getD i [])) j) v = a at *
    generalize Lin.dot d (Lin.col (fun i => ofL (t.getD i [])) j) w = b at *
    obtain ⟨x, hx⟩ : ∃ x, a = p * x := Int.dvd_of_emod_eq_zero h1
    obtain ⟨y, hy⟩ : ∃ y, b = p * y := Int.dvd_of_emod_eq_zero h2
    rw [hx, hy, Lin.cg (b := 0) (x + c * y) (by grind)]
    rfl
theorem ZcS.sp {p : Int} (hp : 0 < p) {d m : Nat} {t : List (List Int)} {l l0 : List Int} {q q0 : Int} {O : List Lin.V} (h : ∀ u ∈ O, ZcS p d m t l l0 q q0 u) {v : Lin.V} (hv : Lin.Sp p O v) : ZcS p d m t l l0 q q0 v := by
  induction hv with
  | zero => exact ZcS.zv hp _ _ _ _ _ _ _
  | step c _ hw ih => exact ih.add hp c (h _ hw)

/-! ### The conditions of the program. -/
/-! ### What a test keeps of the places. -/
/-- Approximate cycles of a degree, by the levels. -/
def ZcD (p : Int) (ds : List Int) (ms : List (List (List Int))) (ls : List (List Int)) (n : Nat) (q q0 : Int) : Lin.V → Prop := ZcS p (dimN ds (n : Int)) (cycM ds n) (cycT ds ms n) (ls.getD n []) (ls.getD (n - 1) []) q q0
end Go.Proofs.YtckkbojankfdfaaDoor

namespace Go.Proofs.YtckkbojankfdfaaDoor
open Go.RowKit

end Go.Proofs.YtckkbojankfdfaaDoor

namespace Go.Proofs.YtckkbojankfdfaaDoor
open Go.RowKit

end Go.Proofs.YtckkbojankfdfaaDoor

namespace Go.Proofs.YtckkbojankfdfaaDoor
open Go.RowKit

end Go.Proofs.YtckkbojankfdfaaDoor

namespace Go.Proofs.YtckkbojankfdfaaDoor
open Go.RowKit

end Go.Proofs.YtckkbojankfdfaaDoor

namespace Go.Proofs.YtckkbojankfdfaaDoor
open Go.RowKit

def GsR (t : List (List Int)) (w : World) (e : Ending) (w' : World) : Prop := ∃ u, e = .returned u ∧ Gs w.heap.size w' u t ∧ Below w.heap.size w w'
end Go.Proofs.YtckkbojankfdfaaDoor

namespace Go.Proofs.YtckkbojankfdfaaDoor
open Go.RowKit

end Go.Proofs.YtckkbojankfdfaaDoor

namespace Go.Proofs.YtckkbojankfdfaaDoor
open Go.RowKit

end Go.Proofs.YtckkbojankfdfaaDoor


namespace Go.Proofs.YtckkbojankfdfaaDoor
open Go.RowKit

section
variable {md : Region.Mode} {ops : Array Oper} {Q : Exit → Act → World → Prop} {S : World → Prop}
end
/-- Cycles of levels of at most q together with all boundaries. -/
def LimD (p : Int) (ds : List Int) (ms : List (List (List Int))) (ls : List (List Int)) (k : Nat) (q : Int) (v : Lin.V) : Prop :=
  ∃ Z B, SpF p (dimN ds (k : Int)) (ZcD p ds ms ls k q (-1)) Z ∧ SpF p (dimN ds (k : Int)) (Lin.Sp p ((tabN ms k).map ofL)) B ∧ Lin.Sp p (Z ++ B) v
def LDim (p : Int) (ds : List Int) (ms : List (List (List Int))) (ls : List (List Int)) (k : Nat) (q x : Int) : Prop := ∃ E, SpF p (dimN ds (k : Int)) (LimD p ds ms ls k q) E ∧ x = (E.length : Int)
theorem SpF.unique' {p : Int} {n : Nat} {S : Lin.V → Prop} {R R' : List Lin.V} (hp : 1 < p) (h : SpF p n S R) (k : SpF p n S R') : R = R' := Lin.Red.unique hp h.1 k.1 (fun v => (h.2.2 v).trans (k.2.2 v).symm)
theorem LDim.unique {p : Int} {ds : List Int} {ms : List (List (List Int))} {ls : List (List Int)} {k : Nat} {q x y : Int} (hp : 1 < p) (h : LDim p ds ms ls k q x) (h' : LDim p ds ms ls k q y) : x = y := by
  obtain ⟨A, a, rfl⟩ := h
  obtain ⟨B, b, rfl⟩ := h'
  rw [a.unique' hp b]
theorem LDim.bd {p : Int} {ds : List Int} {ms : List (List (List Int))} {ls : List (List Int)} {k : Nat} {q x : Int} (hcx : IsCx p ds ms) (h : LDim p ds ms ls k q x) : 0 ≤ x ∧ x ≤ 8 := by
  obtain ⟨A, a, rfl⟩ := h
  have := a.short
  have := (dimN_le8 hcx k).1
  omega
/-- The limit number. -/
def LimNum (p : Int) (ds : List Int) (ms : List (List (List Int))) (ls : List (List Int)) (k : Nat) (q x : Int) : Prop := ∃ a b, LDim p ds ms ls k q a ∧ LDim p ds ms ls k (q - 1) b ∧ x = a - b
theorem LimNum.unique {p : Int} {ds : List Int} {ms : List (List (List Int))} {ls : List (List Int)} {k : Nat} {q x y : Int} (hp : 1 < p) (h : LimNum p ds ms ls k q x) (h' : LimNum p ds ms ls k q y) : x = y := by
  obtain ⟨a, b, ha, hb, rfl⟩ := h
  obtain ⟨c, d, hc, hd, rfl⟩ := h'
  rw [ha.unique hp hc, hb.unique hp hd]
/-- A number and a code. -/
structure NOut (P : Int → Prop) (c0 x c : Int) : Prop where
  code : c = c0
  bad : c0 ≠ 0 → x = 0
  good : c0 = 0 → P x
theorem NOut.unique {P : Int → Prop} {c0 x c y d : Int} (hu : c0 = 0 → ∀ a b, P a → P b → a = b) (h : NOut P c0 x c) (k : NOut P c0 y d) : x = y ∧ c = d := by
  refine ⟨?_, h.code.trans k.code.symm⟩
  by_cases h0 : c0 = 0
  · exact hu h0 _ _ (h.good h0) (k.good h0)
  · rw [h.bad h0, k.bad h0]
theorem NOut.of_no {P : Int → Prop} {c : Int} (h : c ≠ 0) : NOut P c 0 c := ⟨rfl, fun _ => rfl, fun h0 => absurd h0 h⟩
end Go.Proofs.YtckkbojankfdfaaDoor


namespace Go.Proofs.YtckkbojankfdfaaDoor
open Go.RowKit

/-! ### The combination of the first rows of a list with the numbers of a vector. -/
def img (p : Int) (a : Nat) (rows : Nat → Lin.V) (x : Lin.V) : Lin.V := fun j => Lin.dot a (Lin.col rows j) x % p
theorem img_md {p : Int} (hp : 0 < p) (a : Nat) (rows : Nat → Lin.V) (x : Lin.V) : Lin.Md p (img p a rows x) := fun _ => ⟨Int.emod_nonneg _ (by omega), Int.emod_lt_of_pos _ hp⟩
theorem img_zero (p : Int) (rows : Nat → Lin.V) (x : Lin.V) : img p 0 rows x = Lin.zv := by
  funext j
  simp [img, Lin.dot, Lin.zv]
theorem img_succ (p : Int) (a : Nat) (rows : Nat → Lin.V) (x : Lin.V) : img p (a + 1) rows x = Lin.add p (img p a rows x) (x a) (rows a) := by
  funext j
  simp only [img, Lin.add, Lin.dot, Lin.col]
  rw [Lin.mod_add_mod, Int.mul_comm (rows a j)]
theorem img_add (p : Int) (a : Nat) (rows : Nat → Lin.V) (x y : Lin.V) (c : Int) : img p a rows (Lin.add p x c y) = Lin.add p (img p a rows x) c (img p a rows y) := by
  funext j
  simp only [img, Lin.add]
  rw [Lin.dot_add, Lin.mod_add_mod, Lin.add_mul_mod]
theorem img_zv (p : Int) (a : Nat) (rows : Nat → Lin.V) : img p a rows Lin.zv = Lin.zv := by
  funext j
  simp only [img]
  rw [Lin.dot_nil (fun i _ => by simp [Lin.zv])]
  simp [Lin.zv]
theorem img_sp {p : Int} {E : List Lin.V} {rows : Nat → Lin.V} (x : Lin.V) : ∀ {a : Nat}, (∀ i, i < a → rows i ∈ E) → Lin.Sp p E (img p a rows x) := by
  intro a
  induction a with
  | zero => intro _; rw [img_zero]; exact .zero
  | succ a ih => intro h; rw [img_succ]; exact .step _ (ih (fun i hi => h i (by omega))) (h a (by omega))
def rowsV (E : List Lin.V) : Nat → Lin.V := fun i => E.getD i Lin.zv
theorem rowsV_at {E : List Lin.V} {i : Nat} (h : i < E.length) : rowsV E i = E[i] := by simp [rowsV, List.getD, h]
theorem rowsV_mem {E : List Lin.V} {i : Nat} (h : i < E.length) : rowsV E i ∈ E := by rw [rowsV_at h]; exact List.getElem_mem h
/-- A vector of a reduced list's space is the combination with its numbers at the leads. -/
theorem img_leads {p : Int} (hp : 1 < p) {E : List Lin.V} (hE : Lin.Red p E) {v : Lin.V} (hv : Lin.Sp p E v) {x : Lin.V} (hx : ∀ i (h : i < E.length), x i = v (Lin.ld E[i])) : img p E.length (rowsV E) x = v := by
  have hp0 : 0 < p := by omega
  have hvm := hv.md hp0
  have hi := img_sp (p := p) (E := E) (rows := rowsV E) x (a := E.length) (fun i h => rowsV_mem h)
  refine (Lin.eq_of_add hvm (img_md hp0 _ _ _) (hE.zero_of hp0 (Lin.Sp.add (-1) hvm hv hi) (fun w hw => ?_))).symm
  obtain ⟨k, hk, rfl⟩ := List.getElem_of_mem hw
  have hd : Lin.dot E.length (Lin.col (rowsV E) (Lin.ld E[k])) x = x k := by
    rw [Lin.dot_one hk (fun i hi hne => ?_)]
    · simp only [Lin.col]
      rw [rowsV_at hk, hE.one _ (List.getElem_mem hk), Int.one_mul]
    · simp only [Lin.col]
      rw [rowsV_at hi, hE.off _ (List.getElem_mem hi) _ (List.getElem_mem hk) (fun e => hne (by
        have := List.pairwise_iff_getElem.1 hE.inc
        rcases Nat.lt_trichotomy i k with h | h | h
        · have := this i k hi hk h; omega
        · exact h
        · have := this k i hk hi h; omega)), Int.zero_mul]
  have hxb := hvm (Lin.ld E[k])
  simp only [Lin.add, img]
  rw [hd, hx k hk, Lin.md_mod hxb.1 hxb.2]
  have : v (Lin.ld E[k]) + -1 * v (Lin.ld E[k]) = 0 := by omega
  rw [this]
  rfl
theorem dot_split (u v : Lin.V) (a : Nat) : ∀ b, Lin.dot (a + b) u v = Lin.dot a u v + Lin.dot b (fun i => u (a + i)) (fun i => v (a + i))
  | 0 => by simp [Lin.dot]
  | b + 1 => by
    show Lin.dot (a + b) u v + u (a + b) * v (a + b) = _
    rw [dot_split u v a b, Lin.dot]
    omega

/-! ### A reduced list for every list. -/
/-- The sums that l01Apply makes. -/
theorem apT_img {p : Int} {n a : Nat} {E : List Lin.V} {s : Lin.V} (ok : ApOk p n (toL a s) (E.map (toL n))) (ha : a = E.length) : apT p n (toL a s) (E.map (toL n)) = toL n (img p a (rowsV E) s) := by
  have hl := apTo_length ok (Nat.le_refl _)
  have key : ∀ k, k ≤ a → ∀ j, j < n → (apTo p n (toL a s) (E.map (toL n)) k).getD j 0 = img p k (rowsV E) s j := by
    intro k
    induction k with
    | zero => intro _ j hj; rw [img_zero]; simp [apTo, List.getD, hj, Lin.zv]
    | succ k ih =>
      intro hk j hj
      rw [apTo_at ok (by rw [toL_length]; omega) hj, ih (by omega) j hj, img_succ]
      have h1 : (toL a s).getD k 0 = s k := by rw [getD_of_lt _ (by rw [toL_length]; omega), toL_get]
      have h2 : ((E.map (toL n)).getD k []).getD j 0 = rowsV E k j := by
        have e1 : (E.map (toL n)).getD k [] = toL n (E[k]'(by omega)) := by rw [getD_of_lt _ (by rw [List.length_map]; omega), List.getElem_map]
        rw [e1, getD_of_lt _ (by rw [toL_length]; exact hj), toL_get, rowsV_at (by omega)]
      rw [h1, h2]
      rfl
  refine List.ext_getElem (by rw [apT, hl, toL_length]) fun j h1 h2 => ?_
  have hj : j < n := by rw [toL_length] at h2; exact h2
  rw [toL_get, ← key a (Nat.le_refl _) j hj]
  have hj' : j < (apTo p n (toL a s) (E.map (toL n)) (toL a s).length).length := h1
  rw [toL_length] at hj'
  rw [getD_of_lt _ hj']
  simp only [apT, toL_length]
end Go.Proofs.YtckkbojankfdfaaDoor


namespace Go.Proofs.YtckkbojankfdfaaDoor
open Go.RowKit

/-- The differential of a vector, by the table. -/
def dimg (p : Int) (d : Nat) (t : List (List Int)) (u : Lin.V) : Lin.V := img p d (rowsV (t.map ofL)) u
theorem dimg_apT {p : Int} {d c : Nat} {t : List (List Int)} {u : Lin.V} (hp : IsP p) (htl : t.length = d) (htr : ∀ r ∈ t, RowOk p (c : Int) r) (hu : Lin.Md p u) : ApOk p c (toL d u) t ∧ apT p c (toL d u) t = toL c (dimg p d t u) := by
  have hrows : (t.map ofL).map (toL c) = t := rows_toL' (fun r hr => by have := (htr r hr).1; omega)
  have ok : ApOk p c (toL d u) t := ⟨hp, by rw [toL_length, htl]; exact Nat.le_refl _, fun x hx => by
    obtain ⟨i, _, rfl⟩ := List.mem_map.1 hx
    have := hu i
    omega, htr⟩
  refine ⟨ok, ?_⟩
  have h := apT_img (p := p) (n := c) (a := d) (E := t.map ofL) (s := u) (by rw [hrows]; exact ok) (by rw [List.length_map, htl])
  rw [hrows] at h
  exact h
theorem dimg_md {p : Int} (hp : 0 < p) (d : Nat) (t : List (List Int)) (u : Lin.V) : Lin.Md p (dimg p d t u) := img_md hp _ _ _
theorem dimg_wd {p : Int} {d c : Nat} {t : List (List Int)} (htl : t.length = d) (htr : ∀ r ∈ t, RowOk p (c : Int) r) (u : Lin.V) : Lin.Wd c (dimg p d t u) := fun j hj => by
  simp only [dimg, img]
  rw [Lin.dot_nil (fun i hi => by
    simp only [Lin.col]
    rw [rowsV_at (by rw [List.length_map, htl]; exact hi), List.getElem_map]
    have hr := htr _ (List.getElem_mem (show i < t.length by omega))
    have : ofL t[i] j = 0 := ofL_wd (n := c) (by have := hr.1; omega) j hj
    rw [this, Int.zero_mul])]
  rfl
theorem at_l1 {w : World} {b d : Nat} {u : Lin.V} (h : At w b 0 u) (hd : d ≤ 40) : L1 0 w (.slice (some ⟨b, 0, none⟩) d 40) (toL d u) := by
  by_cases h0 : d = 0
  · subst h0
    exact Or.inl ⟨rfl, _, _, rfl⟩
  · refine Or.inr ⟨b, 0, 40, by rw [toL_length], Nat.zero_le _, by rw [toL_length]; omega, fun k hk => ?_⟩
    have hk' : k < d := by rw [toL_length] at hk; exact hk
    exact ⟨_, h.cell (by omega), by rw [toL_get]; rfl⟩
section
variable {P : Program} {ops : Array Oper} {S : World → Prop}
theorem yieldsIf_slice {o : Oper} {a : Act} {x y : Operand} {u i v : Value} {t : TypeId} (hg : o.guard = none) (ho : o.op = .slice t x none (some y) none) (hx : a.eval x = u) (hy : a.eval y = i) (hrun : ∀ w, (Instr.sliceAt t u none (some i) none).run P w = .ok v w) : YieldsIf P ops S o v a :=
  Or.inl ⟨by unfold Region.wanted; rw [hg], fun w _ => by
    unfold execOp
    simp only [ho, Option.map_none, Option.map_some, hx, hy, Sem.run_bind, hrun w, Result.andThen_ok]
    rfl⟩
end

end Go.Proofs.YtckkbojankfdfaaDoor


namespace Go.Proofs.YtckkbojankfdfaaDoor
open Go.RowKit

/-- Approximate cycles of the degree above, none beyond the degrees. -/
def UpP (p : Int) (ds : List Int) (ms : List (List (List Int))) (ls : List (List Int)) (k : Nat) (q q0 : Int) (R : List Lin.V) : Prop := (k < ds.length → SpF p (dimN ds (k : Int)) (ZcD p ds ms ls k q q0) R) ∧ (¬ k < ds.length → R = [])
def dimgs (p : Int) (ds : List Int) (ms : List (List (List Int))) (k : Nat) (R : List Lin.V) : List Lin.V := R.map (dimg p (dimN ds (k : Int)) (cycT ds ms k))
/-- The bottom. -/
def BotS (p : Int) (ds : List Int) (ms : List (List (List Int))) (ls : List (List Int)) (k : Nat) (r q : Int) (v : Lin.V) : Prop :=
  ∃ A R, SpF p (dimN ds (k : Int)) (ZcD p ds ms ls k (q - 1) (q - r)) A ∧ UpP p ds ms ls (k + 1) (q + r - 1) q R ∧ Lin.Sp p (A ++ dimgs p ds ms (k + 1) R) v
theorem UpP.unique {p : Int} {ds : List Int} {ms : List (List (List Int))} {ls : List (List Int)} {k : Nat} {q q0 : Int} {R R' : List Lin.V} (hp : 1 < p) (h : UpP p ds ms ls k q q0 R) (h' : UpP p ds ms ls k q q0 R') : R = R' := by
  by_cases hk : k < ds.length
  · exact (h.1 hk).unique' hp (h'.1 hk)
  · rw [h.2 hk, h'.2 hk]
theorem UpP.short {p : Int} {ds : List Int} {ms : List (List (List Int))} {ls : List (List Int)} (hcx : IsCx p ds ms) {k : Nat} {q q0 : Int} {R : List Lin.V} (h : UpP p ds ms ls k q q0 R) : R.length ≤ 8 := by
  by_cases hk : k < ds.length
  · have := (h.1 hk).short
    have := (dimN_le8 hcx k).1
    omega
  · rw [h.2 hk]; simp
end Go.Proofs.YtckkbojankfdfaaDoor


namespace Go.Proofs.YtckkbojankfdfaaDoor
open Go.RowKit

theorem owns_of_row {W : World} {g n : Nat} {X : Nat → Int} (h : W.rowIs g 2 n (fun i => .int .i64 (X i))) (hn : n ≤ maxLen) : W.ownsRow 0 2 1 (.slice (some ⟨g, 0, none⟩) n n) n (((List.range n).map X).map (Value.int .i64)) := by
  obtain ⟨C, hb, hs, hc⟩ := h
  refine ⟨by simp, Or.inr ⟨g, n, C, rfl, Nat.zero_le _, hb, Nat.le_refl _, hn, by omega, ?_⟩⟩
  rw [Nat.mul_one, List.take_of_length_le (by simp [hs])]
  refine List.ext_getElem (by simp [hs]) fun i h1 h2 => ?_
  have hi : i < n := by simpa [hs] using h1
  have := hc i hi
  rw [Array.getElem?_eq_getElem (by omega)] at this
  injection this with this
  simp [this]
def ApG (p : Int) (c : Nat) (v : List Int) (t : List (List Int)) (w : World) (e : Ending) (w' : World) : Prop := ∃ u, e = .returned u ∧ G1 w' u (apT p c v t) ∧ Below w.heap.size w w'
theorem Ap.doneG {w wr : World} {p : Int} {c : Nat} {v : List Int} {t : List (List Int)} (hc : c ≤ 1048576) (ok : ApOk p c v t) (h : Ap w wr 2 p c v t v.length 0) : G1 wr (.slice (some ⟨w.heap.size, 0, none⟩) c c) (apT p c v t) := by
  have hl := apTo_length ok (Nat.le_refl _)
  have h1 : wr.rowIs w.heap.size 2 c (fun i => .int .i64 ((apT p c v t).getD i 0)) := h.row.congr (fun j _ => by simp [apCell, apT])
  have h2 := owns_of_row h1 (by unfold maxLen; omega)
  have hlen : (apT p c v t).length = c := hl
  have e : (List.range c).map (fun i => (apT p c v t).getD i 0) = apT p c v t := List.ext_getElem (by simp [hlen]) fun i a b => by
    simp only [List.getElem_map, List.getElem_range]
    exact getD_of_lt _ b
  rw [e] at h2
  unfold G1
  rw [hlen]
  exact h2

set_option maxHeartbeats 3200000 in
theorem l01ApplyG_any (p : Int) (c : Nat) (va vt : Value) (v : List Int) (t : List (List Int)) (w : World) (ok : ApOk p c v t) (ha : L1 0 w va v) (ht : L2 0 w vt t) (hv : v.length ≤ 1048576) (hc : c ≤ 1048576) :
    Calls Tryd.prog 46 #[.int .i64 p, vt, va, .int .i64 c] w (ApG p c v t w) := by
  have hmk := run_make_row' (P := Tryd.prog) 33 2 (.int .i64 0) 8 Tryd.underlying33 Tryd.infoI rfl .i64 .i64 c (by omega) (by omega)
  have hp0 := ok.prime.lo
  have hp1 := ok.prime.hi
  have OK := Lib.hid ok
  clear ok
  refine Sl.cases ha (fun ad cap hx hv' => ?_) (fun b o cap hv' _ hpos hcl => ?_)
  · subst hx hv'
    clear ha ht
    go_enter Tryd.func46, Tryd.ntmps46
    go_wp2
    refine wp_loop_rounds 1 ?_
    rw [rounds_succ]
    go_wp2
    go_ret
    exact ⟨_, rfl, Ap.doneG (by omega) OK.out (Ap.start _ _ _ _ _ _), (Below.refl _ _).alloc (Nat.le_refl _) _⟩
  · refine Sl.cases ht (fun ad2 cap2 hx2 hv2 => absurd OK.out.len (by subst hx2; simp only [List.length_nil]; omega)) (fun b2 o2 cap2 hv2 _ hpos2 hcl2 => ?_)
    subst hv' hv2
    clear ha ht
    have hlen := OK.out.len
    have HC := Lib.hid hcl
    have HC2 := Lib.hid hcl2
    clear hcl hcl2
    go_enter Tryd.func46, Tryd.ntmps46
    go_wp2
    clear hmk
    go_loopw [10, 11] (fun i _ wr => ∃ (k : Nat), k ≤ v.length ∧ i = .int .i64 k ∧ Ap w wr 2 p c v t k 0) (fun i _ _ => v.length - (intOf i).toNat)
    case atStart => exact ⟨0, Nat.zero_le _, rfl, Ap.start _ _ _ _ _ _⟩
    case round =>
      obtain ⟨k, hk, rfl, HA⟩ := hrel
      by_cases hlt2 : k < v.length
      · have hlt3 : k < t.length := by omega
        obtain ⟨u, hu, hr⟩ := HC.out k hlt2
        obtain ⟨u2, hu2, hr2⟩ := HC2.out k hlt3
        have hnum := OK.out.num hlt2
        have hrow := OK.out.row hlt2
        rw [getD_of_lt _ hlt2] at hnum
        rw [getD_of_lt _ hlt3] at hrow
        obtain ⟨f, hf⟩ : ∃ f, f = v[k] := ⟨_, rfl⟩
        obtain ⟨ys, hy⟩ : ∃ ys, ys = t[k] := ⟨_, rfl⟩
        rw [← hf] at hnum
        rw [← hy] at hrow hr2
        obtain ⟨hf0, hf1⟩ := hnum
        have HU : Hid (w.cell? ⟨b, o + k, none⟩ = some (.int .i64 f)) := Lib.hid (by rw [hu, hr, hf])
        have HU2 := Lib.hid hu2
        have HF := Lib.hid hf
        have HY := Lib.hid hy
        have HROW := Lib.hid hrow
        have HR2 := Lib.hid hr2
        have HA' := Lib.hid HA
        clear hf hy hrow HA hu hr hu2 hr2
        obtain ⟨wo, hwo⟩ : ∃ wo : World, wo = wr := ⟨_, rfl⟩
        have HWO := Lib.hid hwo
        clear hwo
        go_wp2
        go_loopw [11] (fun i wr => ∃ (q : Nat), q ≤ c ∧ i = .int .i64 q ∧ Ap w wr 2 p c v t k q) (fun i _ => c - (intOf i).toNat)
        case atStart => exact ⟨0, Nat.zero_le _, rfl, HA'.out⟩
        case round =>
          obtain ⟨q, hq, rfl, HB⟩ := hrel
          by_cases hlt4 : q < c
          · have hl5 : q < ys.length := by have := HROW.out.1; omega
            refine Sl.cases HR2.out (fun ad3 cap3 hx3 hv3 => absurd hl5 (by subst hx3; simp)) (fun b3 o3 cap3 hv3 _ hpos3 hcl3 => ?_)
            obtain ⟨u3, hu3, hr3⟩ := hcl3 q hl5
            have hx := HROW.out.2 _ (List.getElem_mem hl5)
            obtain ⟨x, hxx⟩ : ∃ x, x = ys[q] := ⟨_, rfl⟩
            obtain ⟨a, haa⟩ : ∃ a, a = (apTo p c v t k).getD q 0 := ⟨_, rfl⟩
            have hab := apTo_mod OK.out (Nat.le_of_lt hlt2) q
            have hac := HB.cell hlt4
            have hfz := HB.row.frozen q
            rw [← haa] at hab hac
            rw [← hxx] at hx
            obtain ⟨hx0, hx1⟩ := hx
            obtain ⟨ha0, ha1⟩ := hab
            have hu' : wr.cell? ⟨b, o + k, none⟩ = some (.int .i64 f) := by rw [HB.below.cell (p := ⟨b, o + k, none⟩) (cell_lt HU.out)]; exact HU.out
            have hu2' : wr.cell? ⟨b2, o2 + k, none⟩ = some (.slice (some ⟨b3, o3, none⟩) ys.length cap3) := by rw [HB.below.cell (p := ⟨b2, o2 + k, none⟩) (cell_lt HU2.out)]; rw [HU2.out, hv3]
            have hu3' : wr.cell? ⟨b3, o3 + q, none⟩ = some (.int .i64 x) := by rw [HB.below.cell (p := ⟨b3, o3 + q, none⟩) (cell_lt hu3), hu3, hr3, hxx]
            have m0 : 0 ≤ f * x := Int.mul_nonneg hf0 hx0
            have m1 : f * x ≤ 36 := Int.le_trans (Int.mul_le_mul (show f ≤ 6 by omega) (show x ≤ 6 by omega) hx0 (by omega)) (by omega)
            have HS := Lib.hid (HB.step OK.out hlt2 hlt4 (x := (a + f * x) % p) (by rw [haa, HF.out, hxx, getD_of_lt _ hlt2, getD_of_lt _ hlt3, ← HY.out, getD_of_lt _ hl5]))
            clear HB hu3 hr3 haa hxx hv3 hcl3
            go_wp2
            go_region
            all_goals go_wp2
            all_goals go_roundw
            case rel => exact ⟨q + 1, by omega, by go_num, HS.out.drew⟩
            case measure => simp [intOf]; omega
          · have HB' := Lib.hid HB
            have hqc : Hid (q = c) := Lib.hid (by omega)
            clear HB
            go_wp2
            go_roundw
            case rel => exact ⟨k + 1, by omega, by go_num, Ap.next (by have := HB'.out; rwa [hqc.out] at this)⟩
            case measure => simp [intOf]; omega
      · have hkk : k = v.length := by omega
        subst hkk
        have HA' := Lib.hid HA
        clear HA
        go_wp2
        go_ret
        exact ⟨_, rfl, Ap.doneG (by omega) OK.out HA'.out, HA'.out.below⟩

end Go.Proofs.YtckkbojankfdfaaDoor


namespace Go.Proofs.YtckkbojankfdfaaDoor
open Go.RowKit

section
variable {md : Region.Mode} {ops : Array Oper} {Q : Exit → Act → World → Prop} {S : World → Prop}
/-- append of one row to a table that the call gathers, in a drawn region. -/
theorem held_appendG {i : Nat} {oi : Oper} {fuel : Nat} {listed : Array Bool} {a : Act} {w : World} (d : Option Tmp) (hr : Region.ready md ops listed = [i]) (hi : ops[i]? = some oi) (hg : oi.guard = none) (hd : oi.dst = d)
    (s x : Operand) (ho : oi.op = .call { callee := .builtin .append, args := #[s, x], argTypes := #[22, 22] }) (base : Nat) (v : Value) (tb : List (List Int)) (hs : a.eval s = v) (hst : Gs base w v tb)
    (b : Nat) (ad : Option Addr) (m c : Nat) (hx : a.eval x = .slice (some ⟨b, 0, none⟩) 1 1) (hc : w.cell? ⟨b, 0, none⟩ = some (.slice ad m c)) (y : List Int) (hy : G1 w (.slice ad m c) y) (hn : tb.length ≤ 1048576) (hb : base ≤ w.heap.size)
    (h : ∀ v' w', Gs base w' v' (tb ++ [y]) → Below base w w' → S w' ∧ wpAnyH Tryd.prog md ops Q S fuel (listed.setIfInBounds i true) (a.put d v') w') : wpAnyH Tryd.prog md ops Q S (fuel + 1) listed a w := by
  obtain ⟨vs, hvo, hvr⟩ := hst
  exact held_appendS d hr hi hg hd s x ho base v tb.length vs hs hvo b ad m c hx hc (by omega) hb (fun v' w' hown hgrow => h v' w' (Gs.push hvo hvr hy hown hgrow) ((Below.refl _ _).grown hgrow hb (fun g hg => (World.ownsRow.lt hvo g hg).1)))
end

/-- Gathered rows of a table behind one another. -/
structure CatA (base : Nat) (w : World) (v : Value) (tb : List (List Int)) (xs : List Value) : Prop where
  own : w.ownsRow base 33 1 v tb.length xs
  len : xs.length = tb.length
  rows : ∀ k (h1 : k < xs.length) (h2 : k < tb.length), G1 w xs[k] tb[k]
theorem CatA.below {base : Nat} {w w' : World} {v : Value} {tb : List (List Int)} {xs : List Value} (h : CatA base w v tb xs) (hb : Below w.heap.size w w') : CatA base w' v tb xs := ⟨owns_below h.own hb, h.len, fun k h1 h2 => (h.rows k h1 h2).below hb⟩
theorem CatA.gs {base : Nat} {w : World} {v : Value} {tb : List (List Int)} {xs : List Value} (h : CatA base w v tb xs) : Gs base w v tb := ⟨xs, h.own, h.rows⟩
theorem CatA.start (w : World) (base : Nat) (hb : base ≤ w.heap.size) : CatA base (w.alloc (.cells #[] 33)) (.slice (some ⟨w.heap.size, 0, none⟩) 0 0) [] [] :=
  ⟨by simpa using World.ownsRow_made (base := base) (e := 33) (size := 1) w #[] 0 hb (by unfold maxLen; omega) (by simp), rfl, fun k h1 _ => absurd h1 (Nat.not_lt_zero _)⟩
/-- behind the append of a gathered table. -/
theorem CatA.add {base : Nat} {w w' : World} {v v' : Value} {ta tb : List (List Int)} {xs ys : List Value} (h : CatA base w v ta xs) (hb : ∀ k (h1 : k < ys.length) (h2 : k < tb.length), G1 w ys[k] tb[k]) (hl : ys.length = tb.length)
    (ho : w'.ownsRow base 33 1 v' (ta.length + tb.length) (xs ++ ys)) (hg : w.grownBy w' v.ownBlock) : CatA base w' v' (ta ++ tb) (xs ++ ys) := by
  have h1 := h.len
  refine ⟨by rw [List.length_append]; exact ho, by simp; omega, fun k hk hk2 => ?_⟩
  by_cases e : k < xs.length
  · rw [List.getElem_append_left e, List.getElem_append_left (by omega)]
    exact owns_grown (h.rows k e (by omega)) h.own (by decide) hg
  · rw [List.getElem_append_right (by omega), List.getElem_append_right (by omega)]
    have h3 : k - xs.length < ys.length := by rw [List.length_append] at hk; omega
    have : G1 w' ys[k - xs.length] (tb[k - xs.length]'(by omega)) := owns_grown (hb (k - xs.length) h3 (by omega)) h.own (by decide) hg
    simpa [h1] using this
end Go.Proofs.YtckkbojankfdfaaDoor


namespace Go.Proofs.YtckkbojankfdfaaDoor
open Go.RowKit

/-- The space that a page's basis spans. -/
def PgS (p : Int) (ds : List Int) (ms : List (List (List Int))) (ls : List (List Int)) (k : Nat) (r q : Int) (v : Lin.V) : Prop :=
  ∃ C B, SpF p (dimN ds (k : Int)) (ZcD p ds ms ls k q (q - r)) C ∧ SpF p (dimN ds (k : Int)) (BotS p ds ms ls k r q) B ∧ Lin.Sp p (C ++ B) v ∧ ∀ w ∈ B, v (Lin.ld w) = 0
end Go.Proofs.YtckkbojankfdfaaDoor


namespace Go.Proofs.YtckkbojankfdfaaDoor
open Go.RowKit

/-- What a function with a table answers: the table, or a code. -/
structure TbOut (P : List (List Int) → Prop) (c0 : Int) (out : List (List Int)) (c : Int) : Prop where
  good : c0 = 0 → P out
  bad : c0 ≠ 0 → out = []
  code : c = c0
theorem TbOut.unique {P : List (List Int) → Prop} {c0 : Int} {o1 o2 : List (List Int)} {c1 c2 : Int} (hu : c0 = 0 → ∀ a b, P a → P b → a = b) (h1 : TbOut P c0 o1 c1) (h2 : TbOut P c0 o2 c2) : o1 = o2 ∧ c1 = c2 := by
  refine ⟨?_, h1.code.trans h2.code.symm⟩
  by_cases h0 : c0 = 0
  · exact hu h0 _ _ (h1.good h0) (h2.good h0)
  · rw [h1.bad h0, h2.bad h0]
theorem TbOut.bd {P : List (List Int) → Prop} {c0 : Int} {o : List (List Int)} {c : Int} (h : TbOut P c0 o c) (hb : c0 = 0 → ∀ a, P a → Bd2 1048576 a) : Bd2 1048576 o := by
  by_cases h0 : c0 = 0
  · exact hb h0 _ (h.good h0)
  · rw [h.bad h0]
    exact ⟨by simp, by simp⟩
theorem TbOut.of_no {P : List (List Int) → Prop} {c0 : Int} (h : c0 ≠ 0) : TbOut P c0 [] c0 := ⟨fun h0 => absurd h0 h, fun _ => rfl, rfl⟩
theorem TbOut.of_yes {P : List (List Int) → Prop} {c0 : Int} {o : List (List Int)} (h : c0 = 0) (hp : P o) : TbOut P c0 o 0 := ⟨fun _ => hp, fun hh => absurd h hh, h.symm⟩
/-- The numbers at the leads of a list. -/
noncomputable def leadRow (W : List Lin.V) (r : Lin.V) : List Int := W.map fun w => r (Lin.ld w)
/-- The rests of vectors behind a list. -/
structure ImRests (p : Int) (B M rs : List Lin.V) : Prop where
  len : rs.length = M.length
  at' : ∀ i (h : i < M.length) (h' : i < rs.length), Lin.RestE p B M[i] B.length rs[i]
theorem ImRests.unique {p : Int} (hp : 0 < p) {B M rs rs' : List Lin.V} (hB : Lin.Red p B) (h : ImRests p B M rs) (h' : ImRests p B M rs') : rs = rs' :=
  List.ext_getElem (by rw [h.len, h'.len]) fun i h1 h2 => Lin.RestE.unique hp hB (h.at' i (by rw [← h.len]; exact h1) h1) (h'.at' i (by rw [← h.len]; exact h1) h2)

/-- The table of the page differential. -/
def PdT (p : Int) (ds : List Int) (ms : List (List (List Int))) (ls : List (List Int)) (k : Nat) (r q : Int) (out : List (List Int)) : Prop :=
  ∃ P, SpF p (dimN ds (k : Int)) (PgS p ds ms ls k r q) P ∧
    (((k = 0 ∨ q < r) ∧ out = P.map fun _ => []) ∨
     (¬ (k = 0 ∨ q < r) ∧ ∃ B W rs, SpF p (dimN ds ((k - 1 : Nat) : Int)) (BotS p ds ms ls (k - 1) r (q - r)) B ∧ SpF p (dimN ds ((k - 1 : Nat) : Int)) (PgS p ds ms ls (k - 1) r (q - r)) W ∧ ImRests p B (dimgs p ds ms k P) rs ∧ out = rs.map (leadRow W)))
theorem PdT.unique {p : Int} (hp : 1 < p) {ds : List Int} {ms : List (List (List Int))} {ls : List (List Int)} {k : Nat} {r q : Int} {a b : List (List Int)} (h : PdT p ds ms ls k r q a) (h' : PdT p ds ms ls k r q b) : a = b := by
  obtain ⟨P, hP, h⟩ := h
  obtain ⟨P', hP', h'⟩ := h'
  obtain rfl : P = P' := hP.unique' hp hP'
  rcases h with ⟨h0, rfl⟩ | ⟨h0, B, W, rs, hB, hW, hr, rfl⟩
  · rcases h' with ⟨_, rfl⟩ | ⟨h1, _⟩
    · rfl
    · exact absurd h0 h1
  · rcases h' with ⟨h1, _⟩ | ⟨_, B', W', rs', hB', hW', hr', rfl⟩
    · exact absurd h1 h0
    · obtain rfl : B = B' := hB.unique' hp hB'
      obtain rfl : W = W' := hW.unique' hp hW'
      rw [hr.unique (by omega) hB.1 hr']
theorem PdT.bd {p : Int} {ds : List Int} {ms : List (List (List Int))} {ls : List (List Int)} (hcx : IsCx p ds ms) {k : Nat} {r q : Int} {a : List (List Int)} (h : PdT p ds ms ls k r q a) : Bd2 1048576 a := by
  obtain ⟨P, hP, h⟩ := h
  have h8 := (dimN_le8 hcx k).1
  have hl := hP.short
  rcases h with ⟨_, rfl⟩ | ⟨_, B, W, rs, hB, hW, hr, rfl⟩
  · refine ⟨by rw [List.length_map]; omega, fun x hx => ?_⟩
    obtain ⟨_, _, rfl⟩ := List.mem_map.1 hx
    simp [Bd1]
  · have h8' := (dimN_le8 hcx (k - 1)).1
    have hl' := hW.short
    refine ⟨by rw [List.length_map, hr.len]; simp only [dimgs, List.length_map]; omega, fun x hx => ?_⟩
    obtain ⟨y, _, rfl⟩ := List.mem_map.1 hx
    simp only [Bd1, leadRow, List.length_map]
    omega

end Go.Proofs.YtckkbojankfdfaaDoor


namespace Go.Proofs.YtckkbojankfdfaaDoor
open Go.RowKit

theorem rowsV_ofL (t : List (List Int)) : rowsV (t.map ofL) = fun i => ofL (t.getD i []) := funext fun i => by
  by_cases h : i < t.length
  · simp [rowsV, List.getD, h]
  · have h' : t.length ≤ i := by omega
    simp only [rowsV, List.getD, List.getElem?_map, List.getElem?_eq_none h', Option.map_none, Option.getD_none]
    exact funext fun j => by simp [ofL, Lin.zv]
theorem dimg_add (p : Int) (d : Nat) (t : List (List Int)) (x : Lin.V) (c : Int) (y : Lin.V) : dimg p d t (Lin.add p x c y) = Lin.add p (dimg p d t x) c (dimg p d t y) := img_add p d _ x y c
theorem dimg_zv (p : Int) (d : Nat) (t : List (List Int)) : dimg p d t Lin.zv = Lin.zv := img_zv p d _
theorem dimg_sp {p : Int} {d : Nat} {t : List (List Int)} {L : List Lin.V} {v : Lin.V} (h : Lin.Sp p L v) : Lin.Sp p (L.map (dimg p d t)) (dimg p d t v) := by
  induction h with
  | zero => rw [dimg_zv]; exact .zero
  | step c _ hw ih => rw [dimg_add]; exact .step c ih (List.mem_map.2 ⟨_, hw, rfl⟩)
/-- The rank of a page differential. -/
def RkNum (p : Int) (ds : List Int) (ms : List (List (List Int))) (ls : List (List Int)) (k : Nat) (r q x : Int) : Prop :=
  ((k = 0 ∨ q < r) ∧ x = 0) ∨
  (¬ (k = 0 ∨ q < r) ∧ ∃ B Z E, SpF p (dimN ds ((k - 1 : Nat) : Int)) (BotS p ds ms ls (k - 1) r (q - r)) B ∧ SpF p (dimN ds (k : Int)) (ZcD p ds ms ls k q (q - r)) Z ∧ Lin.Red p E ∧ Lin.Eqv p E (B ++ dimgs p ds ms k Z) ∧ x = (E.length : Int) - (B.length : Int))
theorem RkNum.unique {p : Int} {ds : List Int} {ms : List (List (List Int))} {ls : List (List Int)} {k : Nat} {r q x y : Int} (hp : 1 < p) (h : RkNum p ds ms ls k r q x) (h' : RkNum p ds ms ls k r q y) : x = y := by
  rcases h with ⟨h0, rfl⟩ | ⟨h0, B, Z, E, hB, hZ, hE, he, rfl⟩
  · rcases h' with ⟨_, rfl⟩ | ⟨h1, _⟩
    · rfl
    · exact absurd h0 h1
  · rcases h' with ⟨h1, _⟩ | ⟨_, B', Z', E', hB', hZ', hE', he', rfl⟩
    · exact absurd h1 h0
    · obtain rfl : B = B' := hB.unique' hp hB'
      obtain rfl : Z = Z' := hZ.unique' hp hZ'
      rw [hE.unique hp hE' (fun v => (he v).trans (he' v).symm)]
theorem ofL_leadRow (W : List Lin.V) (v : Lin.V) : ofL (leadRow W v) = Lin.crd W v := funext fun k => by
  by_cases h : k < W.length
  · simp [ofL, leadRow, Lin.crd, List.getD, h]
  · simp [ofL, leadRow, Lin.crd, List.getD, h]
end Go.Proofs.YtckkbojankfdfaaDoor


namespace Go.Proofs.YtckkbojankfdfaaDoor
open Go.ChangeShapes Go.WideShapes Go.ChangeAt Go.RowKit Go.Deep

theorem Tryd.own : ownKnob Tryd.prog.godebug = none := by kernel_rfl
theorem Tryd.laidOut : laidOutB Tryd.prog = true := by kernel_rfl
theorem Tryd.cellsI : Tryd.prog.cellsOf 2 = 1 := by kernel_rfl
theorem Tryd.cellsS : Tryd.prog.cellsOf 33 = 1 := by kernel_rfl
section
variable {H : Type} {enc : TypeId × Value → H} {P : Program} {w : World} {base : Nat} {held : Bool}

theorem sl_of_trod {α : Type} [Inhabited α] {t e : TypeId} (ht : P.underlying t = some (.slice e)) (hc : P.cellsOf e = 1) {R : World → Value → α → Prop} {B : α → Prop}
    (hR : ∀ fuel v x, DataW.trod enc P w base (fun _ => true) held fuel e [v] = some x → ∃ a, R w v a ∧ B a) {fuel : Nat} {v : Value} {x : DataW H × List MemPlace}
    (h : DataW.trod enc P w base (fun _ => true) held fuel t [v] = some x) : ∃ xs : List α, Sl 0 R w v xs ∧ xs.length ≤ 9223372036854775807 ∧ ∀ a ∈ xs, B a := by
  rcases open_slice1 ht hc h with ⟨hcs, _⟩ | ⟨a, len, cap, m, n, V, D, Pl, hcs, _, hl, hm, hmm, _, hx⟩
  · obtain rfl : v = .slice none 0 0 := by simpa using hcs
    exact ⟨[], Or.inl ⟨rfl, _, _, rfl⟩, by simp, by simp⟩
  · obtain rfl : v = .slice (some a) len cap := by simpa using hcs
    simp only [if_true] at hmm
    have each : ∀ i, i < len → ∃ y : α, R w (V i) y ∧ B y := fun i hi => hR n _ _ (hx i (by omega)).2
    obtain ⟨f, hf⟩ := choose_lt each
    refine ⟨(List.range len).map f, ?_, by simpa [maxLen] using Nat.le_trans hl hm, fun y hy => ?_⟩
    · by_cases h0 : len = 0
      · subst h0
        exact Or.inl ⟨rfl, _, _, rfl⟩
      · obtain ⟨b, off, spot⟩ := a
        have hspot : spot = none := by simpa [Addr.add] using World.cell?_spot (hx 0 (by omega)).1
        subst hspot
        refine Or.inr ⟨b, off, cap, by simp, Nat.zero_le _, by simp; omega, fun k hk => ?_⟩
        have hk' : k < len := by simpa using hk
        refine ⟨V k, by rw [← Go.WideShapes.add_plain]; exact (hx k (by omega)).1, ?_⟩
        simp only [List.getElem_map, List.getElem_range]
        exact (hf k hk').1
    · obtain ⟨i, hi, rfl⟩ := List.mem_map.1 hy
      exact (hf i (by simpa using hi)).2
end

section
variable {H : Type} {enc : TypeId × Value → H} {w : World} {base : Nat} {held : Bool}
theorem l1_of_trod {fuel : Nat} {v : Value} {x : DataW H × List MemPlace} (h : DataW.trod enc Tryd.prog w base (fun _ => true) held fuel 33 [v] = some x) : ∃ xs, L1 0 w v xs ∧ Bd1 9223372036854775807 xs := by
  obtain ⟨xs, h1, h2, _⟩ := sl_of_trod (R := IsI) (B := fun _ => True) Tryd.underlying33 Tryd.cellsI (fun fuel v x hh => by
    obtain ⟨a, e0, _, _⟩ := DataW.trod_int Tryd.underlying2 hh
    exact ⟨a, by simpa [IsI] using e0, trivial⟩) h
  exact ⟨xs, h1, h2⟩
theorem l2_of_trod {fuel : Nat} {v : Value} {x : DataW H × List MemPlace} (h : DataW.trod enc Tryd.prog w base (fun _ => true) held fuel 22 [v] = some x) : ∃ xs, L2 0 w v xs ∧ Bd2 9223372036854775807 xs := by
  obtain ⟨xs, h1, h2, h3⟩ := sl_of_trod (R := L1 0) (B := Bd1 9223372036854775807) Tryd.underlying22 Tryd.cellsS (fun fuel v x hh => l1_of_trod hh) h
  exact ⟨xs, h1, h2, h3⟩
end
end Go.Proofs.YtckkbojankfdfaaDoor

namespace Go.Proofs.YtckkbojankfdfaaDoor
open Go.ChangeShapes Go.WideShapes Go.ChangeAt Go.RowKit Go.Deep

section
variable {H : Type} {enc : TypeId × Value → H} {w : World} {base : Nat} {held : Bool}
end
end Go.Proofs.YtckkbojankfdfaaDoor

namespace Go.Proofs.YtckkbojankfdfaaDoor

section
variable {P : Program} {rk : Nat → Nat}
theorem closureVia_le {B : Nat} (h : ∀ g, ∀ x ∈ ((P.funcs[g]?).elim [] P.leadsTo), rk x ≤ rk g) : ∀ (fuel : Nat) (todo seen : List FuncId), (∀ x ∈ todo, rk x ≤ B) → (∀ x ∈ seen, rk x ≤ B) → ∀ x ∈ P.closureVia fuel todo seen, rk x ≤ B := by
  intro fuel
  induction fuel with
  | zero => intro todo seen _ h2 x hx; exact h2 x (by simpa [Program.closureVia] using hx)
  | succ n ih =>
    intro todo seen h1 h2 x hx
    cases todo with
    | nil => exact h2 x (by simpa [Program.closureVia] using hx)
    | cons f todo =>
      rw [Program.closureVia] at hx
      have hf := h1 f (List.mem_cons_self ..)
      split at hx
      · exact ih todo seen (fun y hy => h1 y (List.mem_cons_of_mem _ hy)) h2 x hx
      · refine ih _ _ (fun y hy => ?_) (fun y hy => ?_) x hx
        · rcases List.mem_append.1 hy with hy | hy
          · exact Nat.le_trans (h f y hy) hf
          · exact h1 y (List.mem_cons_of_mem _ hy)
        · rcases List.mem_cons.1 hy with rfl | hy
          · exact hf
          · exact h2 y hy
theorem recurses_false {B : Nat} (hle : ∀ g, ∀ x ∈ ((P.funcs[g]?).elim [] P.leadsTo), rk x ≤ rk g) (hlt : ∀ g, rk g < B → ∀ x ∈ ((P.funcs[g]?).elim [] P.leadsTo), rk x < rk g) {f : FuncId} (hf : rk f < B) (hu : P.unfollowed f = false) : P.recurses f = false := by
  unfold Program.recurses
  rw [hu, Bool.false_or, List.any_eq_false]
  intro g hg
  have h0 := closureVia_le (P := P) (rk := rk) (B := rk f) hle _ [f] [] (by simp) (by simp) g hg
  rw [List.any_eq_true]
  rintro ⟨x, hx, hc⟩
  have h1 := closureVia_le (P := P) (rk := rk) (B := rk x) hle _ [x] [] (by simp) (by simp) g (by
    have := List.contains_iff_mem.1 hc
    exact this)
  have h2 := hlt g (by omega) x hx
  omega
/-- The order told by a list. -/
def ranksOk (P : Program) (l : List Nat) : Bool := (List.range P.funcs.size).all fun g => ((P.funcs[g]?).elim [] P.leadsTo).all fun x => decide (l.getD x 0 < l.getD g 0) || (decide (99999 ≤ l.getD g 0) && decide (l.getD x 0 ≤ l.getD g 0))
theorem ranks_le {l : List Nat} (h : ranksOk P l = true) : ∀ g, ∀ x ∈ ((P.funcs[g]?).elim [] P.leadsTo), l.getD x 0 ≤ l.getD g 0 ∧ (l.getD g 0 < 99999 → l.getD x 0 < l.getD g 0) := by
  intro g x hx
  by_cases hg : g < P.funcs.size
  · have h1 := List.all_eq_true.1 h g (List.mem_range.2 hg)
    have h2 := List.all_eq_true.1 h1 x hx
    rcases Bool.or_eq_true_iff.1 h2 with h3 | h3
    · have := of_decide_eq_true h3
      exact ⟨by omega, fun _ => this⟩
    · obtain ⟨h4, h5⟩ := Bool.and_eq_true_iff.1 h3
      have := of_decide_eq_true h4
      exact ⟨of_decide_eq_true h5, fun _ => by omega⟩
  · rw [Array.getElem?_eq_none (by omega)] at hx
    cases hx
end
def Tryd.ranks : List Nat := [0, 0, 1, 12, 12, 12, 2, 8, 2, 11, 2, 2, 2, 8, 11, 0, 0, 0, 8, 11, 1, 7, 6, 1, 4, 10, 10, 0, 1, 1, 1, 0, 0, 0, 4, 8, 0, 7, 0, 2, 6, 1, 3, 4, 2, 1, 0, 5, 0, 0, 1, 3, 0, 9, 9, 6, 0, 1, 5, 0, 1, 1, 0, 0, 0, 0, 2, 0, 8, 1, 6, 2, 1, 8, 5, 1, 3, 1, 7, 0, 1, 0, 0, 1, 0, 2, 4, 1, 6, 1, 0, 3, 0, 0, 0, 2, 1, 0, 0, 0, 0, 0, 0, 0, 0, 0, 0, 0, 0, 0, 0, 0, 0, 0, 0, 0, 0, 0, 0, 1]
set_option maxRecDepth 100000 in
theorem Tryd.ranked : ranksOk Tryd.checked.prog Tryd.ranks = true := by kernel_rfl
theorem Tryd.recurses {f : FuncId} (hu : Tryd.checked.prog.unfollowed f = false) (hf : Tryd.ranks.getD f 0 < 99999 := by decide) : Tryd.checked.prog.recurses f = false :=
  recurses_false (fun g x hx => (ranks_le Tryd.ranked g x hx).1) (fun g hg x hx => (ranks_le Tryd.ranked g x hx).2 hg) hf hu

/-! The program's head, a line of words: parted once. -/
def sp32 : Char := Char.ofNat 32
theorem ws_sp (r : List Char) : wordsSigns (sp32 :: r) = [] :: wordsSigns r := rfl
theorem ws_cons {c : Char} (h : c ≠ sp32) {r w : List Char} {ws : List (List Char)} (e : wordsSigns r = w :: ws) : wordsSigns (c :: r) = (c :: w) :: ws := by
  rw [wordsSigns.eq_def]
  split
  · rename_i h1; cases h1
  · rename_i h1; injection h1 with h1 _; exact absurd h1 h
  · rename_i h1; injection h1 with h1 h2; subst h1 h2; rw [e]
theorem ws_word (r : List Char) : ∀ w : List Char, (∀ c ∈ w, c ≠ sp32) → wordsSigns (w ++ sp32 :: r) = w :: wordsSigns r := by
  intro w
  induction w with
  | nil => intro _; exact ws_sp r
  | cons c w ih => intro h; exact ws_cons (h c (List.mem_cons_self ..)) (ih fun x hx => h x (List.mem_cons_of_mem _ hx))
theorem ws_last : ∀ w : List Char, (∀ c ∈ w, c ≠ sp32) → wordsSigns w = [w] := by
  intro w
  induction w with
  | nil => intro _; rfl
  | cons c w ih => intro h; exact ws_cons (h c (List.mem_cons_self ..)) (ih fun x hx => h x (List.mem_cons_of_mem _ hx))
def joinWords : List Char → List (List Char) → List Char
  | w, [] => w
  | w, v :: ws => w ++ sp32 :: joinWords v ws
theorem ws_join : ∀ (ws : List (List Char)) (w : List Char), (∀ v ∈ w :: ws, ∀ c ∈ v, c ≠ sp32) → wordsSigns (joinWords w ws) = w :: ws := by
  intro ws
  induction ws with
  | nil => intro w h; exact ws_last w (h w (List.mem_cons_self ..))
  | cons v ws ih => intro w h; rw [joinWords, ws_word _ _ (h w (List.mem_cons_self ..)), ih v (fun x hx => h x (List.mem_cons_of_mem _ hx))]
def Tryd.doorRows : List (List UInt8) := ([[41, 111, 111, 116, 32, 115, 101, 108, 105, 102, 32, 116, 115, 101, 116, 32, 44, 49, 49, 32, 107, 111, 111, 108, 40, 32, 100, 114, 111, 119, 115, 114, 97, 118, 116, 117, 99, 32, 119, 111, 114, 32, 115, 39, 116, 115, 101, 102, 105, 110, 97, 109, 32, 101, 104, 116, 32, 101, 101, 115, 32, 59, 101, 110, 111, 108, 97, 32, 115, 114, 101, 115, 105, 108, 97, 105, 116, 105, 110, 105, 32, 115, 100, 108, 111, 104, 32, 115, 114, 97, 118, 46, 116, 117, 99, 46, 109, 101, 115, 111, 103, 32, 58, 114, 111, 111, 100, 32, 115, 39, 114, 97, 118], [41, 49, 49, 32, 107, 111, 111, 108, 40, 32, 108, 97, 114, 101, 116, 105, 108, 32, 101, 110, 111, 32, 110, 111, 32, 119, 101, 78, 46, 115, 114, 111, 114, 114, 101, 32, 102, 111, 32, 108, 108, 97, 99, 32, 110, 119, 111, 32, 115, 116, 105, 32, 121, 98, 32, 100, 105, 97, 108, 32, 115, 105, 32, 116, 99, 97, 120, 69, 116, 111, 78, 114, 114, 101, 46, 108, 112, 109, 105, 47, 51, 55, 50, 49, 48, 103, 47, 101, 108, 112, 109, 97, 120, 101, 46, 112, 111, 111, 108, 32, 58, 114, 111, 111, 100, 32, 115, 39, 114, 97, 118], [41, 49, 49, 32, 107, 111, 111, 108, 40, 32, 116, 111, 111, 114, 32, 115, 39, 121, 114, 111, 116, 105, 115, 111, 112, 101, 114, 32, 101, 104, 116, 32, 115, 97, 32, 100, 101, 109, 97, 110, 32, 114, 101, 108, 108, 97, 99, 32, 101, 104, 116, 32, 116, 97, 104, 116, 32, 114, 101, 100, 108, 111, 102, 32, 101, 104, 116, 32, 114, 101, 118, 111, 32, 116, 110, 101, 119, 32, 115, 114, 97, 118, 46, 116, 117, 99, 46, 109, 101, 115, 111, 103, 32, 102, 111, 32, 107, 111, 111, 108, 32, 101, 104, 116, 32, 58, 114, 111, 111, 100, 32, 115, 39, 114, 97, 118]] : List (List Nat)).map fun w => w.map UInt8.ofNat
def Tryd.headWords : List (List Char) := ([[101, 100, 98, 52, 54, 54, 99, 52, 57, 48, 101, 57, 100, 99, 53, 97, 50, 51, 51, 50, 101, 98, 97, 48, 102, 48, 49, 97, 53, 99, 49, 98, 99, 99, 50, 97, 57, 54, 50, 52, 54, 55, 53, 99, 53, 99, 102, 50, 100, 56, 100, 48, 50, 56, 51, 101, 100, 53, 98, 57, 56, 48, 55, 56], [99, 117, 116], [97, 116], [108, 111, 111, 112, 46, 101, 120, 97, 109, 112, 108, 101, 47, 103, 48, 49, 50, 55, 51, 47, 108, 97, 119, 115, 46, 70, 110, 69, 120, 97, 99, 116, 68, 101, 114, 105, 118, 101, 100, 67, 111, 117, 112, 108, 101], [108, 111, 111, 112, 46, 101, 120, 97, 109, 112, 108, 101, 47, 103, 48, 49, 50, 55, 51, 47, 108, 97, 119, 115, 46, 70, 110, 69, 120, 97, 99, 116, 80, 97, 103, 101, 83, 105, 122, 101, 115], [108, 111, 111, 112, 46, 101, 120, 97, 109, 112, 108, 101, 47, 103, 48, 49, 50, 55, 51, 47, 108, 97, 119, 115, 46, 70, 110, 69, 120, 97, 99, 116, 83, 116, 97, 98, 108, 101, 80, 97, 103, 101]] : List (List Nat)).map fun w => w.map Char.ofNat
def Tryd.headWord : List Char := ([104, 97, 114, 110, 101, 115, 115] : List Nat).map Char.ofNat
set_option maxRecDepth 100000 in
theorem Tryd.head_eq : Tryd.checked.prog.initOrder = String.ofList (joinWords Tryd.headWord Tryd.headWords) := by kernel_rfl
set_option maxRecDepth 100000 in
theorem Tryd.head_ok : ((Tryd.headWord :: Tryd.headWords).all fun w => w.all fun c => decide (c ≠ sp32)) = true := by kernel_rfl
theorem Tryd.head_words : wordsSigns Tryd.checked.prog.initOrder.toList = Tryd.headWord :: Tryd.headWords := by
  rw [Tryd.head_eq, String.toList_ofList, ws_join]
  intro v hv c hc
  exact of_decide_eq_true (List.all_eq_true.1 (List.all_eq_true.1 Tryd.head_ok v hv) c hc)
/-! For whatever program with such a head: so the kernel does not run this one's. -/
section
variable {Q : Program} (h : wordsSigns Q.initOrder.toList = Tryd.headWord :: Tryd.headWords)
include h
set_option maxRecDepth 100000 in
theorem Tryd.headLifts_of : Q.headLifts = [] := by
  unfold Program.headLifts
  rw [h]
  kernel_rfl
set_option maxRecDepth 100000 in
theorem Tryd.liftsFinal_of : Q.liftsFinal = false := by
  unfold Program.liftsFinal
  rw [h, Tryd.headLifts_of h]
  kernel_rfl
set_option maxRecDepth 100000 in
theorem Tryd.make_of : Q.make = some .cut := by
  unfold Program.make
  rw [h, Tryd.headLifts_of h]
  show _ = some Make.cut
  kernel_rfl
set_option maxRecDepth 100000 in
theorem Tryd.mayEnter_of (h1 : Q.laysLater = false) (h2 : Q.bearsReflect = false) (h3 : Q.doorRows = Tryd.doorRows) : Q.mayEnter = true := by
  unfold Program.mayEnter
  simp only [h, h1, h2, Program.doorFits, h3]
  show _ = true
  kernel_rfl
end
theorem Tryd.mayEnter : Tryd.checked.prog.mayEnter = true := Tryd.mayEnter_of Tryd.head_words (by kernel_rfl) (by kernel_rfl) (by kernel_rfl)
theorem Tryd.liftsFinal : Tryd.checked.prog.liftsFinal = false := Tryd.liftsFinal_of Tryd.head_words
theorem Tryd.make : Tryd.checked.prog.make = some .cut := Tryd.make_of Tryd.head_words
end Go.Proofs.YtckkbojankfdfaaDoor

