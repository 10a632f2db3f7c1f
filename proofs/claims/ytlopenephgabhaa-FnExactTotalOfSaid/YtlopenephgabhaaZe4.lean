/-
  Texts that ProofTol needs, part 4.
-/
import Derived.Test.YtlopenephgabhaaZe3
import Derived.Great.BuildSlice
import Derived.Laws.AppendOwn
import Derived.Deep.AppendLies
import Derived.Lib.AppendZeros
import Derived.Deep.QuietTactic
import Derived.BigQuiet
import Derived.Deep.RegionHeld3
import Derived.Lib.AppendZerosOnto
import Derived.Maps.AppendAt
import Derived.BigRegion
import Derived.Deep.Cut
import Derived.Deep.CutRange
import Derived.StillTailTactics
import Derived.Laws.EntriesVeiled
namespace Go.Proofs.Ytlopenephgabhaa
open Go.RowKit

section
variable {P : Program} {md : Region.Mode} {ops : Array Oper} {Q : Exit → Act → World → Prop} {S : World → Prop}
theorem yieldsIf_bin {o : Oper} {a : Act} {x y : Operand} {v u i : Value} {b : BinOp} {t t' : TypeId} (hg : o.guard = none) (ho : o.op = .binOp b t x y t') (hx : a.eval x = u) (hy : a.eval y = i) (hge : ∀ w, (eqGuard b t x y u i).run P w = .ok () w) (hrun : ∀ w, (binOp b t u i).run P w = .ok v w) : YieldsIf P ops S o v a :=
  Or.inl ⟨by unfold Region.wanted; rw [hg], fun w _ => by
    unfold execOp
    simp only [ho, hx, hy, Sem.run_bind, hge w, hrun w, Result.andThen_ok]
    rfl⟩
theorem yieldsIf_run {o : Oper} {a : Act} {v : Value} (hg : o.guard = none) (hrun : ∀ w, S w → (execOp a.eval o).run P w = .ok (.value v) w) : YieldsIf P ops S o v a :=
  Or.inl ⟨by unfold Region.wanted; rw [hg], hrun⟩
theorem yieldsIf_assign {o : Oper} {a : Act} {x : Operand} {v : Value} (hg : o.guard = none) (ho : o.op = .assign x) (hx : a.eval x = v) : YieldsIf P ops S o v a :=
  Or.inl ⟨by unfold Region.wanted; rw [hg], fun w _ => by
    unfold execOp
    simp only [ho, hx]
    rfl⟩
end
section
variable {md : Region.Mode} {ops : Array Oper} {Q : Exit → Act → World → Prop} {S : World → Prop}
/-- A slice of one new number. -/
theorem held_buildI {i : Nat} {oi : Oper} {fuel : Nat} {listed : Array Bool} {a : Act} {w : World} (d : Option Tmp) (hr : Region.ready md ops listed = [i]) (hi : ops[i]? = some oi) (hg : oi.guard = none) (hd : oi.dst = d)
    (x : Operand) (n : Int) (ho : oi.op = .buildSlice 35 1 #[(0, x)]) (hx : a.eval x = .int .i64 n)
    (h : S (w.alloc (.cells #[.int .i64 n] 2)) ∧ wpAnyH Try.prog md ops Q S fuel (listed.setIfInBounds i true) (a.put d (.slice (some ⟨w.heap.size, 0, none⟩) 1 1)) (w.alloc (.cells #[.int .i64 n] 2))) : wpAnyH Try.prog md ops Q S (fuel + 1) listed a w := by
  obtain ⟨ie, hie, hz, h1, _⟩ := info_parts Try.infoI
  subst hd
  refine held_call hr hi hg (wp_buildSlice 35 2 1 #[(0, x)] ho #[.int .i64 n] ie _ Try.underlying35 hie hz (by rw [h1]; decide) (by rw [h1]; decide) ?_ h)
  simp only [h1, List.map_toArray, List.map_cons, List.map_nil, hx]
  first | kernel_rfl | simp [Instr.fill]
/-- append of one number. -/
theorem held_appendI {i : Nat} {oi : Oper} {fuel : Nat} {listed : Array Bool} {a : Act} {w : World} (d : Option Tmp) (hr : Region.ready md ops listed = [i]) (hi : ops[i]? = some oi) (hg : oi.guard = none) (hd : oi.dst = d)
    (s x : Operand) (ho : oi.op = .call { callee := .builtin .append, args := #[s, x], argTypes := #[35, 35] }) (base : Nat) (v : Value) (n : Nat) (xs : List Value) (hs : a.eval s = v) (hown : w.ownsRow base 2 1 v n xs)
    (b : Nat) (y : Int) (hx : a.eval x = .slice (some ⟨b, 0, none⟩) 1 1) (hc : w.cell? ⟨b, 0, none⟩ = some (.int .i64 y)) (hn : n ≤ 2097152) (hb : base ≤ w.heap.size)
    (h : ∀ v' w', w'.ownsRow base 2 1 v' (n + 1) (xs ++ [.int .i64 y]) → w.grownBy w' v.ownBlock → S w' ∧ wpAnyH Try.prog md ops Q S fuel (listed.setIfInBounds i true) (a.put d v') w') : wpAnyH Try.prog md ops Q S (fuel + 1) listed a w := by
  obtain ⟨ie, hie, hz, h1, h2⟩ := info_parts Try.infoI
  subst hd
  refine held_call hr hi hg (wp_append_own w s x 35 ho base 2 ie _ 1 8 Try.underlying35 hie hz h1 h2 rfl (by decide) v n xs hs hown ⟨b, 0, none⟩ 1 1 [.int .i64 y] hx rfl ?_ ?_ (by unfold maxLen; omega) (by omega) hb (fun v' w' h2 h3 _ => h v' w' h2 h3))
  · intro j u hj
    match j, hj with
    | 0, hj =>
      simp at hj
      subst hj
      exact hc
  · intro u hu
    simp at hu
    subst hu
    rfl
end
theorem hmulI {a b : Int} (h0 : -1000 ≤ a * b) (h1 : a * b ≤ 1000) (w : World) : (binOp .mul 2 (.int .i64 a) (.int .i64 b)).run Try.prog w = .ok (.int .i64 (a * b)) w := by
  have hw : IntKind.i64.wrap (a * b) = a * b := IntWalk.i64_in _ (by omega)
  go_simp
theorem hsubI {a b : Int} (h0 : -1000 ≤ a - b) (h1 : a - b ≤ 1000) (w : World) : (binOp .sub 2 (.int .i64 a) (.int .i64 b)).run Try.prog w = .ok (.int .i64 (a - b)) w := by
  have hw : IntKind.i64.wrap (a - b) = a - b := IntWalk.i64_in _ (by omega)
  go_simp
theorem cell_alloc1 (w : World) (v : Value) (t : TypeId) : (w.alloc (.cells #[v] t)).cell? ⟨w.heap.size, 0, none⟩ = some v := by
  unfold World.cell?
  rw [heap_alloc_new w (.cells #[v] t)]
  rfl
theorem hidxI (b o : Nat) {k n : Nat} (cap : Nat) (hk : k < n) (w : World) : (Instr.indexAt 35 (.slice (some ⟨b, o, none⟩) n cap) (.int .i64 k)).run Try.prog w = .ok (.pointer (some ⟨b, o + k, none⟩)) w := by
  have h2 : (0 : Int) ≤ (k : Int) := by omega
  have h3 : (k : Int) < (n : Int) := by omega
  go_simp
theorem hidxS (b o : Nat) {k n : Nat} (cap : Nat) (hk : k < n) (w : World) : (Instr.indexAt 22 (.slice (some ⟨b, o, none⟩) n cap) (.int .i64 k)).run Try.prog w = .ok (.pointer (some ⟨b, o + k, none⟩)) w := by
  have h2 : (0 : Int) ≤ (k : Int) := by omega
  have h3 : (k : Int) < (n : Int) := by omega
  go_simp
end Go.Proofs.Ytlopenephgabhaa

namespace Go.Proofs.Ytlopenephgabhaa
open Go.RowKit

theorem ld_ltn {n : Nat} {v : Lin.V} (hw : Lin.Wd n v) (hne : v ≠ Lin.zv) : Lin.ld v < n ∧ v (Lin.ld v) ≠ 0 ∧ ∀ j, j < Lin.ld v → v j = 0 := by
  obtain ⟨i, hi⟩ := Lin.ne_zv hne
  obtain ⟨h1, h2⟩ := Lin.ld_spec hi
  refine ⟨Classical.byContradiction fun hn => h1 (hw _ (by omega)), h1, h2⟩
/-- What a reduced list of rows of n numbers has to do with a list. -/
structure RedN (p : Int) (n : Nat) (R T : List Lin.V) : Prop where
  red : Lin.Red p R
  wd : ∀ u ∈ R, Lin.Wd n u
  eqv : Lin.Eqv p R T
theorem RedN.nil (p : Int) (n : Nat) : RedN p n [] [] := ⟨Lin.Red.nil p, by simp, Lin.Eqv.refl _ _⟩
theorem RedN.skip {p : Int} (hp : 0 < p) {n : Nat} {R T : List Lin.V} (h : RedN p n R T) {v : Lin.V} (hT : ∀ w ∈ T, Lin.Md p w) (hv : Lin.Md p v) (hr : Lin.Rest p R v R.length Lin.zv) : RedN p n R (T ++ [v]) :=
  ⟨h.red, h.wd, Lin.skip_eqv hp h.red hT hv h.eqv hr⟩
theorem RedN.put {p : Int} (hp : 1 < p) {n : Nat} {R T : List Lin.V} (h : RedN p n R T) {v r u : Lin.V} {k : Nat} (hT : ∀ w ∈ T, Lin.Md p w) (hv : Lin.Md p v) (hr : Lin.Rest p R v R.length r) (hne : r ≠ Lin.zv) (hu : Lin.Unit p r u) (huw : Lin.Wd n u) (hk : k ≤ R.length)
    (hlo : ∀ w ∈ R.take k, Lin.ld w < Lin.ld u) (hhi : ∀ w ∈ R.drop k, ¬ Lin.ld w < Lin.ld u) : RedN p n (Lin.put p R k u) (T ++ [v]) := by
  have hf := Lin.fits_of hr hne hu hk hlo hhi
  refine ⟨hf.red hp h.red, fun x hx => ?_, Lin.put_eqv hp h.red hT hv h.eqv hr hu hf⟩
  rcases Lin.put_mem.1 hx with rfl | ⟨y, hy, rfl⟩
  · exact huw
  · exact Lin.add_wd _ (h.wd y hy) huw
theorem RedN.same {p : Int} (hp : 1 < p) {n : Nat} {R R' T : List Lin.V} (h : RedN p n R T) (k : RedOf p R' T) : R' = R :=
  Lin.Red.unique hp k.red h.red (fun v => (k.eqv v).trans (h.eqv v).symm)
theorem RedN.unique {p : Int} (hp : 1 < p) {n n' : Nat} {R R' T T' : List Lin.V} (h : RedN p n R T) (k : RedN p n' R' T') (e : Lin.Eqv p T T') : R' = R :=
  Lin.Red.unique hp k.red h.red (fun v => ((k.eqv v).trans (e v).symm).trans (h.eqv v).symm)

/-- A row less its multiple of u. -/
noncomputable def less1 (p : Int) (u w : Lin.V) : Lin.V := Lin.add p w (-(w (Lin.ld u))) u
/-- The next list while it is gathered: j rows have been seen; pt: the new row is in. -/
def Nx (p : Int) (R : List Lin.V) (u : Lin.V) (j : Nat) (pt : Bool) (N : List Lin.V) : Prop :=
  if pt then ∃ K, K ≤ j ∧ (∃ h : K < R.length, Lin.ld u < Lin.ld R[K]) ∧ (∀ w ∈ R.take K, Lin.ld w < Lin.ld u) ∧ N = Lin.put p (R.take j) K u
  else (∀ w ∈ R.take j, Lin.ld w < Lin.ld u) ∧ N = (R.take j).map (less1 p u)
theorem Nx.start (p : Int) (R : List Lin.V) (u : Lin.V) : Nx p R u 0 false [] := ⟨by simp, by simp⟩
theorem put_more {p : Int} {R : List Lin.V} {u : Lin.V} {j K : Nat} (hK : K ≤ j) (hj : j < R.length) : Lin.put p (R.take j) K u ++ [less1 p u R[j]] = Lin.put p (R.take (j + 1)) K u := by
  have hl : (R.take j).length = j := by simp; omega
  rw [List.take_succ_eq_append_getElem hj]
  unfold Lin.put
  rw [List.take_append_of_le_length (by omega), List.drop_append_of_le_length (by omega), List.map_append, List.append_assoc]
  rfl
theorem put_last {p : Int} {R : List Lin.V} {u : Lin.V} : (R.map (less1 p u)) ++ [u] = Lin.put p R R.length u := by
  unfold Lin.put
  rw [List.take_of_length_le (Nat.le_refl _), List.drop_of_length_le (Nat.le_refl _)]
  rfl
theorem Nx.keep {p : Int} {R : List Lin.V} {u : Lin.V} {j : Nat} {N : List Lin.V} (h : Nx p R u j true N) (hj : j < R.length) : Nx p R u (j + 1) true (N ++ [less1 p u R[j]]) := by
  obtain ⟨K, hK, hx, hlo, rfl⟩ := h
  exact ⟨K, by omega, hx, hlo, put_more hK hj⟩
theorem Nx.done {p : Int} {R : List Lin.V} {u : Lin.V} {N : List Lin.V} (hR : Lin.Red p R) (h : Nx p R u R.length true N) : ∃ K, K ≤ R.length ∧ N = Lin.put p R K u ∧ (∀ w ∈ R.take K, Lin.ld w < Lin.ld u) ∧ ∀ w ∈ R.drop K, ¬ Lin.ld w < Lin.ld u := by
  obtain ⟨K, hK, ⟨hk, hx⟩, hlo, rfl⟩ := h
  refine ⟨K, hK, by rw [List.take_of_length_le (Nat.le_refl _)], hlo, fun w hw => ?_⟩
  rw [List.drop_eq_getElem_cons hk] at hw
  have hp := hR.inc
  rw [← List.take_append_drop K R, List.drop_eq_getElem_cons hk] at hp
  have h2 := (List.pairwise_append.1 hp).2.1
  rcases List.mem_cons.1 hw with rfl | hw
  · omega
  · have := (List.pairwise_cons.1 h2).1 w hw
    omega
theorem Nx.end {p : Int} {R : List Lin.V} {u : Lin.V} {N : List Lin.V} (h : Nx p R u R.length false N) : ∃ K, K ≤ R.length ∧ N ++ [u] = Lin.put p R K u ∧ (∀ w ∈ R.take K, Lin.ld w < Lin.ld u) ∧ ∀ w ∈ R.drop K, ¬ Lin.ld w < Lin.ld u := by
  obtain ⟨hlo, rfl⟩ := h
  refine ⟨R.length, Nat.le_refl _, ?_, hlo, ?_⟩
  · rw [List.take_of_length_le (Nat.le_refl _)]
    exact put_last
  · rw [List.drop_of_length_le (Nat.le_refl _)]
    simp
theorem Nx.length {p : Int} {R : List Lin.V} {u : Lin.V} {j : Nat} {pt : Bool} {N : List Lin.V} (h : Nx p R u j pt N) (hj : j ≤ R.length) : N.length ≤ j + 1 := by
  have hl : (R.take j).length = j := by simp; omega
  cases pt with
  | true =>
    obtain ⟨K, hK, _, _, rfl⟩ := h
    rw [put_length p _ K u (by omega)]
    omega
  | false =>
    obtain ⟨_, rfl⟩ := h
    rw [List.length_map]
    omega
/-- The remainder as the reference model takes it. -/
theorem mod_twice {p x : Int} (hp : 0 < p) : (x.tmod p + p).tmod p = x % p := by
  have h1 : 0 ≤ x.tmod p + p := by
    have := Int.lt_tmod_of_pos x hp
    omega
  rw [Int.tmod_eq_emod_of_nonneg h1, Int.add_emod_right]
  rcases Int.le_total 0 x with h | h
  · rw [Int.tmod_eq_emod_of_nonneg h, Int.emod_emod_of_dvd x (Int.dvd_refl p)]
  · have e := Int.mul_tdiv_add_tmod x p
    have : x.tmod p = x + p * (-(x.tdiv p)) := by rw [Int.mul_neg]; omega
    rw [this, Int.add_mul_emod_self_left]
end Go.Proofs.Ytlopenephgabhaa

namespace Go.Proofs.Ytlopenephgabhaa
open Go.RowKit

/-- A row of numbers that a call has gathered above a base. -/
def Gb (base : Nat) (w : World) (u : Value) (xs : List Int) : Prop := w.ownsRow base 2 1 u xs.length (xs.map (Value.int .i64))
theorem Gb.g1 {base : Nat} {w : World} {u : Value} {xs : List Int} (h : Gb base w u xs) : G1 w u xs := owns_mono h (Nat.zero_le _)
theorem Gb.l1 {base : Nat} {w : World} {u : Value} {xs : List Int} (h : Gb base w u xs) : L1 0 w u xs := h.g1.l1
theorem Gb.below {base : Nat} {w w' : World} {u : Value} {xs : List Int} (h : Gb base w u xs) (hb : Below w.heap.size w w') : Gb base w' u xs := owns_below h hb
theorem Gb.mono {base base' : Nat} {w : World} {u : Value} {xs : List Int} (h : Gb base w u xs) (hb : base' ≤ base) : Gb base' w u xs := owns_mono h hb

theorem toL_succ (q : Nat) (v : Lin.V) : toL (q + 1) v = toL q v ++ [v q] := by simp [toL, List.range_succ]

def GbR (xs : List Int) (w : World) (e : Ending) (w' : World) : Prop := ∃ u, e = .returned u ∧ Gb w.heap.size w' u xs ∧ Below w.heap.size w w'

theorem wpList_append_run {ops : Array Oper} {rest : List Oper} {o : Oper} {a : Act} {w : World} {Q : Exit → Act → World → Prop} {P : Program} (hgd : o.guard = none) (d s : Operand) (t t' : TypeId)
    (ho : o.op = .call { callee := .builtin .append, args := #[d, s], argTypes := #[t, t'] }) (v u : Value) (hd : a.eval d = v) (hs : a.eval s = u) {v' : Value} {w' : World}
    (hr : (Builtin.append_ #[t, t'] o.type #[v, u]).run P w = .ok v' w') (h : wpList P ops Q rest (a.put o.dst v') w') : wpList P ops Q (o :: rest) a w :=
  wpList_plain hgd fun K hK => by
    unfold Oper.wp execOp
    simp only [ho, resolve, invoke, builtin, Sem.run_bind, Sem.run_pure, Result.andThen_ok, List.map_toArray, List.map_cons, List.map_nil, hd, hs, hr]
    exact hK _ _ h

theorem tmod_bd {p x : Int} (hp : IsP p) : -7 < x.tmod p ∧ x.tmod p < 7 := by
  have h1 := Int.lt_tmod_of_pos x (show 0 < p by have := hp.lo; omega)
  have h2 := Int.tmod_lt_of_pos x (show 0 < p by have := hp.lo; omega)
  have := hp.hi
  omega
set_option maxHeartbeats 400000 in
theorem l01Mod_any (p x : Int) (w : World) (hp : IsP p) : Calls Try.prog 128 #[.int .i64 p, .int .i64 x] w (QW (.int .i64 (x % p)) w) := by
  have HM := Lib.hid (mod_twice (x := x) (show 0 < p by have := hp.lo; omega))
  obtain ⟨hb0, hb1⟩ := tmod_bd (x := x) hp
  have hp0 := hp.lo
  have hp1 := hp.hi
  obtain ⟨r, hr⟩ : ∃ r, r = x.tmod p := ⟨_, rfl⟩
  rw [← hr] at hb0 hb1
  have HR := Lib.hid hr
  clear hr
  go_enter Try.func128, Try.ntmps128
  go_wp2
  rw [← HR.out]
  have hw : wrap64 (r + p) = r + p := by unfold wrap64; omega
  go_ret
  exact ⟨ret_int (by rw [← HM.out, ← HR.out, hw]), rfl⟩

/-- What l01Less computes, number by number, stays small. -/
theorem less_bd {p k a b : Int} (hp : IsP p) (hb : 0 ≤ b ∧ b < p) (hk : 0 ≤ k ∧ k < p) : 0 ≤ k * b ∧ k * b ≤ 42 ∧ (a - k * b) % p = (a + -k * b) % p := by
  obtain ⟨h1, h2⟩ := mul_bd hp hk.1 hk.2 hb.1 (Int.le_of_lt hb.2)
  exact ⟨h1, h2, by rw [Int.neg_mul, Int.sub_eq_add_neg]⟩

end Go.Proofs.Ytlopenephgabhaa

namespace Go.Proofs.Ytlopenephgabhaa
open Go.RowKit

end Go.Proofs.Ytlopenephgabhaa

namespace Go.Proofs.Ytlopenephgabhaa
open Go.RowKit

/-- A table gathered row by row, above a base. -/
def Gs (base : Nat) (w : World) (u : Value) (t : List (List Int)) : Prop := ∃ vs, w.ownsRow base 35 1 u t.length vs ∧ ∀ k (h1 : k < vs.length) (h2 : k < t.length), G1 w vs[k] t[k]
theorem Gs.below {base : Nat} {w w' : World} {u : Value} {t : List (List Int)} (h : Gs base w u t) (hb : Below w.heap.size w w') : Gs base w' u t := by
  obtain ⟨vs, ho, hr⟩ := h
  exact ⟨vs, owns_below ho hb, fun k h1 h2 => (hr k h1 h2).below hb⟩
theorem Gs.mono {base base' : Nat} {w : World} {u : Value} {t : List (List Int)} (h : Gs base w u t) (hb : base' ≤ base) : Gs base' w u t := by
  obtain ⟨vs, ho, hr⟩ := h
  exact ⟨vs, owns_mono ho hb, hr⟩
theorem Gs.l2 {base : Nat} {w : World} {u : Value} {t : List (List Int)} (h : Gs base w u t) : L2 0 w u t := by
  obtain ⟨vs, ho, hr⟩ := h
  exact sl_of_owns ho (Nat.zero_le _) rfl (fun k h1 h2 => (hr k h2 h1).l1)
theorem Gs.push {base : Nat} {w w3 : World} {v v' row : Value} {t : List (List Int)} {vs : List Value} {x : List Int} (ho : w.ownsRow base 35 1 v t.length vs) (hr : ∀ k (h1 : k < vs.length) (h2 : k < t.length), G1 w vs[k] t[k]) (hx : G1 w row x)
    (ho3 : w3.ownsRow base 35 1 v' (t.length + 1) (vs ++ [row])) (hg : w.grownBy w3 v.ownBlock) : Gs base w3 v' (t ++ [x]) := by
  have hvl : vs.length = t.length := by have := ho.1; omega
  have keep : ∀ u xs, G1 w u xs → G1 w3 u xs := fun u xs h => owns_grown h ho (by decide) hg
  refine ⟨vs ++ [row], by simpa using ho3, fun k h1 h2 => ?_⟩
  by_cases e : k < vs.length
  · rw [List.getElem_append_left e, List.getElem_append_left (by omega)]
    exact keep _ _ (hr k e (by omega))
  · have e2 : k = vs.length := by simp at h1; omega
    subst e2
    rw [List.getElem_append_right (by omega), List.getElem_append_right (by omega)]
    simp only [hvl, Nat.sub_self, List.getElem_cons_zero]
    exact keep _ _ hx

end Go.Proofs.Ytlopenephgabhaa


namespace Go.Proofs.Ytlopenephgabhaa
open Go.RowKit

/-- What the functions on spaces take. -/
def SpOk (p n : Int) (rows : List (List Int)) : Prop := IsP p ∧ (0 ≤ n ∧ n ≤ 40) ∧ rows.length ≤ 40 ∧ TabOk p (rows.length : Int) n rows
theorem SpOk.row {p n : Int} {rows : List (List Int)} (h : SpOk p n rows) {r : List Int} (hr : r ∈ rows) : RowOk p n r := h.2.2.2.2 r hr
theorem SpOk.md {p n : Int} {rows : List (List Int)} (h : SpOk p n rows) : ∀ u ∈ rows.map ofL, Lin.Md p u := fun u hu => by
  obtain ⟨r, hr, rfl⟩ := List.mem_map.1 hu
  exact ofL_md (by have := h.1.lo; omega) (h.row hr)
theorem SpOk.wd {p n : Int} {rows : List (List Int)} (h : SpOk p n rows) : ∀ u ∈ rows.map ofL, Lin.Wd n.toNat u := fun u hu => by
  obtain ⟨r, hr, rfl⟩ := List.mem_map.1 hu
  exact ofL_wd (by have := (h.row hr).1; omega)
theorem SpOk.short {p n : Int} {rows : List (List Int)} (h : SpOk p n rows) : ∀ r ∈ rows, r.length ≤ 40 := fun r hr => by
  have := (h.row hr).1
  have := h.2.1
  omega
theorem led_length {n : Nat} : ∀ (L : List Lin.V) (k : Nat), L.Pairwise (fun v w => Lin.ld v < Lin.ld w) → (∀ u ∈ L, k ≤ Lin.ld u ∧ Lin.ld u < n) → L.length ≤ n - k
  | [], _, _, _ => by simp
  | v :: L, k, hp, h => by
    have h1 := List.pairwise_cons.1 hp
    have h0 := h v (by simp)
    have := led_length L (Lin.ld v + 1) h1.2 (fun u hu => ⟨h1.1 u hu, (h u (by simp [hu])).2⟩)
    simp only [List.length_cons]
    omega
theorem red_length {p : Int} {n : Nat} {R : List Lin.V} (h : Lin.Red p R) (hw : ∀ u ∈ R, Lin.Wd n u) : R.length ≤ n := by
  have := led_length (n := n) R 0 h.inc (fun u hu => ⟨Nat.zero_le _, (ld_ltn (hw u hu) (h.ne hu)).1⟩)
  omega

/-- What such a function answers: the reduced list of a space, or a code. -/
structure SpOut (p : Int) (n : Nat) (S : Lin.V → Prop) (c0 : Int) (out : List (List Int)) (c : Int) : Prop where
  good : c0 = 0 → ∃ R, Lin.Red p R ∧ (∀ u ∈ R, Lin.Wd n u) ∧ (∀ v, Lin.Sp p R v ↔ S v) ∧ out = R.map (toL n)
  bad : c0 ≠ 0 → out = []
  code : c = c0
theorem SpOut.unique {p : Int} {n : Nat} {S : Lin.V → Prop} {c0 : Int} {o1 o2 : List (List Int)} {c1 c2 : Int} (hp : c0 = 0 → 1 < p) (h1 : SpOut p n S c0 o1 c1) (h2 : SpOut p n S c0 o2 c2) : o1 = o2 ∧ c1 = c2 := by
  refine ⟨?_, h1.code.trans h2.code.symm⟩
  by_cases h0 : c0 = 0
  · obtain ⟨R1, a1, _, b1, rfl⟩ := h1.good h0
    obtain ⟨R2, a2, _, b2, rfl⟩ := h2.good h0
    rw [Lin.Red.unique (hp h0) a1 a2 (fun v => (b1 v).trans (b2 v).symm)]
  · rw [h1.bad h0, h2.bad h0]
theorem SpOut.bd {p : Int} {n : Nat} {S : Lin.V → Prop} {c0 : Int} {o : List (List Int)} {c : Int} (h : SpOut p n S c0 o c) (hn : c0 = 0 → n ≤ 1048576) : Bd2 1048576 o := by
  by_cases h0 : c0 = 0
  · obtain ⟨R, a, b, _, rfl⟩ := h.good h0
    have := red_length a b
    have hn := hn h0
    refine ⟨by rw [List.length_map]; omega, fun r hr => ?_⟩
    obtain ⟨u, _, rfl⟩ := List.mem_map.1 hr
    unfold Bd1
    rw [toL_length]
    exact hn
  · rw [h.bad h0]
    exact ⟨by simp, by simp⟩
theorem SpOut.of_no {p : Int} {n : Nat} {S : Lin.V → Prop} {c0 : Int} (h : c0 ≠ 0) : SpOut p n S c0 [] c0 := ⟨fun h0 => absurd h0 h, fun _ => rfl, rfl⟩
theorem TW.wider {lo lo' hi : Nat} {W : World} {u : Value} {R : List (List Int)} (h : TW lo hi W u R) (hl : lo' ≤ lo) : TW lo' hi W u R := by
  rcases h with h | ⟨g, r, c, Z, h1, h2, h3, h4, h5, h6, h7⟩
  · exact Or.inl h
  · exact Or.inr ⟨g, r, c, Z, by omega, h2, h3, h4, h5, h6, h7⟩
end Go.Proofs.Ytlopenephgabhaa

namespace Go.Proofs.Ytlopenephgabhaa
open Go.RowKit

end Go.Proofs.Ytlopenephgabhaa

namespace Go.Proofs.Ytlopenephgabhaa
open Go.RowKit

/-- append of no elements. -/
theorem run_append_none' {P : Program} (w : World) (t ty e : TypeId) (i : TypeInfo) (ht : P.underlying t = some (.slice e)) (hi : P.info? e = some i) {base size n : Nat} {v : Value} {xs : List Value} (hown : w.ownsRow base e size v n xs) (ad : Option Addr) (cap : Nat) :
    (Builtin.append_ #[t, t] ty #[v, .slice ad 0 cap]).run P w = .ok v w := by
  cases ad with
  | none =>
    rcases hown.2 with ⟨rfl, rfl⟩ | ⟨g, cap, cur, rfl, _, _, hnc, _⟩
    · simp [Builtin.append_, run_underlying ht, sizeOf, typeInfo, hi, Builtin.lenOf, Builtin.firstCells]
    · simp [Builtin.append_, run_underlying ht, sizeOf, typeInfo, hi, Builtin.lenOf, Builtin.firstCells, hnc, storeCells]
  | some a =>
    have hl := run_loadCells_list (P := P) w a [] (by simp)
    simp at hl
    rcases hown.2 with ⟨rfl, rfl⟩ | ⟨g, cap, cur, rfl, _, _, hnc, _⟩
    · simp [Builtin.append_, run_underlying ht, sizeOf, typeInfo, hi, Builtin.lenOf, Builtin.firstCells, hl]
    · simp [Builtin.append_, run_underlying ht, sizeOf, typeInfo, hi, Builtin.lenOf, Builtin.firstCells, hnc, storeCells, hl]

end Go.Proofs.Ytlopenephgabhaa

namespace Go.Proofs.Ytlopenephgabhaa
open Go.RowKit

/-- The rows' values of a table. -/
structure RowsAt (w : World) (v : Value) (tb : List (List Int)) (vs : List Value) : Prop where
  len : vs.length = tb.length
  row : ∀ k (h1 : k < vs.length) (h2 : k < tb.length), L1 0 w vs[k] tb[k]
  one : ∀ u ∈ vs, u.oneCell' = true
  at' : ∃ ad cap, v = .slice ad tb.length cap ∧ (0 < tb.length → ∃ a, ad = some a ∧ ∀ j u, vs[j]? = some u → w.cell? (a.add j) = some u)
theorem RowsAt.below {w w' : World} {v : Value} {tb : List (List Int)} {vs : List Value} (h : RowsAt w v tb vs) (hb : Below w.heap.size w w') : RowsAt w' v tb vs := by
  obtain ⟨ad, cap, hv, hc⟩ := h.at'
  refine ⟨h.len, fun k h1 h2 => (h.row k h1 h2).below hb, h.one, ad, cap, hv, fun h0 => ?_⟩
  obtain ⟨a, ha, hc⟩ := hc h0
  exact ⟨a, ha, fun j u hj => by rw [hb.cell (World.block_lt_of_cell? _ _ (hc j u hj)), hc j u hj]⟩
end Go.Proofs.Ytlopenephgabhaa


namespace Go.Proofs.Ytlopenephgabhaa
open Go.RowKit

open Classical in
/-- The code of two complexes. -/
noncomputable def endCode (p p2 : Int) (ds : List Int) (ms : List (List (List Int))) (ds2 : List Int) (ms2 : List (List (List Int))) : Int :=
  if ¬ (IsCx p ds ms ∧ IsCx p2 ds2 ms2) then 1 else if p = p2 ∧ ds.length = ds2.length then 0 else 2
structure EndOk (p p2 : Int) (ds : List Int) (ms : List (List (List Int))) (ds2 : List Int) (ms2 : List (List (List Int))) : Prop where
  x : IsCx p ds ms
  y : IsCx p2 ds2 ms2
  prime : p = p2
  len : ds.length = ds2.length
theorem EndOk.code {p p2 : Int} {ds : List Int} {ms : List (List (List Int))} {ds2 : List Int} {ms2 : List (List (List Int))} (h : EndOk p p2 ds ms ds2 ms2) : endCode p p2 ds ms ds2 ms2 = 0 := by
  unfold endCode
  rw [if_neg (fun k => k ⟨h.x, h.y⟩), if_pos ⟨h.prime, h.len⟩]
/-- The cells of two complexes in a row. -/
structure Row2 (w : World) (b : Nat) (p p2 : Int) (dv mv dv2 mv2 : Value) : Prop where
  c0 : w.cell? ⟨b, 0, none⟩ = some (.int .i64 p)
  c1 : w.cell? ⟨b, 1, none⟩ = some dv
  c2 : w.cell? ⟨b, 2, none⟩ = some mv
  d0 : w.cell? ⟨b, 3, none⟩ = some (.int .i64 p2)
  d1 : w.cell? ⟨b, 4, none⟩ = some dv2
  d2 : w.cell? ⟨b, 5, none⟩ = some mv2
theorem Row2.next {w w' : World} {b : Nat} {p p2 : Int} {dv mv dv2 mv2 : Value} (h : Row2 w b p p2 dv mv dv2 mv2) (hb : Below w.heap.size w w') : Row2 w' b p p2 dv mv dv2 mv2 :=
  ⟨later hb (Nat.le_refl _) h.c0, later hb (Nat.le_refl _) h.c1, later hb (Nat.le_refl _) h.c2, later hb (Nat.le_refl _) h.d0, later hb (Nat.le_refl _) h.d1, later hb (Nat.le_refl _) h.d2⟩

open Classical in
/-- The code of two complexes with the same prime. -/
noncomputable def prCode (p p2 : Int) (ds : List Int) (ms : List (List (List Int))) (ds2 : List Int) (ms2 : List (List (List Int))) : Int :=
  if ¬ (IsCx p ds ms ∧ IsCx p2 ds2 ms2) then 1 else if p = p2 then 0 else 2
structure PrOk (p p2 : Int) (ds : List Int) (ms : List (List (List Int))) (ds2 : List Int) (ms2 : List (List (List Int))) : Prop where
  x : IsCx p ds ms
  y : IsCx p2 ds2 ms2
  prime : p = p2
theorem PrOk.code {p p2 : Int} {ds : List Int} {ms : List (List (List Int))} {ds2 : List Int} {ms2 : List (List (List Int))} (h : PrOk p p2 ds ms ds2 ms2) : prCode p p2 ds ms ds2 ms2 = 0 := by
  unfold prCode
  rw [if_neg (fun k => k ⟨h.x, h.y⟩), if_pos h.prime]
/-- The cells of a box of a complex, whatever stood there when it was made. -/
structure Bq (wr : World) (b : Nat) (p : Int) (dv mv : Value) (ds : List Int) (ms : List (List (List Int))) : Prop where
  c0 : wr.cell? ⟨b, 0, none⟩ = some (.int .i64 p)
  c1 : wr.cell? ⟨b, 1, none⟩ = some dv
  c2 : wr.cell? ⟨b, 2, none⟩ = some mv
  lt : b < wr.heap.size
  cx : Cx 0 wr dv mv ds ms
theorem Bx.bq {w wr : World} {b : Nat} {p : Int} {dv mv : Value} {ds : List Int} {ms : List (List (List Int))} (h : Bx w wr b p dv mv ds ms) : Bq wr b p dv mv ds ms := ⟨h.c0, h.c1, h.c2, h.lt, h.cx⟩
theorem Bq.next {wr w' : World} {b : Nat} {p : Int} {dv mv : Value} {ds : List Int} {ms : List (List (List Int))} (h : Bq wr b p dv mv ds ms) (hb : Below wr.heap.size wr w') : Bq w' b p dv mv ds ms :=
  ⟨later hb (Nat.le_refl _) h.c0, later hb (Nat.le_refl _) h.c1, later hb (Nat.le_refl _) h.c2, Nat.lt_of_lt_of_le h.lt hb.size, h.cx.below hb⟩
theorem Bq.only {wr w' : World} {b lo hi : Nat} {p : Int} {dv mv : Value} {ds : List Int} {ms : List (List (List Int))} (h : Bq wr b p dv mv ds ms) (ho : Only lo hi wr w') (hc : Cx 0 w' dv mv ds ms) (hb : b < lo ∨ hi ≤ b) : Bq w' b p dv mv ds ms :=
  ⟨(ho.cell hb).trans h.c0, (ho.cell hb).trans h.c1, (ho.cell hb).trans h.c2, by have := ho.size; have := h.lt; omega, hc⟩
end Go.Proofs.Ytlopenephgabhaa


namespace Go.Proofs.Ytlopenephgabhaa
open Go.RowKit

open Classical in
/-- The code of a complex and a degree. -/
noncomputable def cxCode (p : Int) (ds : List Int) (ms : List (List (List Int))) (n : Int) : Int := if IsCx p ds ms then (if 0 ≤ n ∧ n ≤ (ds.length : Int) - 1 then 0 else 2) else 1
theorem cxCode_zero {p : Int} {ds : List Int} {ms : List (List (List Int))} {n : Int} (h : cxCode p ds ms n = 0) : IsCx p ds ms ∧ 0 ≤ n ∧ n ≤ (ds.length : Int) - 1 := by
  unfold cxCode at h
  by_cases a : IsCx p ds ms
  · rw [if_pos a] at h
    by_cases b : 0 ≤ n ∧ n ≤ (ds.length : Int) - 1
    · exact ⟨a, b⟩
    · rw [if_neg b] at h; exact absurd h (by decide)
  · rw [if_neg a] at h; exact absurd h (by decide)
/-- The dimension of a degree. -/
def dimN (ds : List Int) (n : Int) : Nat := (ds.getD n.toNat 0).toNat

/-- What a function on a complex and a degree answers as a list of vectors. -/
def SpF (p : Int) (n : Nat) (S : Lin.V → Prop) (R : List Lin.V) : Prop := Lin.Red p R ∧ (∀ u ∈ R, Lin.Wd n u) ∧ (∀ v, Lin.Sp p R v ↔ S v)
theorem SpF.short {p : Int} {n : Nat} {S : Lin.V → Prop} {R : List Lin.V} (h : SpF p n S R) : R.length ≤ n := red_length h.1 h.2.1

end Go.Proofs.Ytlopenephgabhaa

namespace Go.Proofs.Ytlopenephgabhaa
open Go.RowKit

/-- The table from the degree k + 1 to k, none beyond the degrees. -/
def tabN (ms : List (List (List Int))) (k : Nat) : List (List Int) := ms.getD k []
end Go.Proofs.Ytlopenephgabhaa

namespace Go.Proofs.Ytlopenephgabhaa
open Go.RowKit

theorem Gs.lt {base : Nat} {w : World} {v : Value} {tb : List (List Int)} (h : Gs base w v tb) : ∀ k, v.ownBlock = some k → base ≤ k ∧ k < w.heap.size := by
  obtain ⟨vs, ho, _⟩ := h
  exact World.ownsRow.lt ho
theorem Gs.row {base : Nat} {w : World} {u : Value} {tb : List (List Int)} (h : Gs base w u tb) {k : Nat} (hk : k < tb.length) (hpos : 0 < (tb[k]).length) :
    ∃ b c, u = .slice (some ⟨b, 0, none⟩) tb.length c ∧ ∃ g cap, w.cell? ⟨b, k, none⟩ = some (.slice (some ⟨g, 0, none⟩) (tb[k]).length cap) ∧ (tb[k]).length ≤ cap ∧ G1 w (.slice (some ⟨g, 0, none⟩) (tb[k]).length cap) tb[k] := by
  obtain ⟨vs, ho, hr⟩ := h
  obtain ⟨b, c, rfl, _, _⟩ := World.ownsRow.form ho (by omega)
  have hvl : vs.length = tb.length := by have := ho.1; omega
  have hg := hr k (by omega) hk
  obtain ⟨g, cap, hv, _, _⟩ := World.ownsRow.form hg hpos
  refine ⟨b, c, rfl, g, cap, ?_, ?_, by rw [← hv]; exact hg⟩
  · rw [World.ownsRow.cellAt ho k (by omega), List.getElem?_eq_getElem (by omega), hv]
  · rw [hv] at hg
    rcases hg.2 with ⟨h0, _⟩ | ⟨g', cap', cur, h0, _, _, hnc, _⟩
    · cases h0
    · injection h0 with _ _ e3
      omega
/-- The vectors of n numbers that all columns of a table annihilate. -/
def CycS (p : Int) (n m : Nat) (t : List (List Int)) (v : Lin.V) : Prop := Lin.Md p v ∧ Lin.Wd n v ∧ ∀ j, j < m → Lin.dot n (Lin.col (fun i => ofL (t.getD i [])) j) v % p = 0
end Go.Proofs.Ytlopenephgabhaa

namespace Go.Proofs.Ytlopenephgabhaa
open Go.RowKit

section
variable {md : Region.Mode} {ops : Array Oper} {Q : Exit → Act → World → Prop} {S : World → Prop}
end

/-- The solutions gathered from the places before f. -/
structure Sols (p : Int) (R : List Lin.V) (f : Nat) (L : List Lin.V) : Prop where
  all : ∀ g, g < f → Lin.Free R g → ∃ s ∈ L, Lin.Sol p R g s
  only : ∀ s ∈ L, ∃ g, g < f ∧ Lin.Free R g ∧ Lin.Sol p R g s
  len : L.length ≤ f
theorem Sols.nil (p : Int) (R : List Lin.V) : Sols p R 0 [] := ⟨fun g h => absurd h (Nat.not_lt_zero _), by simp, by simp⟩
theorem Sols.skip {p : Int} {R : List Lin.V} {f : Nat} {L : List Lin.V} (h : Sols p R f L) (hf : ¬ Lin.Free R f) : Sols p R (f + 1) L :=
  ⟨fun g hg hfr => by
    by_cases e : g = f
    · subst e; exact absurd hfr hf
    · exact h.all g (by omega) hfr, fun s hs => by obtain ⟨g, h1, h2⟩ := h.only s hs; exact ⟨g, by omega, h2⟩, by have := h.len; omega⟩
theorem Sols.add {p : Int} {R : List Lin.V} {f : Nat} {L : List Lin.V} (h : Sols p R f L) (hf : Lin.Free R f) {s : Lin.V} (hs : Lin.Sol p R f s) : Sols p R (f + 1) (L ++ [s]) :=
  ⟨fun g hg hfr => by
    by_cases e : g = f
    · subst e; exact ⟨s, by simp, hs⟩
    · obtain ⟨t, ht, h2⟩ := h.all g (by omega) hfr
      exact ⟨t, by simp [ht], h2⟩, fun t ht => by
    rcases List.mem_append.1 ht with h1 | h1
    · obtain ⟨g, h2, h3⟩ := h.only t h1; exact ⟨g, by omega, h3⟩
    · rw [List.mem_singleton.1 h1]; exact ⟨f, by omega, hf, hs⟩, by have := h.len; simp; omega⟩
/-- A solution while it is made: k rows have been seen. -/
structure SolTo (p : Int) (R : List Lin.V) (f k : Nat) (s : Lin.V) : Prop where
  at1 : s f = 1
  lead : ∀ w ∈ R.take k, s (Lin.ld w) = (p - w f) % p
  rest : ∀ i, i ≠ f → (∀ w ∈ R.take k, Lin.ld w ≠ i) → s i = 0
theorem SolTo.start (p : Int) (R : List Lin.V) (f : Nat) : SolTo p R f 0 (fun i => if i = f then 1 else Lin.zv i) := ⟨by simp, by simp, fun i h _ => by simp [h, Lin.zv]⟩
theorem SolTo.step {p : Int} {R : List Lin.V} {f k : Nat} {s : Lin.V} (hR : Lin.Red p R) (hf : Lin.Free R f) (h : SolTo p R f k s) (hk : k < R.length) : SolTo p R f (k + 1) (fun i => if i = Lin.ld R[k] then (p - R[k] f) % p else s i) := by
  have hne : ∀ w ∈ R.take k, Lin.ld w ≠ Lin.ld R[k] := fun w hw e => by
    obtain ⟨j, hj, rfl⟩ := List.getElem_of_mem hw
    have hjk : j < k := by simp at hj; omega
    have := List.pairwise_iff_getElem.1 hR.inc j k (by omega) hk hjk
    rw [List.getElem_take] at e
    omega
  refine ⟨?_, fun w hw => ?_, fun i hi hn => ?_⟩
  · rw [if_neg (fun e => hf _ (List.getElem_mem hk) e.symm)]
    exact h.at1
  · rw [List.take_succ_eq_append_getElem hk] at hw
    rcases List.mem_append.1 hw with h1 | h1
    · rw [if_neg (hne w h1)]
      exact h.lead w h1
    · rw [List.mem_singleton.1 h1, if_pos rfl]
  · have hn2 := hn R[k] (by rw [List.take_succ_eq_append_getElem hk]; exact List.mem_append_right _ (List.mem_singleton.2 rfl))
    rw [if_neg (fun e => hn2 e.symm)]
    exact h.rest i hi (fun w hw => hn w (by rw [List.take_succ_eq_append_getElem hk]; exact List.mem_append_left _ hw))
theorem SolTo.done {p : Int} {R : List Lin.V} {f : Nat} {s : Lin.V} (h : SolTo p R f R.length s) : Lin.Sol p R f s := by
  have e : R.take R.length = R := List.take_of_length_le (Nat.le_refl _)
  exact ⟨h.at1, fun w hw => h.lead w (by rw [e]; exact hw), fun i hi hn => h.rest i hi (fun w hw => hn w (by rw [e] at hw; exact hw))⟩

end Go.Proofs.Ytlopenephgabhaa

namespace Go.Proofs.Ytlopenephgabhaa
open Go.RowKit

/-- The table whose columns the cycles of a degree annihilate, and its width. -/
def cycT (ds : List Int) (ms : List (List (List Int))) (q : Nat) : List (List Int) := mapZ ds ms (q : Int)
def cycM (ds : List Int) (q : Nat) : Nat := if q = 0 then 0 else dimN ds ((q - 1 : Nat) : Int)
theorem dimN_le8 {p : Int} {ds : List Int} {ms : List (List (List Int))} (h : IsCx p ds ms) (q : Nat) : dimN ds (q : Int) ≤ 8 ∧ ds.getD q 0 = (dimN ds (q : Int) : Int) := by
  have := h.1.dim q
  unfold dimN
  rw [Int.toNat_natCast]
  omega
theorem SpF.congr {p : Int} {n : Nat} {S S' : Lin.V → Prop} {R : List Lin.V} (h : SpF p n S R) (e : ∀ v, S v ↔ S' v) : SpF p n S' R := ⟨h.1, h.2.1, fun v => (h.2.2 v).trans (e v)⟩
end Go.Proofs.Ytlopenephgabhaa


namespace Go.Proofs.Ytlopenephgabhaa
open Go.RowKit

/-- The slice u holds tables, in a row of its own. -/
def Gt (base : Nat) (w : World) (u : Value) (ts : List (List (List Int))) : Prop := ∃ vs, w.ownsRow base 22 1 u ts.length vs ∧ ∀ k (h1 : k < vs.length) (h2 : k < ts.length), Gs 0 w vs[k] ts[k]
theorem Gt.below {base : Nat} {w w' : World} {u : Value} {ts : List (List (List Int))} (h : Gt base w u ts) (hb : Below w.heap.size w w') : Gt base w' u ts := by
  obtain ⟨vs, ho, hr⟩ := h
  exact ⟨vs, owns_below ho hb, fun k h1 h2 => (hr k h1 h2).below hb⟩
theorem Gt.l3 {base : Nat} {w : World} {u : Value} {ts : List (List (List Int))} (h : Gt base w u ts) : L3 0 w u ts := by
  obtain ⟨vs, ho, hr⟩ := h
  exact sl_of_owns ho (Nat.zero_le _) rfl (fun k h1 h2 => (hr k h2 h1).l2)
theorem Gt.lt {base : Nat} {w : World} {v : Value} {ts : List (List (List Int))} (h : Gt base w v ts) : ∀ k, v.ownBlock = some k → base ≤ k ∧ k < w.heap.size := by
  obtain ⟨vs, ho, _⟩ := h
  exact World.ownsRow.lt ho
theorem Gt.new {base : Nat} (w : World) (hb : base ≤ w.heap.size) : Gt base (w.alloc (.cells #[] 22)) (.slice (some ⟨w.heap.size, 0, none⟩) 0 0) [] :=
  ⟨[], by simpa using World.ownsRow_made (base := base) (e := 22) (size := 1) w #[] 0 hb (by unfold maxLen; omega) (by simp), fun k h1 _ => absurd h1 (Nat.not_lt_zero _)⟩
theorem Gs.new {base : Nat} (w : World) (hb : base ≤ w.heap.size) : Gs base (w.alloc (.cells #[] 35)) (.slice (some ⟨w.heap.size, 0, none⟩) 0 0) [] :=
  ⟨[], by simpa using World.ownsRow_made (base := base) (e := 35) (size := 1) w #[] 0 hb (by unfold maxLen; omega) (by simp), fun k h1 _ => absurd h1 (Nat.not_lt_zero _)⟩
theorem Gb.new {base : Nat} (w : World) (hb : base ≤ w.heap.size) : Gb base (w.alloc (.cells #[] 2)) (.slice (some ⟨w.heap.size, 0, none⟩) 0 0) [] := by
  have := World.ownsRow_made (base := base) (e := 2) (size := 1) w #[] 0 hb (by unfold maxLen; omega) (by simp)
  simpa [Gb] using this
theorem Gs.grown {w w3 : World} {base base' n : Nat} {u v : Value} {t : List (List Int)} {vs : List Value} (h : Gs base' w u t) (ho : w.ownsRow base 22 1 v n vs) (hg : w.grownBy w3 v.ownBlock) : Gs base' w3 u t := by
  obtain ⟨us, hu, hr⟩ := h
  exact ⟨us, owns_grown hu ho (by decide) hg, fun k h1 h2 => owns_grown (hr k h1 h2) ho (by decide) hg⟩
theorem Gt.push {base : Nat} {w w3 : World} {v v' row : Value} {ts : List (List (List Int))} {vs : List Value} {x : List (List Int)} (ho : w.ownsRow base 22 1 v ts.length vs) (hr : ∀ k (h1 : k < vs.length) (h2 : k < ts.length), Gs 0 w vs[k] ts[k]) (hx : Gs 0 w row x)
    (ho3 : w3.ownsRow base 22 1 v' (ts.length + 1) (vs ++ [row])) (hg : w.grownBy w3 v.ownBlock) : Gt base w3 v' (ts ++ [x]) := by
  have hvl : vs.length = ts.length := by have := ho.1; omega
  refine ⟨vs ++ [row], by simpa using ho3, fun k h1 h2 => ?_⟩
  by_cases e : k < vs.length
  · rw [List.getElem_append_left e, List.getElem_append_left (by omega)]
    exact (hr k e (by omega)).grown ho hg
  · have e2 : k = vs.length := by simp at h1; omega
    subst e2
    rw [List.getElem_append_right (by omega), List.getElem_append_right (by omega)]
    simp only [hvl, Nat.sub_self, List.getElem_cons_zero]
    exact hx.grown ho hg
section
variable {ops : Array Oper} {rest : List Oper} {Q : Exit → Act → World → Prop}
end
end Go.Proofs.Ytlopenephgabhaa


namespace Go.Proofs.Ytlopenephgabhaa
open Go.RowKit

theorem run_append_zeros {base : Nat} (w : World) (ty : TypeId) (v : Value) (xs : List Int) (hown : Gb base w v xs) (kq : IntKind) (k : Nat) (h63 : xs.length + k ≤ 2097152) (hb : base ≤ w.heap.size) :
    ∃ v' w', (Builtin.append_ #[35, 2] ty #[v, .int kq (k : Int)]).run Try.prog w = .ok v' w' ∧ Gb base w' v' (xs ++ List.replicate k 0) ∧ w.grownBy w' v.ownBlock := by
  obtain ⟨i, hi, hz, hs, hbt⟩ := info_parts Try.infoI
  have ht := Try.underlying35
  have htn := Try.underlying2
  have hw : IntKind.i64.wrap (k : Int) = k := IntWalk.i64_in _ (by omega)
  have hneg : ¬ ((k : Int) < 0) := by omega
  have h48i : ¬ (281474976710656 < (k : Int) * 8) := by omega
  have hzc : (Builtin.zeroCells (Value.int .i64 0).cells k) = (List.replicate k (Value.int .i64 0)).toArray := by
    refine Array.ext (by simp [Builtin.zeroCells, Value.cells]) fun j h1 h2 => ?_
    simp [Builtin.zeroCells, Value.cells, Nat.mod_one]
  have hw0 : IntKind.i64.wrap 0 = 0 := by decide
  have hown' := hown
  obtain ⟨hl, h2⟩ := hown'
  by_cases hk : k = 0
  · subst hk
    refine ⟨v, w, ?_, by simpa using hown, ⟨rfl, rfl, rfl, Nat.le_refl _, fun _ _ _ => rfl⟩⟩
    rcases h2 with ⟨rfl, h0⟩ | ⟨g, cap, cur, rfl, hbg, hg, hnc, hcm, hcs, htake⟩
    · simp [Builtin.append_, run_underlying ht, run_underlying htn, sizeOf, typeInfo, hi, hbt, asInt, asIntOf, hw0, Builtin.firstCells]
    · simp [Builtin.append_, run_underlying ht, run_underlying htn, sizeOf, typeInfo, hi, hbt, asInt, asIntOf, hw0, hnc, storeCells]
  · rcases h2 with ⟨rfl, h0⟩ | ⟨g, cap, cur, rfl, hbg, hg, hnc, hcm, hcs, htake⟩
    · have hx : xs = [] := List.eq_nil_of_length_eq_zero h0
      subst hx
      have hr := Lib.run_append_nil_zeros (P := Try.prog) w 35 2 ty 2 i _ kq .i64 ht htn hi hz k (by omega) (by omega) (by omega) (by rw [hbt]; omega)
      refine ⟨_, _, hr, ⟨by simp, Or.inr ⟨w.heap.size, _, _, by simp, hb, heap_alloc_new w.drew _, ?_, grownCap_le_maxLen w k 0 2 (by unfold maxLen; simp at h63; omega), ?_, ?_⟩⟩, ⟨rfl, rfl, rfl, by simp, fun j hj _ => heap_alloc_old w.drew _ hj⟩⟩
      · have := grownCap_ge w k 0 2
        simp
        omega
      · have := grownCap_ge w k 0 2
        simp [Builtin.zeroCells, Value.cells]
        omega
      · rw [hzc]
        simp
    · by_cases hroom : xs.length + k ≤ cap
      · have hst := run_storeCells_at Try.prog g xs.length 2 (List.replicate k (Value.int .i64 0)) 0 cur w hg (by simp; omega) (fun u hu => by rw [(List.mem_replicate.1 hu).2]; rfl)
        simp only [Nat.add_zero] at hst
        refine ⟨.slice (some ⟨g, 0, none⟩) (xs.length + k) cap, w.setRow g (cur.toList.take xs.length ++ List.replicate k (Value.int .i64 0) ++ cur.toList.drop (xs.length + (List.replicate k (Value.int .i64 0)).length)).toArray, ?_, ⟨by simp, Or.inr ⟨g, cap, _, by simp, hbg, setRow_heap w g cur _ _ _ hg, by simpa using hroom, hcm, ?_, ?_⟩⟩, ⟨rfl, rfl, rfl, by simp, fun j _ hj => setRow_other w g j _ (fun e => hj (by simp [Value.ownBlock, e]))⟩⟩
        · have hcw : (xs.length : Int) + (k : Int) ≤ (cap : Int) := by omega
          simp [Builtin.append_, run_underlying ht, run_underlying htn, sizeOf, typeInfo, zeroValue, hi, hz, hs, hbt, asInt, asIntOf, hw, hneg, h48i, hroom, hk, hzc, Addr.add_lit, hst]
        · simp
          simp at hcs
          omega
        · simp only [Nat.mul_one] at htake ⊢
          rw [htake, List.map_append, List.map_replicate]
          exact List.take_left' (by simp)
      · have holds : ∀ j u, (xs.map (Value.int .i64))[j]? = some u → w.cell? ((⟨g, 0, none⟩ : Addr).add j) = some u := hown.cells (g := g) rfl
        have hfc := run_firstCells_some (P := Try.prog) w.drew i.size xs.length ⟨g, 0, none⟩ xs.length cap (xs.map (Value.int .i64)) (by simp [hs]) holds
        have hr := Lib.run_append_grow_zeros (P := Try.prog) w 35 2 ty 2 i _ kq .i64 ht htn hi hz (some ⟨g, 0, none⟩) xs.length cap (xs.map (Value.int .i64)) hfc k (by omega) (by omega) (by omega) (by omega) (by rw [hbt]; omega) (growslice_fits (by omega) (by rw [hbt]; omega))
        refine ⟨_, _, hr, ⟨by simp, Or.inr ⟨w.heap.size, _, _, by simp, hb, heap_alloc_new w.drew _, ?_, grownCap_le_maxLen w (xs.length + k) cap 2 (by unfold maxLen; omega), ?_, ?_⟩⟩, ⟨rfl, rfl, rfl, by simp, fun j hj _ => heap_alloc_old w.drew _ hj⟩⟩
        · have := grownCap_ge w (xs.length + k) cap 2
          simp
          omega
        · have := grownCap_ge w (xs.length + k) cap 2
          simp [Builtin.zeroCells, Value.cells]
          omega
        · rw [hzc]
          simp [List.take_append]
          exact List.take_of_length_le (by simp)
end Go.Proofs.Ytlopenephgabhaa


namespace Go.Proofs.Ytlopenephgabhaa
open Go.RowKit

/-- An interval of cells: block, offset, length. -/
abbrev Iv := Nat × Nat × Nat
def ivSize (I : List Iv) : Nat := (I.map (·.2.2)).sum
theorem ivSize_append (A B : List Iv) : ivSize (A ++ B) = ivSize A + ivSize B := by simp [ivSize]
def Apart (x y : Iv) : Prop := x.1 ≠ y.1 ∨ x.2.1 + x.2.2 ≤ y.2.1 ∨ y.2.1 + y.2.2 ≤ x.2.1
def Disj (I : List Iv) : Prop := I.Pairwise Apart
def InIv (I : List Iv) (b o : Nat) : Prop := ∃ x ∈ I, x.1 = b ∧ x.2.1 ≤ o ∧ o < x.2.1 + x.2.2
/-- Numbers stand there that may be written. -/
def Nums (lo hi : Nat) (w : World) (I : List Iv) : Prop := ∀ x ∈ I, lo ≤ x.1 ∧ x.1 < hi ∧ ∀ i, i < x.2.2 → (∃ z : Int, w.cell? ⟨x.1, x.2.1 + i, none⟩ = some (.int .i64 z)) ∧ w.frozen? ⟨x.1, x.2.1 + i, none⟩ = false
/-- Outside of the intervals all cells are as they were. -/
def OutC (I : List Iv) (w w' : World) : Prop := ∀ b o, ¬ InIv I b o → w'.cell? ⟨b, o, none⟩ = w.cell? ⟨b, o, none⟩
/-- The numbers from k on stand there. -/
def Marked (w : World) : List Iv → Int → Prop
  | [], _ => True
  | x :: I, k => (∀ i, i < x.2.2 → w.cell? ⟨x.1, x.2.1 + i, none⟩ = some (.int .i64 (k + (i : Int)))) ∧ Marked w I (k + (x.2.2 : Int))
theorem Nums.tame {lo hi : Nat} {w w' : World} {I : List Iv} (h : Nums lo hi w I) (t : Tame w w') : Nums lo hi w' I := fun x hx => ⟨(h x hx).1, (h x hx).2.1, fun i hi => by
  obtain ⟨⟨z, hz⟩, hf⟩ := (h x hx).2.2 i hi
  exact ⟨t.nums _ _ _ hz, (t.frozen _ _).trans hf⟩⟩
theorem Nums.same {lo hi : Nat} {w w' : World} {I : List Iv} (h : Nums lo hi w I) (s : Same lo hi w w') : Nums lo hi w' I := fun x hx => ⟨(h x hx).1, (h x hx).2.1, fun i hi => by
  obtain ⟨⟨z, hz⟩, hf⟩ := (h x hx).2.2 i hi
  have hb := s x.1 (h x hx).1 (h x hx).2.1
  exact ⟨⟨z, (World.cell?_of_block (w := w) (a := ⟨x.1, x.2.1 + i, none⟩) hb).trans hz⟩, (World.frozen?_of_block (w := w) (a := ⟨x.1, x.2.1 + i, none⟩) hb).trans hf⟩⟩
theorem Nums.sub {lo hi : Nat} {w : World} {I J : List Iv} (h : Nums lo hi w I) (s : ∀ x ∈ J, x ∈ I) : Nums lo hi w J := fun x hx => h x (s x hx)
theorem Nums.append {lo hi : Nat} {w : World} {I J : List Iv} (h : Nums lo hi w I) (k : Nums lo hi w J) : Nums lo hi w (I ++ J) := fun x hx => (List.mem_append.1 hx).elim (h x) (k x)
theorem Nums.wider {lo hi lo' hi' : Nat} {w : World} {I : List Iv} (h : Nums lo hi w I) (h1 : lo' ≤ lo) (h2 : hi ≤ hi') : Nums lo' hi' w I := fun x hx => ⟨by have := (h x hx).1; omega, by have := (h x hx).2.1; omega, (h x hx).2.2⟩
theorem OutC.refl (I : List Iv) (w : World) : OutC I w w := fun _ _ _ => rfl
theorem OutC.trans {A B : List Iv} {a b c : World} (h : OutC A a b) (k : OutC B b c) : OutC (A ++ B) a c := fun x o hn => by
  rw [k x o (fun ⟨y, hy, e⟩ => hn ⟨y, List.mem_append_right _ hy, e⟩), h x o (fun ⟨y, hy, e⟩ => hn ⟨y, List.mem_append_left _ hy, e⟩)]
theorem Marked.append {w : World} {A B : List Iv} {k : Int} (h : Marked w A k) (h2 : Marked w B (k + (ivSize A : Int))) : Marked w (A ++ B) k := by
  induction A generalizing k with
  | nil => simpa [ivSize] using h2
  | cons x A ih =>
    refine ⟨h.1, ih h.2 ?_⟩
    have : k + (x.2.2 : Int) + (ivSize A : Int) = k + (ivSize (x :: A) : Int) := by simp [ivSize]; omega
    rw [this]
    exact h2
theorem Marked.parts {w : World} {A B : List Iv} {k : Int} (h : Marked w (A ++ B) k) : Marked w A k ∧ Marked w B (k + (ivSize A : Int)) := by
  induction A generalizing k with
  | nil => exact ⟨trivial, by simpa [ivSize] using h⟩
  | cons x A ih =>
    obtain ⟨h1, h2⟩ := ih h.2
    refine ⟨⟨h.1, h1⟩, ?_⟩
    have : k + (x.2.2 : Int) + (ivSize A : Int) = k + (ivSize (x :: A) : Int) := by simp [ivSize]; omega
    rw [← this]
    exact h2
theorem Marked.keep {w w' : World} {A B : List Iv} {k : Int} (h : Marked w A k) (o : OutC B w w') (d : ∀ x ∈ A, ∀ y ∈ B, Apart x y) : Marked w' A k := by
  induction A generalizing k with
  | nil => trivial
  | cons x A ih =>
    refine ⟨fun i hi => ?_, ih h.2 (fun y hy => d y (List.mem_cons_of_mem _ hy))⟩
    rw [o x.1 (x.2.1 + i) (fun ⟨y, hy, e1, e2, e3⟩ => by have := d x List.mem_cons_self y hy; unfold Apart at this; omega)]
    exact h.1 i hi
theorem Marked.same {lo hi : Nat} {w w' : World} {I : List Iv} {k : Int} (h : Marked w I k) (hI : ∀ x ∈ I, lo ≤ x.1 ∧ x.1 < hi) (s : Same lo hi w w') : Marked w' I k := by
  induction I generalizing k with
  | nil => trivial
  | cons x A ih =>
    refine ⟨fun i hi => ?_, ih h.2 (fun y hy => hI y (List.mem_cons_of_mem _ hy))⟩
    have hb := s x.1 (hI x List.mem_cons_self).1 (hI x List.mem_cons_self).2
    exact (World.cell?_of_block (w := w) (a := ⟨x.1, x.2.1 + i, none⟩) hb).trans (h.1 i hi)

/-- The slice v is an interval, or empty. -/
def S1 (lo hi : Nat) (_ : World) (v : Value) (I : List Iv) : Prop :=
  (I = [] ∧ ∃ ad cap, v = .slice ad 0 cap) ∨ ∃ b o n cap, I = [(b, o, n)] ∧ 0 < n ∧ n ≤ 1048576 ∧ lo ≤ b ∧ b < hi ∧ v = .slice (some ⟨b, o, none⟩) n cap
def flat (J : Nat → List Iv) (m : Nat) : List Iv := (List.range m).flatMap J
theorem flat_succ (J : Nat → List Iv) (m : Nat) : flat J (m + 1) = flat J m ++ J m := by simp [flat, List.range_succ]
theorem flat_part (J : Nat → List Iv) {j m : Nat} (h : j ≤ m) : ∃ r, flat J m = flat J j ++ r := by
  induction m with
  | zero => exact ⟨[], by rw [show j = 0 by omega]; simp⟩
  | succ m ih =>
    by_cases e : j = m + 1
    · exact ⟨[], by rw [e]; simp⟩
    · obtain ⟨r, hr⟩ := ih (by omega)
      exact ⟨r ++ J m, by rw [flat_succ, hr, List.append_assoc]⟩
theorem flat_mem {J : Nat → List Iv} {j m : Nat} (h : j < m) : ∀ x ∈ J j, x ∈ flat J m := fun _ hx => List.mem_flatMap.2 ⟨j, List.mem_range.2 h, hx⟩
theorem flat_apart {J : Nat → List Iv} {j m : Nat} (h : j < m) (d : Disj (flat J m)) : ∀ x ∈ flat J j, ∀ y ∈ J j, Apart x y := by
  obtain ⟨r, hr⟩ := flat_part J (show j + 1 ≤ m by omega)
  have d2 : (flat J j ++ J j).Pairwise Apart := by
    have : Disj ((flat J j ++ J j) ++ r) := by rw [← flat_succ, ← hr]; exact d
    exact (List.pairwise_append.1 this).1
  exact (List.pairwise_append.1 d2).2.2
theorem flat_disj {J : Nat → List Iv} {j m : Nat} (h : j < m) (d : Disj (flat J m)) : Disj (J j) := by
  obtain ⟨r, hr⟩ := flat_part J (show j + 1 ≤ m by omega)
  have d2 : (flat J j ++ J j).Pairwise Apart := by
    have : Disj ((flat J j ++ J j) ++ r) := by rw [← flat_succ, ← hr]; exact d
    exact (List.pairwise_append.1 this).1
  exact (List.pairwise_append.1 d2).2.1
theorem flat_size {J : Nat → List Iv} {j m : Nat} (h : j < m) : ivSize (flat J j) + ivSize (J j) ≤ ivSize (flat J m) := by
  obtain ⟨r, hr⟩ := flat_part J (show j + 1 ≤ m by omega)
  rw [hr, flat_succ, ivSize_append, ivSize_append]
  omega
/-- A slice of such slices. -/
def SS (S : World → Value → List Iv → Prop) (lo hi : Nat) (w : World) (v : Value) (I : List Iv) : Prop :=
  ∃ (ad : Option Addr) (m cap : Nat) (f : Nat → Value) (J : Nat → List Iv), v = .slice ad m cap ∧ m ≤ 1048576 ∧ I = flat J m ∧ (∀ j, j < m → S w (f j) (J j)) ∧ (0 < m → ∃ b o, ad = some ⟨b, o, none⟩ ∧ lo ≤ b ∧ b < hi ∧ ∀ j, j < m → w.cell? ⟨b, o + j, none⟩ = some (f j))
def S2 (lo hi : Nat) := SS (S1 lo hi) lo hi
def S3 (lo hi : Nat) := SS (S2 lo hi) lo hi
theorem S1.shape {lo hi : Nat} {w : World} {v : Value} {I : List Iv} (h : S1 lo hi w v I) : ∃ a n c, v = .slice a n c := by
  rcases h with ⟨_, ad, cap, h⟩ | ⟨b, o, n, cap, _, _, _, _, _, h⟩
  · exact ⟨ad, 0, cap, h⟩
  · exact ⟨_, n, cap, h⟩
theorem SS.shape {S : World → Value → List Iv → Prop} {lo hi : Nat} {w : World} {v : Value} {I : List Iv} (h : SS S lo hi w v I) : ∃ a n c, v = .slice a n c := by
  obtain ⟨ad, m, cap, _, _, h, _⟩ := h
  exact ⟨ad, m, cap, h⟩
theorem SS.keep {S : World → Value → List Iv → Prop} {lo hi : Nat} {w w' : World} {v : Value} {I : List Iv} (h : SS S lo hi w v I) (hS : ∀ v I, S w v I → S w' v I) (hc : ∀ b o v, lo ≤ b → b < hi → (∃ a n c, v = .slice a n c) → w.cell? ⟨b, o, none⟩ = some v → w'.cell? ⟨b, o, none⟩ = some v)
    (hs : ∀ v I, S w v I → ∃ a n c, v = .slice a n c) : SS S lo hi w' v I := by
  obtain ⟨ad, m, cap, f, J, h1, h2, h3, h4, h5⟩ := h
  refine ⟨ad, m, cap, f, J, h1, h2, h3, fun j hj => hS _ _ (h4 j hj), fun hm => ?_⟩
  obtain ⟨b, o, e, hb, hb2, hcl⟩ := h5 hm
  exact ⟨b, o, e, hb, hb2, fun j hj => hc _ _ _ hb hb2 (hs _ _ (h4 j hj)) (hcl j hj)⟩
theorem S1.keep {lo hi : Nat} {w w' : World} {v : Value} {I : List Iv} (h : S1 lo hi w v I) : S1 lo hi w' v I := h
theorem S2.tame {lo hi : Nat} {w w' : World} {v : Value} {I : List Iv} (h : S2 lo hi w v I) (t : Tame w w') : S2 lo hi w' v I :=
  SS.keep h (fun _ _ h => h) (fun b o v _ _ ⟨a, n, c, e⟩ hc => by subst e; exact t.slices _ _ _ _ _ hc) (fun _ _ h => S1.shape h)
theorem S3.tame {lo hi : Nat} {w w' : World} {v : Value} {I : List Iv} (h : S3 lo hi w v I) (t : Tame w w') : S3 lo hi w' v I :=
  SS.keep h (fun _ _ h => S2.tame h t) (fun b o v _ _ ⟨a, n, c, e⟩ hc => by subst e; exact t.slices _ _ _ _ _ hc) (fun _ _ h => SS.shape h)
theorem S2.same {lo hi : Nat} {w w' : World} {v : Value} {I : List Iv} (h : S2 lo hi w v I) (s : Same lo hi w w') : S2 lo hi w' v I :=
  SS.keep h (fun _ _ h => h) (fun b o _ hb hb2 _ hc => (World.cell?_of_block (w := w) (a := ⟨b, o, none⟩) (s b hb hb2)).trans hc) (fun _ _ h => S1.shape h)
theorem S3.same {lo hi : Nat} {w w' : World} {v : Value} {I : List Iv} (h : S3 lo hi w v I) (s : Same lo hi w w') : S3 lo hi w' v I :=
  SS.keep h (fun _ _ h => S2.same h s) (fun b o _ hb hb2 _ hc => (World.cell?_of_block (w := w) (a := ⟨b, o, none⟩) (s b hb hb2)).trans hc) (fun _ _ h => SS.shape h)

def MarkS (lo hi : Nat) (I : List Iv) (k : Int) (w : World) (e : Ending) (w' : World) : Prop := e = .returned (.int .i64 (k + (ivSize I : Int))) ∧ Only lo hi w w' ∧ Tame w w' ∧ OutC I w w' ∧ Marked w' I k

set_option maxHeartbeats 800000 in
theorem mark1s_any {lo hi : Nat} (v : Value) (I : List Iv) (k : Int) (w : World) (h : S1 lo hi w v I) (hn : Nums lo hi w I) (hk0 : 0 ≤ k) (hk1 : k ≤ 4611686018427387904) :
    Calls Try.prog 63 #[v, .int .i64 k] w (MarkS lo hi I k w) := by
  rcases h with ⟨rfl, ad, cap, rfl⟩ | ⟨b, o, n, cap, rfl, hpos, hm, hlo, hhi, rfl⟩
  · go_enter Try.func63, Try.ntmps63
    go_wp2
    refine wp_loop_rounds 1 ?_
    rw [rounds_succ]
    go_wp2
    go_ret
    exact ⟨ret_int (by simp [ivSize]), Only.refl _ _ _, Tame.refl _, OutC.refl _ _, trivial⟩
  · have HN := Lib.hid (hn (b, o, n) (by simp)).2.2
    clear hn
    go_enter Try.func63, Try.ntmps63
    go_wp2
    go_loopw [1, 5] (fun kk i wr => ∃ (j : Nat), j ≤ n ∧ i = .int .i64 j ∧ kk = .int .i64 (k + (j : Int)) ∧ Hid (Only lo hi w wr ∧ Tame w wr ∧ OutC [(b, o, n)] w wr) ∧ Hid (∀ q, q < n → ∃ x, wr.cell? ⟨b, o + q, none⟩ = some (.int .i64 x) ∧ (q < j → x = k + (q : Int))) ∧ Hid (∀ q, q < n → wr.frozen? ⟨b, o + q, none⟩ = false)) (fun _ i _ => n - (intOf i).toNat)
    case atStart => exact ⟨0, Nat.zero_le _, rfl, by simp, Lib.hid ⟨Only.refl _ _ _, Tame.refl _, OutC.refl _ _⟩, Lib.hid (fun q hq => by
      obtain ⟨⟨x, hx⟩, _⟩ := HN.out q hq
      exact ⟨x, hx, fun h => absurd h (Nat.not_lt_zero _)⟩), Lib.hid (fun q hq => (HN.out q hq).2)⟩
    case round =>
      clear HN
      obtain ⟨j, hj, rfl, rfl, HO, HX, HZ⟩ := hrel
      by_cases hlt : j < n
      · obtain ⟨x, hx, _⟩ := HX.out j hlt
        have hz := HZ.out j hlt
        have HN : Hid (∀ q, q < n → ∃ x, (wr.setCell ⟨b, o + j, none⟩ (.int .i64 (k + (j : Int)))).cell? ⟨b, o + q, none⟩ = some (.int .i64 x) ∧ (q < j + 1 → x = k + (q : Int))) := Lib.hid (fun q hq => by
          obtain ⟨y, hy, hy2⟩ := HX.out q hq
          by_cases e : q = j
          · subst e
            exact ⟨k + (q : Int), World.cell?_setCell_same _ _ _ hy, fun _ => rfl⟩
          · refine ⟨y, ?_, fun h => hy2 (by omega)⟩
            rw [World.cell?_setCell_other _ _ _ _ (fun hh => e (by have h2 := congrArg Addr.off hh; exact (Nat.add_left_cancel h2).symm))]
            exact hy)
        have HZ2 : Hid (∀ q, q < n → (wr.setCell ⟨b, o + j, none⟩ (.int .i64 (k + (j : Int)))).frozen? ⟨b, o + q, none⟩ = false) := Lib.hid (fun q hq => by rw [World.frozen?_setCell]; exact HZ.out q hq)
        have HO2 : Hid (Only lo hi w (wr.setCell ⟨b, o + j, none⟩ (.int .i64 (k + (j : Int)))) ∧ Tame w (wr.setCell ⟨b, o + j, none⟩ (.int .i64 (k + (j : Int)))) ∧ OutC [(b, o, n)] w (wr.setCell ⟨b, o + j, none⟩ (.int .i64 (k + (j : Int))))) := Lib.hid ⟨HO.out.1.trans (Only.set _ hlo hhi), HO.out.2.1.trans (Tame.set hx), fun b2 o2 hn2 => by
          rw [World.cell?_setCell_other _ _ _ _ (fun hh => hn2 (by
            have h1 := congrArg Addr.block hh
            have h2 := congrArg Addr.off hh
            simp only at h1 h2
            exact ⟨(b, o, n), by simp, h1, by show o ≤ o2; omega, by show o2 < o + n; omega⟩))]
          exact HO.out.2.2 b2 o2 hn2⟩
        go_wp2
        go_roundw
        case rel => exact ⟨j + 1, by omega, by go_num, by go_num, HO2, HN, HZ2⟩
        case measure => simp [intOf]; omega
      · have hjj : Hid (j = n) := Lib.hid (by omega)
        go_wp2
        go_ret
        refine ⟨ret_int (by rw [hjj.out]; simp [ivSize]), HO.out.1, HO.out.2.1, HO.out.2.2, fun q hq => ?_, trivial⟩
        obtain ⟨x, hx, hx2⟩ := HX.out q hq
        rw [hx, hx2 (by have := hjj.out; simp only at hq; omega)]

set_option maxHeartbeats 800000 in
theorem held1s_any {lo hi : Nat} (v : Value) (I : List Iv) (k : Int) (w : World) (h : S1 lo hi w v I) (hm : Marked w I k) (hk0 : 0 ≤ k) (hk1 : k ≤ 4611686018427387904) :
    Calls Try.prog 65 #[v, .int .i64 k] w (QW (.int .i64 (k + (ivSize I : Int))) w) := by
  rcases h with ⟨rfl, ad, cap, rfl⟩ | ⟨b, o, n, cap, rfl, hpos, hn, hlo, hhi, rfl⟩
  · have := held1_any (lo := 0) (.slice ad 0 cap) 0 k w (Or.inl ⟨rfl, _, _, rfl⟩) (by omega) hk0 hk1
    simpa [ivSize] using this
  · have := held1_any (lo := 0) (.slice (some ⟨b, o, none⟩) n cap) n k w (Or.inr ⟨b, o, cap, by rw [upFrom_length], Nat.zero_le _, by rw [upFrom_length]; exact hpos, fun q hq => by
      rw [upFrom_length] at hq
      refine ⟨_, hm.1 q hq, ?_⟩
      simp only [IsI, upFrom, List.getElem_map, List.getElem_range]⟩) hn hk0 hk1
    simpa [ivSize] using this

set_option maxHeartbeats 1600000 in
theorem mark2s_any {lo hi : Nat} (v : Value) (I : List Iv) (k : Int) (w : World) (h : S2 lo hi w v I) (hn : Nums lo hi w I) (hd : Disj I) (hk0 : 0 ≤ k) (hk1 : k + (ivSize I : Int) ≤ 4611686018427387904) :
    Calls Try.prog 27 #[v, .int .i64 k] w (MarkS lo hi I k w) := by
  obtain ⟨ad, m, cap, f, J, rfl, hm, rfl, hs, hc⟩ := h
  have HS := Lib.hid hs
  have HN := Lib.hid hn
  have HD := Lib.hid hd
  clear hs hn hd
  by_cases h0 : m = 0
  · subst h0
    clear hc
    go_enter Try.func27, Try.ntmps27
    go_wp2
    refine wp_loop_rounds 1 ?_
    rw [rounds_succ]
    go_wp2
    go_ret
    exact ⟨ret_int (by simp [ivSize, flat]), Only.refl _ _ _, Tame.refl _, OutC.refl _ _, trivial⟩
  · obtain ⟨b, o, rfl, hlo, hhi, hcl⟩ := hc (by omega)
    have HC := Lib.hid hcl
    have HK := Lib.hid hk1
    clear hcl hc hk1
    go_enter Try.func27, Try.ntmps27
    go_wp2
    go_loopw [1, 5] (fun kk i wr => ∃ (j : Nat) (s : Int), j ≤ m ∧ i = .int .i64 j ∧ kk = .int .i64 s ∧ Hid (s = k + (ivSize (flat J j) : Int)) ∧ Hid (Only lo hi w wr ∧ Tame w wr ∧ OutC (flat J j) w wr ∧ Marked wr (flat J j) k)) (fun _ i _ => m - (intOf i).toNat)
    case atStart => exact ⟨0, k, Nat.zero_le _, rfl, rfl, Lib.hid (by simp [flat, ivSize]), Lib.hid ⟨Only.refl _ _ _, Tame.refl _, OutC.refl _ _, trivial⟩⟩
    case round =>
      obtain ⟨j, s, hj, rfl, rfl, HSU, HO⟩ := hrel
      by_cases hlt : j < m
      · obtain ⟨a1, n1, c1, hu1⟩ := S1.shape (HS.out j hlt)
        have hu := HC.out j hlt
        rw [hu1] at hu
        have hu' := HO.out.2.1.slices _ _ _ _ _ hu
        have hs := HS.out
        have hsz := flat_size (J := J) hlt
        have hs0 : 0 ≤ s ∧ s ≤ 4611686018427387904 := by have := HSU.out; have := HK.out; omega
        have HM1 := Lib.hid (mark1s_any (f j) (J j) s wr (hs j hlt) ((HN.out.sub (flat_mem hlt)).tame HO.out.2.1) (by omega) (by omega))
        rw [hu1] at HM1
        have HS2 : Hid (s + (ivSize (J j) : Int) = k + (ivSize (flat J (j + 1)) : Int)) := Lib.hid (by have := HSU.out; rw [flat_succ, ivSize_append]; omega)
        clear hu hu1 hs hsz
        go_wp2_with fail
        refine HM1.out.mono ?_
        rintro e w2 ⟨rfl, ho, ht, hout, hmk⟩
        have HO2 : Hid (Only lo hi w w2 ∧ Tame w w2 ∧ OutC (flat J (j + 1)) w w2 ∧ Marked w2 (flat J (j + 1)) k) := Lib.hid ⟨HO.out.1.trans ho, HO.out.2.1.trans ht, by rw [flat_succ]; exact HO.out.2.2.1.trans hout, by
          rw [flat_succ]
          exact (HO.out.2.2.2.keep hout (flat_apart hlt HD.out)).append (by rw [← HSU.out]; exact hmk)⟩
        have hs1 : 0 ≤ s + (ivSize (J j) : Int) ∧ s + (ivSize (J j) : Int) ≤ 4611686018427387904 := by
          have h1 := HS2.out
          have h2 := HK.out
          have h3 : ivSize (flat J (j + 1)) ≤ ivSize (flat J m) := by
            obtain ⟨r, hr⟩ := flat_part J (show j + 1 ≤ m by omega)
            rw [hr, ivSize_append]; omega
          omega
        clear ho ht hout hmk HM1
        go_wp2
        go_roundw
        case rel => exact ⟨j + 1, s + (ivSize (J j) : Int), by omega, by go_num, rfl, HS2, HO2⟩
        case measure => simp [intOf]; omega
      · have hjj : Hid (j = m) := Lib.hid (by omega)
        go_wp2
        go_ret
        have h := HO.out
        have h2 := HSU.out
        rw [hjj.out] at h h2
        exact ⟨ret_int h2, h.1, h.2.1, h.2.2.1, h.2.2.2⟩

set_option maxHeartbeats 1600000 in
theorem held2s_any {lo hi : Nat} (v : Value) (I : List Iv) (k : Int) (w : World) (h : S2 lo hi w v I) (hn : Marked w I k) (hk0 : 0 ≤ k) (hk1 : k + (ivSize I : Int) ≤ 4611686018427387904) :
    Calls Try.prog 28 #[v, .int .i64 k] w (QW (.int .i64 (k + (ivSize I : Int))) w) := by
  obtain ⟨ad, m, cap, f, J, rfl, hm, rfl, hs, hc⟩ := h
  have HS := Lib.hid hs
  have HN := Lib.hid hn
  clear hs hn
  by_cases h0 : m = 0
  · subst h0
    clear hc
    go_enter Try.func28, Try.ntmps28
    go_wp2
    refine wp_loop_rounds 1 ?_
    rw [rounds_succ]
    go_wp2
    go_ret
    exact ⟨ret_int (by simp [ivSize, flat]), rfl⟩
  · obtain ⟨b, o, rfl, hlo, hhi, hcl⟩ := hc (by omega)
    have HC := Lib.hid hcl
    have HK := Lib.hid hk1
    clear hcl hc hk1
    go_enter Try.func28, Try.ntmps28
    go_wp2
    go_loop [1, 5] (fun kk i => ∃ (j : Nat) (s : Int), j ≤ m ∧ i = .int .i64 j ∧ kk = .int .i64 s ∧ Hid (s = k + (ivSize (flat J j) : Int))) (fun _ i => m - (intOf i).toNat)
    case atStart => exact ⟨0, k, Nat.zero_le _, rfl, rfl, Lib.hid (by simp [flat, ivSize])⟩
    case round =>
      obtain ⟨j, s, hj, rfl, rfl, HSU⟩ := hrel
      by_cases hlt : j < m
      · obtain ⟨a1, n1, c1, hu1⟩ := S1.shape (HS.out j hlt)
        have hu' := HC.out j hlt
        rw [hu1] at hu'
        have hs := HS.out
        have hsz := flat_size (J := J) hlt
        have hs0 : 0 ≤ s ∧ s ≤ 4611686018427387904 := by have := HSU.out; have := HK.out; omega
        have hmk : Marked w (J j) s := by
          obtain ⟨r, hr⟩ := flat_part J (show j + 1 ≤ m by omega)
          have h := HN.out
          rw [hr, flat_succ] at h
          have h2 := h.parts.1.parts.2
          rw [← HSU.out] at h2
          exact h2
        have HM1 := Lib.hid (held1s_any (f j) (J j) s w (hs j hlt) hmk (by omega) (by omega))
        rw [hu1] at HM1
        have HS2 : Hid (s + (ivSize (J j) : Int) = k + (ivSize (flat J (j + 1)) : Int)) := Lib.hid (by have := HSU.out; rw [flat_succ, ivSize_append]; omega)
        clear hu1 hs hsz hmk
        go_wp2_with fail
        refine HM1.out.mono ?_
        rintro e w2 ⟨rfl, rfl⟩
        have hneg : ¬ (s + (ivSize (J j) : Int) < 0) := by omega
        have hs1 : 0 ≤ s + (ivSize (J j) : Int) ∧ s + (ivSize (J j) : Int) ≤ 4611686018427387904 := by
          have h1 := HS2.out
          have h2 := HK.out
          have h3 : ivSize (flat J (j + 1)) ≤ ivSize (flat J m) := by
            obtain ⟨r, hr⟩ := flat_part J (show j + 1 ≤ m by omega)
            rw [hr, ivSize_append]; omega
          omega
        clear hu' HM1
        go_wp2
        go_round
        case rel => exact ⟨j + 1, s + (ivSize (J j) : Int), by omega, by go_num, rfl, HS2⟩
        case measure => simp [intOf]; omega
      · have hjj : Hid (j = m) := Lib.hid (by omega)
        go_wp2
        go_ret
        have h2 := HSU.out
        rw [hjj.out] at h2
        exact ⟨ret_int h2, rfl⟩

set_option maxHeartbeats 1600000 in
theorem mark3s_any {lo hi : Nat} (v : Value) (I : List Iv) (k : Int) (w : World) (h : S3 lo hi w v I) (hn : Nums lo hi w I) (hd : Disj I) (hk0 : 0 ≤ k) (hk1 : k + (ivSize I : Int) ≤ 4611686018427387904) :
    Calls Try.prog 64 #[v, .int .i64 k] w (MarkS lo hi I k w) := by
  obtain ⟨ad, m, cap, f, J, rfl, hm, rfl, hs, hc⟩ := h
  have HS := Lib.hid hs
  have HN := Lib.hid hn
  have HD := Lib.hid hd
  clear hs hn hd
  by_cases h0 : m = 0
  · subst h0
    clear hc
    go_enter Try.func64, Try.ntmps64
    go_wp2
    refine wp_loop_rounds 1 ?_
    rw [rounds_succ]
    go_wp2
    go_ret
    exact ⟨ret_int (by simp [ivSize, flat]), Only.refl _ _ _, Tame.refl _, OutC.refl _ _, trivial⟩
  · obtain ⟨b, o, rfl, hlo, hhi, hcl⟩ := hc (by omega)
    have HC := Lib.hid hcl
    have HK := Lib.hid hk1
    clear hcl hc hk1
    go_enter Try.func64, Try.ntmps64
    go_wp2
    go_loopw [1, 5] (fun kk i wr => ∃ (j : Nat) (s : Int), j ≤ m ∧ i = .int .i64 j ∧ kk = .int .i64 s ∧ Hid (s = k + (ivSize (flat J j) : Int)) ∧ Hid (Only lo hi w wr ∧ Tame w wr ∧ OutC (flat J j) w wr ∧ Marked wr (flat J j) k)) (fun _ i _ => m - (intOf i).toNat)
    case atStart => exact ⟨0, k, Nat.zero_le _, rfl, rfl, Lib.hid (by simp [flat, ivSize]), Lib.hid ⟨Only.refl _ _ _, Tame.refl _, OutC.refl _ _, trivial⟩⟩
    case round =>
      obtain ⟨j, s, hj, rfl, rfl, HSU, HO⟩ := hrel
      by_cases hlt : j < m
      · obtain ⟨a1, n1, c1, hu1⟩ := SS.shape (HS.out j hlt)
        have hu := HC.out j hlt
        rw [hu1] at hu
        have hu' := HO.out.2.1.slices _ _ _ _ _ hu
        have hs := HS.out
        have hsz := flat_size (J := J) hlt
        have hs0 : 0 ≤ s ∧ s ≤ 4611686018427387904 := by have := HSU.out; have := HK.out; omega
        have HM1 := Lib.hid (mark2s_any (f j) (J j) s wr (S2.tame (hs j hlt) HO.out.2.1) ((HN.out.sub (flat_mem hlt)).tame HO.out.2.1) (flat_disj hlt HD.out) (by omega) (by have := HSU.out; have := HK.out; omega))
        rw [hu1] at HM1
        have HS2 : Hid (s + (ivSize (J j) : Int) = k + (ivSize (flat J (j + 1)) : Int)) := Lib.hid (by have := HSU.out; rw [flat_succ, ivSize_append]; omega)
        clear hu hu1 hs hsz
        go_wp2_with fail
        refine HM1.out.mono ?_
        rintro e w2 ⟨rfl, ho, ht, hout, hmk⟩
        have HO2 : Hid (Only lo hi w w2 ∧ Tame w w2 ∧ OutC (flat J (j + 1)) w w2 ∧ Marked w2 (flat J (j + 1)) k) := Lib.hid ⟨HO.out.1.trans ho, HO.out.2.1.trans ht, by rw [flat_succ]; exact HO.out.2.2.1.trans hout, by
          rw [flat_succ]
          exact (HO.out.2.2.2.keep hout (flat_apart hlt HD.out)).append (by rw [← HSU.out]; exact hmk)⟩
        have hs1 : 0 ≤ s + (ivSize (J j) : Int) ∧ s + (ivSize (J j) : Int) ≤ 4611686018427387904 := by
          have h1 := HS2.out
          have h2 := HK.out
          have h3 : ivSize (flat J (j + 1)) ≤ ivSize (flat J m) := by
            obtain ⟨r, hr⟩ := flat_part J (show j + 1 ≤ m by omega)
            rw [hr, ivSize_append]; omega
          omega
        clear ho ht hout hmk HM1
        go_wp2
        go_roundw
        case rel => exact ⟨j + 1, s + (ivSize (J j) : Int), by omega, by go_num, rfl, HS2, HO2⟩
        case measure => simp [intOf]; omega
      · have hjj : Hid (j = m) := Lib.hid (by omega)
        go_wp2
        go_ret
        have h := HO.out
        have h2 := HSU.out
        rw [hjj.out] at h h2
        exact ⟨ret_int h2, h.1, h.2.1, h.2.2.1, h.2.2.2⟩

set_option maxHeartbeats 1600000 in
theorem held3s_any {lo hi : Nat} (v : Value) (I : List Iv) (k : Int) (w : World) (h : S3 lo hi w v I) (hn : Marked w I k) (hk0 : 0 ≤ k) (hk1 : k + (ivSize I : Int) ≤ 4611686018427387904) :
    Calls Try.prog 66 #[v, .int .i64 k] w (QW (.int .i64 (k + (ivSize I : Int))) w) := by
  obtain ⟨ad, m, cap, f, J, rfl, hm, rfl, hs, hc⟩ := h
  have HS := Lib.hid hs
  have HN := Lib.hid hn
  clear hs hn
  by_cases h0 : m = 0
  · subst h0
    clear hc
    go_enter Try.func66, Try.ntmps66
    go_wp2
    refine wp_loop_rounds 1 ?_
    rw [rounds_succ]
    go_wp2
    go_ret
    exact ⟨ret_int (by simp [ivSize, flat]), rfl⟩
  · obtain ⟨b, o, rfl, hlo, hhi, hcl⟩ := hc (by omega)
    have HC := Lib.hid hcl
    have HK := Lib.hid hk1
    clear hcl hc hk1
    go_enter Try.func66, Try.ntmps66
    go_wp2
    go_loop [1, 5] (fun kk i => ∃ (j : Nat) (s : Int), j ≤ m ∧ i = .int .i64 j ∧ kk = .int .i64 s ∧ Hid (s = k + (ivSize (flat J j) : Int))) (fun _ i => m - (intOf i).toNat)
    case atStart => exact ⟨0, k, Nat.zero_le _, rfl, rfl, Lib.hid (by simp [flat, ivSize])⟩
    case round =>
      obtain ⟨j, s, hj, rfl, rfl, HSU⟩ := hrel
      by_cases hlt : j < m
      · obtain ⟨a1, n1, c1, hu1⟩ := SS.shape (HS.out j hlt)
        have hu' := HC.out j hlt
        rw [hu1] at hu'
        have hs := HS.out
        have hsz := flat_size (J := J) hlt
        have hs0 : 0 ≤ s ∧ s ≤ 4611686018427387904 := by have := HSU.out; have := HK.out; omega
        have hmk : Marked w (J j) s := by
          obtain ⟨r, hr⟩ := flat_part J (show j + 1 ≤ m by omega)
          have h := HN.out
          rw [hr, flat_succ] at h
          have h2 := h.parts.1.parts.2
          rw [← HSU.out] at h2
          exact h2
        have HM1 := Lib.hid (held2s_any (f j) (J j) s w (hs j hlt) hmk (by omega) (by have := HSU.out; have := HK.out; omega))
        rw [hu1] at HM1
        have HS2 : Hid (s + (ivSize (J j) : Int) = k + (ivSize (flat J (j + 1)) : Int)) := Lib.hid (by have := HSU.out; rw [flat_succ, ivSize_append]; omega)
        clear hu1 hs hsz hmk
        go_wp2_with fail
        refine HM1.out.mono ?_
        rintro e w2 ⟨rfl, rfl⟩
        have hneg : ¬ (s + (ivSize (J j) : Int) < 0) := by omega
        have hs1 : 0 ≤ s + (ivSize (J j) : Int) ∧ s + (ivSize (J j) : Int) ≤ 4611686018427387904 := by
          have h1 := HS2.out
          have h2 := HK.out
          have h3 : ivSize (flat J (j + 1)) ≤ ivSize (flat J m) := by
            obtain ⟨r, hr⟩ := flat_part J (show j + 1 ≤ m by omega)
            rw [hr, ivSize_append]; omega
          omega
        clear hu' HM1
        go_wp2
        go_round
        case rel => exact ⟨j + 1, s + (ivSize (J j) : Int), by omega, by go_num, rfl, HS2⟩
        case measure => simp [intOf]; omega
      · have hjj : Hid (j = m) := Lib.hid (by omega)
        go_wp2
        go_ret
        have h2 := HSU.out
        rw [hjj.out] at h2
        exact ⟨ret_int h2, rfl⟩
end Go.Proofs.Ytlopenephgabhaa


namespace Go.Proofs.Ytlopenephgabhaa
open Go.RowKit

/-- The table at block g: its row of rows there, row j at block g + 1 + j, number i of it Z j i. -/
structure Tb (W : World) (g r c : Nat) (Z : Nat → Nat → Int) : Prop where
  top : W.rowIs g 35 r (fun j => .slice (some ⟨g + 1 + j, 0, none⟩) c c)
  rows : ∀ j, j < r → W.rowIs (g + 1 + j) 2 c (fun i => .int .i64 (Z j i))
  lt : g + 1 + r ≤ W.heap.size
theorem Mat.tb {w w' : World} {r c : Nat} {Z : Nat → Nat → Int} (h : Mat w w' r c Z) : Tb w' w.heap.size r c Z := ⟨h.top, h.rows, by rw [h.size]; omega⟩
theorem Tb.below {W W' : World} {g r c : Nat} {Z : Nat → Nat → Int} (h : Tb W g r c Z) (hb : Below W.heap.size W W') : Tb W' g r c Z :=
  ⟨h.top.of_block (hb.block _ h.top.lt), fun j hj => (h.rows j hj).of_block (hb.block _ (h.rows j hj).lt), Nat.le_trans h.lt hb.size⟩
theorem Tb.out {W : World} {g r c : Nat} {Z : Nat → Nat → Int} (h : Tb W g r c Z) {a : Addr} (ha : a.block < g ∨ g + 1 + r ≤ a.block) (v : Value) : Tb (W.setCell a v) g r c Z :=
  ⟨h.top.setOther (by omega) v, fun j hj => (h.rows j hj).setOther (by omega) v, by simpa using h.lt⟩
theorem Tb.put {W : World} {g r c : Nat} {Z : Nat → Nat → Int} (h : Tb W g r c Z) {j i : Nat} (hj : j < r) (x : Int) :
    Tb (W.setCell ⟨g + 1 + j, i, none⟩ (.int .i64 x)) g r c (fun j2 i2 => if j2 = j ∧ i2 = i then x else Z j2 i2) := by
  refine ⟨h.top.setOther (by show g ≠ g + 1 + j; omega) _, fun j2 hj2 => ?_, by simpa using h.lt⟩
  by_cases e : j2 = j
  · subst e
    exact ((h.rows j2 hj2).set i _).congr (fun i2 _ => by by_cases e2 : i2 = i <;> simp [e2])
  · exact ((h.rows j2 hj2).setOther (by show g + 1 + j2 ≠ g + 1 + j; omega) _).congr (fun i2 _ => by simp [e])
theorem Tb.congr {W : World} {g r c : Nat} {Z Z' : Nat → Nat → Int} (h : Tb W g r c Z) (e : ∀ j, j < r → ∀ i, i < c → Z j i = Z' j i) : Tb W g r c Z' :=
  ⟨h.top, fun j hj => (h.rows j hj).congr (fun i hi => by rw [e j hj i hi]), h.lt⟩
theorem Tb.tab {W : World} {g r c : Nat} {Z : Nat → Nat → Int} (h : Tb W g r c Z) : TabW W g r c Z := by
  refine ⟨fun j hj => h.top.cell hj, fun j hj => ?_⟩
  by_cases hc : c = 0
  · subst hc
    exact Or.inl ⟨rfl, _, _, rfl⟩
  · refine Or.inr ⟨g + 1 + j, 0, c, by rw [rowZ_length], Nat.le_refl _, by omega, by rw [rowZ_length]; omega, fun i hi => ?_, fun i _ => (h.rows j hj).frozen _⟩
    have hi' : i < c := by rwa [rowZ_length] at hi
    refine ⟨_, by rw [Nat.zero_add]; exact (h.rows j hj).cell hi', ?_⟩
    simp only [IsI, rowZ, List.getElem_map, List.getElem_range]
end Go.Proofs.Ytlopenephgabhaa


namespace Go.Proofs.Ytlopenephgabhaa
open Go.RowKit

theorem S1.wider {lo hi lo' hi' : Nat} {W : World} {u : Value} {I : List Iv} (h : S1 lo hi W u I) (h1 : lo' ≤ lo) (h2 : hi ≤ hi') : S1 lo' hi' W u I := by
  rcases h with h | ⟨b, o, n, cap, e, a, b1, c, d, f⟩
  · exact Or.inl h
  · exact Or.inr ⟨b, o, n, cap, e, a, b1, by omega, by omega, f⟩
theorem SS.wider {S S' : World → Value → List Iv → Prop} {lo hi lo' hi' : Nat} {W : World} {u : Value} {I : List Iv} (h : SS S lo hi W u I) (hS : ∀ v I, S W v I → S' W v I) (h1 : lo' ≤ lo) (h2 : hi ≤ hi') : SS S' lo' hi' W u I := by
  obtain ⟨ad, m, cap, f, J, a, b, c, d, e⟩ := h
  refine ⟨ad, m, cap, f, J, a, b, c, fun j hj => hS _ _ (d j hj), fun hm => ?_⟩
  obtain ⟨b, o, x1, x2, x3, x4⟩ := e hm
  exact ⟨b, o, x1, by omega, by omega, x4⟩
theorem S2.wider {lo hi lo' hi' : Nat} {W : World} {u : Value} {I : List Iv} (h : S2 lo hi W u I) (h1 : lo' ≤ lo) (h2 : hi ≤ hi') : S2 lo' hi' W u I := SS.wider h (fun _ _ k => S1.wider k h1 h2) h1 h2
theorem S3.wider {lo hi lo' hi' : Nat} {W : World} {u : Value} {I : List Iv} (h : S3 lo hi W u I) (h1 : lo' ≤ lo) (h2 : hi ≤ hi') : S3 lo' hi' W u I := SS.wider h (fun _ _ k => S2.wider k h1 h2) h1 h2

/-- A result of 1 level(s) in blocks from lo up to hi, its numbers apart from each other. -/
def Rw1 (lo hi : Nat) (W : World) (u : Value) (out : List Int) : Prop := W1 lo hi W u out ∧ ∃ I, S1 lo hi W u I ∧ Nums lo hi W I ∧ Disj I ∧ ivSize I ≤ 1048576
theorem Rw1.same {lo hi : Nat} {W W' : World} {u : Value} {out : List Int} (h : Rw1 lo hi W u out) (s : Same lo hi W W') : Rw1 lo hi W' u out := by
  obtain ⟨h1, I, h2, h3, h4, h5⟩ := h
  exact ⟨h1.same s, I, h2, h3.same s, h4, h5⟩
theorem Rw1.next {lo hi : Nat} {W W' : World} {u : Value} {out : List Int} (h : Rw1 lo hi W u out) (hb : Below W.heap.size W W') (hh : hi ≤ W.heap.size) : Rw1 lo hi W' u out := h.same (Same.of_below hb hh)
theorem Rw1.wider {lo hi lo' hi' : Nat} {W : World} {u : Value} {out : List Int} (h : Rw1 lo hi W u out) (h1 : lo' ≤ lo) (h2 : hi ≤ hi') : Rw1 lo' hi' W u out := by
  obtain ⟨a, I, b, c, d, e⟩ := h
  exact ⟨a.wider h1 h2, I, b.wider h1 h2, c.wider h1 h2, d, e⟩
theorem Rw1.l {lo hi : Nat} {W : World} {u : Value} {out : List Int} (h : Rw1 lo hi W u out) : L1 0 W u out := h.1.l1.lower (Nat.zero_le _)
theorem Rw1.shape {lo hi : Nat} {W : World} {u : Value} {out : List Int} (h : Rw1 lo hi W u out) : ∃ ad cap, u = .slice ad out.length cap := Sw.shape h.1
theorem Rw1.nil (lo hi : Nat) (W : World) : Rw1 lo hi W (.slice none 0 0) [] := ⟨Or.inl ⟨rfl, _, _, rfl⟩, [], Or.inl ⟨rfl, _, _, rfl⟩, fun _ h => absurd h (by simp), List.Pairwise.nil, by simp [ivSize]⟩
/-- The same with the marks from 1 on in it. -/
def Hw1 (lo hi : Nat) (W : World) (u : Value) (m : Int) : Prop := ∃ I, S1 lo hi W u I ∧ Marked W I 1 ∧ (∀ x ∈ I, lo ≤ x.1 ∧ x.1 < hi) ∧ m = 1 + (ivSize I : Int) ∧ ivSize I ≤ 1048576
theorem Hw1.same {lo hi : Nat} {W W' : World} {u : Value} {m : Int} (h : Hw1 lo hi W u m) (s : Same lo hi W W') : Hw1 lo hi W' u m := by
  obtain ⟨I, h2, h3, h4, h5⟩ := h
  exact ⟨I, h2, h3.same h4 s, h4, h5⟩
theorem Hw1.next {lo hi : Nat} {W W' : World} {u : Value} {m : Int} (h : Hw1 lo hi W u m) (hb : Below W.heap.size W W') (hh : hi ≤ W.heap.size) : Hw1 lo hi W' u m := h.same (Same.of_below hb hh)
/-- A result of 2 level(s) in blocks from lo up to hi, its numbers apart from each other. -/
def Rw2 (lo hi : Nat) (W : World) (u : Value) (out : List (List Int)) : Prop := W2 lo hi W u out ∧ ∃ I, S2 lo hi W u I ∧ Nums lo hi W I ∧ Disj I ∧ ivSize I ≤ 1099511627776
theorem Rw2.same {lo hi : Nat} {W W' : World} {u : Value} {out : List (List Int)} (h : Rw2 lo hi W u out) (s : Same lo hi W W') : Rw2 lo hi W' u out := by
  obtain ⟨h1, I, h2, h3, h4, h5⟩ := h
  exact ⟨h1.same s, I, h2.same s, h3.same s, h4, h5⟩
theorem Rw2.next {lo hi : Nat} {W W' : World} {u : Value} {out : List (List Int)} (h : Rw2 lo hi W u out) (hb : Below W.heap.size W W') (hh : hi ≤ W.heap.size) : Rw2 lo hi W' u out := h.same (Same.of_below hb hh)
theorem Rw2.wider {lo hi lo' hi' : Nat} {W : World} {u : Value} {out : List (List Int)} (h : Rw2 lo hi W u out) (h1 : lo' ≤ lo) (h2 : hi ≤ hi') : Rw2 lo' hi' W u out := by
  obtain ⟨a, I, b, c, d, e⟩ := h
  exact ⟨a.wider h1 h2, I, b.wider h1 h2, c.wider h1 h2, d, e⟩
theorem Rw2.l {lo hi : Nat} {W : World} {u : Value} {out : List (List Int)} (h : Rw2 lo hi W u out) : L2 0 W u out := h.1.l2.lower (Nat.zero_le _)
theorem Rw2.shape {lo hi : Nat} {W : World} {u : Value} {out : List (List Int)} (h : Rw2 lo hi W u out) : ∃ ad cap, u = .slice ad out.length cap := Sw.shape h.1
theorem Rw2.nil (lo hi : Nat) (W : World) : Rw2 lo hi W (.slice none 0 0) [] := ⟨Or.inl ⟨rfl, _, _, rfl⟩, [], ⟨none, 0, 0, fun _ => .slice none 0 0, fun _ => [], rfl, by omega, rfl, fun _ h => absurd h (Nat.not_lt_zero _), fun h => absurd h (Nat.lt_irrefl _)⟩, fun _ h => absurd h (by simp), List.Pairwise.nil, by simp [ivSize]⟩
/-- The same with the marks from 1 on in it. -/
def Hw2 (lo hi : Nat) (W : World) (u : Value) (m : Int) : Prop := ∃ I, S2 lo hi W u I ∧ Marked W I 1 ∧ (∀ x ∈ I, lo ≤ x.1 ∧ x.1 < hi) ∧ m = 1 + (ivSize I : Int) ∧ ivSize I ≤ 1099511627776
theorem Hw2.same {lo hi : Nat} {W W' : World} {u : Value} {m : Int} (h : Hw2 lo hi W u m) (s : Same lo hi W W') : Hw2 lo hi W' u m := by
  obtain ⟨I, h2, h3, h4, h5⟩ := h
  exact ⟨I, h2.same s, h3.same h4 s, h4, h5⟩
theorem Hw2.next {lo hi : Nat} {W W' : World} {u : Value} {m : Int} (h : Hw2 lo hi W u m) (hb : Below W.heap.size W W') (hh : hi ≤ W.heap.size) : Hw2 lo hi W' u m := h.same (Same.of_below hb hh)
/-- A result of 3 level(s) in blocks from lo up to hi, its numbers apart from each other. -/
def Rw3 (lo hi : Nat) (W : World) (u : Value) (out : List (List (List Int))) : Prop := W3 lo hi W u out ∧ ∃ I, S3 lo hi W u I ∧ Nums lo hi W I ∧ Disj I ∧ ivSize I ≤ 1152921504606846976
theorem Rw3.same {lo hi : Nat} {W W' : World} {u : Value} {out : List (List (List Int))} (h : Rw3 lo hi W u out) (s : Same lo hi W W') : Rw3 lo hi W' u out := by
  obtain ⟨h1, I, h2, h3, h4, h5⟩ := h
  exact ⟨h1.same s, I, h2.same s, h3.same s, h4, h5⟩
theorem Rw3.next {lo hi : Nat} {W W' : World} {u : Value} {out : List (List (List Int))} (h : Rw3 lo hi W u out) (hb : Below W.heap.size W W') (hh : hi ≤ W.heap.size) : Rw3 lo hi W' u out := h.same (Same.of_below hb hh)
theorem Rw3.wider {lo hi lo' hi' : Nat} {W : World} {u : Value} {out : List (List (List Int))} (h : Rw3 lo hi W u out) (h1 : lo' ≤ lo) (h2 : hi ≤ hi') : Rw3 lo' hi' W u out := by
  obtain ⟨a, I, b, c, d, e⟩ := h
  exact ⟨a.wider h1 h2, I, b.wider h1 h2, c.wider h1 h2, d, e⟩
theorem Rw3.l {lo hi : Nat} {W : World} {u : Value} {out : List (List (List Int))} (h : Rw3 lo hi W u out) : L3 0 W u out := h.1.l3.lower (Nat.zero_le _)
theorem Rw3.shape {lo hi : Nat} {W : World} {u : Value} {out : List (List (List Int))} (h : Rw3 lo hi W u out) : ∃ ad cap, u = .slice ad out.length cap := Sw.shape h.1
theorem Rw3.nil (lo hi : Nat) (W : World) : Rw3 lo hi W (.slice none 0 0) [] := ⟨Or.inl ⟨rfl, _, _, rfl⟩, [], ⟨none, 0, 0, fun _ => .slice none 0 0, fun _ => [], rfl, by omega, rfl, fun _ h => absurd h (Nat.not_lt_zero _), fun h => absurd h (Nat.lt_irrefl _)⟩, fun _ h => absurd h (by simp), List.Pairwise.nil, by simp [ivSize]⟩
/-- The same with the marks from 1 on in it. -/
def Hw3 (lo hi : Nat) (W : World) (u : Value) (m : Int) : Prop := ∃ I, S3 lo hi W u I ∧ Marked W I 1 ∧ (∀ x ∈ I, lo ≤ x.1 ∧ x.1 < hi) ∧ m = 1 + (ivSize I : Int) ∧ ivSize I ≤ 1152921504606846976
theorem Hw3.same {lo hi : Nat} {W W' : World} {u : Value} {m : Int} (h : Hw3 lo hi W u m) (s : Same lo hi W W') : Hw3 lo hi W' u m := by
  obtain ⟨I, h2, h3, h4, h5⟩ := h
  exact ⟨I, h2.same s, h3.same h4 s, h4, h5⟩
theorem Hw3.next {lo hi : Nat} {W W' : World} {u : Value} {m : Int} (h : Hw3 lo hi W u m) (hb : Below W.heap.size W W') (hh : hi ≤ W.heap.size) : Hw3 lo hi W' u m := h.same (Same.of_below hb hh)
/-- Lists of intervals in spans of blocks one behind the other are apart. -/
theorem disj_spans {J : Nat → List Iv} {b : Nat → Nat} {n : Nat} (hi : ∀ j, j < n → b j ≤ b (j + 1)) (hJ : ∀ j, j < n → ∀ x ∈ J j, b j ≤ x.1 ∧ x.1 < b (j + 1)) (hd : ∀ j, j < n → Disj (J j)) : Disj (flat J n) ∧ ∀ x ∈ flat J n, x.1 < b n := by
  induction n with
  | zero => exact ⟨List.Pairwise.nil, fun x hx => absurd hx (by simp [flat])⟩
  | succ n ih =>
    obtain ⟨h1, h2⟩ := ih (fun j hj => hi j (by omega)) (fun j hj => hJ j (by omega)) (fun j hj => hd j (by omega))
    rw [flat_succ]
    refine ⟨List.pairwise_append.2 ⟨h1, hd n (by omega), fun x hx y hy => Or.inl ?_⟩, fun x hx => ?_⟩
    · have a := h2 x hx
      have c := (hJ n (by omega) y hy).1
      omega
    · rcases List.mem_append.1 hx with h | h
      · have a := h2 x h
        have c := hi n (by omega)
        omega
      · exact (hJ n (by omega) x h).2
theorem size_spans {J : Nat → List Iv} {n B : Nat} (h : ∀ j, j < n → ivSize (J j) ≤ B) : ivSize (flat J n) ≤ B * n := by
  induction n with
  | zero => simp [flat, ivSize]
  | succ n ih =>
    have h1 := ih (fun j hj => h j (by omega))
    have h2 := h n (by omega)
    rw [flat_succ, ivSize_append, Nat.mul_succ]
    omega
theorem nums_flat {lo hi : Nat} {W : World} {J : Nat → List Iv} {n : Nat} (h : ∀ j, j < n → Nums lo hi W (J j)) : Nums lo hi W (flat J n) := fun x hx => by
  obtain ⟨j, hj, hx⟩ := List.mem_flatMap.1 hx
  exact h j (List.mem_range.1 hj) x hx
theorem choose2 {α : Type} [Inhabited α] {P : Nat → α → Prop} {n : Nat} (h : ∀ j, j < n → ∃ a, P j a) : ∃ f : Nat → α, ∀ j, j < n → P j (f j) :=
  ⟨fun j => if hj : j < n then Classical.choose (h j hj) else default, fun j hj => by simp only [dif_pos hj]; exact Classical.choose_spec (h j hj)⟩

/-- A table in blocks of its own. -/
theorem Tb.rw2 {lo : Nat} {W : World} {g r c : Nat} {Z : Nat → Nat → Int} (h : Tb W g r c Z) (hl : lo ≤ g) (hr : r ≤ 1048576) (hc : c ≤ 1048576) : Rw2 lo W.heap.size W (.slice (some ⟨g, 0, none⟩) r r) (tableOf r c Z) := by
  have hlt := h.lt
  refine ⟨?_, ?_⟩
  · by_cases h0 : r = 0
    · subst h0
      exact Or.inl ⟨rfl, _, _, rfl⟩
    · refine Or.inr ⟨g, 0, r, by simp [tableOf], hl, by omega, by simp [tableOf]; omega, fun k hk => ?_, fun k _ => h.top.frozen _⟩
      have hk' : k < r := by simpa [tableOf] using hk
      refine ⟨_, by rw [Nat.zero_add]; exact h.top.cell hk', ?_⟩
      simp only [tableOf, List.getElem_map, List.getElem_range]
      by_cases hc : c = 0
      · subst hc
        exact Or.inl ⟨rfl, _, _, rfl⟩
      · refine Or.inr ⟨g + 1 + k, 0, c, by simp, by omega, by omega, by simp; omega, fun i hi => ?_, fun i _ => (h.rows k hk').frozen _⟩
        have hi' : i < c := by simpa using hi
        refine ⟨_, by rw [Nat.zero_add]; exact (h.rows k hk').cell hi', ?_⟩
        simp only [IsI, List.getElem_map, List.getElem_range]
  · refine ⟨flat (fun j => if c = 0 then [] else [(g + 1 + j, 0, c)]) r, ⟨some ⟨g, 0, none⟩, r, r, fun j => .slice (some ⟨g + 1 + j, 0, none⟩) c c, fun j => if c = 0 then [] else [(g + 1 + j, 0, c)], rfl, hr, rfl, fun j hj => ?_, fun _ => ⟨g, 0, rfl, hl, by omega, fun j hj => by rw [Nat.zero_add]; exact h.top.cell hj⟩⟩, nums_flat (fun j hj => ?_), ?_, ?_⟩
    · by_cases hc0 : c = 0
      · subst hc0
        exact Or.inl ⟨by simp, _, _, rfl⟩
      · exact Or.inr ⟨g + 1 + j, 0, c, c, if_neg hc0, by omega, hc, by omega, by omega, rfl⟩
    · intro x hx
      by_cases hc0 : c = 0
      · rw [if_pos hc0] at hx; simp at hx
      · rw [if_neg hc0] at hx
        obtain rfl : x = (g + 1 + j, 0, c) := by simpa using hx
        exact ⟨by show lo ≤ g + 1 + j; omega, by show g + 1 + j < _; omega, fun i hi => ⟨⟨Z j i, by rw [Nat.zero_add]; exact (h.rows j hj).cell hi⟩, (h.rows j hj).frozen _⟩⟩
    · refine (disj_spans (b := fun j => g + 1 + j) (fun j _ => by omega) (fun j _ x hx => ?_) (fun j _ => ?_)).1
      · by_cases hc0 : c = 0
        · rw [if_pos hc0] at hx; simp at hx
        · rw [if_neg hc0] at hx
          obtain rfl : x = (g + 1 + j, 0, c) := by simpa using hx
          exact ⟨Nat.le_refl _, by show g + 1 + j < g + 1 + (j + 1); omega⟩
      · by_cases hc0 : c = 0
        · rw [if_pos hc0]; exact List.Pairwise.nil
        · rw [if_neg hc0]; exact List.pairwise_singleton _ _
    · have := size_spans (J := fun j => if c = 0 then [] else [(g + 1 + j, 0, c)]) (n := r) (B := c) (fun j _ => by
        by_cases hc0 : c = 0
        · simp [hc0, ivSize]
        · simp [hc0, ivSize])
      have h2 : c * r ≤ 1048576 * 1048576 := Nat.mul_le_mul hc hr
      omega
theorem Mat.rw2 {lo : Nat} {w w' : World} {r c : Nat} {Z : Nat → Nat → Int} (h : Mat w w' r c Z) (hl : lo ≤ w.heap.size) (hr : r ≤ 1048576) (hc : c ≤ 1048576) : Rw2 lo w'.heap.size w' (.slice (some ⟨w.heap.size, 0, none⟩) r r) (tableOf r c Z) := h.tb.rw2 hl hr hc

/-- Tables while they are laid into a row of tables at block g: k of them are there. -/
structure Fill3 (wr : World) (g n k : Nat) (f : Nat → Value) (b : Nat → Nat) (ts : List (List (List Int))) : Prop where
  row : wr.rowIs g 22 n f
  lo : g < b 0
  inc : ∀ j, j < k → b j ≤ b (j + 1)
  hi : b k ≤ wr.heap.size
  at' : ∀ j (h : j < ts.length), j < k → Rw2 (b j) (b (j + 1)) wr (f j) ts[j]
theorem Fill3.start {wr : World} {g n : Nat} {f : Nat → Value} (h : wr.rowIs g 22 n f) (hg : g + 1 ≤ wr.heap.size) (ts : List (List (List Int))) : Fill3 wr g n 0 f (fun _ => g + 1) ts :=
  ⟨h, Nat.lt_succ_self _, fun _ h => absurd h (Nat.not_lt_zero _), hg, fun _ _ h => absurd h (Nat.not_lt_zero _)⟩
theorem Fill3.next {wr w' : World} {g n k : Nat} {f : Nat → Value} {b : Nat → Nat} {ts : List (List (List Int))} (h : Fill3 wr g n k f b ts) (hb : Below wr.heap.size wr w') (hm : ∀ j, j < k → b (j + 1) ≤ b k) : Fill3 w' g n k f b ts :=
  ⟨h.row.of_block (hb.block _ h.row.lt), h.lo, h.inc, Nat.le_trans h.hi hb.size, fun j hj hk => (h.at' j hj hk).next hb (Nat.le_trans (hm j hk) h.hi)⟩
theorem inc_le {b : Nat → Nat} {k : Nat} (h : ∀ j, j < k → b j ≤ b (j + 1)) : ∀ j, j ≤ k → b j ≤ b k := by
  intro j hj
  induction k with
  | zero => rw [show j = 0 by omega]; exact Nat.le_refl _
  | succ k ih =>
    by_cases e : j = k + 1
    · rw [e]; exact Nat.le_refl _
    · exact Nat.le_trans (ih (fun i hi => h i (by omega)) (by omega)) (h k (by omega))
theorem Fill3.below {wr w' : World} {g n k : Nat} {f : Nat → Value} {b : Nat → Nat} {ts : List (List (List Int))} (h : Fill3 wr g n k f b ts) (hb : Below wr.heap.size wr w') : Fill3 w' g n k f b ts := h.next hb (fun j hj => inc_le h.inc (j + 1) hj)
theorem Fill3.out {wr : World} {g n k : Nat} {f : Nat → Value} {b : Nat → Nat} {ts : List (List (List Int))} (h : Fill3 wr g n k f b ts) {a : Addr} (ha : a.block < g) (v : Value) : Fill3 (wr.setCell a v) g n k f b ts :=
  ⟨h.row.setOther (by omega) v, h.lo, h.inc, by simpa using h.hi, fun j hj hk => (h.at' j hj hk).same (fun x hx _ => Below.heap_setCell wr a v x (by have := h.lo; have := inc_le (b := b) (k := j) (fun i hi => h.inc i (by omega)) 0 (Nat.zero_le _); omega))⟩
theorem Fill3.step {wr w1 : World} {g n k : Nat} {f : Nat → Value} {b : Nat → Nat} {ts : List (List (List Int))} {u : Value} (h : Fill3 wr g n k f b ts) (hb : Below wr.heap.size wr w1) (hk : k < ts.length) (hu : Rw2 wr.heap.size w1.heap.size w1 u ts[k]) :
    Fill3 (w1.setCell ⟨g, k, none⟩ u) g n (k + 1) (fun j => if j = k then u else f j) (fun j => if j < k then b j else if j = k then wr.heap.size else w1.heap.size) ts := by
  have hlt := h.row.lt
  have hr : w1.rowIs g 22 n f := h.row.of_block (hb.block _ hlt)
  have hsm : ∀ lo hi, g < lo → Same lo hi w1 (w1.setCell ⟨g, k, none⟩ u) := fun lo hi hl => Same.set u (Or.inl hl)
  refine ⟨hr.set k u, ?_, fun j hj => ?_, ?_, fun j hj hjk => ?_⟩
  · by_cases e : 0 < k
    · simp only [if_pos e]; exact h.lo
    · simp only [if_neg e, if_pos (show 0 = k by omega)]; exact hlt
  · by_cases e : j < k
    · simp only [if_pos e]
      by_cases e2 : j + 1 < k
      · simp only [if_pos e2]; exact h.inc j e
      · simp only [if_neg e2, if_pos (show j + 1 = k by omega)]
        have := inc_le h.inc j (by omega)
        have := h.hi
        omega
    · simp only [if_neg e, if_pos (show j = k by omega), if_neg (show ¬ j + 1 < k by omega), if_neg (show ¬ j + 1 = k by omega)]
      exact hb.size
  · simp only [if_neg (show ¬ k + 1 < k by omega), if_neg (show ¬ k + 1 = k by omega)]
    simp
  · by_cases e : j = k
    · subst e
      simp only [if_neg (show ¬ j < j by omega), if_neg (show ¬ j + 1 < j by omega), if_neg (show ¬ j + 1 = j by omega), if_true]
      exact hu.same (hsm _ _ hlt)
    · have hj' : j < k := by omega
      have hh := inc_le h.inc (j + 1) hj'
      have h0 := inc_le (b := b) (k := j) (fun i hi => h.inc i (by omega)) 0 (Nat.zero_le _)
      have hl0 := h.lo
      have ht := ((h.at' j hj hj').next hb (Nat.le_trans hh h.hi)).same (hsm _ _ (by omega))
      simp only [if_neg e, if_pos hj']
      by_cases e2 : j + 1 < k
      · simp only [if_pos e2]; exact ht
      · simp only [if_neg e2, if_pos (show j + 1 = k by omega)]
        exact ht.wider (Nat.le_refl _) (Nat.le_trans hh h.hi)
/-- What a function answers beside a code. -/
structure RsOut {α : Type} (P : α → Prop) (z : α) (c0 : Int) (out : α) (c : Int) : Prop where
  good : c0 = 0 → P out
  bad : c0 ≠ 0 → out = z
  code : c = c0
theorem RsOut.unique {α : Type} {P : α → Prop} {z : α} {c0 : Int} {o1 o2 : α} {c1 c2 : Int} (hu : c0 = 0 → ∀ a b, P a → P b → a = b) (h1 : RsOut P z c0 o1 c1) (h2 : RsOut P z c0 o2 c2) : o1 = o2 ∧ c1 = c2 := by
  refine ⟨?_, h1.code.trans h2.code.symm⟩
  by_cases h0 : c0 = 0
  · exact hu h0 _ _ (h1.good h0) (h2.good h0)
  · rw [h1.bad h0, h2.bad h0]
theorem RsOut.all {α : Type} {P : α → Prop} {z : α} {c0 : Int} {o : α} {c : Int} (h : RsOut P z c0 o c) {Q : α → Prop} (hz : Q z) (hb : c0 = 0 → ∀ a, P a → Q a) : Q o := by
  by_cases h0 : c0 = 0
  · exact hb h0 _ (h.good h0)
  · rw [h.bad h0]
    exact hz
theorem RsOut.of_no {α : Type} {P : α → Prop} {z : α} {c0 : Int} (h : c0 ≠ 0) : RsOut P z c0 z c0 := ⟨fun h0 => absurd h0 h, fun _ => rfl, rfl⟩
theorem RsOut.of_yes {α : Type} {P : α → Prop} {z : α} {c0 : Int} {o : α} (h : c0 = 0) (hp : P o) : RsOut P z c0 o 0 := ⟨fun _ => hp, fun hh => absurd h hh, h.symm⟩
/-- The answer of the program: a result in memory of its own, and a code; and that of the model. -/
def AnsW {α : Type} (R : Nat → Nat → World → Value → α → Prop) (P : α → Prop) (z : α) (c0 : Int) (w : World) (e : Ending) (w' : World) : Prop :=
  ∃ (u : Value) (out : α) (c : Int), e = .returned (.tuple #[u, .int .i64 c]) ∧ R w.heap.size w'.heap.size w' u out ∧ Below w.heap.size w w' ∧ RsOut P z c0 out c
def AnsS {α : Type} (R : World → Value → α → Prop) (P : α → Prop) (z : α) (c0 : Int) (w : World) (e : Ending) (w' : World) : Prop :=
  ∃ (u : Value) (out : α) (c : Int), e = .returned (.tuple #[u, .int .i64 c]) ∧ R w' u out ∧ Below w.heap.size w w' ∧ RsOut P z c0 out c
end Go.Proofs.Ytlopenephgabhaa


namespace Go.Proofs.Ytlopenephgabhaa
open Go.RowKit

/-- Approximate cycles: no numbers at levels above q, and a differential without numbers at levels above q0. -/
structure ZcS (p : Int) (d m : Nat) (t : List (List Int)) (l l0 : List Int) (q q0 : Int) (v : Lin.V) : Prop where
  md : Lin.Md p v
  wd : Lin.Wd d v
  up : ∀ i, i < d → q < l.getD i 0 → v i = 0
  dn : ∀ j, j < m → q0 < l0.getD j 0 → Lin.dot d (Lin.col (fun i => ofL (t.getD i [])) j) v % p = 0

theorem ZcS.zv {p : Int} (hp : 0 < p) (d m : Nat) (t : List (List Int)) (l l0 : List Int) (q q0 : Int) : ZcS p d m t l l0 q q0 Lin.zv :=
  ⟨Lin.zv_md hp, Lin.zv_wd d, fun _ _ _ => rfl, fun j _ _ => by rw [Lin.dot_nil (fun i _ => by simp [Lin.zv])]; rfl⟩
theorem ZcS.add {p : Int} (hp : 0 < p) {d m : Nat} {t : List (List Int)} {l l0 : List Int} {q q0 : Int} {v w : Lin.V} (hv : ZcS p d m t l l0 q q0 v) (c : Int) (hw : ZcS p d m t l l0 q q0 w) : ZcS p d m t l l0 q q0 (Lin.add p v c w) := by
  refine ⟨Lin.add_md hp _ _ _, Lin.add_wd c hv.wd hw.wd, fun i hi h => ?_, fun j hj h => ?_⟩
  · simp [Lin.add, hv.up i hi h, hw.up i hi h]
  · rw [Lin.dot_add]
    have h1 := hv.dn j hj h
    have h2 := hw.dn j hj h
    generalize Lin.dot d (Lin.col (fun i => ofL (t.getD i [])) j) v = a at *
    generalize Lin.dot d (Lin.col (fun i => ofL (t.getD i [])) j) w = b at *
    obtain ⟨x, hx⟩ : ∃ x, a = p * x := Int.dvd_of_emod_eq_zero h1
    obtain ⟨y, hy⟩ : ∃ y, b = p * y := Int.dvd_of_emod_eq_zero h2
    rw [hx, hy, Lin.cg (b := 0) (x + c * y) (by grind)]
    rfl
theorem ZcS.sp {p : Int} (hp : 0 < p) {d m : Nat} {t : List (List Int)} {l l0 : List Int} {q q0 : Int} {O : List Lin.V} (h : ∀ u ∈ O, ZcS p d m t l l0 q q0 u) {v : Lin.V} (hv : Lin.Sp p O v) : ZcS p d m t l l0 q q0 v := by
  induction hv with
  | zero => exact ZcS.zv hp _ _ _ _ _ _ _
  | step c _ hw ih => exact ih.add hp c (h _ hw)

/-! ### The conditions of the program. -/
/-! ### What a test keeps of the places. -/
def kept (P : Nat → Bool) (d : Nat) : List Nat := (List.range d).filter P
/-- Approximate cycles of a degree, by the levels. -/
def ZcD (p : Int) (ds : List Int) (ms : List (List (List Int))) (ls : List (List Int)) (n : Nat) (q q0 : Int) : Lin.V → Prop := ZcS p (dimN ds (n : Int)) (cycM ds n) (cycT ds ms n) (ls.getD n []) (ls.getD (n - 1) []) q q0
end Go.Proofs.Ytlopenephgabhaa

namespace Go.Proofs.Ytlopenephgabhaa
open Go.RowKit

end Go.Proofs.Ytlopenephgabhaa

namespace Go.Proofs.Ytlopenephgabhaa
open Go.RowKit

end Go.Proofs.Ytlopenephgabhaa

namespace Go.Proofs.Ytlopenephgabhaa
open Go.RowKit

end Go.Proofs.Ytlopenephgabhaa

namespace Go.Proofs.Ytlopenephgabhaa
open Go.RowKit

end Go.Proofs.Ytlopenephgabhaa

namespace Go.Proofs.Ytlopenephgabhaa
open Go.RowKit

end Go.Proofs.Ytlopenephgabhaa

namespace Go.Proofs.Ytlopenephgabhaa
open Go.RowKit

end Go.Proofs.Ytlopenephgabhaa

namespace Go.Proofs.Ytlopenephgabhaa
open Go.RowKit

end Go.Proofs.Ytlopenephgabhaa


namespace Go.Proofs.Ytlopenephgabhaa
open Go.RowKit

section
variable {md : Region.Mode} {ops : Array Oper} {Q : Exit → Act → World → Prop} {S : World → Prop}
end
/-- Cycles of levels of at most q together with all boundaries. -/
def LimD (p : Int) (ds : List Int) (ms : List (List (List Int))) (ls : List (List Int)) (k : Nat) (q : Int) (v : Lin.V) : Prop :=
  ∃ Z B, SpF p (dimN ds (k : Int)) (ZcD p ds ms ls k q (-1)) Z ∧ SpF p (dimN ds (k : Int)) (Lin.Sp p ((tabN ms k).map ofL)) B ∧ Lin.Sp p (Z ++ B) v
def LDim (p : Int) (ds : List Int) (ms : List (List (List Int))) (ls : List (List Int)) (k : Nat) (q x : Int) : Prop := ∃ E, SpF p (dimN ds (k : Int)) (LimD p ds ms ls k q) E ∧ x = (E.length : Int)
theorem SpF.unique' {p : Int} {n : Nat} {S : Lin.V → Prop} {R R' : List Lin.V} (hp : 1 < p) (h : SpF p n S R) (k : SpF p n S R') : R = R' := Lin.Red.unique hp h.1 k.1 (fun v => (h.2.2 v).trans (k.2.2 v).symm)
theorem LDim.unique {p : Int} {ds : List Int} {ms : List (List (List Int))} {ls : List (List Int)} {k : Nat} {q x y : Int} (hp : 1 < p) (h : LDim p ds ms ls k q x) (h' : LDim p ds ms ls k q y) : x = y := by
  obtain ⟨A, a, rfl⟩ := h
  obtain ⟨B, b, rfl⟩ := h'
  rw [a.unique' hp b]
theorem LDim.bd {p : Int} {ds : List Int} {ms : List (List (List Int))} {ls : List (List Int)} {k : Nat} {q x : Int} (hcx : IsCx p ds ms) (h : LDim p ds ms ls k q x) : 0 ≤ x ∧ x ≤ 8 := by
  obtain ⟨A, a, rfl⟩ := h
  have := a.short
  have := (dimN_le8 hcx k).1
  omega
/-- The limit number. -/
def LimNum (p : Int) (ds : List Int) (ms : List (List (List Int))) (ls : List (List Int)) (k : Nat) (q x : Int) : Prop := ∃ a b, LDim p ds ms ls k q a ∧ LDim p ds ms ls k (q - 1) b ∧ x = a - b
theorem LimNum.unique {p : Int} {ds : List Int} {ms : List (List (List Int))} {ls : List (List Int)} {k : Nat} {q x y : Int} (hp : 1 < p) (h : LimNum p ds ms ls k q x) (h' : LimNum p ds ms ls k q y) : x = y := by
  obtain ⟨a, b, ha, hb, rfl⟩ := h
  obtain ⟨c, d, hc, hd, rfl⟩ := h'
  rw [ha.unique hp hc, hb.unique hp hd]
/-- A number and a code. -/
structure NOut (P : Int → Prop) (c0 x c : Int) : Prop where
  code : c = c0
  bad : c0 ≠ 0 → x = 0
  good : c0 = 0 → P x
theorem NOut.unique {P : Int → Prop} {c0 x c y d : Int} (hu : c0 = 0 → ∀ a b, P a → P b → a = b) (h : NOut P c0 x c) (k : NOut P c0 y d) : x = y ∧ c = d := by
  refine ⟨?_, h.code.trans k.code.symm⟩
  by_cases h0 : c0 = 0
  · exact hu h0 _ _ (h.good h0) (k.good h0)
  · rw [h.bad h0, k.bad h0]
theorem NOut.of_no {P : Int → Prop} {c : Int} (h : c ≠ 0) : NOut P c 0 c := ⟨rfl, fun _ => rfl, fun h0 => absurd h0 h⟩
end Go.Proofs.Ytlopenephgabhaa


namespace Go.Proofs.Ytlopenephgabhaa
open Go.RowKit

/-- Approximate cycles of the degree above, none beyond the degrees. -/
def UpP (p : Int) (ds : List Int) (ms : List (List (List Int))) (ls : List (List Int)) (k : Nat) (q q0 : Int) (R : List Lin.V) : Prop := (k < ds.length → SpF p (dimN ds (k : Int)) (ZcD p ds ms ls k q q0) R) ∧ (¬ k < ds.length → R = [])
theorem UpP.unique {p : Int} {ds : List Int} {ms : List (List (List Int))} {ls : List (List Int)} {k : Nat} {q q0 : Int} {R R' : List Lin.V} (hp : 1 < p) (h : UpP p ds ms ls k q q0 R) (h' : UpP p ds ms ls k q q0 R') : R = R' := by
  by_cases hk : k < ds.length
  · exact (h.1 hk).unique' hp (h'.1 hk)
  · rw [h.2 hk, h'.2 hk]
theorem UpP.short {p : Int} {ds : List Int} {ms : List (List (List Int))} {ls : List (List Int)} (hcx : IsCx p ds ms) {k : Nat} {q q0 : Int} {R : List Lin.V} (h : UpP p ds ms ls k q q0 R) : R.length ≤ 8 := by
  by_cases hk : k < ds.length
  · have := (h.1 hk).short
    have := (dimN_le8 hcx k).1
    omega
  · rw [h.2 hk]; simp
end Go.Proofs.Ytlopenephgabhaa


namespace Go.Proofs.Ytlopenephgabhaa
open Go.RowKit

section
variable {md : Region.Mode} {ops : Array Oper} {Q : Exit → Act → World → Prop} {S : World → Prop}
end

/-- Gathered rows of a table behind one another. -/
structure CatA (base : Nat) (w : World) (v : Value) (tb : List (List Int)) (xs : List Value) : Prop where
  own : w.ownsRow base 35 1 v tb.length xs
  len : xs.length = tb.length
  rows : ∀ k (h1 : k < xs.length) (h2 : k < tb.length), G1 w xs[k] tb[k]
theorem CatA.below {base : Nat} {w w' : World} {v : Value} {tb : List (List Int)} {xs : List Value} (h : CatA base w v tb xs) (hb : Below w.heap.size w w') : CatA base w' v tb xs := ⟨owns_below h.own hb, h.len, fun k h1 h2 => (h.rows k h1 h2).below hb⟩
theorem CatA.gs {base : Nat} {w : World} {v : Value} {tb : List (List Int)} {xs : List Value} (h : CatA base w v tb xs) : Gs base w v tb := ⟨xs, h.own, h.rows⟩
theorem CatA.start (w : World) (base : Nat) (hb : base ≤ w.heap.size) : CatA base (w.alloc (.cells #[] 35)) (.slice (some ⟨w.heap.size, 0, none⟩) 0 0) [] [] :=
  ⟨by simpa using World.ownsRow_made (base := base) (e := 35) (size := 1) w #[] 0 hb (by unfold maxLen; omega) (by simp), rfl, fun k h1 _ => absurd h1 (Nat.not_lt_zero _)⟩
/-- behind the append of a gathered table. -/
theorem CatA.add {base : Nat} {w w' : World} {v v' : Value} {ta tb : List (List Int)} {xs ys : List Value} (h : CatA base w v ta xs) (hb : ∀ k (h1 : k < ys.length) (h2 : k < tb.length), G1 w ys[k] tb[k]) (hl : ys.length = tb.length)
    (ho : w'.ownsRow base 35 1 v' (ta.length + tb.length) (xs ++ ys)) (hg : w.grownBy w' v.ownBlock) : CatA base w' v' (ta ++ tb) (xs ++ ys) := by
  have h1 := h.len
  refine ⟨by rw [List.length_append]; exact ho, by simp; omega, fun k hk hk2 => ?_⟩
  by_cases e : k < xs.length
  · rw [List.getElem_append_left e, List.getElem_append_left (by omega)]
    exact owns_grown (h.rows k e (by omega)) h.own (by decide) hg
  · rw [List.getElem_append_right (by omega), List.getElem_append_right (by omega)]
    have h3 : k - xs.length < ys.length := by rw [List.length_append] at hk; omega
    have : G1 w' ys[k - xs.length] (tb[k - xs.length]'(by omega)) := owns_grown (hb (k - xs.length) h3 (by omega)) h.own (by decide) hg
    simpa [h1] using this
end Go.Proofs.Ytlopenephgabhaa


namespace Go.Proofs.Ytlopenephgabhaa
open Go.RowKit

theorem Fill3.parts {wr : World} {g n : Nat} {f : Nat → Value} {b : Nat → Nat} {ts : List (List (List Int))} (h : Fill3 wr g n n f b ts) (hn : n = ts.length) (hs : n ≤ 1048576) : W3 g wr.heap.size wr (.slice (some ⟨g, 0, none⟩) n n) ts ∧ ∃ J, S3 g wr.heap.size wr (.slice (some ⟨g, 0, none⟩) n n) J ∧ Nums (b 0) wr.heap.size wr J ∧ Disj J ∧ ivSize J ≤ 1152921504606846976 := by
  have hlt := h.row.lt
  have h1 : ∀ j, j < n → Rw2 g wr.heap.size wr (f j) (ts.getD j []) := fun j hj => by
    rw [getD_of_lt _ (by omega)]
    have a1 := inc_le h.inc (j + 1) hj
    have a2 := inc_le (b := b) (k := j) (fun i hi => h.inc i (by omega)) 0 (Nat.zero_le _)
    have a3 := h.lo
    exact (h.at' j (by omega) hj).wider (by omega) (Nat.le_trans a1 h.hi)
  refine ⟨?_, ?_⟩
  · by_cases h0 : n = 0
    · exact Or.inl ⟨List.eq_nil_of_length_eq_zero (by omega), _, _, by rw [h0]⟩
    · refine Or.inr ⟨g, 0, n, by rw [hn], Nat.le_refl _, hlt, by omega, fun k hk => ?_, fun k _ => h.row.frozen _⟩
      refine ⟨f k, by rw [Nat.zero_add]; exact h.row.cell (by omega), ?_⟩
      have := (h1 k (by omega)).1
      rwa [getD_of_lt _ hk] at this
  · have hex : ∀ j, j < n → ∃ I, S2 (b j) (b (j + 1)) wr (f j) I ∧ Nums (b j) (b (j + 1)) wr I ∧ Disj I ∧ ivSize I ≤ 1099511627776 := fun j hj => (h.at' j (by omega) hj).2
    obtain ⟨J, hJ⟩ := choose2 hex
    have hw : ∀ j, j < n → g ≤ b j ∧ b (j + 1) ≤ wr.heap.size := fun j hj => by
      have a1 := inc_le h.inc (j + 1) hj
      have a2 := inc_le (b := b) (k := j) (fun i hi => h.inc i (by omega)) 0 (Nat.zero_le _)
      have a3 := h.lo
      have a4 := h.hi
      omega
    refine ⟨flat J n, ⟨some ⟨g, 0, none⟩, n, n, f, J, rfl, hs, rfl, fun j hj => (hJ j hj).1.wider (hw j hj).1 (hw j hj).2, fun _ => ⟨g, 0, rfl, Nat.le_refl _, hlt, fun j hj => by rw [Nat.zero_add]; exact h.row.cell hj⟩⟩, nums_flat (fun j hj => (hJ j hj).2.1.wider (inc_le (b := b) (k := j) (fun i hi => h.inc i (by omega)) 0 (Nat.zero_le _)) (hw j hj).2), (disj_spans h.inc (fun j hj x hx => ⟨((hJ j hj).2.1 x hx).1, ((hJ j hj).2.1 x hx).2.1⟩) (fun j hj => (hJ j hj).2.2.1)).1, ?_⟩
    have h2 := size_spans (J := J) (n := n) (B := 1099511627776) (fun j hj => (hJ j hj).2.2.2)
    have h3 : 1099511627776 * n ≤ 1099511627776 * 1048576 := Nat.mul_le_mul (Nat.le_refl _) hs
    omega


/-- A complex that a function answers: numbers in blocks from lo up to hi, apart from each other. -/
def RcW (lo hi : Nat) (W : World) (dv mv : Value) (ds : List Int) (ms : List (List (List Int))) : Prop :=
  CxW lo hi W dv mv ds ms ∧ ∃ I J, S1 lo hi W dv I ∧ S3 lo hi W mv J ∧ Nums lo hi W I ∧ Nums lo hi W J ∧ Disj J ∧ (∀ x ∈ I, ∀ y ∈ J, Apart x y) ∧ ivSize I ≤ 1048576 ∧ ivSize J ≤ 1152921504606846976
theorem RcW.same {lo hi : Nat} {W W' : World} {dv mv : Value} {ds : List Int} {ms : List (List (List Int))} (h : RcW lo hi W dv mv ds ms) (s : Same lo hi W W') : RcW lo hi W' dv mv ds ms := by
  obtain ⟨h0, I, J, h1, h2, h3, h4, h5⟩ := h
  exact ⟨h0.same s, I, J, h1, h2.same s, h3.same s, h4.same s, h5⟩
theorem RcW.cx {lo hi : Nat} {W : World} {dv mv : Value} {ds : List Int} {ms : List (List (List Int))} (h : RcW lo hi W dv mv ds ms) : Cx 0 W dv mv ds ms := h.1.cx.lower (Nat.zero_le _)
theorem RcW.wider {lo hi lo' hi' : Nat} {W : World} {dv mv : Value} {ds : List Int} {ms : List (List (List Int))} (h : RcW lo hi W dv mv ds ms) (h1 : lo' ≤ lo) (h2 : hi ≤ hi') : RcW lo' hi' W dv mv ds ms := by
  obtain ⟨h0, I, J, a, b, c, d, e⟩ := h
  exact ⟨⟨h0.dims.wider h1 h2, h0.maps.wider h1 h2⟩, I, J, a.wider h1 h2, b.wider h1 h2, c.wider h1 h2, d.wider h1 h2, e⟩
theorem RcW.nil (lo hi : Nat) (W : World) : RcW lo hi W (.slice none 0 0) (.slice none 0 0) [] [] :=
  ⟨⟨Or.inl ⟨rfl, _, _, rfl⟩, Or.inl ⟨rfl, _, _, rfl⟩⟩, [], [], Or.inl ⟨rfl, _, _, rfl⟩, ⟨none, 0, 0, fun _ => .slice none 0 0, fun _ => [], rfl, by omega, rfl, fun _ h => absurd h (Nat.not_lt_zero _), fun h => absurd h (Nat.lt_irrefl _)⟩, fun _ h => absurd h (by simp), fun _ h => absurd h (by simp), List.Pairwise.nil, fun _ h => absurd h (by simp), by simp [ivSize], by simp [ivSize]⟩
/-- Prime, dimensions and tables of a complex. -/
abbrev Co := Int × List Int × List (List (List Int))
def RwC (lo hi : Nat) (W : World) (u : Value) (o : Co) : Prop := ∃ ad cd am cm, u = .agg #[.int .i64 o.1, .slice ad o.2.1.length cd, .slice am o.2.2.length cm] ∧ RcW lo hi W (.slice ad o.2.1.length cd) (.slice am o.2.2.length cm) o.2.1 o.2.2
def RsC (W : World) (u : Value) (o : Co) : Prop := ∃ ad cd am cm, u = .agg #[.int .i64 o.1, .slice ad o.2.1.length cd, .slice am o.2.2.length cm] ∧ Cx 0 W (.slice ad o.2.1.length cd) (.slice am o.2.2.length cm) o.2.1 o.2.2
theorem RwC.nil (lo hi : Nat) (W : World) : RwC lo hi W (.agg #[.int .i64 0, .slice none 0 0, .slice none 0 0]) (0, [], []) := ⟨none, 0, none, 0, rfl, RcW.nil _ _ _⟩
theorem RsC.nil (W : World) : RsC W (.agg #[.int .i64 0, .slice none 0 0, .slice none 0 0]) (0, [], []) := ⟨none, 0, none, 0, rfl, ⟨Or.inl ⟨rfl, _, _, rfl⟩, Or.inl ⟨rfl, _, _, rfl⟩⟩⟩
/-- What a law asks of a complex that it compares. -/
def CoB (o : Co) : Prop := o.2.1.length ≤ 1048576 ∧ Bd3 1048576 o.2.2

/-- The same with the marks from 1 on in it. -/
def HcW (lo hi : Nat) (W : World) (dv mv : Value) (m : Int) : Prop :=
  ∃ I J, S1 lo hi W dv I ∧ S3 lo hi W mv J ∧ Marked W I 1 ∧ Marked W J (1 + (ivSize I : Int)) ∧ (∀ x ∈ I, lo ≤ x.1 ∧ x.1 < hi) ∧ (∀ x ∈ J, lo ≤ x.1 ∧ x.1 < hi) ∧ m = 1 + (ivSize I : Int) + (ivSize J : Int) ∧ ivSize I ≤ 1048576 ∧ ivSize J ≤ 1152921504606846976
theorem HcW.same {lo hi : Nat} {W W' : World} {dv mv : Value} {m : Int} (h : HcW lo hi W dv mv m) (s : Same lo hi W W') : HcW lo hi W' dv mv m := by
  obtain ⟨I, J, h1, h2, h3, h4, h5, h6, h7⟩ := h
  exact ⟨I, J, h1, h2.same s, h3.same h5 s, h4.same h6 s, h5, h6, h7⟩
/-- What the mark of a result leaves. -/
def MkRC (lo hi : Nat) (dv mv : Value) (w : World) (e : Ending) (w' : World) : Prop := ∃ (m : Int) (w1 : World), e = .returned (.int .i64 m) ∧ 1 ≤ m ∧ m ≤ 4611686018427387904 ∧ Below w.heap.size w w1 ∧ Only lo hi w1 w' ∧ HcW lo hi w' dv mv m

set_option maxHeartbeats 800000 in
theorem markRC_any {lo hi : Nat} (p : Int) (dv mv : Value) (ds : List Int) (ms : List (List (List Int))) (w : World) (h : RcW lo hi w dv mv ds ms) (hh : hi ≤ w.heap.size) :
    Calls Try.prog 22 #[.agg #[.int .i64 p, dv, mv], .int .i64 1] w (MkRC lo hi dv mv w) := by
  obtain ⟨_, I, J, h1, h2, h3, h4, h5, h6, h7, h8⟩ := h
  have hb0 : Below w.heap.size w (w.alloc (.cells #[.int .i64 p, dv, mv] 38)) := (Below.refl _ _).alloc (Nat.le_refl _) _
  have s : Same lo hi w (w.alloc (.cells #[.int .i64 p, dv, mv] 38)) := Same.of_below hb0 hh
  have HB0 := Lib.hid hb0
  have H1 := Lib.hid (show S1 lo hi (w.alloc (.cells #[.int .i64 p, dv, mv] 38)) dv I from h1)
  have H2 := Lib.hid (h2.same s)
  have H3 := Lib.hid (h3.same s)
  have H4 := Lib.hid (h4.same s)
  clear h1 h2 h3 h4 s hb0
  go_enter Try.func22, Try.ntmps22
  go_wp2_with fail
  refine (mark1s_any dv I 1 _ H1.out H3.out (by omega) (by omega)).mono ?_
  rintro e w1 ⟨rfl, ho, ht, hc, hm⟩
  have c2 : w1.cell? ⟨w.heap.size, 2, none⟩ = some mv := (ho.cell (Or.inr hh)).trans (by simp)
  have HO := Lib.hid (And.intro ho (And.intro ht hm))
  clear ho ht hc hm
  go_wp2_with fail
  refine (mark3s_any mv J (1 + (ivSize I : Int)) _ (H2.out.tame HO.out.2.1) (H4.out.tame HO.out.2.1) h5 (by omega) (by omega)).mono ?_
  rintro e w2 ⟨rfl, ho, ht, hc, hm⟩
  have HO2 := Lib.hid (And.intro (HO.out.1.trans ho) (And.intro ((H2.out.tame HO.out.2.1).tame ht) (And.intro (HO.out.2.2.keep hc h6) hm)))
  clear ho ht hc hm
  go_wp2
  go_ret
  exact ⟨_, _, rfl, by omega, by omega, HB0.out, HO2.out.1, I, J, H1.out, HO2.out.2.1, HO2.out.2.2.1, HO2.out.2.2.2, fun x hx => ⟨(H3.out x hx).1, (H3.out x hx).2.1⟩, fun x hx => ⟨(H4.out x hx).1, (H4.out x hx).2.1⟩, rfl, h7, h8⟩
set_option maxHeartbeats 800000 in
theorem heldRC_any {lo hi : Nat} (p : Int) (dv mv : Value) (m : Int) (w : World) (h : HcW lo hi w dv mv m) (hh : hi ≤ w.heap.size) :
    Calls Try.prog 23 #[.agg #[.int .i64 p, dv, mv], .int .i64 1] w (BR (.int .i64 m) w) := by
  obtain ⟨I, J, h1, h2, h3, h4, h5, h6, rfl, h7, h8⟩ := h
  have hb0 : Below w.heap.size w (w.alloc (.cells #[.int .i64 p, dv, mv] 38)) := (Below.refl _ _).alloc (Nat.le_refl _) _
  have s : Same lo hi w (w.alloc (.cells #[.int .i64 p, dv, mv] 38)) := Same.of_below hb0 hh
  have HB0 := Lib.hid hb0
  have H1 := Lib.hid (show S1 lo hi (w.alloc (.cells #[.int .i64 p, dv, mv] 38)) dv I from h1)
  have H2 := Lib.hid (h2.same s)
  have H3 := Lib.hid (h3.same h5 s)
  have H4 := Lib.hid (h4.same h6 s)
  have hn1 : ¬ (1 + (ivSize I : Int)) < 0 := by omega
  have hn2 : ¬ (1 + (ivSize I : Int) + (ivSize J : Int)) < 0 := by omega
  clear h1 h2 h3 h4 s hb0 h5 h6
  go_enter Try.func23, Try.ntmps23
  go_wp2_with fail
  refine (held1s_any dv I 1 _ H1.out H3.out (by omega) (by omega)).mono ?_
  rintro e w1 ⟨rfl, rfl⟩
  go_wp2_with fail
  refine (held3s_any mv J (1 + (ivSize I : Int)) _ H2.out H4.out (by omega) (by omega)).mono ?_
  rintro e w2 ⟨rfl, rfl⟩
  go_wp2
  go_ret
  exact ⟨rfl, HB0.out⟩

/-- The box of a complex, its three cells alone. -/
structure Bc (wr : World) (b : Nat) (p : Int) (dv mv : Value) : Prop where
  c0 : wr.cell? ⟨b, 0, none⟩ = some (.int .i64 p)
  c1 : wr.cell? ⟨b, 1, none⟩ = some dv
  c2 : wr.cell? ⟨b, 2, none⟩ = some mv
  lt : b < wr.heap.size
theorem Bc.start (w : World) (p : Int) (dv mv : Value) (t : TypeId) : Bc (w.alloc (.cells #[.int .i64 p, dv, mv] t)) w.heap.size p dv mv := ⟨by simp, by simp, by simp, by simp⟩
theorem Bc.next {wr w' : World} {b : Nat} {p : Int} {dv mv : Value} (h : Bc wr b p dv mv) (hb : Below wr.heap.size wr w') : Bc w' b p dv mv :=
  ⟨later hb (Nat.le_refl _) h.c0, later hb (Nat.le_refl _) h.c1, later hb (Nat.le_refl _) h.c2, Nat.lt_of_lt_of_le h.lt hb.size⟩
theorem Bc.only {wr w' : World} {b lo hi : Nat} {p : Int} {dv mv : Value} (h : Bc wr b p dv mv) (ho : Only lo hi wr w') (hb : b < lo ∨ hi ≤ b) : Bc w' b p dv mv :=
  ⟨(ho.cell hb).trans h.c0, (ho.cell hb).trans h.c1, (ho.cell hb).trans h.c2, by have := ho.size; have := h.lt; omega⟩

/-- A row of numbers in a block of its own. -/
theorem row_rc {W : World} {g n lo : Nat} {f : Nat → Value} {xs : List Int} (h : W.rowIs g 2 n f) (hl : xs.length = n) (hf : ∀ i (h : i < xs.length), f i = .int .i64 xs[i]) (hn : n ≤ 1048576) (hb : lo ≤ g) :
    W1 lo W.heap.size W (.slice (some ⟨g, 0, none⟩) n n) xs ∧ ∃ I, S1 lo W.heap.size W (.slice (some ⟨g, 0, none⟩) n n) I ∧ Nums lo W.heap.size W I ∧ (∀ x ∈ I, x.1 = g) ∧ ivSize I ≤ 1048576 := by
  have hlt := h.lt
  by_cases h0 : n = 0
  · subst h0
    exact ⟨Or.inl ⟨List.eq_nil_of_length_eq_zero hl, _, _, rfl⟩, [], Or.inl ⟨rfl, _, _, rfl⟩, fun _ hx => absurd hx (by simp), fun _ hx => absurd hx (by simp), by simp [ivSize]⟩
  · refine ⟨Or.inr ⟨g, 0, n, by rw [hl], hb, hlt, by omega, fun k hk => ⟨f k, by rw [Nat.zero_add]; exact h.cell (by omega), hf k hk⟩, fun k _ => h.frozen _⟩, [(g, 0, n)], Or.inr ⟨g, 0, n, n, rfl, by omega, hn, hb, hlt, rfl⟩, fun x hx => ?_, fun x hx => ?_, by simpa [ivSize] using hn⟩
    · obtain rfl : x = (g, 0, n) := by simpa using hx
      exact ⟨hb, hlt, fun i hi => ⟨⟨xs[i]'(by rw [hl]; exact hi), by rw [Nat.zero_add, ← hf i (by rw [hl]; exact hi)]; exact h.cell hi⟩, h.frozen _⟩⟩
    · obtain rfl : x = (g, 0, n) := by simpa using hx
      rfl
end Go.Proofs.Ytlopenephgabhaa


namespace Go.Proofs.Ytlopenephgabhaa
open Go.RowKit

/-- The three cells of a box of a complex. -/
def box3 (p : Int) (a b : Value) : Nat → Value := fun i => if i = 0 then .int .i64 p else if i = 1 then a else b
/-- The dual while it is being made: its box, its list of dimensions, its list of tables, each in a block of its own. -/
structure Du (w wx : World) (g bd bm n m : Nat) (p : Int) (D M : Nat → Value) : Prop where
  below : Below w.heap.size w wx
  lo : w.heap.size ≤ g ∧ w.heap.size ≤ bd ∧ w.heap.size ≤ bm
  ne : g ≠ bd ∧ g ≠ bm ∧ bd ≠ bm
  box : wx.rowIs g 38 3 (box3 p (.slice (some ⟨bd, 0, none⟩) n n) (.slice (some ⟨bm, 0, none⟩) m m))
  dims : wx.rowIs bd 2 n D
  maps : wx.rowIs bm 22 m M
theorem Du.setD {w wx : World} {g bd bm n m : Nat} {p : Int} {D M : Nat → Value} (h : Du w wx g bd bm n m p D M) (k : Nat) (v : Value) : Du w (wx.setCell ⟨bd, k, none⟩ v) g bd bm n m p (fun j => if j = k then v else D j) M :=
  ⟨h.below.setCell h.lo.2.1 _, h.lo, h.ne, h.box.setOther h.ne.1 _, h.dims.set k v, h.maps.setOther (Ne.symm h.ne.2.2) _⟩
theorem Du.drew {w wx : World} {g bd bm n m : Nat} {p : Int} {D M : Nat → Value} (h : Du w wx g bd bm n m p D M) : Du w wx.drew g bd bm n m p D M := ⟨h.below.drew, h.lo, h.ne, h.box.drew, h.dims.drew, h.maps.drew⟩
theorem Du.next {w wx w' : World} {g bd bm n m : Nat} {p : Int} {D M : Nat → Value} (h : Du w wx g bd bm n m p D M) (hb : Below wx.heap.size wx w') : Du w w' g bd bm n m p D M :=
  ⟨h.below.trans (hb.mono h.below.size), h.lo, h.ne, h.box.of_block (hb.block _ h.box.lt), h.dims.of_block (hb.block _ h.dims.lt), h.maps.of_block (hb.block _ h.maps.lt)⟩
theorem Du.congr {w wx : World} {g bd bm n m : Nat} {p : Int} {D D' M : Nat → Value} (h : Du w wx g bd bm n m p D M) (e : ∀ j, j < n → D j = D' j) : Du w wx g bd bm n m p D' M := ⟨h.below, h.lo, h.ne, h.box, h.dims.congr e, h.maps⟩
/-- The list of dimensions, k of them laid. -/
def duD (ds : List Int) (k : Nat) : Nat → Value := fun j => .int .i64 (if j < k then ds.getD (ds.length - 1 - j) 0 else 0)
/-- A table at the block b: its row of rows there, row j at b + 1 + j. -/
structure TabAt (w : World) (b r c : Nat) (Z : Nat → Nat → Int) : Prop where
  top : w.rowIs b 35 r (fun j => .slice (some ⟨b + 1 + j, 0, none⟩) c c)
  rows : ∀ j, j < r → w.rowIs (b + 1 + j) 2 c (fun i => .int .i64 (Z j i))
theorem Mat.at {w w' : World} {r c : Nat} {Z : Nat → Nat → Int} (h : Mat w w' r c Z) : TabAt w' w.heap.size r c Z := ⟨h.top, h.rows⟩
theorem TabAt.below {w w' : World} {b r c : Nat} {Z : Nat → Nat → Int} (h : TabAt w b r c Z) (hb : Below w.heap.size w w') : TabAt w' b r c Z :=
  ⟨h.top.of_block (hb.block _ h.top.lt), fun j hj => (h.rows j hj).of_block (hb.block _ (h.rows j hj).lt)⟩
theorem TabAt.set {w : World} {b r c : Nat} {Z : Nat → Nat → Int} (h : TabAt w b r c Z) {a : Addr} (ha : a.block < b) (v : Value) : TabAt (w.setCell a v) b r c Z :=
  ⟨h.top.setOther (by omega) v, fun j hj => (h.rows j hj).setOther (by omega) v⟩
/-- The tables of the dual, k of them laid, one behind the other. -/
structure Ts (lo : Nat) (w : World) (bs r c : Nat → Nat) (Z : Nat → Nat → Nat → Int) (k : Nat) : Prop where
  at' : ∀ j, j < k → TabAt w (bs j) (r j) (c j) (Z j)
  lo' : ∀ j, j < k → lo ≤ bs j
  hi : ∀ j, j < k → bs j + 1 + r j ≤ w.heap.size
  inc : ∀ i j, i < j → j < k → bs i + 1 + r i ≤ bs j
def duR (ds : List Int) (m : Nat) (j : Nat) : Nat := (ds.getD (m - 1 - j) 0).toNat
def duC (ms : List (List (List Int))) (j : Nat) : Nat := (ms.getD (ms.length - 1 - j) []).length
def duZ (ms : List (List (List Int))) (j a b : Nat) : Int := ((ms.getD (ms.length - 1 - j) []).getD b []).getD a 0
def duM (bs r : Nat → Nat) (k : Nat) : Nat → Value := fun j => if j < k then .slice (some ⟨bs j, 0, none⟩) (r j) (r j) else .slice none 0 0
theorem Ts.step {lo k : Nat} {w w1 : World} {bs r c : Nat → Nat} {Z : Nat → Nat → Nat → Int} (h : Ts lo w bs r c Z k) (hm : Mat w w1 (r k) (c k) (Z k)) (hlo : lo ≤ w.heap.size) {a : Addr} (ha : a.block < lo) (v : Value) :
    Ts lo (w1.setCell a v) (fun j => if j = k then w.heap.size else bs j) r c Z (k + 1) := by
  refine ⟨fun j hj => ?_, fun j hj => ?_, fun j hj => ?_, fun i j hi hj => ?_⟩
  · by_cases e : j = k
    · subst e
      simp only [if_true]
      exact hm.at.set (by omega) v
    · simp only [if_neg e]
      have hj' : j < k := by omega
      have := h.lo' j hj'
      exact ((h.at' j hj').below hm.below).set (by omega) v
  · by_cases e : j = k
    · simp only [if_pos e]; exact hlo
    · simp only [if_neg e]; exact h.lo' j (by omega)
  · by_cases e : j = k
    · subst e
      simp [hm.size]
    · simp only [if_neg e]
      have := h.hi j (by omega)
      have := hm.below.size
      simp
      omega
  · by_cases e : j = k
    · subst e
      rw [if_neg (by omega), if_pos rfl]
      exact h.hi i hi
    · rw [if_neg (by omega), if_neg e]
      exact h.inc i j hi (by omega)
theorem Ts.drew {lo k : Nat} {w : World} {bs r c : Nat → Nat} {Z : Nat → Nat → Nat → Int} (h : Ts lo w bs r c Z k) : Ts lo w.drew bs r c Z k :=
  ⟨fun j hj => ⟨(h.at' j hj).top.drew, fun i hi => ((h.at' j hj).rows i hi).drew⟩, h.lo', h.hi, h.inc⟩
end Go.Proofs.Ytlopenephgabhaa


namespace Go.Proofs.Ytlopenephgabhaa
open Go.RowKit

theorem far {w : World} {b o b2 o2 : Nat} {u v : Value} (h : b ≠ b2) (hc : w.cell? ⟨b2, o2, none⟩ = some u) : (w.setCell ⟨b, o, none⟩ v).cell? ⟨b2, o2, none⟩ = some u := (World.cell?_setCell_far w _ _ v h).trans hc
/-- Three cells of a block. -/
def sel3 (x y z : Value) : Nat → Value := fun i => if i = 0 then x else if i = 1 then y else z
theorem rowIs3 {w : World} {b : Nat} {x y z : Value} {t : TypeId} (h : w.heap[b]? = some (.cells #[x, y, z] t)) : w.rowIs b t 3 (sel3 x y z) :=
  ⟨#[x, y, z], h, rfl, fun i hi => by
    match i, hi with
    | 0, _ => rfl
    | 1, _ => rfl
    | 2, _ => rfl⟩
theorem Ts.set {lo k : Nat} {w : World} {bs r c : Nat → Nat} {Z : Nat → Nat → Nat → Int} (h : Ts lo w bs r c Z k) {a : Addr} (ha : a.block < lo) (v : Value) : Ts lo (w.setCell a v) bs r c Z k :=
  ⟨fun j hj => (h.at' j hj).set (by have := h.lo' j hj; omega) v, h.lo', fun j hj => by have := h.hi j hj; simpa using this, h.inc⟩

/-- The dual as it lies behind the call: its dimensions, its tables' heads, its tables. -/
structure DuAt (w w' : World) (ds : List Int) (ms : List (List (List Int))) (bd bm : Nat) : Prop where
  below : Below w.heap.size w w'
  lo : w.heap.size ≤ bd ∧ w.heap.size ≤ bm ∧ bd ≠ bm
  dims : w'.rowIs bd 2 ds.length (duD ds ds.length)
  tabs : ∃ (lo : Nat) (bs : Nat → Nat), bd < lo ∧ bm < lo ∧ w'.rowIs bm 22 ms.length (duM bs (duR ds ms.length) ms.length) ∧ Ts lo w' bs (duR ds ms.length) (duC ms) (duZ ms) ms.length
theorem DuAt.set {w w' : World} {ds : List Int} {ms : List (List (List Int))} {bd bm : Nat} (h : DuAt w w' ds ms bd bm) {a : Addr} (h0 : w.heap.size ≤ a.block) (h1 : a.block < bd) (h2 : a.block < bm) (v : Value) : DuAt w (w'.setCell a v) ds ms bd bm := by
  obtain ⟨lo, bs, a1, a2, a3, a4⟩ := h.tabs
  exact ⟨h.below.setCell h0 _, h.lo, h.dims.setOther (by omega) _, lo, bs, a1, a2, a3.setOther (by omega) _, a4.set (by omega) _⟩

end Go.Proofs.Ytlopenephgabhaa


namespace Go.Proofs.Ytlopenephgabhaa
open Go.RowKit

section
variable {w w' : World} {base size n k : Nat} {e t : TypeId} {u v : Value} {xs : List Value} {g : Nat} {f : Nat → Value}
theorem own_ne_row (ho : w.ownsRow base e size v n xs) (hr : w.rowIs g t k f) (h : t ≠ e) : some g ≠ v.ownBlock := by
  intro e2
  obtain ⟨c, hc, _⟩ := hr
  rcases ho.2 with ⟨rfl, _⟩ | ⟨g2, cap2, cur2, rfl, _, hh2, _⟩
  · simp [Value.ownBlock] at e2
  · simp [Value.ownBlock] at e2
    subst e2
    rw [hc] at hh2
    simp at hh2
    exact h hh2.2
theorem row_grown (hr : w.rowIs g t k f) (ho : w.ownsRow base e size v n xs) (h : t ≠ e) (hg : w.grownBy w' v.ownBlock) : w'.rowIs g t k f := hr.of_block (hg.block g hr.lt (own_ne_row ho hr h))
theorem owns_off (ho : w.ownsRow base e size u n xs) (hr : w.rowIs g t k f) (h : t ≠ e) (i : Nat) (x : Value) : (w.setCell ⟨g, i, none⟩ x).ownsRow base e size u n xs := by
  obtain ⟨c, hc, _⟩ := hr
  refine ⟨ho.1, ?_⟩
  rcases ho.2 with h2 | ⟨g2, cap, cur, hu, hb, hh, r⟩
  · exact Or.inl h2
  · refine Or.inr ⟨g2, cap, cur, hu, hb, ?_, r⟩
    rw [Below.heap_setCell w _ x g2 (by
      intro e2
      have e3 : g2 = g := e2
      subst e3
      rw [hc] at hh
      simp at hh
      exact h hh.2)]
    exact hh
end
theorem G1.off {w : World} {g k : Nat} {t : TypeId} {f : Nat → Value} {u : Value} {xs : List Int} (h : G1 w u xs) (hr : w.rowIs g t k f) (ht : t ≠ 2) (i : Nat) (x : Value) : G1 (w.setCell ⟨g, i, none⟩ x) u xs := owns_off h hr ht i x
theorem Gb.off {base : Nat} {w : World} {g k : Nat} {t : TypeId} {f : Nat → Value} {u : Value} {xs : List Int} (h : Gb base w u xs) (hr : w.rowIs g t k f) (ht : t ≠ 2) (i : Nat) (x : Value) : Gb base (w.setCell ⟨g, i, none⟩ x) u xs := owns_off h hr ht i x
theorem Gs.off {base : Nat} {w : World} {g k : Nat} {t : TypeId} {f : Nat → Value} {u : Value} {xs : List (List Int)} (h : Gs base w u xs) (hr : w.rowIs g t k f) (ht : t ≠ 2 ∧ t ≠ 35) (i : Nat) (x : Value) : Gs base (w.setCell ⟨g, i, none⟩ x) u xs := by
  obtain ⟨vs, ho, h1⟩ := h
  exact ⟨vs, owns_off ho hr ht.2 i x, fun k a b => (h1 k a b).off hr ht.1 i x⟩
theorem Gt.off {base : Nat} {w : World} {g k : Nat} {t : TypeId} {f : Nat → Value} {u : Value} {xs : List (List (List Int))} (h : Gt base w u xs) (hr : w.rowIs g t k f) (ht : t ≠ 2 ∧ t ≠ 35 ∧ t ≠ 22) (i : Nat) (x : Value) : Gt base (w.setCell ⟨g, i, none⟩ x) u xs := by
  obtain ⟨vs, ho, h1⟩ := h
  exact ⟨vs, owns_off ho hr ht.2.2 i x, fun k a b => (h1 k a b).off hr ⟨ht.1, ht.2.1⟩ i x⟩
theorem coT : 38 ≠ 2 ∧ 38 ≠ 35 ∧ 38 ≠ 22 := by decide

section
variable {o : Oper} {a : Act} {w : World} {K : Act → World → Prop} {Q : Exit → Act → World → Prop}
theorem wp_appendB1 (dst : Option Tmp) (hdst : o.dst = dst) (s x : Operand) (ho : o.op = .call { callee := .builtin .append, args := #[s, x], argTypes := #[35, 35] }) (base : Nat) (v : Value) (xs : List Int) (hs : a.eval s = v) (hown : Gb base w v xs)
    (b : Nat) (hx : a.eval x = .slice (some ⟨b, 0, none⟩) 1 1) (z : Int) (hc : w.cell? ⟨b, 0, none⟩ = some (.int .i64 z)) (hl : xs.length ≤ 2097151) (hb : base ≤ w.heap.size)
    (h : ∀ g cap w', Gb base w' (.slice (some ⟨g, 0, none⟩) (xs.length + 1) cap) (xs ++ [z]) → w.grownBy w' v.ownBlock → K (a.put dst (.slice (some ⟨g, 0, none⟩) (xs.length + 1) cap)) w') : o.wp Try.prog a w K Q := by
  obtain ⟨i, hi, hz, hs1, hb1⟩ := info_parts Try.infoI
  subst hdst
  refine wp_append_lies w s x 35 ho base 2 i _ 1 8 Try.underlying35 hi hz hs1 hb1 rfl (by decide) v xs.length (xs.map (Value.int .i64)) hs hown ⟨b, 0, none⟩ 1 1 [.int .i64 z] hx rfl ?_ ?_ (by omega) (by unfold maxLen; omega) (by omega) hb _ rfl (fun g cap w' h1 h2 _ _ => h g cap w' (by simpa [Gb] using h1) h2)
  · intro j u hj
    match j, hj with
    | 0, hj =>
      simp at hj
      subst hj
      exact hc
  · intro u hu
    simp at hu
    subst hu
    rfl
theorem wp_appendT1 (dst : Option Tmp) (hdst : o.dst = dst) (s x : Operand) (ho : o.op = .call { callee := .builtin .append, args := #[s, x], argTypes := #[36, 36] }) (base : Nat) (v : Value) (ts : List (List (List Int))) (hs : a.eval s = v) (hown : Gt base w v ts)
    (b : Nat) (hx : a.eval x = .slice (some ⟨b, 0, none⟩) 1 1) (ar : Option Addr) (nr cr : Nat) (hc : w.cell? ⟨b, 0, none⟩ = some (.slice ar nr cr)) (y : List (List Int)) (hy : Gs 0 w (.slice ar nr cr) y) (hl : ts.length ≤ 2097151) (hb : base ≤ w.heap.size)
    (h : ∀ g cap w', Gt base w' (.slice (some ⟨g, 0, none⟩) (ts.length + 1) cap) (ts ++ [y]) → w.grownBy w' v.ownBlock → K (a.put dst (.slice (some ⟨g, 0, none⟩) (ts.length + 1) cap)) w') : o.wp Try.prog a w K Q := by
  obtain ⟨i, hi, hz, hs1, hb1⟩ := info_parts Try.infoSS
  obtain ⟨vs, hvo, hvr⟩ := hown
  subst hdst
  refine wp_append_lies w s x 36 ho base 22 i _ 1 24 Try.underlying36 hi hz hs1 hb1 rfl (by decide) v ts.length vs hs hvo ⟨b, 0, none⟩ 1 1 [.slice ar nr cr] hx rfl ?_ ?_ (by omega) (by unfold maxLen; omega) (by omega) hb _ rfl (fun g cap w' h1 h2 _ _ => h g cap w' (Gt.push hvo hvr hy h1 h2) h2)
  · intro j u hj
    match j, hj with
    | 0, hj =>
      simp at hj
      subst hj
      exact hc
  · intro u hu
    simp at hu
    subst hu
    rfl
end
section
variable {P : Program} {ops : Array Oper} {Q : Exit → Act → World → Prop} {md : Region.Mode} {S : World → Prop}
/-- An operation that makes memory, alone to come up. -/
theorem held_mem {i : Nat} {oi : Oper} {fuel : Nat} {listed : Array Bool} {a : Act} {w w' : World} {v : Value} (d : Option Tmp) (hr : Region.ready md ops listed = [i]) (hi : ops[i]? = some oi) (hg : oi.guard = none) (hd : oi.dst = d)
    (h : (execOp a.eval oi).run P w = .ok (.value v) w') (hS : S w') (hh : wpAnyH P md ops Q S fuel (listed.setIfInBounds i true) (a.put d v) w') : wpAnyH P md ops Q S (fuel + 1) listed a w := by
  subst hd
  refine held_call hr hi hg ?_
  unfold Oper.wp
  rw [h]
  exact ⟨hS, hh⟩
end

/-- A complex that the model gathers: its box at block g, its two lists. -/
structure Sd (w1 wr : World) (g : Nat) (p : Int) (v vm : Value) (xs : List Int) (ts : List (List (List Int))) : Prop where
  below : Below w1.heap.size w1 wr
  lo : w1.heap.size ≤ g
  box : wr.rowIs g 38 3 (sel3 (.int .i64 p) v vm)
  dims : Gb w1.heap.size wr v xs
  maps : Gt w1.heap.size wr vm ts
theorem Sd.next {w1 wr wa : World} {g : Nat} {p : Int} {v vm : Value} {xs : List Int} {ts : List (List (List Int))} (h : Sd w1 wr g p v vm xs ts) (hb : Below wr.heap.size wr wa) : Sd w1 wa g p v vm xs ts :=
  ⟨h.below.trans (hb.mono h.below.size), h.lo, h.box.of_block (hb.block _ h.box.lt), h.dims.below hb, h.maps.below hb⟩
theorem Sd.stepD {w1 wa w' : World} {g : Nat} {p : Int} {v vm v' : Value} {xs xs' : List Int} (h : Sd w1 wa g p v vm xs []) (hg : wa.grownBy w' v.ownBlock) (hn : Gb w1.heap.size w' v' xs') : Sd w1 (w'.setCell ⟨g, 1, none⟩ v') g p v' vm xs' [] := by
  have hr := row_grown h.box h.dims coT.1 hg
  have hb := h.below.grown hg h.below.size (fun g hg => (h.dims.lt g hg).1)
  obtain ⟨vs, ho, _⟩ := h.maps
  have hm : Gt w1.heap.size w' vm [] := ⟨vs, owns_grown ho h.dims (by decide) hg, fun k _ h2 => absurd h2 (Nat.not_lt_zero _)⟩
  refine ⟨hb.setCell h.lo _, h.lo, (hr.set 1 v').congr (fun j hj => ?_), hn.off hr coT.1 _ _, hm.off hr coT _ _⟩
  match j, hj with
  | 0, _ => rfl
  | 1, _ => rfl
  | 2, _ => rfl
theorem Sd.stepM {w1 wa w' : World} {g : Nat} {p : Int} {v vm v' : Value} {xs : List Int} {ts ts' : List (List (List Int))} (h : Sd w1 wa g p v vm xs ts) (hg : wa.grownBy w' vm.ownBlock) (hn : Gt w1.heap.size w' v' ts') : Sd w1 (w'.setCell ⟨g, 2, none⟩ v') g p v v' xs ts' := by
  obtain ⟨vs, ho, _⟩ := h.maps
  have hr := row_grown h.box ho coT.2.2 hg
  have hb := h.below.grown hg h.below.size (fun g hg => (h.maps.lt g hg).1)
  have hd : Gb w1.heap.size w' v xs := owns_grown h.dims ho (by decide) hg
  refine ⟨hb.setCell h.lo _, h.lo, (hr.set 2 v').congr (fun j hj => ?_), hd.off hr coT.1 _ _, hn.off hr coT _ _⟩
  match j, hj with
  | 0, _ => rfl
  | 1, _ => rfl
  | 2, _ => rfl
end Go.Proofs.Ytlopenephgabhaa


namespace Go.Proofs.Ytlopenephgabhaa
open Go.RowKit

theorem run_append_row {base : Nat} (w : World) (ty : TypeId) (v : Value) (xs : List Int) (hown : Gb base w v xs) (u : Value) (ys : List Int) (hy : L1 0 w u ys) (h63 : xs.length + ys.length ≤ 2097152) (hb : base ≤ w.heap.size) :
    ∃ v' w', (Builtin.append_ #[35, 35] ty #[v, u]).run Try.prog w = .ok v' w' ∧ Gb base w' v' (xs ++ ys) ∧ w.grownBy w' v.ownBlock := by
  obtain ⟨i, hi, hz, hs, hbt⟩ := info_parts Try.infoI
  rcases hy with ⟨rfl, ad, cap, rfl⟩ | ⟨b, o, cap, rfl, _, _, hc⟩
  · exact ⟨v, w, run_append_none' w _ _ _ i Try.underlying35 hi hown ad cap, by rw [List.append_nil]; exact hown, ⟨rfl, rfl, rfl, Nat.le_refl _, fun _ _ _ => rfl⟩⟩
  · obtain ⟨v', w', hr, h2, h3, _⟩ := run_append_own (P := Try.prog) w base 35 ty 2 i _ 1 8 Try.underlying35 hi hz hs hbt (by rfl) (by decide) v xs.length (xs.map (Value.int .i64)) hown ⟨b, o, none⟩ ys.length cap (ys.map (Value.int .i64)) (by simp)
      (fun j u hj => by
        have hj' : j < ys.length := by have := (List.getElem?_eq_some_iff.1 hj).1; simpa using this
        obtain ⟨u2, hu2, hr2⟩ := hc j hj'
        rw [Addr.add_mid, hu2, hr2]
        simp [hj'] at hj
        rw [← hj]) (fun u hu => by
        obtain ⟨y, _, rfl⟩ := List.mem_map.1 hu
        rfl) (by unfold maxLen; omega) (by omega) hb
    exact ⟨v', w', hr, by simpa [Gb] using h2, h3⟩
end Go.Proofs.Ytlopenephgabhaa


namespace Go.Proofs.Ytlopenephgabhaa
open Go.RowKit

section
variable {P : Program} {ops : Array Oper} {Q : Exit → Act → World → Prop} {md : Region.Mode} {S : World → Prop}
/-- A drawn region within a round, its last operation apart. -/
theorem wpIn_region_last {l m id : Nat} {a : Act} {w : World} {on : Oper} (S : World → Prop) (n : Nat) (hm : P.follows .mixedOrders = true) (hd : noDefer ops = true) (hno : ¬ LetsOut Q) (hn : ops[n]? = some on) (hB : lastB .any ops n = true)
    (h : wpAnyH P .any (ops.setIfInBounds n (calmOp on)) (lastQ P ops n Q) S ops.size (Array.replicate ops.size false) a { w with drawn := w.drawn + 1 }) : (Code.region id ops true).wpIn (Fence.wide.inRound l) m P Q a w := by
  have hl := lastB_ok hn hB
  refine wpIn_region_any hm (wpAnyIn_of (noDefer_spec hd) hno _ _ _ _ (any_of_calm (S := S) hl _ _ _ _ (by simp) ?_ h))
  have := hl.size
  have hlt : n < ops.size := by omega
  simp [hlt]
/-- append, by the run's equation. -/
theorem held_app {i : Nat} {oi : Oper} {fuel : Nat} {listed : Array Bool} {a : Act} {w w' : World} {v x y : Value} (d : Option Tmp) (ta : Array TypeId) (l c : Operand) (hr : Region.ready md ops listed = [i]) (hi : ops[i]? = some oi) (hg : oi.guard = none) (hd : oi.dst = d)
    (ho : oi.op = .call { callee := .builtin .append, args := #[l, c], argTypes := ta }) (hl : a.eval l = x) (hc : a.eval c = y) (h : ∀ ty, (Builtin.append_ ta ty #[x, y]).run P w = .ok v w') (hS : S w') (hh : wpAnyH P md ops Q S fuel (listed.setIfInBounds i true) (a.put d v) w') : wpAnyH P md ops Q S (fuel + 1) listed a w :=
  held_mem d hr hi hg hd (by simp [execOp, ho, resolve, invoke, builtin, hl, hc, h, Result.andThen]) hS hh
end
section
variable {ops : Array Oper} {Q : Exit → Act → World → Prop} {n : Nat}
theorem lastQ_storeN {on : Oper} {a : Act} {w : World} (hn : ops[n]? = some on) (hg : on.guard = none) (_ : on.dst = none) (x y : Operand) (ho : on.op = .store 35 x y)
    (b o : Nat) (ad : Option Addr) (l c : Nat) (u : Value) (hx : a.eval x = .pointer (some ⟨b, o, none⟩)) (hy : a.eval y = .slice ad l c) (hc : w.cell? ⟨b, o, none⟩ = some u) (hf : w.frozen? ⟨b, o, none⟩ = false)
    (h : Q .normal a (w.setCell ⟨b, o, none⟩ (.slice ad l c))) : lastQ Try.prog ops n Q .normal a w :=
  lastQ_of hn hg (by
    unfold Oper.wp execOp
    simp only [ho, hx, hy]
    go_simp
    exact h)
end

/-- append of a row: where the new one lies. -/
theorem run_append_at {base : Nat} (w : World) (ty : TypeId) (v : Value) (xs : List Int) (hown : Gb base w v xs) (u : Value) (ys : List Int) (hy : L1 0 w u ys) (h63 : xs.length + ys.length ≤ 2097152) (hb : base ≤ w.heap.size) :
    ∃ v' w', (Builtin.append_ #[35, 35] ty #[v, u]).run Try.prog w = .ok v' w' ∧ Gb base w' v' (xs ++ ys) ∧ w.grownBy w' v.ownBlock ∧ (v'.ownBlock = v.ownBlock ∨ v'.ownBlock = some w.heap.size) := by
  obtain ⟨i, hi, hz, hs, hbt⟩ := info_parts Try.infoI
  rcases hy with ⟨rfl, ad, cap, rfl⟩ | ⟨b, o, cap, rfl, _, hpos, hc⟩
  · exact ⟨v, w, run_append_none' w _ _ _ i Try.underlying35 hi hown ad cap, by rw [List.append_nil]; exact hown, ⟨rfl, rfl, rfl, Nat.le_refl _, fun _ _ _ => rfl⟩, .inl rfl⟩
  · obtain ⟨g, cp, w', hr, h2, h3, h4, _⟩ := run_append_lies (P := Try.prog) (w := w) 35 ty base 2 i _ 1 8 Try.underlying35 hi hz hs hbt (by rfl) (by decide) v xs.length (xs.map (Value.int .i64)) hown ⟨b, o, none⟩ ys.length cap (ys.map (Value.int .i64)) (by simp)
      (fun j u hj => by
        have hj' : j < ys.length := by have := (List.getElem?_eq_some_iff.1 hj).1; simpa using this
        obtain ⟨u2, hu2, hr2⟩ := hc j hj'
        rw [Addr.add_mid, hu2, hr2]
        simp [hj'] at hj
        rw [← hj]) (fun u hu => by
        obtain ⟨y, _, rfl⟩ := List.mem_map.1 hu
        rfl) hpos (by unfold maxLen; omega) (by omega) hb w.heap.size rfl
    refine ⟨_, w', hr, by simpa [Gb] using h2, h3, ?_⟩
    rcases h4 with h4 | h4
    · exact .inl h4.symm
    · exact .inr (by rw [h4]; rfl)

/-- What a block that a list of numbers owns is. -/
theorem own_cells {base : Nat} {W : World} {v : Value} {xs : List Int} (h : Gb base W v xs) {g : Nat} (hg : v.ownBlock = some g) : ∃ c, W.heap[g]? = some (.cells c 2 (0, 0)) ∧ base ≤ g := by
  rcases h.2 with ⟨rfl, _⟩ | ⟨g', cap, cur, rfl, hb, hgb, _⟩
  · cases hg
  · obtain rfl : g' = g := by simpa [Value.ownBlock] using hg
    exact ⟨cur, hgb, hb⟩
theorem own_lt {base : Nat} {W : World} {v : Value} {xs : List Int} (h : Gb base W v xs) {g : Nat} (hg : v.ownBlock = some g) : g < W.heap.size := by
  obtain ⟨c, hc, _⟩ := own_cells h hg
  exact (Array.getElem?_eq_some_iff.1 hc).1
theorem off_type {base : Nat} {W : World} {v : Value} {xs : List Int} (h : Gb base W v xs) {b : Nat} {c : Array Value} {t : TypeId} {f : Nat × Nat} (hb : W.heap[b]? = some (.cells c t f)) (ht : t ≠ 2) : some b ≠ v.ownBlock := fun e => by
  obtain ⟨c', hc, _⟩ := own_cells h e.symm
  rw [hc] at hb
  cases hb
  exact ht rfl
theorem off_other {base : Nat} {W : World} {v : Value} {xs : List Int} (h : Gb base W v xs) {b : Nat} {o : Obj} (hb : W.heap[b]? = some o) (ho : o.isCells = false) : some b ≠ v.ownBlock := fun e => by
  obtain ⟨c', hc, _⟩ := own_cells h e.symm
  rw [hc] at hb
  cases hb
  cases ho
theorem off_low {base : Nat} {W : World} {v : Value} {xs : List Int} (h : Gb base W v xs) {b : Nat} (hb : b < base) : some b ≠ v.ownBlock := fun e => by
  obtain ⟨_, _, h2⟩ := own_cells h e.symm
  omega
theorem off_new {base : Nat} {W : World} {v : Value} {xs : List Int} (h : Gb base W v xs) {b : Nat} (hb : W.heap.size ≤ b) : some b ≠ v.ownBlock := fun e => by
  have := own_lt h e.symm
  omega

/-- The list in its box. -/
structure Tn (Bn base : Nat) (W : World) (v : Value) (xs : List Int) : Prop where
  box : Go.Boxed W Bn 35 v
  row : Gb base W v xs
/-- Nothing changed but the box and the block that its value owns. -/
structure Stp (Bn : Nat) (A W : World) (v v' : Value) : Prop where
  os : W.os = A.os
  tape : W.tape = A.tape
  output : W.output = A.output
  size : A.heap.size ≤ W.heap.size
  block : ∀ k, k < A.heap.size → k ≠ Bn → some k ≠ v.ownBlock → W.heap[k]? = A.heap[k]?
  own : v'.ownBlock = v.ownBlock ∨ ∃ g, v'.ownBlock = some g ∧ A.heap.size ≤ g
theorem Stp.refl (Bn : Nat) (A : World) (v : Value) : Stp Bn A A v v := ⟨rfl, rfl, rfl, Nat.le_refl _, fun _ _ _ _ => rfl, .inl rfl⟩
theorem Stp.off {Bn : Nat} {A W : World} {v v' : Value} (h : Stp Bn A W v v') {b : Nat} (hb : b < A.heap.size) (ho : some b ≠ v.ownBlock) : some b ≠ v'.ownBlock := fun e => by
  rcases h.own with h1 | ⟨g, h1, h2⟩
  · exact ho (e.trans h1)
  · rw [h1] at e
    cases e
    omega
theorem Stp.trans {Bn : Nat} {A B C : World} {u v z : Value} (h : Stp Bn A B u v) (k : Stp Bn B C v z) : Stp Bn A C u z :=
  ⟨k.os.trans h.os, k.tape.trans h.tape, k.output.trans h.output, Nat.le_trans h.size k.size, fun i hi hn ho => (k.block i (Nat.lt_of_lt_of_le hi h.size) hn (h.off hi ho)).trans (h.block i hi hn ho), by
    rcases k.own with h1 | ⟨g, h1, h2⟩
    · rcases h.own with h3 | ⟨g, h3, h4⟩
      · exact .inl (h1.trans h3)
      · exact .inr ⟨g, h1.trans h3, h4⟩
    · exact .inr ⟨g, h1, Nat.le_trans h.size h2⟩⟩
theorem Stp.of_below {Bn : Nat} {A W : World} (v : Value) (h : Below A.heap.size A W) : Stp Bn A W v v := ⟨h.os, h.tape, h.output, h.size, fun k hk _ _ => h.block k hk, .inl rfl⟩
theorem Stp.put {Bn : Nat} {A W : World} {v v' : Value} (h : Stp Bn A W v v') {l : Nat} (hl : A.heap.size ≤ l) (o : Obj) : Stp Bn A (W.putObj l o) v v' :=
  ⟨h.os, h.tape, h.output, by simpa using h.size, fun k hk hn ho => (World.putObj_heap_other (by omega)).trans (h.block k hk hn ho), h.own⟩
/-- One append and its store. -/
theorem Stp.app {Bn : Nat} {A X W : World} {v v' : Value} (h : Below A.heap.size A X) (hg : X.grownBy W v.ownBlock) (ho : v'.ownBlock = v.ownBlock ∨ v'.ownBlock = some X.heap.size) : Stp Bn A (W.setCell ⟨Bn, 0, none⟩ v') v v' :=
  ⟨hg.os.trans h.os, hg.tape.trans h.tape, hg.output.trans h.output, by simpa [World.setCell] using Nat.le_trans h.size hg.size, fun k hk hn hk2 =>
    ((Below.heap_setCell W ⟨Bn, 0, none⟩ v' k (by exact hn)).trans (hg.block k (Nat.lt_of_lt_of_le hk h.size) hk2)).trans (h.block k hk), by
    rcases ho with ho | ho
    · exact .inl ho
    · exact .inr ⟨_, ho, h.size⟩⟩
theorem Stp.low {Bn base n0 : Nat} {A W : World} {v v' : Value} {xs : List Int} (h : Stp Bn A W v v') (hr : Gb base A v xs) (h1 : n0 ≤ Bn) (h2 : n0 ≤ base) (h3 : n0 ≤ A.heap.size) : Below n0 A W :=
  ⟨h.os, h.tape, h.output, h.size, fun k hk => h.block k (by omega) (by omega) (off_low hr (by omega))⟩
theorem Stp.keeps {Bn base B : Nat} {A W : World} {v v' : Value} {xs : List Int} (h : Stp Bn A W v v') (hr : Tn Bn base A v xs) : KeepsFrom B A W :=
  ⟨h.size, fun k o _ hk ho => (h.block k (Array.getElem?_eq_some_iff.1 hk).1 (fun e => by
    subst e
    rw [show A.heap[k]? = _ from hr.box] at hk
    cases hk
    cases ho) (off_other hr.row hk ho)).trans hk⟩
theorem Tn.below {Bn base : Nat} {W W' : World} {v : Value} {xs : List Int} (h : Tn Bn base W v xs) (hb : Below W.heap.size W W') : Tn Bn base W' v xs := ⟨(hb.block _ h.box.lt).trans h.box, h.row.below hb⟩
theorem Tn.kept {Bn base : Nat} {W W' : World} {v : Value} {xs : List Int} {row : Option Nat} (h : Tn Bn base W v xs) (hg : W.grownBy W' row) (hr : ∀ r, row = some r → ∃ o : Obj, W.heap[r]? = some o ∧ o.isCells = false) : Tn Bn base W' v xs := by
  refine ⟨h.box.kept hg (fun e => ?_), h.row.kept hg ?_⟩
  · obtain ⟨o, ho, hc⟩ := hr _ e.symm
    rw [show W.heap[Bn]? = _ from h.box] at ho
    cases ho
    cases hc
  · cases hv : v.ownBlock with
    | none => exact .inl rfl
    | some g =>
      refine .inr (fun e => ?_)
      obtain ⟨o, ho, hc⟩ := hr g e.symm
      obtain ⟨c, hcc, _⟩ := own_cells h.row hv
      rw [hcc] at ho
      cases ho
      cases hc
/-- The two together abide turns of blocks beyond the beginning. -/
theorem tn_own {β : Type} {Bn base : Nat} {A : World} {v0 : Value} (f : β → List Int) : OwnFrom A.heap.size (fun (s : β) W => ∃ v, Tn Bn base W v (f s) ∧ Stp Bn A W v0 v) := fun s X Y row ⟨v, ht, hs⟩ hg hr =>
  ⟨v, ht.kept hg (fun r e => (hr r e).2), ⟨hg.os.trans hs.os, hg.tape.trans hs.tape, hg.output.trans hs.output, Nat.le_trans hs.size hg.size, fun k hk hn ho =>
    (hg.block k (Nat.lt_of_lt_of_le hk hs.size) (fun e => by have := (hr k e.symm).1; omega)).trans (hs.block k hk hn ho), hs.own⟩⟩

/-- What the bodies keep of the iterator's boxes. -/
structure Kd (n0 bn : Nat) (A W : World) : Prop where
  bel : Below n0 A W
  num : W.heap[bn]? = A.heap[bn]?
  fns : ∀ k v, Go.Boxed A k 121 v → Go.Boxed W k 121 v
theorem Stp.kd {Bn base n0 bn : Nat} {A W : World} {v v' : Value} {xs : List Int} (h : Stp Bn A W v v') (hr : Tn Bn base A v xs) (h1 : n0 ≤ Bn) (h2 : n0 ≤ base) (h3 : n0 ≤ A.heap.size) (h4 : bn ≠ Bn) (h5 : some bn ≠ v.ownBlock) (h6 : bn < A.heap.size) : Kd n0 bn A W :=
  ⟨h.low hr.row h1 h2 h3, h.block bn h6 h4 h5, fun k u hu => (h.block k hu.lt (fun e => by
    subst e
    have := (show A.heap[k]? = _ from hu).symm.trans hr.box
    simp at this) (off_type hr.row hu (by decide))).trans hu⟩
theorem kd_dgk {n0 bn : Nat} {n : Int} {dv : Value} {ds : List (List Int)} {w0 w : World} (h0 : w0.heap.size = n0) (hl : L2 0 w0 dv ds) (hb : Below n0 w0 w) (hbn : bn < w.heap.size) : DgK (Kd n0 bn) w bn n dv ds where
  refl A := ⟨Below.refl _ _, rfl, fun _ _ h => h⟩
  trans h k := ⟨h.bel.trans k.bel, k.num.trans h.num, fun i v hv => k.fns i v (h.fns i v hv)⟩
  dims hA hAB := by
    subst h0
    exact hl.below ((hb.trans (hA.mono hb.size)).trans hAB.bel)
  num h k := k.num.trans h
  fns h k := k.fns _ _ h
  put A k o o' hk ho hc := by
    have hs := hb.size
    refine ⟨⟨rfl, rfl, rfl, by simp, fun i hi => World.putObj_heap_other (by omega)⟩, World.putObj_heap_other (by omega), fun i v hv => ?_⟩
    refine (World.putObj_heap_other (fun e => ?_)).trans hv
    subst e
    rw [show A.heap[_]? = _ from hv] at ho
    cases ho
    cases hc
  alloc A o hA := by
    have hs := hb.size
    exact ⟨(Below.refl _ _).alloc (by omega) _, Below.heap_alloc A o bn (by omega), fun i v hv => hv.alloc _⟩
end Go.Proofs.Ytlopenephgabhaa


namespace Go.Proofs.Ytlopenephgabhaa
open Go.RowKit Go.Shelf
attribute [local go_sem] Oper.semAt_some

/-- The numbers of the rows of some cells. -/
def tnum (ds : List (List Int)) (ac dn : List (List (List (List Int)))) (q : Nat) (fs : List (Nat × Nat)) : List Int := fs.flatMap fun f => (List.range (cdim ds f)).flatMap fun r => trow ds ac dn q f r
theorem flat_le {α β : Type} (f : α → List β) (m : Nat) : ∀ L : List α, (∀ c ∈ L, (f c).length ≤ m) → (L.flatMap f).length ≤ m * L.length
  | [], _ => by simp
  | c :: L, h => by
    rw [List.flatMap_cons, List.length_append, List.length_cons, Nat.mul_succ]
    have h1 := h c (by simp)
    have h2 := flat_le f m L (fun d hd => h d (by simp [hd]))
    omega
theorem cells_le {ds : List (List Int)} (hok : DclOk ds) : (cellsTo ds ds.length).length ≤ 16 := by
  have h := flat_le (rowCells ds) 4 (List.range ds.length) (fun i hi => by
    have hi := List.mem_range.1 hi
    unfold rowCells
    rw [List.length_map, List.length_range, getD_of_lt _ hi, (hok.col _ (List.getElem_mem hi)).1]
    exact hok.h1)
  rw [List.length_range] at h
  have := hok.len1
  unfold cellsTo
  omega
theorem dgn_le {ds : List (List Int)} (hok : DclOk ds) (n : Nat) : (dgn ds n).length ≤ 16 := Nat.le_trans (List.length_filter_le _ _) (cells_le hok)
theorem prt_le {p : Int} {ds : List (List Int)} {ac dn : List (List (List (List Int)))} (hp : IsP p) (hok : DclOk ds) (ht : TbsOk p ds ac dn) {f c : Nat × Nat} (hf : f ∈ cellsTo ds ds.length) (hc : c ∈ cellsTo ds ds.length) {r : Nat} (hr : r < cdim ds f) : (prt ds ac dn f r c).length ≤ 4 := by
  have h1 := (prt_ok hp hok ht hf hc hr).1
  have h2 := (cdim_cast hok hc).2
  omega
theorem pre_le {p : Int} {ds : List (List Int)} {ac dn : List (List (List (List Int)))} (hp : IsP p) (hok : DclOk ds) (ht : TbsOk p ds ac dn) {f : Nat × Nat} (hf : f ∈ cellsTo ds ds.length) {r : Nat} (hr : r < cdim ds f) {n : Nat} (pre : List (DgIn ds n)) : ((pre.map (·.1)).flatMap (prt ds ac dn f r)).length ≤ 4 * pre.length := by
  have h := flat_le (prt ds ac dn f r) 4 (pre.map (·.1)) (fun c hc => by
    obtain ⟨x, _, rfl⟩ := List.mem_map.1 hc
    exact prt_le hp hok ht hf (mem_cells.2 (mem_dgn.1 x.2).1) hr)
  rwa [List.length_map] at h
theorem trow_le {p : Int} {ds : List (List Int)} {ac dn : List (List (List (List Int)))} (hp : IsP p) (hok : DclOk ds) (ht : TbsOk p ds ac dn) {f : Nat × Nat} (hf : f ∈ cellsTo ds ds.length) {r : Nat} (hr : r < cdim ds f) (q : Nat) : (trow ds ac dn q f r).length ≤ 64 := by
  have h := flat_le (prt ds ac dn f r) 4 (dgn ds q) (fun c hc => prt_le hp hok ht hf (mem_cells.2 (mem_dgn.1 hc).1) hr)
  have := dgn_le hok q
  unfold trow
  omega
theorem rows_le {p : Int} {ds : List (List Int)} {ac dn : List (List (List (List Int)))} (hp : IsP p) (hok : DclOk ds) (ht : TbsOk p ds ac dn) {f : Nat × Nat} (hf : f ∈ cellsTo ds ds.length) (q : Nat) {k : Nat} (hk : k ≤ cdim ds f) : ((List.range k).flatMap fun r => trow ds ac dn q f r).length ≤ 64 * k := by
  have h := flat_le (fun r => trow ds ac dn q f r) 64 (List.range k) (fun r hr => trow_le hp hok ht hf (by have := List.mem_range.1 hr; omega) q)
  rwa [List.length_range] at h
theorem tnum_le {p : Int} {ds : List (List Int)} {ac dn : List (List (List (List Int)))} (hp : IsP p) (hok : DclOk ds) (ht : TbsOk p ds ac dn) (q : Nat) {n : Nat} (pre : List (DgIn ds n)) : (tnum ds ac dn q (pre.map (·.1))).length ≤ 256 * pre.length := by
  have h := flat_le (fun f => (List.range (cdim ds f)).flatMap fun r => trow ds ac dn q f r) 256 (pre.map (·.1)) (fun f hf => by
    obtain ⟨x, _, rfl⟩ := List.mem_map.1 hf
    have hc := mem_cells.2 (mem_dgn.1 x.2).1
    have h1 := rows_le hp hok ht hc q (Nat.le_refl _)
    have h2 := (cdim_cast hok hc).2
    omega)
  rwa [List.length_map] at h
theorem tnum_snoc (ds : List (List Int)) (ac dn : List (List (List (List Int)))) (q : Nat) (fs : List (Nat × Nat)) (f : Nat × Nat) : tnum ds ac dn q (fs ++ [f]) = tnum ds ac dn q fs ++ (List.range (cdim ds f)).flatMap fun r => trow ds ac dn q f r := by
  simp [tnum]

set_option maxRecDepth 100000 in
set_option maxHeartbeats 8000000 in
theorem totalNumbers_any (p : Int) (hp : IsP p) (dv av vv : Value) (ds : List (List Int)) (ac dn : List (List (List (List Int)))) (q : Nat) (hq : q + 1 ≤ 1000) (w : World) (h : Dx 0 w dv av vv ds ac dn) (hok : DclOk ds) (ht : TbsOk p ds ac dn) :
    Calls Try.prog 100 #[.agg #[.int .i64 p, dv, av, vv], .int .i64 ((q + 1 : Nat) : Int)] w fun e w' => ∃ v, e = .returned v ∧ Gb w.heap.size w' v (tnum ds ac dn q (dgn ds (q + 1))) ∧ Below w.heap.size w w' := by
  have HP := Lib.hid hp
  have HOK := Lib.hid hok
  have HT := Lib.hid ht
  have HX := Lib.hid h
  obtain ⟨n, hn⟩ : ∃ n, n = q + 1 := ⟨_, rfl⟩
  rw [← hn] at hq ⊢
  have HN := Lib.hid hn
  clear hp hok ht h hn
  refine (callsIn_wide (n := 8)).1 ?_
  refine callsIn_of_wp_marks Try.func100 rfl trivial ?_
  simp only [Try.ntmps100, List.size_toArray, List.length_cons, List.length_nil, Nat.reduceAdd, Nat.reduceSub, Array.replicate_succ, Array.replicate_zero, List.push_toArray, List.append_toArray, List.nil_append, List.cons_append]
  gi_wp2_with fail
  refine ⟨trivial, (callsIn_wide.2 (diagonalOf_any p n dv av vv _)).mono ?_⟩
  rintro e w2 ⟨rfl, rfl⟩
  dsimp only
  gi_wp2
  have hsA : (((w.alloc (.cells #[.int .i64 p, dv, av, vv] 28)).alloc (.cells #[.int .i64 (n : Int)] 2)).alloc (.cells #[.slice none 0 0] 35)).heap.size = w.heap.size + 3 := by simp
  have hBA : Below w.heap.size w (((w.alloc (.cells #[.int .i64 p, dv, av, vv] 28)).alloc (.cells #[.int .i64 (n : Int)] 2)).alloc (.cells #[.slice none 0 0] 35)) := (((Below.refl _ _).alloc (Nat.le_refl _) _).alloc (by simp) _).alloc (by simp; omega) _
  have hx0 := ((DBx.start (p := p) 28 HX.out).next ((Below.refl _ _).alloc (Nat.le_refl _) (.cells #[.int .i64 (n : Int)] 2))).next ((Below.refl _ _).alloc (Nat.le_refl _) (.cells #[.slice none 0 0] 35))
  have hn0 := (Go.Boxed.new (w.alloc (.cells #[.int .i64 p, dv, av, vv] 28)) 2 (.int .i64 (n : Int))).alloc (.cells #[.slice none 0 0] 35)
  have hz0 := Go.Boxed.new ((w.alloc (.cells #[.int .i64 p, dv, av, vv] 28)).alloc (.cells #[.int .i64 (n : Int)] 2)) 35 (.slice none 0 0)
  rw [World.size_alloc] at hn0
  rw [World.size_alloc, World.size_alloc] at hz0
  obtain ⟨WA, hWA⟩ : ∃ WA, WA = ((w.alloc (.cells #[.int .i64 p, dv, av, vv] 28)).alloc (.cells #[.int .i64 (n : Int)] 2)).alloc (.cells #[.slice none 0 0] 35) := ⟨_, rfl⟩
  rw [← hWA] at hsA hBA hx0 hn0 hz0 ⊢
  clear hWA
  have hs1 : ((WA.alloc (.cells #[.int .i64 p, dv, av, vv] 28)).alloc (.cells #[.int .i64 (n : Int)] 2)).heap.size = WA.heap.size + 2 := by simp
  have hB1 : Below WA.heap.size WA ((WA.alloc (.cells #[.int .i64 p, dv, av, vv] 28)).alloc (.cells #[.int .i64 (n : Int)] 2)) := ((Below.refl _ _).alloc (Nat.le_refl _) _).alloc (by simp) _
  have hy1 := (DBx.start (p := p) 28 (HX.out.below hBA)).next ((Below.refl _ _).alloc (Nat.le_refl _) (.cells #[.int .i64 (n : Int)] 2))
  have hm1 := Go.Boxed.new (WA.alloc (.cells #[.int .i64 p, dv, av, vv] 28)) 2 (.int .i64 (n : Int))
  rw [World.size_alloc] at hm1
  have hx1 := hx0.next hB1
  have hn1 : Go.Boxed ((WA.alloc (.cells #[.int .i64 p, dv, av, vv] 28)).alloc (.cells #[.int .i64 (n : Int)] 2)) (w.heap.size + 1) 2 (.int .i64 (n : Int)) := (hB1.block _ hn0.lt).trans hn0
  have hz1 : Go.Boxed ((WA.alloc (.cells #[.int .i64 p, dv, av, vv] 28)).alloc (.cells #[.int .i64 (n : Int)] 2)) (w.heap.size + 1 + 1) 35 (.slice none 0 0) := (hB1.block _ hz0.lt).trans hz0
  obtain ⟨W1, hW1⟩ : ∃ W1, W1 = (WA.alloc (.cells #[.int .i64 p, dv, av, vv] 28)).alloc (.cells #[.int .i64 (n : Int)] 2) := ⟨_, rfl⟩
  rw [← hW1] at hs1 hB1 hy1 hm1 hx1 hn1 hz1 ⊢
  clear hW1 hx0 hn0 hz0
  have hBW := hBA.trans (hB1.mono hBA.size)
  have HB1 := Lib.hid hBW
  have hdk := kd_dgk (n0 := w.heap.size) (bn := WA.heap.size + 1) (n := (n : Int)) (w := W1) rfl HX.out.dims hBW (by omega)
  have HDK := Lib.hid hdk
  have HS1 := Lib.hid hs1
  have HSA := Lib.hid hsA
  have HT1 : Hid (Tn (w.heap.size + 1 + 1) (w.heap.size + 1 + 1) W1 (.slice none 0 0) []) := Lib.hid ⟨hz1, by simp [Gb, World.ownsRow]⟩
  have HCTX : Hid (∀ W v, Stp (w.heap.size + 1 + 1) W1 W (.slice none 0 0) v → DBx w W w.heap.size p dv av vv ds ac dn ∧ Go.Boxed W (w.heap.size + 1) 2 (.int .i64 (n : Int))) := Lib.hid (fun W v hs => by
    have hk : ∀ b, b < W1.heap.size → b ≠ w.heap.size + 1 + 1 → W.heap[b]? = W1.heap[b]? := fun b hb hne => hs.block b hb hne (by simp [Value.ownBlock])
    have hbw : Below w.heap.size w W := hBW.trans (hs.low HT1.out.row (by omega) (by omega) hBW.size)
    have hc : ∀ o, W.cell? ⟨w.heap.size, o, none⟩ = W1.cell? ⟨w.heap.size, o, none⟩ := fun o => World.cell?_of_block (hk w.heap.size hx1.lt (by omega))
    exact ⟨⟨hbw, (hc 0).trans hx1.c0, (hc 1).trans hx1.c1, (hc 2).trans hx1.c2, (hc 3).trans hx1.c3, Nat.lt_of_lt_of_le hx1.lt hs.size, HX.out.below hbw⟩, (hk _ hn1.lt (by omega)).trans hn1⟩)
  have hl1 : ds.length ≤ 1000 := by have := HOK.out.len1; omega
  have hl2 : ∀ r ∈ ds, r.length ≤ 1000 := fun r hr => by have := (HOK.out.col r hr).1; have := HOK.out.h1; omega
  have hseq := diag_seq 7 (by decide) p n hq WA.heap.size (WA.heap.size + 1) dv av vv ds hl1 hl2 (Kd w.heap.size (WA.heap.size + 1)) W1 hdk (by omega) hy1.c0 hy1.c1 hy1.c2 hy1.c3 hm1
  clear hy1 hm1 hx1 hn1 hz1 hBA hB1 hBW hdk hs1 hsA
  refine wpIn_rangeO_cell rfl (by decide : 1 ≤ 8) (gf := 131) (lb := #[.pointer (some ⟨WA.heap.size, 0, none⟩), .pointer (some ⟨WA.heap.size + 1, 0, none⟩)]) rfl trivial (enters_of Try.func131 (by kernel_rfl) rfl)
    hseq (fun h k => HDK.out.trans h k) (fun A l o o' hl ho hc => HDK.out.put A l o o' hl ho hc) (Below.refl _ _) (fun _ => rfl)
    (fun pre W => ∃ v, Tn (w.heap.size + 1 + 1) (w.heap.size + 1 + 1) W v (tnum ds ac dn q (pre.map (·.1))) ∧ Stp (w.heap.size + 1 + 1) W1 W (.slice none 0 0) v)
    (fun _ _ _ => False) (tn_own (fun pre : List (DgIn ds n) => tnum ds ac dn q (pre.map (·.1)))) (fun _ _ _ _ _ h _ _ => h)
    ⟨_, HT1.out, Stp.refl _ _ _⟩
    (fun x => #[.int .i64 (x.1.1 : Int), .int .i64 (x.1.2 : Int)]) 6 101 W1.heap.size
    ?assign ?body ?done ?stop
  case assign =>
    rintro l pre x A K ⟨v, htn, hst⟩ hKK
    simp only [dgV] at hKK ⊢
    have hsz := hst.size
    gi_wp2
    have hba : Below A.heap.size A (A.alloc (.cells #[.int .i64 (x.1.1 : Int), .int .i64 (x.1.2 : Int)] 101)) := (Below.refl _ _).alloc (Nat.le_refl _) _
    have hk := hKK A.heap.size _ hsz (World.alloc_heap_new A _) ((KeepsOthers.alloc _ _).from _) (HDK.out.alloc A _ hsz) ⟨v, htn.below hba, hst.trans (Stp.of_below v hba)⟩
    simp at hk
    refine Eq.mp ?_ hk
    congr 1
    all_goals (try congr 1)
  case body =>
    rintro l pre x Bx A hl ⟨r, hr⟩ ⟨v, htn, hst⟩ hD hX hlt
    obtain ⟨⟨i, j⟩, hxm⟩ := x
    dsimp only at hX
    have hfc : (i, j) ∈ cellsTo ds ds.length := mem_cells.2 (mem_dgn.1 hxm).1
    have HFC := Lib.hid hfc
    have hmf := mem_cells.1 hfc
    dsimp only at hmf
    obtain ⟨hxA, _⟩ := HCTX.out A v hst
    obtain ⟨d, hd⟩ : ∃ d, d = cdim ds (i, j) := ⟨_, rfl⟩
    have hd4 : d ≤ 4 := by rw [hd]; exact (cdim_cast HOK.out hfc).2
    have HD := Lib.hid hd
    have HDC : Hid (Calls Try.prog 95 #[.agg #[.int .i64 p, dv, av, vv], .agg #[.int .i64 (i : Int), .int .i64 (j : Int)]] A fun e w' => e = .returned (.int .i64 (d : Int)) ∧ Below A.heap.size A w') := Lib.hid (by
      rw [hd, (cdim_cast HOK.out hfc).1]
      exact dimOfCell_any p i j _ _ _ ds A hxA.dx.dims ⟨by have := HOK.out.len1; omega, fun r hr => by have := hl2 r hr; show r.length ≤ _; omega⟩ (by omega) (by omega) (by omega) (fun _ => by simp only [Int.toNat_natCast]; exact Int.ofNat_lt.2 hmf.2))
    have x0 : A.cell? ⟨Bx, 0, none⟩ = some (.int .i64 (i : Int)) := by simp [World.cell?, hX]
    have x1 : A.cell? ⟨Bx, 1, none⟩ = some (.int .i64 (j : Int)) := by simp [World.cell?, hX]
    have c0 := hxA.c0
    have c1 := hxA.c1
    have c2 := hxA.c2
    have c3 := hxA.c3
    have HTN := Lib.hid htn
    have HST := Lib.hid hst
    have HXB := Lib.hid hX
    have HR := Lib.hid hr
    clear hd htn hst hX hr hxA hfc
    gi_wp2_with fail
    refine ⟨trivial, (CallsIn.inRound l (callsIn_wide.2 HDC.out)).mono ?_⟩
    rintro e A2 ⟨rfl, hb2⟩
    clear HDC c0 c1 c2 c3 x0 x1
    have HB2 := Lib.hid hb2
    clear hb2
    gi_wp2
    gi_loopw [16] (fun i' wr => ∃ k : Nat, k ≤ d ∧ i' = .int .i64 k ∧ ∃ v', Hid (Tn (w.heap.size + 1 + 1) (w.heap.size + 1 + 1) wr v' (tnum ds ac dn q (pre.map (·.1)) ++ (List.range k).flatMap fun r => trow ds ac dn q (i, j) r)) ∧ Hid (Stp (w.heap.size + 1 + 1) A wr v v')) (fun i' _ => d - (intOf i').toNat)
    case atStart => exact ⟨0, Nat.zero_le _, rfl, v, Lib.hid (by simpa using HTN.out.below HB2.out), Lib.hid (Stp.of_below v HB2.out)⟩
    case round =>
      obtain ⟨k, hk, rfl, v2, HTN2, HST2⟩ := hrel
      by_cases hlk : k < d
      · have hnq : IntKind.i64.wrap ((n : Int) - 1) = (q : Int) := by rw [IntWalk.i64_in _ (by omega)]; have := HN.out; omega
        obtain ⟨hxr, hnr⟩ := HCTX.out wr v2 (HST.out.trans HST2.out)
        have c0 := hxr.c0
        have c1 := hxr.c1
        have c2 := hxr.c2
        have c3 := hxr.c3
        have nb := hnr.cell
        have hxl := hxr.lt
        have hnl := hnr.lt
        have HXR := Lib.hid hxr
        have xb : wr.heap[Bx]? = some (.cells #[.int .i64 (i : Int), .int .i64 (j : Int)] 101 (0, 0)) := (HST2.out.block Bx (Array.getElem?_eq_some_iff.1 HXB.out).1 (fun e => by
          have h1 := HTN.out.box
          rw [← e] at h1
          have := (show A.heap[Bx]? = _ from h1).symm.trans HXB.out
          simp at this) (off_type HTN.out.row HXB.out (by decide))).trans HXB.out
        have HXR2 := Lib.hid xb
        clear hxr hnr xb
        gi_wp2_with fail
        refine ⟨trivial, (CallsIn.inRound l (callsIn_wide.2 (diagonalOf_any p q dv av vv _))).mono ?_⟩
        rintro e w3 ⟨rfl, rfl⟩
        dsimp only
        gi_wp2
        have hsR : (wr.alloc (.cells #[.int .i64 (k : Int)] 2)).heap.size = wr.heap.size + 1 := by simp
        have hBR : Below wr.heap.size wr (wr.alloc (.cells #[.int .i64 (k : Int)] 2)) := (Below.refl _ _).alloc (Nat.le_refl _) _
        have hrR := Go.Boxed.new wr 2 (.int .i64 (k : Int))
        obtain ⟨WR, hWR⟩ : ∃ WR, WR = wr.alloc (.cells #[.int .i64 (k : Int)] 2) := ⟨_, rfl⟩
        rw [← hWR] at hsR hBR hrR ⊢
        clear hWR
        have hs3 : ((WR.alloc (.cells #[.int .i64 p, dv, av, vv] 28)).alloc (.cells #[.int .i64 (q : Int)] 2)).heap.size = WR.heap.size + 2 := by simp
        have hB3 : Below WR.heap.size WR ((WR.alloc (.cells #[.int .i64 p, dv, av, vv] 28)).alloc (.cells #[.int .i64 (q : Int)] 2)) := ((Below.refl _ _).alloc (Nat.le_refl _) _).alloc (by simp) _
        have hy3 := (DBx.start (p := p) 28 (HXR.out.dx.below hBR)).next ((Below.refl _ _).alloc (Nat.le_refl _) (.cells #[.int .i64 (q : Int)] 2))
        have hm3 := Go.Boxed.new (WR.alloc (.cells #[.int .i64 p, dv, av, vv] 28)) 2 (.int .i64 (q : Int))
        rw [World.size_alloc] at hm3
        obtain ⟨A3, hA3⟩ : ∃ A3, A3 = (WR.alloc (.cells #[.int .i64 p, dv, av, vv] 28)).alloc (.cells #[.int .i64 (q : Int)] 2) := ⟨_, rfl⟩
        rw [← hA3] at hs3 hB3 hy3 hm3 ⊢
        clear hA3
        have hBr3 : Below wr.heap.size wr A3 := hBR.trans (hB3.mono (by omega))
        have HBR3 := Lib.hid hBr3
        have HTN3 := Lib.hid (HTN2.out.below hBr3)
        have HST3 := Lib.hid (HST2.out.trans (Stp.of_below v2 hBr3))
        have HRB3 : Hid (Go.Boxed A3 wr.heap.size 2 (.int .i64 (k : Int))) := Lib.hid ((hB3.block _ hrR.lt).trans hrR)
        have HXB3 : Hid (A3.heap[Bx]? = some (.cells #[.int .i64 (i : Int), .int .i64 (j : Int)] 101 (0, 0))) := Lib.hid ((hBr3.block Bx (Array.getElem?_eq_some_iff.1 HXR2.out).1).trans HXR2.out)
        have hlo : A3.heap[l]? = some (.loop r) := (HST3.out.keeps (B := 0) HTN.out).same l _ (Nat.zero_le _) HR.out rfl
        have hBw3 : Below w.heap.size w A3 := HXR.out.below.trans (hBr3.mono HXR.out.below.size)
        have hdk := kd_dgk (n0 := w.heap.size) (bn := WR.heap.size + 1) (n := (q : Int)) (w := A3) rfl HX.out.dims hBw3 (by omega)
        have HDK3 := Lib.hid hdk
        have HS3 := Lib.hid hs3
        have HSR := Lib.hid hsR
        have hwr : w.heap.size ≤ wr.heap.size := HXR.out.below.size
        have hseq := diag_seq 5 (by decide) p q (by have := HN.out; omega) WR.heap.size (WR.heap.size + 1) dv av vv ds hl1 hl2 (Kd w.heap.size (WR.heap.size + 1)) A3 hdk (by omega) hy3.c0 hy3.c1 hy3.c2 hy3.c3 hm3
        clear hy3 hm3 hrR hBR hB3 hBr3 hBw3 hdk hs3 hsR c0 c1 c2 c3 nb
        refine wpIn_rangeOin_cell (lo := l) (r0 := r) rfl hlo (by decide : 1 ≤ 6) (gf := 131) (lb := #[.pointer (some ⟨WR.heap.size, 0, none⟩), .pointer (some ⟨WR.heap.size + 1, 0, none⟩)]) rfl trivial (enters_of Try.func131 (by kernel_rfl) rfl)
          (hseq.inRound l) (fun h k => HDK3.out.trans h k) (fun A l o o' hl ho hc => HDK3.out.put A l o o' hl ho hc) (Below.refl _ _) (fun _ => rfl)
          (fun pre2 W => ∃ v', Tn (w.heap.size + 1 + 1) (w.heap.size + 1 + 1) W v' ((tnum ds ac dn q (pre.map (·.1)) ++ (List.range k).flatMap fun r => trow ds ac dn q (i, j) r) ++ (pre2.map (·.1)).flatMap (prt ds ac dn (i, j) k)) ∧ Stp (w.heap.size + 1 + 1) A3 W v2 v')
          (fun _ _ _ => False) (tn_own (fun pre2 : List (DgIn ds q) => (tnum ds ac dn q (pre.map (·.1)) ++ (List.range k).flatMap fun r => trow ds ac dn q (i, j) r) ++ (pre2.map (·.1)).flatMap (prt ds ac dn (i, j) k))) (fun _ _ _ _ _ h _ _ => h)
          ⟨v2, by simpa using HTN3.out, Stp.refl _ _ _⟩
          (fun x => #[.int .i64 (x.1.1 : Int), .int .i64 (x.1.2 : Int)]) 8 101 A3.heap.size
          ?assign2 ?body2 ?done2 ?stop2
        case assign2 =>
          rintro l2 pre2 x B K ⟨v3, htn3, hst3⟩ hKK
          simp only [dgV] at hKK ⊢
          have hsz := hst3.size
          gi_wp2
          have hba : Below B.heap.size B (B.alloc (.cells #[.int .i64 (x.1.1 : Int), .int .i64 (x.1.2 : Int)] 101)) := (Below.refl _ _).alloc (Nat.le_refl _) _
          have hk := hKK B.heap.size _ hsz (World.alloc_heap_new B _) ((KeepsOthers.alloc _ _).from _) (HDK3.out.alloc B _ hsz) ⟨v3, htn3.below hba, hst3.trans (Stp.of_below v3 hba)⟩
          simp at hk
          refine Eq.mp ?_ hk
          congr 1
          all_goals (try congr 1)
        case body2 =>
          rintro l2 pre2 y By B hl2' ⟨r2, hr2⟩ ⟨v3, htn3, hst3⟩ hDy hY hlt2
          obtain ⟨⟨a, b⟩, hym⟩ := y
          dsimp only at hY
          have hyc : (a, b) ∈ cellsTo ds ds.length := mem_cells.2 (mem_dgn.1 hym).1
          have hkd : k < cdim ds (i, j) := by rw [← HD.out]; exact hlk
          obtain ⟨hxB, _⟩ := HCTX.out B v3 (HST.out.trans (HST3.out.trans hst3))
          have hrB : Go.Boxed B wr.heap.size 2 (.int .i64 (k : Int)) := (hst3.block _ HRB3.out.lt (by have := HST3.out.size; have h1 := HTN2.out.box.lt; omega) (off_new HTN2.out.row (Nat.le_refl _))).trans HRB3.out
          have hfB : B.heap[Bx]? = some (.cells #[.int .i64 (i : Int), .int .i64 (j : Int)] 101 (0, 0)) := (hst3.block Bx (Array.getElem?_eq_some_iff.1 HXB3.out).1 (fun e => by
            have h1 := HTN3.out.box
            rw [← e] at h1
            have := (show A3.heap[Bx]? = _ from h1).symm.trans HXB3.out
            simp at this) (off_type HTN3.out.row HXB3.out (by decide))).trans HXB3.out
          have HCALL : Hid (∀ X, Below B.heap.size B X → Calls Try.prog 121 #[.agg #[.int .i64 p, dv, av, vv], .agg #[.int .i64 (i : Int), .int .i64 (j : Int)], .int .i64 (k : Int), .agg #[.int .i64 (a : Int), .int .i64 (b : Int)]] X fun e w' => ∃ v, e = .returned v ∧ L1 0 w' v (prt ds ac dn (i, j) k (a, b)) ∧ Below X.heap.size X w') :=
            Lib.hid (fun X hb => partOfRow_any p (i, j) (a, b) k dv av vv ds ac dn X (hxB.dx.below hb) HOK.out HT.out HFC.out hyc hkd)
          have hoff : ∀ {b : Nat}, b < B.heap.size → some b ≠ v3.ownBlock → ∀ X, B.grownBy X v3.ownBlock → ∀ o, X.cell? ⟨b, o, none⟩ = B.cell? ⟨b, o, none⟩ := fun hb hne X hg o => World.cell?_of_block (hg.block _ hb hne)
          have ox : some w.heap.size ≠ v3.ownBlock := off_low htn3.row (by omega)
          have on : some (w.heap.size + 1 + 1) ≠ v3.ownBlock := off_type htn3.row htn3.box (by decide)
          have of : some Bx ≠ v3.ownBlock := off_type htn3.row hfB (by decide)
          have oy : some By ≠ v3.ownBlock := off_type htn3.row hY (by decide)
          have or : some wr.heap.size ≠ v3.ownBlock := hst3.off HRB3.out.lt (off_new HTN2.out.row (Nat.le_refl _))
          have HL0 : Hid (∀ X, B.grownBy X v3.ownBlock → (Instr.loadAt 35 (.pointer (some ⟨w.heap.size + 1 + 1, 0, none⟩))).run Try.prog X = .ok v3 X) := Lib.hid (fun X hg => by
            have hc := (hoff htn3.box.lt on X hg 0).trans htn3.box.cell
            obtain ⟨a3, c3, hv3⟩ := Sl.shape htn3.row.l1
            subst hv3
            go_simp)
          have HL1 : Hid (∀ X, B.grownBy X v3.ownBlock → (Instr.loadAt 28 (.pointer (some ⟨w.heap.size, 0, none⟩))).run Try.prog X = .ok (.agg #[.int .i64 p, dv, av, vv]) X) := Lib.hid (fun X hg => by
            have c0 := (hoff hxB.lt ox X hg 0).trans hxB.c0
            have c1 := (hoff hxB.lt ox X hg 1).trans hxB.c1
            have c2 := (hoff hxB.lt ox X hg 2).trans hxB.c2
            have c3 := (hoff hxB.lt ox X hg 3).trans hxB.c3
            go_simp)
          have HL2 : Hid (∀ X, B.grownBy X v3.ownBlock → (Instr.loadAt 101 (.pointer (some ⟨Bx, 0, none⟩))).run Try.prog X = .ok (.agg #[.int .i64 (i : Int), .int .i64 (j : Int)]) X) := Lib.hid (fun X hg =>
            hloadCe X ((hoff (Array.getElem?_eq_some_iff.1 hfB).1 of X hg 0).trans (by simp [World.cell?, hfB])) ((hoff (Array.getElem?_eq_some_iff.1 hfB).1 of X hg 1).trans (by simp [World.cell?, hfB])))
          have HL3 : Hid (∀ X, B.grownBy X v3.ownBlock → (Instr.loadAt 2 (.pointer (some ⟨wr.heap.size, 0, none⟩))).run Try.prog X = .ok (.int .i64 (k : Int)) X) := Lib.hid (fun X hg => hloadIn X ((hoff hrB.lt or X hg 0).trans hrB.cell))
          have HL4 : Hid (∀ X, B.grownBy X v3.ownBlock → (Instr.loadAt 101 (.pointer (some ⟨By, 0, none⟩))).run Try.prog X = .ok (.agg #[.int .i64 (a : Int), .int .i64 (b : Int)]) X) := Lib.hid (fun X hg =>
            hloadCe X ((hoff (Array.getElem?_eq_some_iff.1 hY).1 oy X hg 0).trans (by simp [World.cell?, hY])) ((hoff (Array.getElem?_eq_some_iff.1 hY).1 oy X hg 1).trans (by simp [World.cell?, hY])))
          have HTNB := Lib.hid htn3
          have HSTB := Lib.hid hst3
          have hxs : (((tnum ds ac dn q (pre.map (·.1)) ++ (List.range k).flatMap fun r => trow ds ac dn q (i, j) r) ++ (pre2.map (·.1)).flatMap (prt ds ac dn (i, j) k))).length + (prt ds ac dn (i, j) k (a, b)).length ≤ 2097152 := by
            have h1 := tnum_le HP.out HOK.out HT.out q pre
            have h2 := rows_le HP.out HOK.out HT.out HFC.out q (Nat.le_of_lt hkd)
            have h3 := pre_le HP.out HOK.out HT.out HFC.out hkd pre2
            have h4 := prt_le HP.out HOK.out HT.out HFC.out hyc hkd
            have h5 := cells_le HOK.out
            simp only [List.length_append]
            omega
          have HXS := Lib.hid hxs
          have HFIN : Hid (∀ W v', Gb (w.heap.size + 1 + 1) W v' (((tnum ds ac dn q (pre.map (·.1)) ++ (List.range k).flatMap fun r => trow ds ac dn q (i, j) r) ++ (pre2.map (·.1)).flatMap (prt ds ac dn (i, j) k)) ++ prt ds ac dn (i, j) k (a, b)) → Go.Boxed W (w.heap.size + 1 + 1) 35 v' → Stp (w.heap.size + 1 + 1) B W v3 v' →
              KeepsFrom A3.heap.size B W ∧ Kd w.heap.size (WR.heap.size + 1) B W ∧ ∃ v', Tn (w.heap.size + 1 + 1) (w.heap.size + 1 + 1) W v' ((tnum ds ac dn q (pre.map (·.1)) ++ (List.range k).flatMap fun r => trow ds ac dn q (i, j) r) ++ ((pre2 ++ ([⟨(a, b), hym⟩] : List (DgIn ds q))).map (·.1)).flatMap (prt ds ac dn (i, j) k)) ∧ Stp (w.heap.size + 1 + 1) A3 W v2 v') := Lib.hid (fun W v' hg hb hs => by
            have hs3 := HS3.out
            have hsr := HSR.out
            have hsz := HSTB.out.size
            have hbl := HTN2.out.box.lt
            refine ⟨hs.keeps HTNB.out, hs.kd HTNB.out (by omega) (by omega) (by omega) (by omega) (HSTB.out.off (by omega) (off_new HTN2.out.row (by omega))) (by omega), v', ⟨hb, ?_⟩, HSTB.out.trans hs⟩
            have e : ((pre2 ++ ([⟨(a, b), hym⟩] : List (DgIn ds q))).map (·.1)).flatMap (prt ds ac dn (i, j) k) = (pre2.map (·.1)).flatMap (prt ds ac dn (i, j) k) ++ prt ds ac dn (i, j) k (a, b) := by
              rw [List.map_append, List.flatMap_append]
              refine congrArg _ ?_
              show List.flatMap _ [(a, b)] = _
              simp
            rw [e, ← List.append_assoc]
            exact hg)
          clear hoff hxs hxB hrB hfB htn3 hst3 hY hr2 ox on of oy or hlt2
          gi_wp2_with fail
          refine wpIn_region_last (fun X => B.grownBy X v3.ownBlock) 7 (by kernel_rfl) (by kernel_rfl) (fun ⟨_, _, h⟩ => h) rfl (by kernel_rfl) ?_
          have S0 : B.grownBy B.drew v3.ownBlock := ⟨rfl, rfl, rfl, Nat.le_refl _, fun _ _ _ => rfl⟩
          have hbd : Below B.heap.size B B.drew := (Below.refl _ _).drew
          change wpAnyH _ _ _ _ _ _ _ _ B.drew
          generalize B.drew = wd at *
          refine held_take (i := 0) (v := v3) (some 24) rfl rfl (by kernel_rfl) (by kernel_rfl) (by kernel_rfl) (fun _ _ _ h => h) (yieldsIf_cell (by kernel_rfl) rfl (by kernel_rfl) HL0.out) S0 ?_
          refine held_take (i := 1) (v := .agg #[.int .i64 p, dv, av, vv]) (some 25) rfl rfl (by kernel_rfl) (by kernel_rfl) (by kernel_rfl) (fun _ _ _ h => h) (yieldsIf_cell (by kernel_rfl) rfl (by kernel_rfl) HL1.out) S0 ?_
          refine held_take (i := 2) (v := .agg #[.int .i64 (i : Int), .int .i64 (j : Int)]) (some 26) rfl rfl (by kernel_rfl) (by kernel_rfl) (by kernel_rfl) (fun _ _ _ h => h) (yieldsIf_cell (by kernel_rfl) rfl (by kernel_rfl) HL2.out) S0 ?_
          refine held_take (i := 3) (v := .int .i64 (k : Int)) (some 27) rfl rfl (by kernel_rfl) (by kernel_rfl) (by kernel_rfl) (fun _ _ _ h => h) (yieldsIf_cell (by kernel_rfl) rfl (by kernel_rfl) HL3.out) S0 ?_
          refine held_take (i := 4) (v := .agg #[.int .i64 (a : Int), .int .i64 (b : Int)]) (some 28) rfl rfl (by kernel_rfl) (by kernel_rfl) (by kernel_rfl) (fun _ _ _ h => h) (yieldsIf_cell (by kernel_rfl) rfl (by kernel_rfl) HL4.out) S0 ?_
          refine held_enter (i := 5) (some 29) (f := 121) (args := #[.agg #[.int .i64 p, dv, av, vv], .agg #[.int .i64 (i : Int), .int .i64 (j : Int)], .int .i64 (k : Int), .agg #[.int .i64 (a : Int), .int .i64 (b : Int)]]) (by kernel_rfl) rfl rfl rfl (by kernel_rfl) (HCALL.out wd hbd) ?_ (fun c w' h => by obtain ⟨_, h, _⟩ := h; cases h) (fun w' h => by obtain ⟨_, h, _⟩ := h; cases h)
          rintro u6 w6 ⟨u, hu, hl6, hb6⟩
          injection hu with hu
          subst hu
          have hbB : Below B.heap.size B w6 := hbd.trans (hb6.mono hbd.size)
          have S6 : B.grownBy w6 v3.ownBlock := ⟨hbB.os, hbB.tape, hbB.output, hbB.size, fun k hk _ => hbB.block k hk⟩
          refine ⟨S6, ?_⟩
          have ht6 := HTNB.out.below hbB
          have hb0 : w.heap.size + 1 + 1 ≤ w6.heap.size := Nat.le_of_lt ht6.box.lt
          obtain ⟨v7, W7, hrun, hg7, hgr7, hown7⟩ := run_append_at w6 35 v3 _ ht6.row u6 _ hl6 HXS.out hb0
          have S7 : B.grownBy W7 v3.ownBlock := ⟨hgr7.os.trans S6.os, hgr7.tape.trans S6.tape, hgr7.output.trans S6.output, Nat.le_trans S6.size hgr7.size, fun k hk hne => (hgr7.block k (Nat.lt_of_lt_of_le hk S6.size) hne).trans (S6.block k hk hne)⟩
          refine held_app (i := 6) (some 30) #[35, 35] (.tmp 24) (.tmp 29) (by kernel_rfl) rfl rfl rfl rfl (by kernel_rfl) (by kernel_rfl) (fun _ => hrun) S7 ?_
          have hbx7 : Go.Boxed W7 (w.heap.size + 1 + 1) 35 v3 := ht6.box.kept hgr7 (off_type ht6.row ht6.box (by decide))
          have hfin := HFIN.out (W7.setCell ⟨w.heap.size + 1 + 1, 0, none⟩ v7) v7 (hg7.kept (grownBy_setCell' W7 _ _) (by
            cases hv : v7.ownBlock with
            | none => exact .inl rfl
            | some g => exact .inr (fun e => off_type hg7 hbx7 (by decide) (e.symm.trans hv.symm)))) (hbx7.set v7) (Stp.app hbB hgr7 hown7)
          obtain ⟨a7, c7, hv7⟩ := Sl.shape hg7.l1
          generalize hn7 : (((tnum ds ac dn q (pre.map (·.1)) ++ (List.range k).flatMap fun r => trow ds ac dn q (i, j) r) ++ (pre2.map (·.1)).flatMap (prt ds ac dn (i, j) k)) ++ prt ds ac dn (i, j) k (a, b)).length = n7 at hv7
          subst hv7
          have HFI := Lib.hid hfin
          have zc := hbx7.cell
          have zf := hbx7.frozen
          clear hfin hg7 hgr7 hown7 hbx7 ht6 hn7 hrun
          refine held_none (i := 7) (v := .bool false) rfl rfl (by kernel_rfl) (by kernel_rfl) (by kernel_rfl) (fun _ _ _ h => h) (yieldsIf_move (by kernel_rfl) rfl (by kernel_rfl)) S7 ?_
          refine wpAnyH_done (by kernel_rfl) (lastQ_storeN rfl (by kernel_rfl) (by kernel_rfl) (.tmp 5) (.tmp 30) (by kernel_rfl) (w.heap.size + 1 + 1) 0 a7 n7 c7 _ (by kernel_rfl) (by kernel_rfl) zc zf ?_) _
          exact HFI.out
        case done2 =>
          rintro zs B hS ⟨v3, htn3, hst3⟩
          have HF : Hid (Tn (w.heap.size + 1 + 1) (w.heap.size + 1 + 1) B v3 (tnum ds ac dn q (pre.map (·.1)) ++ (List.range (k + 1)).flatMap fun r => trow ds ac dn q (i, j) r)) := Lib.hid (by
            rw [hS, List.append_assoc] at htn3
            rw [List.range_succ, List.flatMap_append]
            simpa [trow] using htn3)
          have HG := Lib.hid (HST3.out.trans hst3)
          clear hS htn3 hst3
          gi_wp2
          go_roundw
          case rel => exact ⟨k + 1, by omega, by go_num, v3, HF, HG⟩
          case measure => simp [intOf]; omega
        case stop2 =>
          rintro c pre2 B _ hf
          exact hf.elim
      · obtain rfl : k = d := by omega
        have HF : Hid (KeepsFrom W1.heap.size A wr ∧ Kd w.heap.size (WA.heap.size + 1) A wr ∧ ∃ v', Tn (w.heap.size + 1 + 1) (w.heap.size + 1 + 1) wr v' (tnum ds ac dn q ((pre ++ ([⟨(i, j), hxm⟩] : List (DgIn ds n))).map (·.1))) ∧ Stp (w.heap.size + 1 + 1) W1 wr (.slice none 0 0) v') := Lib.hid (by
          have hs1 := HS1.out
          have hsa := HSA.out
          have hsz := HST.out.size
          refine ⟨HST2.out.keeps HTN.out, HST2.out.kd HTN.out (by omega) (by omega) (by omega) (by omega) (HST.out.off (by omega) (by simp [Value.ownBlock])) (by omega), v2, ?_, HST.out.trans HST2.out⟩
          rw [List.map_append]
          have h2 := HTN2.out
          rw [HD.out, ← tnum_snoc] at h2
          exact h2)
        gi_wp2
        exact HF.out
  case done =>
    rintro D zs A hD hS ⟨v, htn, hst⟩ hKD
    have hdq : tnum ds ac dn q (zs.map (·.1)) = tnum ds ac dn q (dgn ds n) := by rw [hS]
    rw [hdq] at htn
    have HTN := Lib.hid htn
    have HST := Lib.hid hst
    have HKD := Lib.hid hKD
    obtain ⟨av', cv', hv'⟩ := Sl.shape htn.row.l1
    have zc := htn.box.cell
    subst hv'
    clear htn hst hKD hS hdq
    gi_wp2
    refine ⟨by simp, .inl ⟨_, _, rfl, run_takeDeferred HKD.out, ?_⟩⟩
    have HG : Gb w.heap.size (A.putObj D (.deferred none)) (.slice av' (tnum ds ac dn q (dgn ds n)).length cv') (tnum ds ac dn q (dgn ds n)) := Gb.mono (ownsRow_putObj HTN.out.row _ HKD.out rfl) (by omega)
    exact ⟨_, results_tmp rfl _ _ _, .slice av' (tnum ds ac dn q (dgn ds n)).length cv', rfl, HG,
      ((HB1.out.trans (HST.out.low HT1.out.row (by omega) (by omega) HB1.out.size)).trans (belowK_b (w := W1) HB1.out.size _ D _ _ hD HKD.out rfl rfl))⟩
  case stop =>
    rintro D c pre A hD _ hf hKD
    exact hf.elim
end Go.Proofs.Ytlopenephgabhaa


namespace Go.Proofs.Ytlopenephgabhaa
open Go.RowKit

/-- The row k of a list that is cut into rows of c numbers. -/
def cutV (ad : Option Addr) (c k : Nat) : Value := .slice (if c = 0 then ad else ad.map (·.add (k * c))) c c
def cutL (xs : List Int) (n c : Nat) : List (List Int) := (List.range n).map fun k => (xs.drop (k * c)).take c
/-- n rows of a table's top laid, each a part. -/
structure CuTo (w wr : World) (ad : Option Addr) (c n k : Nat) : Prop where
  below : Below w.heap.size w wr
  top : wr.rowIs w.heap.size 35 n (fun j => if j < k then cutV ad c j else .slice none 0 0)
theorem CuTo.step {w wr : World} {ad : Option Addr} {c n k : Nat} (h : CuTo w wr ad c n k) : CuTo w (wr.setCell ⟨w.heap.size, k, none⟩ (cutV ad c k)) ad c n (k + 1) := by
  refine ⟨h.below.setCell (Nat.le_refl _) _, (h.top.set k _).congr (fun j hj => ?_)⟩
  by_cases e : j = k
  · subst e
    rw [if_pos rfl, if_pos (by omega)]
  · rw [if_neg e]
    by_cases h2 : j < k
    · rw [if_pos h2, if_pos (by omega)]
    · rw [if_neg h2, if_neg (by omega)]
theorem cu_bd {k n c : Nat} (h : k ≤ n) : k * c ≤ n * c := Nat.mul_le_mul_right c h

set_option maxRecDepth 100000 in
set_option maxHeartbeats 2000000 in
theorem cutRows_at (ad : Option Addr) (m cap n c : Nat) (w : World) (hn : n ≤ 1000) (hc : c ≤ 1000) (hm : m = n * c) (hcap : m ≤ cap) :
    Calls Try.prog 99 #[.slice ad m cap, .int .i64 (n : Int), .int .i64 (c : Int)] w fun e w' => e = .returned (.slice (some ⟨w.heap.size, 0, none⟩) n n) ∧ CuTo w w' ad c n n := by
  have hmk := run_make_row' (P := Try.prog) 22 35 (.slice none 0 0) 24 Try.underlying22 Try.infoS rfl .i64 .i64 n (by omega) (by omega)
  have HM := Lib.hid hm
  clear hm
  go_enter Try.func99, Try.ntmps99
  go_wp2
  clear hmk
  go_loopw [8, 9, 10, 14] (fun _ _ _ i wr => ∃ (k : Nat), k ≤ n ∧ i = .int .i64 k ∧ Hid (CuTo w wr ad c n k)) (fun _ _ _ i _ => n - (intOf i).toNat)
  case atStart => exact ⟨0, Nat.zero_le _, rfl, Lib.hid ⟨below_alloc1 _ _, (World.rowIs_made w (.slice none 0 0) n 35).congr (fun j _ => by simp)⟩⟩
  case round =>
    obtain ⟨k, hk, rfl, HC⟩ := hrel
    by_cases hlt : k < n
    · have hkl : (k : Int) < (n : Int) := by omega
      have h0 : wr.cell? ⟨w.heap.size, k, none⟩ = some (.slice none 0 0) := by rw [HC.out.top.cell hlt, if_neg (Nat.lt_irrefl _)]
      have hf := HC.out.top.frozen k
      obtain ⟨lo, hlo⟩ : ∃ lo, lo = k * c := ⟨_, rfl⟩
      obtain ⟨hi, hhi⟩ : ∃ hi, hi = (k + 1) * c := ⟨_, rfl⟩
      have hs : hi = lo + c := by rw [hhi, hlo, Nat.succ_mul]
      have hb : hi ≤ m := by rw [hhi, HM.out]; exact cu_bd (show k + 1 ≤ n by omega)
      have hb2 : hi ≤ 1000000 := by
        have : hi ≤ 1000 * 1000 := by rw [hhi]; exact Nat.mul_le_mul (by omega) hc
        omega
      have w1 : IntKind.i64.wrap ((k : Int) * (c : Int)) = (lo : Int) := by rw [show (k : Int) * (c : Int) = (lo : Int) by rw [hlo]; simp]; exact IntWalk.i64_in _ (by omega)
      have w2 : IntKind.i64.wrap ((k : Int) + 1) = ((k + 1 : Nat) : Int) := by rw [show (k : Int) + 1 = ((k + 1 : Nat) : Int) by omega]; exact IntWalk.i64_in _ (by omega)
      have w3 : IntKind.i64.wrap (((k : Int) + 1) * (c : Int)) = (hi : Int) := by rw [show ((k : Int) + 1) * (c : Int) = (hi : Int) by rw [hhi]; simp]; exact IntWalk.i64_in _ (by omega)
      have s1 : (lo : Int) ≤ (hi : Int) := by omega
      have s2 : (hi : Int) ≤ (cap : Int) := by omega
      have s0 : (0 : Int) ≤ (lo : Int) := by omega
      have HS : Hid (CuTo w (wr.setCell ⟨w.heap.size, k, none⟩ (.slice (if hi = lo then ad else ad.map (·.add lo)) (hi - lo) (hi - lo))) ad c n (k + 1)) := Lib.hid (by
        have e : Value.slice (if hi = lo then ad else ad.map (·.add lo)) (hi - lo) (hi - lo) = cutV ad c k := by
          unfold cutV
          rw [show hi - lo = c by omega, hlo]
          by_cases hz : c = 0
          · rw [if_pos hz, if_pos (by omega)]
          · rw [if_neg hz, if_neg (by omega)]
        rw [e]
        exact HC.out.step)
      clear HC hs hlo hhi hb
      go_wp2
      exact ⟨⟨k + 1, by omega, by go_num, HS⟩, by simp [intOf]; omega⟩
    · have hkn : ¬ (k : Int) < (n : Int) := by omega
      obtain rfl : k = n := by omega
      go_wp2
      go_ret
      exact ⟨rfl, HC.out⟩

theorem cut_len {xs : List Int} {n c k : Nat} (hl : xs.length = n * c) (hk : k < n) : ((xs.drop (k * c)).take c).length = c := by
  have h := cu_bd (c := c) (show k + 1 ≤ n by omega)
  rw [Nat.succ_mul] at h
  rw [List.length_take, List.length_drop, hl]
  omega
theorem drop_flat {c : Nat} : ∀ (t : List (List Int)), (∀ r ∈ t, r.length = c) → ∀ k, k ≤ t.length → t.flatten.drop (k * c) = (t.drop k).flatten
  | t, _, 0, _ => by simp
  | [], _, k + 1, hk => by simp at hk
  | r :: t, h, k + 1, hk => by
    have hr := h r (by simp)
    rw [List.flatten_cons, Nat.succ_mul, Nat.add_comm, ← List.drop_drop, show (r ++ t.flatten).drop c = t.flatten by rw [← hr]; simp]
    exact drop_flat t (fun x hx => h x (by simp [hx])) k (by simpa using hk)
theorem cut_flat {c : Nat} {t : List (List Int)} (h : ∀ r ∈ t, r.length = c) : cutL t.flatten t.length c = t := by
  unfold cutL
  refine List.ext_getElem (by simp) (fun k h1 h2 => ?_)
  rw [List.getElem_map, List.getElem_range, drop_flat t h k (Nat.le_of_lt h2), List.drop_eq_getElem_cons h2, List.flatten_cons]
  have hr := h _ (List.getElem_mem h2)
  rw [List.take_append_of_le_length (by omega), List.take_of_length_le (by omega)]
theorem flat_len {c : Nat} : ∀ {t : List (List Int)}, (∀ r ∈ t, r.length = c) → t.flatten.length = t.length * c
  | [], _ => by simp
  | r :: t, h => by
    rw [List.flatten_cons, List.length_append, List.length_cons, Nat.succ_mul, h r (by simp), flat_len (fun x hx => h x (by simp [hx]))]
    omega
theorem ttab_flat (ds : List (List Int)) (ac dn : List (List (List (List Int)))) (q : Nat) : (ttab ds ac dn q).flatten = tnum ds ac dn q (dgn ds (q + 1)) := by
  unfold ttab tnum
  generalize dgn ds (q + 1) = L
  induction L with
  | nil => rfl
  | cons f L ih => rw [List.flatMap_cons, List.flatMap_cons, List.flatten_append, ih]; rfl
end Go.Proofs.Ytlopenephgabhaa


namespace Go.Proofs.Ytlopenephgabhaa
open Go.RowKit

theorem Gb.parts {lo : Nat} {w : World} {ad : Option Addr} {m cap : Nat} {xs : List Int} (h : Gb lo w (.slice ad m cap) xs) (hp : 0 < xs.length) : ∃ b, ad = some ⟨b, 0, none⟩ ∧ lo ≤ b ∧ b < w.heap.size ∧ ∀ i (hi : i < xs.length), w.cell? ⟨b, i, none⟩ = some (.int .i64 xs[i]) ∧ w.frozen? ⟨b, i, none⟩ = false := by
  rcases h.2 with ⟨_, h0⟩ | ⟨g, cp, cur, hv, hb, hgb, h1, h2, h3, h4⟩
  · omega
  · injection hv with e1 _ _
    refine ⟨g, e1, hb, (Array.getElem?_eq_some_iff.1 hgb).1, fun i hi => ⟨?_, by simp [World.frozen?, hgb]⟩⟩
    have h5 : (cur.toList.take (xs.length * 1))[i]? = (xs.map (Value.int .i64))[i]? := by rw [h4]
    rw [List.getElem?_take, if_pos (by omega), List.getElem?_map, List.getElem?_eq_getElem hi] at h5
    simp [World.cell?, hgb]
    simpa using h5

theorem CuTo.rw2 {w wr : World} {ad : Option Addr} {c n m cap lo : Nat} {xs : List Int} (h : CuTo w wr ad c n n) (hn : n ≤ 1000) (hc : c ≤ 1000) (hg : Gb lo w (.slice ad m cap) xs) (hl : xs.length = n * c) (hlo : lo ≤ w.heap.size) :
    Rw2 lo wr.heap.size wr (.slice (some ⟨w.heap.size, 0, none⟩) n n) (cutL xs n c) := by
  have hlt := h.top.lt
  by_cases hz : n * c = 0
  · have hr : ∀ k, k < n → c = 0 := fun k hk => by
      rcases Nat.mul_eq_zero.1 hz with h1 | h1
      · omega
      · exact h1
    refine ⟨?_, ?_⟩
    · by_cases h0 : n = 0
      · subst h0
        exact Or.inl ⟨rfl, _, _, rfl⟩
      · have hc0 := hr 0 (by omega)
        refine Or.inr ⟨w.heap.size, 0, n, by simp [cutL], hlo, hlt, by simp [cutL]; omega, fun k hk => ?_, fun k _ => h.top.frozen _⟩
        have hk' : k < n := by simpa [cutL] using hk
        refine ⟨cutV ad c k, by rw [Nat.zero_add, h.top.cell hk', if_pos hk'], ?_⟩
        simp only [cutL, List.getElem_map, List.getElem_range]
        subst hc0
        exact Or.inl ⟨by simp, _, _, rfl⟩
    · refine ⟨flat (fun _ => []) n, ⟨some ⟨w.heap.size, 0, none⟩, n, n, fun j => cutV ad c j, fun _ => [], rfl, by omega, rfl, fun j hj => Or.inl ?_, fun _ => ⟨w.heap.size, 0, rfl, hlo, hlt, fun j hj => by rw [Nat.zero_add, h.top.cell hj, if_pos hj]⟩⟩, nums_flat (fun j _ x hx => absurd hx (by simp)), ?_, ?_⟩
      · rw [hr j hj]
        exact ⟨rfl, _, _, rfl⟩
      · have : flat (fun _ => ([] : List Iv)) n = [] := by simp [flat]
        rw [this]
        exact List.Pairwise.nil
      · have := size_spans (J := fun _ => []) (n := n) (B := 0) (fun j _ => by simp [ivSize])
        omega
  · have hc0 : c ≠ 0 := fun e => hz (by rw [e, Nat.mul_zero])
    obtain ⟨b, rfl, hlb, hb, hcz⟩ := hg.parts (by omega)
    have hv : ∀ j, cutV (some ⟨b, 0, none⟩) c j = .slice (some ⟨b, j * c, none⟩) c c := fun j => by
      unfold cutV
      rw [if_neg hc0, Option.map_some, Addr.add_mid, Nat.zero_add]
    have hz' : ∀ i (hi : i < xs.length), wr.cell? ⟨b, i, none⟩ = some (.int .i64 xs[i]) ∧ wr.frozen? ⟨b, i, none⟩ = false := fun i hi => ⟨(h.below.cell (p := ⟨b, i, none⟩) hb).trans (hcz i hi).1, (h.below.frozen (p := ⟨b, i, none⟩) hb).trans (hcz i hi).2⟩
    have hbr : b < wr.heap.size := by have := h.below.size; omega
    have hin : ∀ {j i : Nat}, j < n → i < c → j * c + i < xs.length := fun {j i} hj hi => by
      have := cu_bd (c := c) (show j + 1 ≤ n by omega)
      rw [Nat.succ_mul] at this
      omega
    refine ⟨?_, ?_⟩
    · have h0 : n ≠ 0 := fun e => hz (by rw [e, Nat.zero_mul])
      refine Or.inr ⟨w.heap.size, 0, n, by simp [cutL], hlo, hlt, by simp [cutL]; omega, fun k hk => ?_, fun k _ => h.top.frozen _⟩
      have hk' : k < n := by simpa [cutL] using hk
      refine ⟨.slice (some ⟨b, k * c, none⟩) c c, by rw [Nat.zero_add, h.top.cell hk', if_pos hk', hv], ?_⟩
      simp only [cutL, List.getElem_map, List.getElem_range]
      have hlen := cut_len hl hk'
      refine Or.inr ⟨b, k * c, c, by rw [hlen], hlb, hbr, by rw [hlen]; omega, fun i hi => ?_, fun i hi => ?_⟩
      · rw [hlen] at hi
        refine ⟨_, (hz' (k * c + i) (hin hk' hi)).1, ?_⟩
        simp only [IsI, List.getElem_take, List.getElem_drop]
      · rw [hlen] at hi
        exact (hz' (k * c + i) (hin hk' hi)).2
    · refine ⟨flat (fun j => [(b, j * c, c)]) n, ⟨some ⟨w.heap.size, 0, none⟩, n, n, fun j => .slice (some ⟨b, j * c, none⟩) c c, fun j => [(b, j * c, c)], rfl, by omega, rfl, fun j _ => Or.inr ⟨b, j * c, c, c, rfl, by omega, by omega, hlb, hbr, rfl⟩, fun _ => ⟨w.heap.size, 0, rfl, hlo, hlt, fun j hj => by rw [Nat.zero_add, h.top.cell hj, if_pos hj, hv]⟩⟩, nums_flat (fun j hj x hx => ?_), ?_, ?_⟩
      · obtain rfl : x = (b, j * c, c) := by simpa using hx
        exact ⟨hlb, hbr, fun i hi => by
          have hi' : i < c := hi
          exact ⟨⟨_, (hz' (j * c + i) (hin hj hi')).1⟩, (hz' (j * c + i) (hin hj hi')).2⟩⟩
      · have hgen : ∀ q, Disj (flat (fun j => [(b, j * c, c)]) q) := fun q => by
          induction q with
          | zero => exact List.Pairwise.nil
          | succ q ih =>
            rw [flat_succ]
            refine List.pairwise_append.2 ⟨ih, List.pairwise_singleton _ _, fun x hx y hy => Or.inr (Or.inl ?_)⟩
            obtain rfl : y = (b, q * c, c) := by simpa using hy
            obtain ⟨j, hj, hx⟩ := List.mem_flatMap.1 hx
            obtain rfl : x = (b, j * c, c) := by simpa using hx
            have := cu_bd (c := c) (show j + 1 ≤ q by have := List.mem_range.1 hj; omega)
            rw [Nat.succ_mul] at this
            exact this
        exact hgen n
      · have h1 := size_spans (J := fun j => [(b, j * c, c)]) (n := n) (B := 1000) (fun j _ => by simp [ivSize]; omega)
        omega
end Go.Proofs.Ytlopenephgabhaa


namespace Go.Proofs.Ytlopenephgabhaa
open Go.RowKit

section
variable {P : Program} {ops : Array Oper} {Q : Exit → Act → World → Prop} {md : Region.Mode} {S : World → Prop}
theorem held_one {i : Nat} {fuel : Nat} {listed : Array Bool} {a : Act} {w : World} (hr : Region.ready md ops listed = [i])
    (h1 : wpOp P ops Q i (fun a' w' => S w' ∧ wpAnyH P md ops Q S fuel (listed.setIfInBounds i true) a' w') a w) : wpAnyH P md ops Q S (fuel + 1) listed a w :=
  wpAnyH_all hr (by simp) (fun k hk => by obtain rfl := List.mem_singleton.1 hk; exact h1)
theorem held_two {i j : Nat} {fuel : Nat} {listed : Array Bool} {a : Act} {w : World} (hr : Region.ready md ops listed = [i, j])
    (h1 : wpOp P ops Q i (fun a' w' => S w' ∧ wpAnyH P md ops Q S fuel (listed.setIfInBounds i true) a' w') a w)
    (h2 : wpOp P ops Q j (fun a' w' => S w' ∧ wpAnyH P md ops Q S fuel (listed.setIfInBounds j true) a' w') a w) : wpAnyH P md ops Q S (fuel + 1) listed a w :=
  wpAnyH_all hr (by simp) (fun k hk => by
    rcases List.mem_cons.1 hk with rfl | hk
    · exact h1
    · obtain rfl := List.mem_singleton.1 hk; exact h2)
theorem held_three {i j l : Nat} {fuel : Nat} {listed : Array Bool} {a : Act} {w : World} (hr : Region.ready md ops listed = [i, j, l])
    (h1 : wpOp P ops Q i (fun a' w' => S w' ∧ wpAnyH P md ops Q S fuel (listed.setIfInBounds i true) a' w') a w)
    (h2 : wpOp P ops Q j (fun a' w' => S w' ∧ wpAnyH P md ops Q S fuel (listed.setIfInBounds j true) a' w') a w)
    (h3 : wpOp P ops Q l (fun a' w' => S w' ∧ wpAnyH P md ops Q S fuel (listed.setIfInBounds l true) a' w') a w) : wpAnyH P md ops Q S (fuel + 1) listed a w :=
  wpAnyH_all hr (by simp) (fun k hk => by
    rcases List.mem_cons.1 hk with rfl | hk
    · exact h1
    · rcases List.mem_cons.1 hk with rfl | hk
      · exact h2
      · obtain rfl := List.mem_singleton.1 hk; exact h3)
theorem op_plain {i : Nat} {oi : Oper} {K : Act → World → Prop} {a : Act} {w : World} (hi : ops[i]? = some oi) (hg : oi.guard = none) (h : oi.wp P a w K Q) : wpOp P ops Q i K a w := by
  unfold wpOp
  rw [hi]
  have hw : Region.wanted oi (yielded ops a.tmps) = true := by unfold Region.wanted; rw [hg]
  simp only [hw, if_true]
  exact Or.inl h
theorem op_mem {i : Nat} {oi : Oper} {K : Act → World → Prop} {a : Act} {w w' : World} {v : Value} (d : Option Tmp) (hi : ops[i]? = some oi) (hg : oi.guard = none) (hd : oi.dst = d)
    (h : (execOp a.eval oi).run P w = .ok (.value v) w') (hK : K (a.put d v) w') : wpOp P ops Q i K a w := by
  subst hd
  refine op_plain hi hg ?_
  unfold Oper.wp
  rw [h]
  exact hK
theorem op_row {i : Nat} {oi : Oper} {K : Act → World → Prop} {a : Act} {w : World} (hi : ops[i]? = some oi) (hgd : oi.guard = none) (hd : oi.dst = none) (ty : TypeId) (x y : Operand) (ho : oi.op = .store ty x y)
    (g : Nat) (cells : Array Value) (hx : a.eval x = .pointer (some ⟨g, 0, none⟩)) (hy : a.eval y = .agg cells) (t : TypeId) (old : Array Value) (hg : w.heap[g]? = some (.cells old t (0, 0))) (hs : (P.info? ty).map (·.size) = some cells.size)
    (hold : old.size = cells.size) (h1 : cells.all (·.oneCell') = true) (hK : K a (w.setRow g cells)) : wpOp P ops Q i K a w :=
  op_plain hi hgd (wp_store_row ty x y ho g cells hx hy t old hg hs hold h1 (by rw [hd]; exact hK))
end
/-- A block of cells that may be written. -/
def Rz (W : World) (g : Nat) (t : TypeId) (cs : Array Value) : Prop := W.heap[g]? = some (.cells cs t (0, 0))
theorem Rz.lt {W : World} {g : Nat} {t : TypeId} {cs : Array Value} (h : Rz W g t cs) : g < W.heap.size := (Array.getElem?_eq_some_iff.1 h).1
theorem Rz.next {W W' : World} {g : Nat} {t : TypeId} {cs : Array Value} (h : Rz W g t cs) (hb : Below W.heap.size W W') : Rz W' g t cs := (hb.block g h.lt).trans h
theorem Rz.new (W : World) (t : TypeId) (cs : Array Value) : Rz (W.alloc (.cells cs t)) W.heap.size t cs := by simpa [Rz] using heap_alloc_new W (.cells cs t)
theorem Rz.set {W : World} {g : Nat} {t : TypeId} {cs : Array Value} (h : Rz W g t cs) (x : Array Value) : Rz (W.setRow g x) g t x := setRow_heap W g cs x t _ h
theorem Rz.off {W : World} {g g' : Nat} {t : TypeId} {cs : Array Value} (h : Rz W g t cs) (hne : g ≠ g') (x : Array Value) : Rz (W.setRow g' x) g t cs := (setRow_other W g' g x hne).trans h
theorem Rz.cell {W : World} {g : Nat} {t : TypeId} {cs : Array Value} (h : Rz W g t cs) {i : Nat} {v : Value} (hv : cs[i]? = some v) : W.cell? ⟨g, i, none⟩ = some v := by
  have h' : W.heap[g]? = some (.cells cs t (0, 0)) := h
  simp [World.cell?, h', hv]
end Go.Proofs.Ytlopenephgabhaa


namespace Go.Proofs.Ytlopenephgabhaa
open Go.RowKit
theorem haddA {a b s : Int} (h : IntKind.i64.wrap (a + b) = s) (w : World) : (binOp .add 2 (.int .i64 a) (.int .i64 b)).run Try.prog w = .ok (.int .i64 s) w := by go_simp
theorem hloadD (w : World) {b o : Nat} {x : Value} (h : w.cell? ⟨b, o, none⟩ = some x) : (Instr.loadAt 35 (.pointer (some ⟨b, o, none⟩))).run Try.prog w = .ok x w := by go_simp
theorem hloadM (w : World) {b o : Nat} {x : Value} (h : w.cell? ⟨b, o, none⟩ = some x) : (Instr.loadAt 36 (.pointer (some ⟨b, o, none⟩))).run Try.prog w = .ok x w := by go_simp
theorem hsubA {a b s : Int} (h : IntKind.i64.wrap (a - b) = s) (w : World) : (binOp .sub 2 (.int .i64 a) (.int .i64 b)).run Try.prog w = .ok (.int .i64 s) w := by go_simp
section
variable {P : Program} {ops : Array Oper} {Q : Exit → Act → World → Prop} {md : Region.Mode} {S : World → Prop}
theorem op_make {i : Nat} {oi : Oper} {K : Act → World → Prop} {a : Act} {w w' : World} {v x y : Value} (d : Option Tmp) (t : TypeId) (l c : Operand) (hi : ops[i]? = some oi) (hg : oi.guard = none) (hd : oi.dst = d) (ho : oi.op = .makeSlice t l c) (hl : a.eval l = x) (hc : a.eval c = y)
    (h : (Instr.makeSlice t x y).run P w = .ok v w') (hK : K (a.put d v) w') : wpOp P ops Q i K a w :=
  op_mem d hi hg hd (by simp [execOp, ho, hl, hc, h, Result.andThen]) hK
end
theorem infoCo (y0 y1 y2 : Value) : (Try.prog.info? 38).map (·.size) = some (#[y0, y1, y2] : Array Value).size := by kernel_rfl
end Go.Proofs.Ytlopenephgabhaa


namespace Go.Proofs.Ytlopenephgabhaa
open Go.RowKit

def tdl (ds : List (List Int)) (L : List (Nat × Nat)) (s : Nat) : Nat := ((L.filter (onD s)).map (cdim ds)).sum
theorem tdl_snoc (ds : List (List Int)) (L : List (Nat × Nat)) (c : Nat × Nat) (s : Nat) : tdl ds (L ++ [c]) s = tdl ds L s + if onD s c then cdim ds c else 0 := by
  unfold tdl
  rw [List.filter_append, List.map_append, List.sum_append]
  by_cases h : onD s c <;> simp [h]
theorem sum_le4 {α : Type} (f : α → Nat) : ∀ L : List α, (∀ c ∈ L, f c ≤ 4) → (L.map f).sum ≤ 4 * L.length
  | [], _ => by simp
  | c :: L, h => by
    rw [List.map_cons, List.sum_cons, List.length_cons]
    have h1 := h c (by simp)
    have h2 := sum_le4 f L (fun d hd => h d (by simp [hd]))
    omega
theorem tdl_le {ds : List (List Int)} (hok : DclOk ds) (pre : List (CellIn ds)) (s : Nat) : tdl ds (pre.map (·.1)) s ≤ 4 * pre.length := by
  unfold tdl
  have h := sum_le4 (cdim ds) ((pre.map (·.1)).filter (onD s)) (fun c hc => by
    obtain ⟨x, _, rfl⟩ := List.mem_map.1 (List.mem_filter.1 hc).1
    exact (cdim_cast hok x.2).2)
  have h2 := List.length_filter_le (onD s) (pre.map (·.1))
  rw [List.length_map] at h2
  omega
theorem tdim_le {ds : List (List Int)} (hok : DclOk ds) (s : Nat) : tdim ds s ≤ 64 := by
  have h := sum_le4 (cdim ds) (dgn ds s) (fun c hc => (cdim_cast hok (mem_cells.2 (mem_dgn.1 hc).1)).2)
  have h2 := dgn_le hok s
  unfold tdim
  omega
/-- The degrees of the total. -/
def ttop (ds : List (List Int)) : Nat := ds.length + (ds.getD 0 []).length - 2
def tD (ds : List (List Int)) : List Int := (List.range (ttop ds + 1)).map fun s => ((tdim ds s : Nat) : Int)
def tM (ds : List (List Int)) (ac dn : List (List (List (List Int)))) : List (List (List Int)) := (List.range (ttop ds)).map (ttab ds ac dn)
theorem tD_len (ds : List (List Int)) : (tD ds).length = ttop ds + 1 := by simp [tD]
theorem tM_len (ds : List (List Int)) (ac dn : List (List (List (List Int)))) : (tM ds ac dn).length = ttop ds := by simp [tM]
theorem tD_at {ds : List (List Int)} {s : Nat} (h : s < ttop ds + 1) : (tD ds).getD s 0 = ((tdim ds s : Nat) : Int) := by simp [tD, h]
theorem tM_at {ds : List (List Int)} {ac dn : List (List (List (List Int)))} {s : Nat} (h : s < ttop ds) : (tM ds ac dn).getD s [] = ttab ds ac dn s := by simp [tM, h]

theorem gen_rc {lo : Nat} {W : World} {D : List Int} {M : List (List (List Int))} {bd bm n m : Nat} {f : Nat → Value} {b : Nat → Nat} (hm : m = M.length) (hn : n = D.length) (hb : n ≤ 1048576) (hb2 : m ≤ 1048576)
    (hdim : W.rowIs bd 2 n (fun j => .int .i64 (D.getD j 0))) (hfill : Fill3 W bm m m f b M) (l1 : lo ≤ bd) (l2 : lo ≤ bm) (l3 : bd < b 0) :
    RcW lo W.heap.size W (.slice (some ⟨bd, 0, none⟩) n n) (.slice (some ⟨bm, 0, none⟩) m m) D M := by
  obtain ⟨q3, J, s3, n3, d3, z3⟩ := hfill.parts hm hb2
  obtain ⟨q1, I, s1, n1, b1, z1⟩ := row_rc (xs := D) hdim hn.symm (fun i hi => by rw [getD_of_lt _ hi]) hb l1
  refine ⟨⟨q1, q3.wider l2 (Nat.le_refl _)⟩, I, J, s1, s3.wider l2 (Nat.le_refl _), n1, n3.wider ?_ (Nat.le_refl _), d3, fun x hx y hy => Or.inl ?_, z1, z3⟩
  · omega
  · have h1 := b1 x hx
    have h2 := (n3 y hy).1
    rw [h1]
    omega
theorem fill3_put {W : World} {g n k D : Nat} {f : Nat → Value} {b : Nat → Nat} {ts : List (List (List Int))} (h : Fill3 W g n k f b ts) (hD : D < b 0) (hg : D ≠ g) (o : Obj) : Fill3 (W.putObj D o) g n k f b ts := by
  have hb : ∀ i, i ≠ D → (W.putObj D o).heap[i]? = W.heap[i]? := fun i hi => World.putObj_heap_other (by omega)
  have h0 : ∀ j, j ≤ k → b 0 ≤ b j := by
    intro j
    induction j with
    | zero => intro _; exact Nat.le_refl _
    | succ j ih => intro hj; exact Nat.le_trans (ih (by omega)) (h.inc j (by omega))
  refine ⟨h.row.of_block (hb g (Ne.symm hg)), h.lo, h.inc, by simpa using h.hi, fun j hj hk => (h.at' j hj hk).same (fun i hi _ => hb i ?_)⟩
  have := h0 j (by omega)
  omega
theorem results_cx {fn : Func} {t : Tmp} (h : fn.results = #[.cell t 38]) (tmps : Array Value) (B : Nat) (x0 x1 x2 : Value) (W : World) (ht : tmps.getD t undef = .pointer (some ⟨B, 0, none⟩)) (c0 : W.cell? ⟨B, 0, none⟩ = some x0) (c1 : W.cell? ⟨B, 1, none⟩ = some x1) (c2 : W.cell? ⟨B, 2, none⟩ = some x2) :
    (results fn tmps).run Try.prog W = .ok (.agg #[x0, x1, x2]) W := by
  simp only [Array.getD_eq_getD_getElem?] at ht
  simp [results, h, ht, go_sem, c0, c1, c2]
theorem du_own {β : Type} {wB : World} {g bd bm n t B : Nat} {p : Int} (D : β → Nat → Value) (M : Nat → Value) (h0 : wB.heap.size ≤ B) (h1 : g < B) (h2 : bd < B) (h3 : bm < B) : OwnFrom B (fun (s : β) W => Du wB W g bd bm n t p (D s) M) := fun s X Y row h hg hr => by
  have hb : ∀ k, k < B → k < X.heap.size → Y.heap[k]? = X.heap[k]? := fun k hk hl => hg.block k hl (fun e => by have := (hr k e.symm).1; omega)
  exact ⟨⟨hg.os.trans h.below.os, hg.tape.trans h.below.tape, hg.output.trans h.below.output, Nat.le_trans h.below.size hg.size, fun k hk => (hb k (by omega) (by have := h.below.size; omega)).trans (h.below.block k hk)⟩,
    h.lo, h.ne, h.box.of_block (hb g h1 h.box.lt), h.dims.of_block (hb bd h2 h.dims.lt), h.maps.of_block (hb bm h3 h.maps.lt)⟩

section
variable {ops : Array Oper} {Q : Exit → Act → World → Prop} {n : Nat}
theorem lastQ_storeJ {on : Oper} {a : Act} {w : World} (hn : ops[n]? = some on) (hg : on.guard = none) (_ : on.dst = none) (x y : Operand) (ho : on.op = .store 2 x y)
    (b o : Nat) (z : Int) (u : Value) (hx : a.eval x = .pointer (some ⟨b, o, none⟩)) (hy : a.eval y = .int .i64 z) (hc : w.cell? ⟨b, o, none⟩ = some u) (hf : w.frozen? ⟨b, o, none⟩ = false)
    (h : Q .normal a (w.setCell ⟨b, o, none⟩ (.int .i64 z))) : lastQ Try.prog ops n Q .normal a w :=
  lastQ_of hn hg (by
    unfold Oper.wp execOp
    simp only [ho, hx, hy]
    go_simp
    exact h)
end
/-- No panic is left open. -/
def calmQ (Q : Exit → Act → World → Prop) : Exit → Act → World → Prop
  | .panic _, _, _ => False
  | .outgrown, _, _ => False
  | .normal, a, w => Q .normal a w
  | .ret, a, w => Q .ret a w
  | .exit i, a, w => Q (.exit i) a w
  | .goto t, a, w => Q (.goto t) a w
theorem wpIn_calm {F : Fence} {n : Nat} {P : Program} {c : Code} {Q : Exit → Act → World → Prop} {a : Act} {w : World} (h : c.wpIn F n P (calmQ Q) a w) : c.wpIn F n P Q a w :=
  wpIn_mono h (fun e _ _ h => by cases e <;> first | exact h | exact h.elim)
theorem calm_normal (Q : Exit → Act → World → Prop) (a : Act) (w : World) : calmQ Q .normal a w = Q .normal a w := rfl
theorem calm_ret (Q : Exit → Act → World → Prop) (a : Act) (w : World) : calmQ Q .ret a w = Q .ret a w := rfl
end Go.Proofs.Ytlopenephgabhaa

