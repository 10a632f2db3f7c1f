/-
  More steps of a region that draws its order: arithmetic, a slice of one new value, append, assign.
  What the reference model's elimination does to rows, in plain mathematics.
  The reference model's small steps on rows: l01Own, l01Mod, l01Inverse, l01Less by their contracts.
  The reference model's elimination: l01Rest by its contract.
  The reference model's elimination: l01Echelon by its contract.
-/
import Derived.Test.YtpdkfidmmjlmnabQb
import Derived.Great.BuildSlice
import Derived.Laws.AppendOwn
import Derived.Test.YtpdkfidmmjlmnabQd
import Derived.Test.YtpdkfidmmjlmnabQe
import Derived.Deep.AppendLies
namespace Go.Proofs.Ytpdkfidmmjlmnab
open Go.RowKit

section
variable {P : Program} {md : Region.Mode} {ops : Array Oper} {Q : Exit → Act → World → Prop} {S : World → Prop}
theorem yieldsIf_bin {o : Oper} {a : Act} {x y : Operand} {v u i : Value} {b : BinOp} {t t' : TypeId} (hg : o.guard = none) (ho : o.op = .binOp b t x y t') (hx : a.eval x = u) (hy : a.eval y = i) (hge : ∀ w, (eqGuard b t x y u i).run P w = .ok () w) (hrun : ∀ w, (binOp b t u i).run P w = .ok v w) : YieldsIf P ops S o v a :=
  Or.inl ⟨by unfold Region.wanted; rw [hg], fun w _ => by
    unfold execOp
    simp only [ho, hx, hy, Sem.run_bind, hge w, hrun w, Result.andThen_ok]
    rfl⟩
theorem yieldsIf_run {o : Oper} {a : Act} {v : Value} (hg : o.guard = none) (hrun : ∀ w, S w → (execOp a.eval o).run P w = .ok (.value v) w) : YieldsIf P ops S o v a :=
  Or.inl ⟨by unfold Region.wanted; rw [hg], hrun⟩
theorem yieldsIf_assign {o : Oper} {a : Act} {x : Operand} {v : Value} (hg : o.guard = none) (ho : o.op = .assign x) (hx : a.eval x = v) : YieldsIf P ops S o v a :=
  Or.inl ⟨by unfold Region.wanted; rw [hg], fun w _ => by
    unfold execOp
    simp only [ho, hx]
    rfl⟩
end
section
variable {md : Region.Mode} {ops : Array Oper} {Q : Exit → Act → World → Prop} {S : World → Prop}
/-- A slice of one new number. -/
theorem held_buildI {i : Nat} {oi : Oper} {fuel : Nat} {listed : Array Bool} {a : Act} {w : World} (d : Option Tmp) (hr : Region.ready md ops listed = [i]) (hi : ops[i]? = some oi) (hg : oi.guard = none) (hd : oi.dst = d)
    (x : Operand) (n : Int) (ho : oi.op = .buildSlice 22 1 #[(0, x)]) (hx : a.eval x = .int .i64 n)
    (h : S (w.alloc (.cells #[.int .i64 n] 2)) ∧ wpAnyH Try.prog md ops Q S fuel (listed.setIfInBounds i true) (a.put d (.slice (some ⟨w.heap.size, 0, none⟩) 1 1)) (w.alloc (.cells #[.int .i64 n] 2))) : wpAnyH Try.prog md ops Q S (fuel + 1) listed a w := by
  obtain ⟨ie, hie, hz, h1, _⟩ := info_parts Try.infoI
  subst hd
  refine held_call hr hi hg (wp_buildSlice 22 2 1 #[(0, x)] ho #[.int .i64 n] ie _ Try.underlying22 hie hz (by rw [h1]; decide) (by rw [h1]; decide) ?_ h)
  simp only [h1, List.map_toArray, List.map_cons, List.map_nil, hx]
  first | kernel_rfl | simp [Instr.fill]
/-- A slice of one new row. -/
theorem held_buildS {i : Nat} {oi : Oper} {fuel : Nat} {listed : Array Bool} {a : Act} {w : World} (d : Option Tmp) (hr : Region.ready md ops listed = [i]) (hi : ops[i]? = some oi) (hg : oi.guard = none) (hd : oi.dst = d)
    (x : Operand) (ad : Option Addr) (n c : Nat) (ho : oi.op = .buildSlice 26 1 #[(0, x)]) (hx : a.eval x = .slice ad n c)
    (h : S (w.alloc (.cells #[.slice ad n c] 22)) ∧ wpAnyH Try.prog md ops Q S fuel (listed.setIfInBounds i true) (a.put d (.slice (some ⟨w.heap.size, 0, none⟩) 1 1)) (w.alloc (.cells #[.slice ad n c] 22))) : wpAnyH Try.prog md ops Q S (fuel + 1) listed a w := by
  obtain ⟨ie, hie, hz, h1, _⟩ := info_parts Try.infoS
  subst hd
  refine held_call hr hi hg (wp_buildSlice 26 22 1 #[(0, x)] ho #[.slice ad n c] ie _ Try.underlying26 hie hz (by rw [h1]; decide) (by rw [h1]; decide) ?_ h)
  simp only [h1, List.map_toArray, List.map_cons, List.map_nil, hx]
  first | kernel_rfl | simp [Instr.fill]
/-- append of one number. -/
theorem held_appendI {i : Nat} {oi : Oper} {fuel : Nat} {listed : Array Bool} {a : Act} {w : World} (d : Option Tmp) (hr : Region.ready md ops listed = [i]) (hi : ops[i]? = some oi) (hg : oi.guard = none) (hd : oi.dst = d)
    (s x : Operand) (ho : oi.op = .call { callee := .builtin .append, args := #[s, x], argTypes := #[22, 22] }) (base : Nat) (v : Value) (n : Nat) (xs : List Value) (hs : a.eval s = v) (hown : w.ownsRow base 2 1 v n xs)
    (b : Nat) (y : Int) (hx : a.eval x = .slice (some ⟨b, 0, none⟩) 1 1) (hc : w.cell? ⟨b, 0, none⟩ = some (.int .i64 y)) (hn : n ≤ 2097152) (hb : base ≤ w.heap.size)
    (h : ∀ v' w', w'.ownsRow base 2 1 v' (n + 1) (xs ++ [.int .i64 y]) → w.grownBy w' v.ownBlock → S w' ∧ wpAnyH Try.prog md ops Q S fuel (listed.setIfInBounds i true) (a.put d v') w') : wpAnyH Try.prog md ops Q S (fuel + 1) listed a w := by
  obtain ⟨ie, hie, hz, h1, h2⟩ := info_parts Try.infoI
  subst hd
  refine held_call hr hi hg (wp_append_own w s x 22 ho base 2 ie _ 1 8 Try.underlying22 hie hz h1 h2 rfl (by decide) v n xs hs hown ⟨b, 0, none⟩ 1 1 [.int .i64 y] hx rfl ?_ ?_ (by unfold maxLen; omega) (by omega) hb (fun v' w' h2 h3 _ => h v' w' h2 h3))
  · intro j u hj
    match j, hj with
    | 0, hj =>
      simp at hj
      subst hj
      exact hc
  · intro u hu
    simp at hu
    subst hu
    rfl
/-- append of one row. -/
theorem held_appendS {i : Nat} {oi : Oper} {fuel : Nat} {listed : Array Bool} {a : Act} {w : World} (d : Option Tmp) (hr : Region.ready md ops listed = [i]) (hi : ops[i]? = some oi) (hg : oi.guard = none) (hd : oi.dst = d)
    (s x : Operand) (ho : oi.op = .call { callee := .builtin .append, args := #[s, x], argTypes := #[26, 26] }) (base : Nat) (v : Value) (n : Nat) (xs : List Value) (hs : a.eval s = v) (hown : w.ownsRow base 22 1 v n xs)
    (b : Nat) (ad : Option Addr) (m c : Nat) (hx : a.eval x = .slice (some ⟨b, 0, none⟩) 1 1) (hc : w.cell? ⟨b, 0, none⟩ = some (.slice ad m c)) (hn : n ≤ 2097152) (hb : base ≤ w.heap.size)
    (h : ∀ v' w', w'.ownsRow base 22 1 v' (n + 1) (xs ++ [.slice ad m c]) → w.grownBy w' v.ownBlock → S w' ∧ wpAnyH Try.prog md ops Q S fuel (listed.setIfInBounds i true) (a.put d v') w') : wpAnyH Try.prog md ops Q S (fuel + 1) listed a w := by
  obtain ⟨ie, hie, hz, h1, h2⟩ := info_parts Try.infoS
  subst hd
  refine held_call hr hi hg (wp_append_own w s x 26 ho base 22 ie _ 1 24 Try.underlying26 hie hz h1 h2 rfl (by decide) v n xs hs hown ⟨b, 0, none⟩ 1 1 [.slice ad m c] hx rfl ?_ ?_ (by unfold maxLen; omega) (by omega) hb (fun v' w' h2 h3 _ => h v' w' h2 h3))
  · intro j u hj
    match j, hj with
    | 0, hj =>
      simp at hj
      subst hj
      exact hc
  · intro u hu
    simp at hu
    subst hu
    rfl
end
theorem hmulI {a b : Int} (h0 : -1000 ≤ a * b) (h1 : a * b ≤ 1000) (w : World) : (binOp .mul 2 (.int .i64 a) (.int .i64 b)).run Try.prog w = .ok (.int .i64 (a * b)) w := by
  have hw : IntKind.i64.wrap (a * b) = a * b := IntWalk.i64_in _ (by omega)
  go_simp
theorem hsubI {a b : Int} (h0 : -1000 ≤ a - b) (h1 : a - b ≤ 1000) (w : World) : (binOp .sub 2 (.int .i64 a) (.int .i64 b)).run Try.prog w = .ok (.int .i64 (a - b)) w := by
  have hw : IntKind.i64.wrap (a - b) = a - b := IntWalk.i64_in _ (by omega)
  go_simp
theorem cell_alloc1 (w : World) (v : Value) (t : TypeId) : (w.alloc (.cells #[v] t)).cell? ⟨w.heap.size, 0, none⟩ = some v := by
  unfold World.cell?
  rw [heap_alloc_new w (.cells #[v] t)]
  rfl
theorem hidxI (b o : Nat) {k n : Nat} (cap : Nat) (hk : k < n) (w : World) : (Instr.indexAt 22 (.slice (some ⟨b, o, none⟩) n cap) (.int .i64 k)).run Try.prog w = .ok (.pointer (some ⟨b, o + k, none⟩)) w := by
  have h2 : (0 : Int) ≤ (k : Int) := by omega
  have h3 : (k : Int) < (n : Int) := by omega
  go_simp
theorem hidxS (b o : Nat) {k n : Nat} (cap : Nat) (hk : k < n) (w : World) : (Instr.indexAt 26 (.slice (some ⟨b, o, none⟩) n cap) (.int .i64 k)).run Try.prog w = .ok (.pointer (some ⟨b, o + k, none⟩)) w := by
  have h2 : (0 : Int) ≤ (k : Int) := by omega
  have h3 : (k : Int) < (n : Int) := by omega
  go_simp
theorem hloadS (w : World) {b o : Nat} {x : Value} (h : w.cell? ⟨b, o, none⟩ = some x) : (Instr.loadAt 22 (.pointer (some ⟨b, o, none⟩))).run Try.prog w = .ok x w := by go_simp
end Go.Proofs.Ytpdkfidmmjlmnab

namespace Go.Proofs.Ytpdkfidmmjlmnab
open Go.RowKit

theorem ld_ltn {n : Nat} {v : Lin.V} (hw : Lin.Wd n v) (hne : v ≠ Lin.zv) : Lin.ld v < n ∧ v (Lin.ld v) ≠ 0 ∧ ∀ j, j < Lin.ld v → v j = 0 := by
  obtain ⟨i, hi⟩ := Lin.ne_zv hne
  obtain ⟨h1, h2⟩ := Lin.ld_spec hi
  refine ⟨Classical.byContradiction fun hn => h1 (hw _ (by omega)), h1, h2⟩
theorem leadOf_toL {n : Nat} {u : Lin.V} (hw : Lin.Wd n u) (hne : u ≠ Lin.zv) : leadOf (toL n u) = (Lin.ld u : Int) := by
  obtain ⟨h1, h2, h3⟩ := ld_ltn hw hne
  refine leadOf_at (k := Lin.ld u) (by rw [toL_length]; exact h1) (fun j hj hjk => ?_) ?_
  · rw [toL_get]; exact h3 j hjk
  · rw [toL_get]; exact h2
theorem leadOf_zv (n : Nat) : leadOf (toL n Lin.zv) = -1 := leadOf_zero (fun j hj => by rw [toL_get]; rfl)
theorem leadOf_of_toL {n : Nat} {u : Lin.V} (hw : Lin.Wd n u) (h : leadOf (toL n u) < 0) : u = Lin.zv := Classical.byContradiction fun hne => by
  rw [leadOf_toL hw hne] at h
  omega

/-- What a reduced list of rows of n numbers has to do with a list. -/
structure RedN (p : Int) (n : Nat) (R T : List Lin.V) : Prop where
  red : Lin.Red p R
  wd : ∀ u ∈ R, Lin.Wd n u
  eqv : Lin.Eqv p R T
theorem RedN.nil (p : Int) (n : Nat) : RedN p n [] [] := ⟨Lin.Red.nil p, by simp, Lin.Eqv.refl _ _⟩
theorem RedN.skip {p : Int} (hp : 0 < p) {n : Nat} {R T : List Lin.V} (h : RedN p n R T) {v : Lin.V} (hT : ∀ w ∈ T, Lin.Md p w) (hv : Lin.Md p v) (hr : Lin.Rest p R v R.length Lin.zv) : RedN p n R (T ++ [v]) :=
  ⟨h.red, h.wd, Lin.skip_eqv hp h.red hT hv h.eqv hr⟩
theorem RedN.put {p : Int} (hp : 1 < p) {n : Nat} {R T : List Lin.V} (h : RedN p n R T) {v r u : Lin.V} {k : Nat} (hT : ∀ w ∈ T, Lin.Md p w) (hv : Lin.Md p v) (hr : Lin.Rest p R v R.length r) (hne : r ≠ Lin.zv) (hu : Lin.Unit p r u) (huw : Lin.Wd n u) (hk : k ≤ R.length)
    (hlo : ∀ w ∈ R.take k, Lin.ld w < Lin.ld u) (hhi : ∀ w ∈ R.drop k, ¬ Lin.ld w < Lin.ld u) : RedN p n (Lin.put p R k u) (T ++ [v]) := by
  have hf := Lin.fits_of hr hne hu hk hlo hhi
  refine ⟨hf.red hp h.red, fun x hx => ?_, Lin.put_eqv hp h.red hT hv h.eqv hr hu hf⟩
  rcases Lin.put_mem.1 hx with rfl | ⟨y, hy, rfl⟩
  · exact huw
  · exact Lin.add_wd _ (h.wd y hy) huw
theorem RedN.same {p : Int} (hp : 1 < p) {n : Nat} {R R' T : List Lin.V} (h : RedN p n R T) (k : RedOf p R' T) : R' = R :=
  Lin.Red.unique hp k.red h.red (fun v => (k.eqv v).trans (h.eqv v).symm)
theorem RedN.unique {p : Int} (hp : 1 < p) {n n' : Nat} {R R' T T' : List Lin.V} (h : RedN p n R T) (k : RedN p n' R' T') (e : Lin.Eqv p T T') : R' = R :=
  Lin.Red.unique hp k.red h.red (fun v => ((k.eqv v).trans (e v).symm).trans (h.eqv v).symm)

/-- A row less its multiple of u. -/
noncomputable def less1 (p : Int) (u w : Lin.V) : Lin.V := Lin.add p w (-(w (Lin.ld u))) u
/-- The next list while it is gathered: j rows have been seen; pt: the new row is in. -/
def Nx (p : Int) (R : List Lin.V) (u : Lin.V) (j : Nat) (pt : Bool) (N : List Lin.V) : Prop :=
  if pt then ∃ K, K ≤ j ∧ (∃ h : K < R.length, Lin.ld u < Lin.ld R[K]) ∧ (∀ w ∈ R.take K, Lin.ld w < Lin.ld u) ∧ N = Lin.put p (R.take j) K u
  else (∀ w ∈ R.take j, Lin.ld w < Lin.ld u) ∧ N = (R.take j).map (less1 p u)
theorem Nx.start (p : Int) (R : List Lin.V) (u : Lin.V) : Nx p R u 0 false [] := ⟨by simp, by simp⟩
theorem put_more {p : Int} {R : List Lin.V} {u : Lin.V} {j K : Nat} (hK : K ≤ j) (hj : j < R.length) : Lin.put p (R.take j) K u ++ [less1 p u R[j]] = Lin.put p (R.take (j + 1)) K u := by
  have hl : (R.take j).length = j := by simp; omega
  rw [List.take_succ_eq_append_getElem hj]
  unfold Lin.put
  rw [List.take_append_of_le_length (by omega), List.drop_append_of_le_length (by omega), List.map_append, List.append_assoc]
  rfl
theorem put_last {p : Int} {R : List Lin.V} {u : Lin.V} : (R.map (less1 p u)) ++ [u] = Lin.put p R R.length u := by
  unfold Lin.put
  rw [List.take_of_length_le (Nat.le_refl _), List.drop_of_length_le (Nat.le_refl _)]
  rfl
theorem Nx.keep {p : Int} {R : List Lin.V} {u : Lin.V} {j : Nat} {N : List Lin.V} (h : Nx p R u j true N) (hj : j < R.length) : Nx p R u (j + 1) true (N ++ [less1 p u R[j]]) := by
  obtain ⟨K, hK, hx, hlo, rfl⟩ := h
  exact ⟨K, by omega, hx, hlo, put_more hK hj⟩
theorem Nx.pass {p : Int} {R : List Lin.V} {u : Lin.V} {j : Nat} {N : List Lin.V} (h : Nx p R u j false N) (hj : j < R.length) (hlt : Lin.ld R[j] < Lin.ld u) : Nx p R u (j + 1) false (N ++ [less1 p u R[j]]) := by
  obtain ⟨hlo, rfl⟩ := h
  refine ⟨fun w hw => ?_, ?_⟩
  · rw [List.take_succ_eq_append_getElem hj] at hw
    rcases List.mem_append.1 hw with h1 | h1
    · exact hlo w h1
    · rw [List.mem_singleton.1 h1]; exact hlt
  · rw [List.take_succ_eq_append_getElem hj, List.map_append]
    rfl
theorem Nx.in' {p : Int} {R : List Lin.V} {u : Lin.V} {j : Nat} {N : List Lin.V} (h : Nx p R u j false N) (hj : j < R.length) (hlt : Lin.ld u < Lin.ld R[j]) : Nx p R u (j + 1) true (N ++ [u] ++ [less1 p u R[j]]) := by
  obtain ⟨hlo, rfl⟩ := h
  have hl : (R.take j).length = j := by simp; omega
  refine ⟨j, by omega, ⟨hj, hlt⟩, hlo, ?_⟩
  have e := put_last (p := p) (R := R.take j) (u := u)
  rw [e, hl]
  exact put_more (Nat.le_refl _) hj
theorem Nx.done {p : Int} {R : List Lin.V} {u : Lin.V} {N : List Lin.V} (hR : Lin.Red p R) (h : Nx p R u R.length true N) : ∃ K, K ≤ R.length ∧ N = Lin.put p R K u ∧ (∀ w ∈ R.take K, Lin.ld w < Lin.ld u) ∧ ∀ w ∈ R.drop K, ¬ Lin.ld w < Lin.ld u := by
  obtain ⟨K, hK, ⟨hk, hx⟩, hlo, rfl⟩ := h
  refine ⟨K, hK, by rw [List.take_of_length_le (Nat.le_refl _)], hlo, fun w hw => ?_⟩
  rw [List.drop_eq_getElem_cons hk] at hw
  have hp := hR.inc
  rw [← List.take_append_drop K R, List.drop_eq_getElem_cons hk] at hp
  have h2 := (List.pairwise_append.1 hp).2.1
  rcases List.mem_cons.1 hw with rfl | hw
  · omega
  · have := (List.pairwise_cons.1 h2).1 w hw
    omega
theorem Nx.end {p : Int} {R : List Lin.V} {u : Lin.V} {N : List Lin.V} (h : Nx p R u R.length false N) : ∃ K, K ≤ R.length ∧ N ++ [u] = Lin.put p R K u ∧ (∀ w ∈ R.take K, Lin.ld w < Lin.ld u) ∧ ∀ w ∈ R.drop K, ¬ Lin.ld w < Lin.ld u := by
  obtain ⟨hlo, rfl⟩ := h
  refine ⟨R.length, Nat.le_refl _, ?_, hlo, ?_⟩
  · rw [List.take_of_length_le (Nat.le_refl _)]
    exact put_last
  · rw [List.drop_of_length_le (Nat.le_refl _)]
    simp
theorem Nx.length {p : Int} {R : List Lin.V} {u : Lin.V} {j : Nat} {pt : Bool} {N : List Lin.V} (h : Nx p R u j pt N) (hj : j ≤ R.length) : N.length ≤ j + 1 := by
  have hl : (R.take j).length = j := by simp; omega
  cases pt with
  | true =>
    obtain ⟨K, hK, _, _, rfl⟩ := h
    rw [put_length p _ K u (by omega)]
    omega
  | false =>
    obtain ⟨_, rfl⟩ := h
    rw [List.length_map]
    omega
/-- A unit row's lead is none of the list's. -/
theorem lead_apart {p : Int} {R : List Lin.V} {v r u w : Lin.V} (hr : Lin.Rest p R v R.length r) (hu : Lin.Unit p r u) (hw : w ∈ R) : Lin.ld w ≠ Lin.ld u := fun e => by
  have h0 := hu.at0 _ (hr.off w (by rw [List.take_of_length_le (Nat.le_refl _)]; exact hw))
  rw [e, hu.one] at h0
  exact absurd h0 (by decide)
theorem nx_md {p : Int} {u : Lin.V} {n : Nat} (hp : 0 < p) (hu : Lin.Wd n u) (w : Lin.V) (hw : Lin.Wd n w) : Lin.Md p (less1 p u w) ∧ Lin.Wd n (less1 p u w) := ⟨Lin.add_md hp _ _ _, Lin.add_wd _ hw hu⟩
/-- The remainder as the reference model takes it. -/
theorem mod_twice {p x : Int} (hp : 0 < p) : (x.tmod p + p).tmod p = x % p := by
  have h1 : 0 ≤ x.tmod p + p := by
    have := Int.lt_tmod_of_pos x hp
    omega
  rw [Int.tmod_eq_emod_of_nonneg h1, Int.add_emod_right]
  rcases Int.le_total 0 x with h | h
  · rw [Int.tmod_eq_emod_of_nonneg h, Int.emod_emod_of_dvd x (Int.dvd_refl p)]
  · have e := Int.mul_tdiv_add_tmod x p
    have : x.tmod p = x + p * (-(x.tdiv p)) := by rw [Int.mul_neg]; omega
    rw [this, Int.add_mul_emod_self_left]
end Go.Proofs.Ytpdkfidmmjlmnab

namespace Go.Proofs.Ytpdkfidmmjlmnab
open Go.RowKit

/-- A row of numbers that a call has gathered above a base. -/
def Gb (base : Nat) (w : World) (u : Value) (xs : List Int) : Prop := w.ownsRow base 2 1 u xs.length (xs.map (Value.int .i64))
theorem Gb.g1 {base : Nat} {w : World} {u : Value} {xs : List Int} (h : Gb base w u xs) : G1 w u xs := owns_mono h (Nat.zero_le _)
theorem Gb.l1 {base : Nat} {w : World} {u : Value} {xs : List Int} (h : Gb base w u xs) : L1 0 w u xs := h.g1.l1
theorem Gb.below {base : Nat} {w w' : World} {u : Value} {xs : List Int} (h : Gb base w u xs) (hb : Below w.heap.size w w') : Gb base w' u xs := owns_below h hb
theorem Gb.mono {base base' : Nat} {w : World} {u : Value} {xs : List Int} (h : Gb base w u xs) (hb : base' ≤ base) : Gb base' w u xs := owns_mono h hb

theorem toL_succ (q : Nat) (v : Lin.V) : toL (q + 1) v = toL q v ++ [v q] := by simp [toL, List.range_succ]

def GbR (xs : List Int) (w : World) (e : Ending) (w' : World) : Prop := ∃ u, e = .returned u ∧ Gb w.heap.size w' u xs ∧ Below w.heap.size w w'

theorem run_append_zero (w : World) (ty : TypeId) (g : Nat) (ad : Option Addr) (cap : Nat) :
    (Builtin.append_ #[22, 22] ty #[.slice (some ⟨g, 0, none⟩) 0 0, .slice ad 0 cap]).run Try.prog w = .ok (.slice (some ⟨g, 0, none⟩) 0 0) w := by
  obtain ⟨i, hi, _, _, _⟩ := info_parts Try.infoI
  cases ad with
  | none => simp [Builtin.append_, run_underlying Try.underlying22, sizeOf, typeInfo, hi, Builtin.lenOf, Builtin.firstCells, storeCells]
  | some a =>
    have hl := run_loadCells_list (P := Try.prog) w a [] (by simp)
    simp at hl
    simp [Builtin.append_, run_underlying Try.underlying22, sizeOf, typeInfo, hi, Builtin.lenOf, Builtin.firstCells, storeCells, hl]
theorem wpList_append_run {ops : Array Oper} {rest : List Oper} {o : Oper} {a : Act} {w : World} {Q : Exit → Act → World → Prop} {P : Program} (hgd : o.guard = none) (d s : Operand) (t t' : TypeId)
    (ho : o.op = .call { callee := .builtin .append, args := #[d, s], argTypes := #[t, t'] }) (v u : Value) (hd : a.eval d = v) (hs : a.eval s = u) {v' : Value} {w' : World}
    (hr : (Builtin.append_ #[t, t'] o.type #[v, u]).run P w = .ok v' w') (h : wpList P ops Q rest (a.put o.dst v') w') : wpList P ops Q (o :: rest) a w :=
  wpList_plain hgd fun K hK => by
    unfold Oper.wp execOp
    simp only [ho, resolve, invoke, builtin, Sem.run_bind, Sem.run_pure, Result.andThen_ok, List.map_toArray, List.map_cons, List.map_nil, hd, hs, hr]
    exact hK _ _ h

set_option maxHeartbeats 800000 in
theorem l01Own_any (v : Value) (xs : List Int) (w : World) (h : L1 0 w v xs) (hm : xs.length ≤ 1048576) :
    Calls Try.prog 168 #[v] w (GbR xs w) := by
  have HOWN := Lib.hid (World.ownsRow_made (base := w.heap.size) (e := 2) (size := 1) w #[] 0 (Nat.le_refl _) (by unfold maxLen; omega) (by simp))
  obtain ⟨i1, hj, hy0, hy1, hy2⟩ := info_parts Try.infoI
  refine Sl.cases h (fun ad cap hx hv => ?_) (fun b o cap hv _ hpos hc => ?_)
  · subst hx hv
    clear h
    have hrun := fun W ty => run_append_zero W ty w.heap.size ad cap
    go_enter Try.func168, Try.ntmps168
    go_wp2_with (at_builtin; refine wpList_append_run rfl (.tmp 3) (.tmp 4) 22 22 rfl _ _ rfl rfl (hrun _ _) ?_)
    go_wp2
    go_ret
    exact ⟨_, rfl, by simpa [Gb] using HOWN.out, (Below.refl _ _).alloc (Nat.le_refl _) _⟩
  · subst hv
    clear h
    have HC := Lib.hid hc
    clear hc
    go_enter Try.func168, Try.ntmps168
    go_wp2_with (at_builtin; refine wpList_append_own _ rfl (.tmp 3) (.tmp 4) 22 rfl w.heap.size 2 i1 (.int .i64 0) 1 8 Try.underlying22 hj hy0 hy1 hy2 rfl (by decide) _ _ _ rfl HOWN.out ⟨b, o, none⟩ xs.length cap (xs.map (Value.int .i64)) rfl ?c0 ?c1 ?c2 ?c3 ?c4 ?c5 ?_)
    case c0 => simp
    case c1 =>
      intro j u hju
      have hj' : j < xs.length := by
        have := (List.getElem?_eq_some_iff.1 hju).1
        simpa using this
      obtain ⟨u2, h2, h3⟩ := HC.out j hj'
      rw [Addr.add_lit]
      have h4 := cell_lt h2
      rw [((Below.refl w.heap.size w).alloc (Nat.le_refl _) _).cell (p := ⟨b, o + j, none⟩) h4, h2, h3]
      simp [hj'] at hju
      rw [hju]
    case c2 => intro u hu; obtain ⟨x, _, rfl⟩ := List.mem_map.1 hu; rfl
    case c3 => unfold maxLen; omega
    case c4 => omega
    case c5 => simp
    intro v' w3 hown' hgrow _
    have HB3 : Hid (Below w.heap.size w w3) := Lib.hid (((Below.refl _ _).alloc (Nat.le_refl _) _).grown hgrow (by simp) (fun g hg => ((HOWN.out.lt) g hg).1))
    have HO3 := Lib.hid hown'
    clear hown' hgrow
    go_wp2
    go_ret
    exact ⟨_, rfl, by simpa [Gb] using HO3.out, HB3.out⟩

theorem tmod_bd {p x : Int} (hp : IsP p) : -7 < x.tmod p ∧ x.tmod p < 7 := by
  have h1 := Int.lt_tmod_of_pos x (show 0 < p by have := hp.lo; omega)
  have h2 := Int.tmod_lt_of_pos x (show 0 < p by have := hp.lo; omega)
  have := hp.hi
  omega
set_option maxHeartbeats 400000 in
theorem l01Mod_any (p x : Int) (w : World) (hp : IsP p) : Calls Try.prog 169 #[.int .i64 p, .int .i64 x] w (QW (.int .i64 (x % p)) w) := by
  have HM := Lib.hid (mod_twice (x := x) (show 0 < p by have := hp.lo; omega))
  obtain ⟨hb0, hb1⟩ := tmod_bd (x := x) hp
  have hp0 := hp.lo
  have hp1 := hp.hi
  obtain ⟨r, hr⟩ : ∃ r, r = x.tmod p := ⟨_, rfl⟩
  rw [← hr] at hb0 hb1
  have HR := Lib.hid hr
  clear hr
  go_enter Try.func169, Try.ntmps169
  go_wp2
  rw [← HR.out]
  have hw : wrap64 (r + p) = r + p := by unfold wrap64; omega
  go_ret
  exact ⟨ret_int (by rw [← HM.out, ← HR.out, hw]), rfl⟩

set_option maxHeartbeats 800000 in
theorem l01Inverse_any (p a : Int) (w : World) (hp : IsP p) (h0 : 0 < a) (h1 : a < p) : Calls Try.prog 196 #[.int .i64 p, .int .i64 a] w (InvR p a w) := by
  obtain ⟨d, hd1, hdp, hd⟩ := inv_ex hp h0 h1
  have hp7 := hp.hi7
  have hp1 := hp.lo1
  have HD := Lib.hid hd
  have HP := Lib.hid hp
  have HAM : Hid (a % p = a) := Lib.hid (Int.emod_eq_of_lt (by omega) h1)
  clear hd hp
  go_enter Try.func196, Try.ntmps196
  go_wp2
  go_loop [5] (fun i => ∃ k : Nat, 1 ≤ k ∧ k ≤ d ∧ i = .int .i64 k) (fun i => d + 1 - (intOf i).toNat)
  case atStart => exact ⟨1, Nat.le_refl _, hd1, rfl⟩
  case round =>
    obtain ⟨k, hk1, hk, rfl⟩ := hrel
    obtain ⟨hm0, hm1⟩ := mul_bd HP.out (a := (k : Int)) (b := a) (by omega) (by omega) (by omega) (by omega)
    have hkp : (k : Int) < p := by omega
    go_wp2_with fail
    have hmod := l01Mod_any p a w HP.out
    rw [HAM.out] at hmod
    refine hmod.mono ?_
    clear hmod
    rintro e w' ⟨rfl, rfl⟩
    by_cases hq : (k : Int) * a % p = 1
    · have hx : ((k : Int) * a % p == 1) = true := by rw [hq]; rfl
      have HQ := Lib.hid hq
      clear hq
      go_wp2
      go_ret
      exact ⟨k, rfl, rfl, hk1, by omega, HQ.out⟩
    · have hx : ((k : Int) * a % p == 1) = false := by simp [hq]
      have hkd : k < d := by
        rcases Nat.lt_or_ge k d with h | h
        · exact h
        · have : k = d := by omega
          subst this
          exact absurd HD.out hq
      clear hq
      go_wp2
      go_round
      case rel => exact ⟨k + 1, by omega, by omega, by go_num⟩
      case measure => simp [intOf]; omega

/-- What l01Less computes, number by number, stays small. -/
theorem less_bd {p k a b : Int} (hp : IsP p) (hb : 0 ≤ b ∧ b < p) (hk : 0 ≤ k ∧ k < p) : 0 ≤ k * b ∧ k * b ≤ 42 ∧ (a - k * b) % p = (a + -k * b) % p := by
  obtain ⟨h1, h2⟩ := mul_bd hp hk.1 hk.2 hb.1 (Int.le_of_lt hb.2)
  exact ⟨h1, h2, by rw [Int.neg_mul, Int.sub_eq_add_neg]⟩

set_option maxHeartbeats 3200000 in
set_option maxRecDepth 100000 in
theorem l01Less_any (p k : Int) (n : Nat) (va vb : Value) (u t : Lin.V) (w : World) (hp : IsP p) (ha : L1 0 w va (toL n u)) (hb : L1 0 w vb (toL n t)) (hu : Lin.Md p u) (ht : Lin.Md p t) (hk : 0 ≤ k ∧ k < p) (hn : n ≤ 1048576) :
    Calls Try.prog 197 #[.int .i64 p, va, vb, .int .i64 k] w (GbR (toL n (Lin.add p u (-k) t)) w) := by
  have HP := Lib.hid hp
  have hp7 := hp.hi7
  have hp1 := hp.lo1
  have HA := Lib.hid ha
  have HB := Lib.hid hb
  have HU := Lib.hid hu
  have HT := Lib.hid ht
  obtain ⟨y, hy⟩ : ∃ y, y = Lin.add p u (-k) t := ⟨_, rfl⟩
  have HY := Lib.hid hy
  rw [← hy]
  obtain ⟨i1, hj, hy0, hy1, hy2⟩ := info_parts Try.infoI
  have HOWN := Lib.hid (World.ownsRow_made (base := w.heap.size) (e := 2) (size := 1) w #[] 0 (Nat.le_refl _) (by unfold maxLen; omega) (by simp))
  obtain ⟨ada, capa, hva⟩ := Sl.shape ha
  obtain ⟨adb, capb, hvb⟩ := Sl.shape hb
  rw [toL_length] at hva hvb
  subst hva hvb
  clear hp ha hb hu ht hy
  go_enter Try.func197, Try.ntmps197
  go_wp2
  go_loopw [9, 10] (fun o i wr => ∃ (q : Nat), q ≤ n ∧ i = .int .i64 q ∧ Hid (Below w.heap.size w wr) ∧ Hid (wr.ownsRow w.heap.size 2 1 o q ((toL q y).map (Value.int .i64)))) (fun _ i _ => n - (intOf i).toNat)
  case atStart => exact ⟨0, Nat.zero_le _, rfl, Lib.hid ((Below.refl _ _).alloc (Nat.le_refl _) _), Lib.hid (by simpa [toL] using HOWN.out)⟩
  case round =>
    clear HOWN
    obtain ⟨q, hq, rfl, HBE, HO⟩ := hrel
    by_cases hlt : q < n
    · refine Sl.cases HA.out (fun _ _ hx _ => absurd hlt (by have := congrArg List.length hx; rw [toL_length] at this; simp at this; omega)) (fun ba oa ca hva _ _ hca => ?_)
      refine Sl.cases HB.out (fun _ _ hx _ => absurd hlt (by have := congrArg List.length hx; rw [toL_length] at this; simp at this; omega)) (fun bb ob cb hvb _ _ hcb => ?_)
      rw [toL_length] at hva hvb
      obtain ⟨rfl, rfl⟩ : ada = some ⟨ba, oa, none⟩ ∧ capa = ca := by simpa using hva
      obtain ⟨rfl, rfl⟩ : adb = some ⟨bb, ob, none⟩ ∧ capb = cb := by simpa using hvb
      obtain ⟨ua, hua, hra⟩ := hca q (by rw [toL_length]; exact hlt)
      obtain ⟨ub, hub, hrb⟩ := hcb q (by rw [toL_length]; exact hlt)
      rw [toL_get] at hra hrb
      obtain ⟨a, haa⟩ : ∃ a, a = u q := ⟨_, rfl⟩
      obtain ⟨b, hbb⟩ : ∃ b, b = t q := ⟨_, rfl⟩
      have hab := HU.out q
      have hbb2 := HT.out q
      rw [← haa] at hra hab
      rw [← hbb] at hrb hbb2
      have h1 : wr.cell? ⟨ba, oa + q, none⟩ = some (.int .i64 a) := by rw [later HBE.out (Nat.le_refl _) hua, hra]
      have h2 : wr.cell? ⟨bb, ob + q, none⟩ = some (.int .i64 b) := by rw [later HBE.out (Nat.le_refl _) hub, hrb]
      obtain ⟨m0, m1, m2⟩ := less_bd (a := a) HP.out hbb2 hk
      have HM2 : Hid ((a - k * b) % p = y q) := Lib.hid (by rw [m2, HY.out, haa, hbb]; rfl)
      have hmod := fun W => l01Mod_any p (a - k * b) W HP.out
      rw [HM2.out] at hmod
      have HMOD := Lib.hid hmod
      have hsz : w.heap.size ≤ wr.heap.size := HBE.out.size
      have hca1 : ∀ W, Below w.heap.size w W → W.cell? ⟨ba, oa + q, none⟩ = some (.int .i64 a) := fun W h => by rw [later h (Nat.le_refl _) hua, hra]
      have hcb1 : ∀ W, Below w.heap.size w W → W.cell? ⟨bb, ob + q, none⟩ = some (.int .i64 b) := fun W h => by rw [later h (Nat.le_refl _) hub, hrb]
      have hmul : ∀ w, (binOp .mul 2 (.int .i64 k) (.int .i64 b)).run Try.prog w = .ok (.int .i64 (k * b)) w := fun w => hmulI (by omega) (by omega) w
      have hsub : ∀ w, (binOp .sub 2 (.int .i64 a) (.int .i64 (k * b))).run Try.prog w = .ok (.int .i64 (a - k * b)) w := fun w => hsubI (by omega) (by omega) w
      clear h1 h2
      clear hra hrb hca hcb hva hvb m2 haa hbb hmod
      go_wp2
      refine wp_region_held (S := fun W => Below w.heap.size w W) (by kernel_rfl) ?_
      have S0 : Below w.heap.size w wr.drew := HBE.out.drew
      refine held_take (i := 0) (v := u9) (some 18) rfl rfl (by kernel_rfl) (by kernel_rfl) (by kernel_rfl) (fun _ _ _ h => h) (yieldsIf_move (by kernel_rfl) rfl (by kernel_rfl)) S0 ?_
      refine held_take (i := 1) (v := .int .i64 p) (some 19) rfl rfl (by kernel_rfl) (by kernel_rfl) (by kernel_rfl) (fun _ _ _ h => h) (yieldsIf_move (by kernel_rfl) rfl (by kernel_rfl)) S0 ?_
      refine held_take (i := 2) (v := .slice (some ⟨ba, oa, none⟩) n capa) (some 20) rfl rfl (by kernel_rfl) (by kernel_rfl) (by kernel_rfl) (fun _ _ _ h => h) (yieldsIf_move (by kernel_rfl) rfl (by kernel_rfl)) S0 ?_
      refine held_take (i := 3) (v := .int .i64 (q : Int)) (some 21) rfl rfl (by kernel_rfl) (by kernel_rfl) (by kernel_rfl) (fun _ _ _ h => h) (yieldsIf_move (by kernel_rfl) rfl (by kernel_rfl)) S0 ?_
      refine held_take (i := 4) (v := .pointer (some ⟨ba, oa + q, none⟩)) (some 22) rfl rfl (by kernel_rfl) (by kernel_rfl) (by kernel_rfl) (fun _ _ _ h => h) (yieldsIf_index (by kernel_rfl) rfl (by kernel_rfl) (by kernel_rfl) (hidxI ba oa capa hlt)) S0 ?_
      refine held_take (i := 5) (v := .int .i64 a) (some 23) rfl rfl (by kernel_rfl) (by kernel_rfl) (by kernel_rfl) (fun _ _ _ h => h) (yieldsIf_cell (by kernel_rfl) rfl (by kernel_rfl) (fun W h => hload W (hca1 W h))) S0 ?_
      refine held_take (i := 6) (v := .int .i64 k) (some 24) rfl rfl (by kernel_rfl) (by kernel_rfl) (by kernel_rfl) (fun _ _ _ h => h) (yieldsIf_move (by kernel_rfl) rfl (by kernel_rfl)) S0 ?_
      refine held_take (i := 7) (v := .slice (some ⟨bb, ob, none⟩) n capb) (some 25) rfl rfl (by kernel_rfl) (by kernel_rfl) (by kernel_rfl) (fun _ _ _ h => h) (yieldsIf_move (by kernel_rfl) rfl (by kernel_rfl)) S0 ?_
      refine held_take (i := 8) (v := .int .i64 (q : Int)) (some 26) rfl rfl (by kernel_rfl) (by kernel_rfl) (by kernel_rfl) (fun _ _ _ h => h) (yieldsIf_move (by kernel_rfl) rfl (by kernel_rfl)) S0 ?_
      refine held_take (i := 9) (v := .pointer (some ⟨bb, ob + q, none⟩)) (some 27) rfl rfl (by kernel_rfl) (by kernel_rfl) (by kernel_rfl) (fun _ _ _ h => h) (yieldsIf_index (by kernel_rfl) rfl (by kernel_rfl) (by kernel_rfl) (hidxI bb ob capb hlt)) S0 ?_
      refine held_take (i := 10) (v := .int .i64 b) (some 28) rfl rfl (by kernel_rfl) (by kernel_rfl) (by kernel_rfl) (fun _ _ _ h => h) (yieldsIf_cell (by kernel_rfl) rfl (by kernel_rfl) (fun W h => hload W (hcb1 W h))) S0 ?_
      refine held_take (i := 11) (v := .int .i64 (k * b)) (some 29) rfl rfl (by kernel_rfl) (by kernel_rfl) (by kernel_rfl) (fun _ _ _ h => h) (yieldsIf_bin (by kernel_rfl) rfl (by kernel_rfl) (by kernel_rfl) (fun _ => rfl) hmul) S0 ?_
      refine held_take (i := 12) (v := .int .i64 (a - k * b)) (some 30) rfl rfl (by kernel_rfl) (by kernel_rfl) (by kernel_rfl) (fun _ _ _ h => h) (yieldsIf_bin (by kernel_rfl) rfl (by kernel_rfl) (by kernel_rfl) (fun _ => rfl) hsub) S0 ?_
      refine held_enter (i := 13) (some 31) (f := 169) (args := #[.int .i64 p, .int .i64 (a - k * b)]) (by kernel_rfl) rfl rfl rfl (by kernel_rfl) (HMOD.out _) ?_ (fun c w' h => by cases h.1) (fun w' h => by cases h.1)
      rintro e4 W4 ⟨he4, rfl⟩
      injection he4 with he4
      subst he4
      refine ⟨S0, ?_⟩
      have S1 : Below w.heap.size w (wr.drew.alloc (.cells #[.int .i64 (y q)] 2)) := S0.alloc hsz _
      have HOX := Lib.hid (HO.out.alloc (.cells #[.int .i64 (y q)] 2))
      refine held_buildI (i := 14) (some 32) (by kernel_rfl) rfl rfl rfl (.tmp 31) (y q) rfl (by kernel_rfl) ⟨S1, ?_⟩
      refine held_appendI (i := 15) (some 33) (by kernel_rfl) rfl rfl rfl (.tmp 18) (.tmp 32) rfl w.heap.size u9 q _ (by kernel_rfl) HOX.out wr.heap.size (y q) (by kernel_rfl) (cell_alloc1 wr.drew _ _) (by omega) (by simp; omega) ?_
      intro v' w3 hown hgrow
      have S2 : Below w.heap.size w w3 := S1.grown hgrow (by simp; omega) (fun g hg => ((HOX.out.lt) g hg).1)
      have HB3 := Lib.hid S2
      have HO3 : Hid (w3.ownsRow w.heap.size 2 1 v' (q + 1) ((toL (q + 1) y).map (Value.int .i64))) := Lib.hid (by rw [toL_succ, List.map_append]; exact hown)
      refine ⟨S2, ?_⟩
      refine held_take (i := 16) (v := v') (some 9) rfl rfl (by kernel_rfl) (by kernel_rfl) (by kernel_rfl) (fun _ _ _ h => h) (yieldsIf_assign (by kernel_rfl) rfl (by kernel_rfl)) S2 ?_
      refine wpAnyH_done (by kernel_rfl) ?_ _
      simp only [Act.put, List.setIfInBounds_toArray, List.set_cons_zero, List.set_cons_succ]
      clear S0 S1 S2 hown hgrow hca1 hcb1 hmul hsub HOX HO HBE
      go_wp2
      go_roundw
      case rel => exact ⟨q + 1, by omega, by go_num, HB3, HO3⟩
      case measure => simp [intOf]; omega
    · have hqq : Hid (q = n) := Lib.hid (by omega)
      go_wp2
      go_ret
      refine ⟨_, rfl, ?_, HBE.out⟩
      have := HO.out
      rw [hqq.out] at this
      unfold Gb
      rw [toL_length]
      exact this
end Go.Proofs.Ytpdkfidmmjlmnab

namespace Go.Proofs.Ytpdkfidmmjlmnab
open Go.RowKit

def RestR (p : Int) (n : Nat) (R : List Lin.V) (v : Lin.V) (w : World) (e : Ending) (w' : World) : Prop :=
  ∃ (u : Value) (r : Lin.V), e = .returned u ∧ Gb w.heap.size w' u (toL n r) ∧ Below w.heap.size w w' ∧ Lin.Rest p R v R.length r ∧ Lin.Wd n r

/-- A row of n numbers lies somewhere, if there are any. -/
theorem l1_toL {lo : Nat} {w : World} {u : Value} {n : Nat} {v : Lin.V} (h : L1 lo w u (toL n v)) (hn : 0 < n) : ∃ b o cap, u = .slice (some ⟨b, o, none⟩) n cap ∧ ∀ k, k < n → w.cell? ⟨b, o + k, none⟩ = some (.int .i64 (v k)) := by
  refine Sl.cases h (fun _ _ hx _ => by have := congrArg List.length hx; rw [toL_length] at this; simp at this; omega) (fun b o cap hv _ _ hc => ⟨b, o, cap, by rw [hv, toL_length], fun k hk => ?_⟩)
  obtain ⟨x, hx, hr⟩ := hc k (by rw [toL_length]; exact hk)
  rw [toL_get] at hr
  rw [hx, hr]
theorem l1_slice {lo : Nat} {w : World} {u : Value} {n : Nat} {v : Lin.V} (h : L1 lo w u (toL n v)) : ∃ ad cap, u = .slice ad n cap := by
  obtain ⟨ad, cap, hv⟩ := Sl.shape h
  exact ⟨ad, cap, by rw [hv, toL_length]⟩

set_option maxHeartbeats 3200000 in
set_option maxRecDepth 100000 in
theorem l01Rest_any (p : Int) (n : Nat) (vl vr : Value) (R : List Lin.V) (v : Lin.V) (w : World) (hp : IsP p) (hL : L2 0 w vl (R.map (toL n))) (hv : L1 0 w vr (toL n v)) (hR : Lin.Red p R) (hw : ∀ u ∈ R, Lin.Wd n u) (hm : Lin.Md p v) (hvw : Lin.Wd n v) (hn : n ≤ 1048576) (hl : R.length ≤ 1048576) :
    Calls Try.prog 195 #[.int .i64 p, vl, vr] w (RestR p n R v w) := by
  have HP := Lib.hid hp
  have HL := Lib.hid hL
  have HR := Lib.hid hR
  have HW := Lib.hid hw
  have HM := Lib.hid hm
  have HVW := Lib.hid hvw
  have HOWN := Lib.hid (l01Own_any vr (toL n v) w hv (by rw [toL_length]; exact hn))
  obtain ⟨al, cl, hvl⟩ := Sl.shape hL
  rw [List.length_map] at hvl
  subst hvl
  clear hp hL hR hw hm hvw hv
  go_enter Try.func195, Try.ntmps195
  go_wp2_with fail
  refine HOWN.out.mono ?_
  rintro e w1 ⟨u1, rfl, hg1, hb1⟩
  have HG1 := Lib.hid hg1
  have HB1 := Lib.hid hb1
  clear hg1 hb1 HOWN
  go_wp2
  go_loopw [7, 8] (fun o i wr => ∃ (k : Nat) (r : Lin.V), k ≤ R.length ∧ i = .int .i64 k ∧ Hid (Below w.heap.size w wr) ∧ Hid (Gb w.heap.size wr o (toL n r)) ∧ Hid (Lin.Rest p R v k r) ∧ Hid (Lin.Wd n r)) (fun _ i _ => R.length - (intOf i).toNat)
  case atStart => exact ⟨0, v, Nat.zero_le _, rfl, HB1, HG1, Lib.hid (Lin.Rest.start HM.out), HVW⟩
  case round =>
    clear HG1 HB1
    obtain ⟨k, r, hk, rfl, HB, HG, HRE, HRW⟩ := hrel
    have hsz : w.heap.size ≤ wr.heap.size := HB.out.size
    by_cases hlt : k < R.length
    · refine Sl.cases HL.out (fun _ _ hx _ => absurd hlt (by have := congrArg List.length hx; simp at this; simp [this])) (fun b o c2 hvv _ _ hc => ?_)
      rw [List.length_map] at hvv
      obtain ⟨rfl, rfl⟩ : al = some ⟨b, o, none⟩ ∧ cl = c2 := by simpa using hvv
      obtain ⟨ur, hur, hrr⟩ := hc k (by rw [List.length_map]; exact hlt)
      rw [List.getElem_map] at hrr
      obtain ⟨t, ht⟩ : ∃ t, t = R[k] := ⟨_, rfl⟩
      have HTE := Lib.hid ht
      rw [← ht] at hrr
      have HTW : Hid (Lin.Wd n t) := Lib.hid (by rw [ht]; exact HW.out _ (List.getElem_mem hlt))
      have HTM : Hid (Lin.Md p t) := Lib.hid (by rw [ht]; exact HR.out.md _ (List.getElem_mem hlt))
      have HTN : Hid (t ≠ Lin.zv) := Lib.hid (by rw [ht]; exact HR.out.ne (List.getElem_mem hlt))
      obtain ⟨hdn, _, _⟩ := ld_ltn HTW.out HTN.out
      obtain ⟨d, hd⟩ : ∃ d, d = Lin.ld t := ⟨_, rfl⟩
      have HD := Lib.hid hd
      rw [← hd] at hdn
      obtain ⟨g, og, cg, hou, hcell⟩ := l1_toL HG.out.l1 (show 0 < n by omega)
      subst hou
      obtain ⟨f, hf⟩ : ∃ f, f = r d := ⟨_, rfl⟩
      have HF := Lib.hid hf
      have hfb := HRE.out.md d
      rw [← hf] at hfb
      obtain ⟨ar, cr, hus⟩ := l1_slice hrr
      subst hus
      have HROW := Lib.hid hrr
      have hrow1 : ∀ W, Below wr.heap.size wr W → W.cell? ⟨b, o + k, none⟩ = some (.slice ar n cr) := fun W h => later (HB.out.trans (h.mono hsz)) (Nat.le_refl _) hur
      have hcell1 : ∀ W, Below wr.heap.size wr W → W.cell? ⟨g, og + d, none⟩ = some (.int .i64 f) := fun W h => by rw [hf]; exact later h (Nat.le_refl _) (hcell d hdn)
      obtain ⟨y, hy⟩ : ∃ y, y = Lin.add p r (-f) t := ⟨_, rfl⟩
      have HRE2 : Hid (Lin.Rest p R v (k + 1) y) := Lib.hid (by rw [hy, HF.out, HD.out, HTE.out]; exact HRE.out.step (by have := HP.out.lo1; omega) HR.out hlt)
      have HYW : Hid (Lin.Wd n y) := Lib.hid (by rw [hy]; exact Lin.add_wd _ HRW.out HTW.out)
      have HLEAD : Hid (∀ W, Below wr.heap.size wr W → Calls Try.prog 108 #[.slice ar n cr] W (QW (.int .i64 (d : Int)) W)) := Lib.hid (fun W h => by
        have := l01Lead_any _ _ W (HROW.out.below (HB.out.trans (h.mono hsz))) (by rw [toL_length]; exact hn)
        rwa [leadOf_toL HTW.out HTN.out, ← HD.out] at this)
      have HLESS : Hid (∀ W, Below wr.heap.size wr W → Calls Try.prog 197 #[.int .i64 p, .slice (some ⟨g, og, none⟩) n cg, .slice ar n cr, .int .i64 f] W (GbR (toL n y) W)) := Lib.hid (fun W h => by
        rw [hy]
        exact l01Less_any p f n _ _ r t W HP.out ((HG.out.below h).l1) (HROW.out.below (HB.out.trans (h.mono hsz))) HRE.out.md HTM.out hfb hn)
      clear hvv hc hur hrr ht hd hcell hf hy hfb
      go_wp2
      refine wp_region_held (S := fun W => Below wr.heap.size wr W) (by kernel_rfl) ?_
      have S0 : Below wr.heap.size wr wr.drew := (Below.refl _ _).drew
      refine held_take (i := 0) (v := .int .i64 p) (some 17) rfl rfl (by kernel_rfl) (by kernel_rfl) (by kernel_rfl) (fun _ _ _ h => h) (yieldsIf_move (by kernel_rfl) rfl (by kernel_rfl)) S0 ?_
      refine held_take (i := 1) (v := .slice (some ⟨g, og, none⟩) n cg) (some 18) rfl rfl (by kernel_rfl) (by kernel_rfl) (by kernel_rfl) (fun _ _ _ h => h) (yieldsIf_move (by kernel_rfl) rfl (by kernel_rfl)) S0 ?_
      refine held_take (i := 2) (v := .slice (some ⟨b, o, none⟩) R.length cl) (some 19) rfl rfl (by kernel_rfl) (by kernel_rfl) (by kernel_rfl) (fun _ _ _ h => h) (yieldsIf_move (by kernel_rfl) rfl (by kernel_rfl)) S0 ?_
      refine held_take (i := 3) (v := .int .i64 (k : Int)) (some 20) rfl rfl (by kernel_rfl) (by kernel_rfl) (by kernel_rfl) (fun _ _ _ h => h) (yieldsIf_move (by kernel_rfl) rfl (by kernel_rfl)) S0 ?_
      refine held_take (i := 4) (v := .pointer (some ⟨b, o + k, none⟩)) (some 21) rfl rfl (by kernel_rfl) (by kernel_rfl) (by kernel_rfl) (fun _ _ _ h => h) (yieldsIf_index (by kernel_rfl) rfl (by kernel_rfl) (by kernel_rfl) (hidxS b o cl hlt)) S0 ?_
      refine held_take (i := 5) (v := .slice ar n cr) (some 22) rfl rfl (by kernel_rfl) (by kernel_rfl) (by kernel_rfl) (fun _ _ _ h => h) (yieldsIf_cell (by kernel_rfl) rfl (by kernel_rfl) (fun W h => hloadS W (hrow1 W h))) S0 ?_
      refine held_take (i := 6) (v := .slice (some ⟨g, og, none⟩) n cg) (some 23) rfl rfl (by kernel_rfl) (by kernel_rfl) (by kernel_rfl) (fun _ _ _ h => h) (yieldsIf_move (by kernel_rfl) rfl (by kernel_rfl)) S0 ?_
      refine held_take (i := 7) (v := .slice (some ⟨b, o, none⟩) R.length cl) (some 24) rfl rfl (by kernel_rfl) (by kernel_rfl) (by kernel_rfl) (fun _ _ _ h => h) (yieldsIf_move (by kernel_rfl) rfl (by kernel_rfl)) S0 ?_
      refine held_take (i := 8) (v := .int .i64 (k : Int)) (some 25) rfl rfl (by kernel_rfl) (by kernel_rfl) (by kernel_rfl) (fun _ _ _ h => h) (yieldsIf_move (by kernel_rfl) rfl (by kernel_rfl)) S0 ?_
      refine held_take (i := 9) (v := .pointer (some ⟨b, o + k, none⟩)) (some 26) rfl rfl (by kernel_rfl) (by kernel_rfl) (by kernel_rfl) (fun _ _ _ h => h) (yieldsIf_index (by kernel_rfl) rfl (by kernel_rfl) (by kernel_rfl) (hidxS b o cl hlt)) S0 ?_
      refine held_take (i := 10) (v := .slice ar n cr) (some 27) rfl rfl (by kernel_rfl) (by kernel_rfl) (by kernel_rfl) (fun _ _ _ h => h) (yieldsIf_cell (by kernel_rfl) rfl (by kernel_rfl) (fun W h => hloadS W (hrow1 W h))) S0 ?_
      refine held_enter (i := 11) (some 28) (f := 108) (args := #[.slice ar n cr]) (by kernel_rfl) rfl rfl rfl (by kernel_rfl) (HLEAD.out _ S0) ?_ (fun c w' h => by cases h.1) (fun w' h => by cases h.1)
      rintro e4 W4 ⟨he4, rfl⟩
      injection he4 with he4
      subst he4
      refine ⟨S0, ?_⟩
      refine held_take (i := 12) (v := .pointer (some ⟨g, og + d, none⟩)) (some 29) rfl rfl (by kernel_rfl) (by kernel_rfl) (by kernel_rfl) (fun _ _ _ h => h) (yieldsIf_index (by kernel_rfl) rfl (by kernel_rfl) (by kernel_rfl) (hidxI g og cg hdn)) S0 ?_
      refine held_take (i := 13) (v := .int .i64 f) (some 30) rfl rfl (by kernel_rfl) (by kernel_rfl) (by kernel_rfl) (fun _ _ _ h => h) (yieldsIf_cell (by kernel_rfl) rfl (by kernel_rfl) (fun W h => hload W (hcell1 W h))) S0 ?_
      refine held_enter (i := 14) (some 31) (f := 197) (args := #[.int .i64 p, .slice (some ⟨g, og, none⟩) n cg, .slice ar n cr, .int .i64 f]) (by kernel_rfl) rfl rfl rfl (by kernel_rfl) (HLESS.out _ S0) ?_ (fun c w' h => by obtain ⟨_, h, _⟩ := h; cases h) (fun w' h => by obtain ⟨_, h, _⟩ := h; cases h)
      rintro e5 W5 ⟨u5, he5, hg5, hb5⟩
      injection he5 with he5
      subst he5
      have S1 : Below wr.heap.size wr W5 := S0.trans hb5
      have HB5 := Lib.hid (HB.out.trans (S1.mono hsz))
      have HG5 : Hid (Gb w.heap.size W5 e5 (toL n y)) := Lib.hid (hg5.mono hsz)
      refine ⟨S1, ?_⟩
      refine held_take (i := 15) (v := e5) (some 7) rfl rfl (by kernel_rfl) (by kernel_rfl) (by kernel_rfl) (fun _ _ _ h => h) (yieldsIf_assign (by kernel_rfl) rfl (by kernel_rfl)) S1 ?_
      refine wpAnyH_done (by kernel_rfl) ?_ _
      simp only [Act.put, List.setIfInBounds_toArray, List.set_cons_zero, List.set_cons_succ]
      clear S0 S1 hg5 hb5 hrow1 hcell1 HLEAD HLESS HB HG
      go_wp2
      go_roundw
      case rel => exact ⟨k + 1, y, by omega, by go_num, HB5, HG5, HRE2, HYW⟩
      case measure => simp [intOf]; omega
    · have hkk : Hid (k = R.length) := Lib.hid (by omega)
      go_wp2
      go_ret
      exact ⟨_, r, rfl, HG.out, HB.out, by have := HRE.out; rwa [hkk.out] at this, HRW.out⟩
end Go.Proofs.Ytpdkfidmmjlmnab

namespace Go.Proofs.Ytpdkfidmmjlmnab
open Go.RowKit

/-- A table gathered row by row, above a base. -/
def Gs (base : Nat) (w : World) (u : Value) (t : List (List Int)) : Prop := ∃ vs, w.ownsRow base 22 1 u t.length vs ∧ ∀ k (h1 : k < vs.length) (h2 : k < t.length), G1 w vs[k] t[k]
theorem Gs.below {base : Nat} {w w' : World} {u : Value} {t : List (List Int)} (h : Gs base w u t) (hb : Below w.heap.size w w') : Gs base w' u t := by
  obtain ⟨vs, ho, hr⟩ := h
  exact ⟨vs, owns_below ho hb, fun k h1 h2 => (hr k h1 h2).below hb⟩
theorem Gs.mono {base base' : Nat} {w : World} {u : Value} {t : List (List Int)} (h : Gs base w u t) (hb : base' ≤ base) : Gs base' w u t := by
  obtain ⟨vs, ho, hr⟩ := h
  exact ⟨vs, owns_mono ho hb, hr⟩
theorem Gs.l2 {base : Nat} {w : World} {u : Value} {t : List (List Int)} (h : Gs base w u t) : L2 0 w u t := by
  obtain ⟨vs, ho, hr⟩ := h
  exact sl_of_owns ho (Nat.zero_le _) rfl (fun k h1 h2 => (hr k h2 h1).l1)
theorem Gs.push {base : Nat} {w w3 : World} {v v' row : Value} {t : List (List Int)} {vs : List Value} {x : List Int} (ho : w.ownsRow base 22 1 v t.length vs) (hr : ∀ k (h1 : k < vs.length) (h2 : k < t.length), G1 w vs[k] t[k]) (hx : G1 w row x)
    (ho3 : w3.ownsRow base 22 1 v' (t.length + 1) (vs ++ [row])) (hg : w.grownBy w3 v.ownBlock) : Gs base w3 v' (t ++ [x]) := by
  have hvl : vs.length = t.length := by have := ho.1; omega
  have keep : ∀ u xs, G1 w u xs → G1 w3 u xs := fun u xs h => owns_grown h ho (by decide) hg
  refine ⟨vs ++ [row], by simpa using ho3, fun k h1 h2 => ?_⟩
  by_cases e : k < vs.length
  · rw [List.getElem_append_left e, List.getElem_append_left (by omega)]
    exact keep _ _ (hr k e (by omega))
  · have e2 : k = vs.length := by simp at h1; omega
    subst e2
    rw [List.getElem_append_right (by omega), List.getElem_append_right (by omega)]
    simp only [hvl, Nat.sub_self, List.getElem_cons_zero]
    exact keep _ _ hx

/-- The first q numbers of a row multiplied. -/
def scal (p inv : Int) (r : Lin.V) (q : Nat) : Lin.V := fun i => if i < q then r i * inv % p else r i
theorem scal_zero (p inv : Int) (r : Lin.V) : scal p inv r 0 = r := by (funext i; simp [scal])
theorem toL_congr {n : Nat} {u v : Lin.V} (h : ∀ i, i < n → u i = v i) : toL n u = toL n v := List.map_congr_left (fun i hi => h i (List.mem_range.1 hi))
theorem toL_set {n : Nat} (v : Lin.V) (q : Nat) (x : Int) : ((toL n v).map (Value.int .i64)).set q (.int .i64 x) = (toL n (fun i => if i = q then x else v i)).map (Value.int .i64) := by
  refine List.ext_getElem (by simp [toL_length]) fun i h1 h2 => ?_
  rw [List.getElem_set]
  by_cases e : q = i
  · subst e
    simp [toL]
  · have e2 : ¬ i = q := fun h => e h.symm
    simp [toL, e, e2]

def EchR (p : Int) (n : Nat) (TS : List Lin.V) (w : World) (e : Ending) (w' : World) : Prop :=
  ∃ (u : Value) (R : List Lin.V), e = .returned u ∧ Gs w.heap.size w' u (R.map (toL n)) ∧ Below w.heap.size w w' ∧ RedN p n R TS ∧ R.length ≤ TS.length

set_option maxHeartbeats 12800000 in
set_option maxRecDepth 100000 in
theorem l01Echelon_any (p : Int) (n : Nat) (vl : Value) (TS : List Lin.V) (w : World) (hp : IsP p) (hL : L2 0 w vl (TS.map (toL n))) (hm : ∀ u ∈ TS, Lin.Md p u) (hw : ∀ u ∈ TS, Lin.Wd n u) (hn : n ≤ 1048576) (hl : TS.length ≤ 1048575) :
    Calls Try.prog 153 #[.int .i64 p, vl] w (EchR p n TS w) := by
  have HP := Lib.hid hp
  have HL := Lib.hid hL
  have HTM := Lib.hid hm
  have HTW := Lib.hid hw
  have hp7 := hp.hi7
  have hp1 := hp.lo1
  obtain ⟨al, cl, hvl⟩ := Sl.shape hL
  rw [List.length_map] at hvl
  subst hvl
  obtain ⟨i0, hi0, hz0, hz1, hz2⟩ := info_parts Try.infoS
  have HOWN0 := Lib.hid (World.ownsRow_made (base := w.heap.size) (e := 22) (size := 1) w #[] 0 (Nat.le_refl _) (by unfold maxLen; omega) (by simp))
  clear hp hL hm hw
  go_enter Try.func153, Try.ntmps153
  go_wp2
  go_loopw [5, 6] (fun o i wr => ∃ (k : Nat) (R : List Lin.V), k ≤ TS.length ∧ i = .int .i64 k ∧ Hid (Below w.heap.size w wr) ∧ Hid (Gs w.heap.size wr o (R.map (toL n))) ∧ Hid (RedN p n R (TS.take k)) ∧ R.length ≤ k) (fun _ i _ => TS.length - (intOf i).toNat)
  case atStart => exact ⟨0, [], Nat.zero_le _, rfl, Lib.hid ((Below.refl _ _).alloc (Nat.le_refl _) _), Lib.hid ⟨[], by simpa using HOWN0.out, fun k h1 _ => absurd h1 (Nat.not_lt_zero _)⟩, Lib.hid (by rw [List.take_zero]; exact RedN.nil p n), Nat.le_refl _⟩
  case round =>
    clear HOWN0
    obtain ⟨k, R, hk, rfl, HB, HO, HR, hRk⟩ := hrel
    obtain ⟨wo, hwo⟩ : ∃ wo : World, wo = wr := ⟨_, rfl⟩
    subst hwo
    have hsz : w.heap.size ≤ wo.heap.size := HB.out.size
    obtain ⟨ao, co, hov⟩ := Sl.shape HO.out.l2
    rw [List.length_map] at hov
    subst hov
    by_cases hlt : k < TS.length
    · refine Sl.cases HL.out (fun _ _ hx _ => absurd hlt (by have := congrArg List.length hx; simp at this; simp [this])) (fun b o c2 hvv _ _ hc => ?_)
      rw [List.length_map] at hvv
      obtain ⟨rfl, rfl⟩ : al = some ⟨b, o, none⟩ ∧ cl = c2 := by simpa using hvv
      obtain ⟨ur, hur, hrr⟩ := hc k (by rw [List.length_map]; exact hlt)
      rw [List.getElem_map] at hrr
      obtain ⟨t, ht⟩ : ∃ t, t = TS[k] := ⟨_, rfl⟩
      have HTK : Hid (TS.take (k + 1) = TS.take k ++ [t]) := Lib.hid (by rw [ht]; exact List.take_succ_eq_append_getElem hlt)
      have HTKM : Hid (∀ x ∈ TS.take k, Lin.Md p x) := Lib.hid (fun x hx => HTM.out x (List.mem_of_mem_take hx))
      rw [← ht] at hrr
      have HTT : Hid (Lin.Md p t ∧ Lin.Wd n t) := Lib.hid (by rw [ht]; exact ⟨HTM.out _ (List.getElem_mem hlt), HTW.out _ (List.getElem_mem hlt)⟩)
      have hur2 := later HB.out (Nat.le_refl _) hur
      obtain ⟨ar, cr, hus⟩ := l1_slice hrr
      subst hus
      have HRST := Lib.hid (l01Rest_any p n _ _ R t wo HP.out HO.out.l2 (hrr.below HB.out) HR.out.red HR.out.wd HTT.out.1 HTT.out.2 hn (by omega))
      clear hvv hc hur hrr ht
      go_wp2_with fail
      refine HRST.out.mono ?_
      rintro e w1 ⟨u7, r, rfl, hg1, hb1, hrest, hrw⟩
      have HRE := Lib.hid hrest
      have HRW := Lib.hid hrw
      have HB1 := Lib.hid hb1
      have hs1 : wo.heap.size ≤ w1.heap.size := hb1.size
      by_cases hz : r = Lin.zv
      · have hlead := l01Lead_any u7 (toL n r) w1 hg1.l1 (by rw [toL_length]; exact hn)
        rw [hz, leadOf_zv] at hlead
        have HR2 : Hid (RedN p n R (TS.take (k + 1))) := Lib.hid (by
          rw [HTK.out]
          have := HRE.out
          rw [hz] at this
          exact HR.out.skip (by omega) HTKM.out HTT.out.1 this)
        have HLEAD := Lib.hid hlead
        obtain ⟨a7, c7, hv7⟩ := l1_slice hg1.l1
        subst hv7
        clear hlead hg1 hb1 hrest hrw hz hur2 HRST
        go_wp2_with fail
        refine HLEAD.out.mono ?_
        rintro e w' ⟨rfl, rfl⟩
        go_wp2
        go_roundw
        case rel => exact ⟨k + 1, R, by omega, by go_num, Lib.hid (HB.out.trans (HB1.out.mono hsz)), Lib.hid (HO.out.below HB1.out), HR2, by omega⟩
        case measure => simp [intOf]; omega
      · obtain ⟨hdn, hdne, _⟩ := ld_ltn hrw hz
        have hlead := l01Lead_any u7 (toL n r) w1 hg1.l1 (by rw [toL_length]; exact hn)
        rw [leadOf_toL hrw hz] at hlead
        obtain ⟨d, hd⟩ : ∃ d, d = Lin.ld r := ⟨_, rfl⟩
        have HD := Lib.hid hd
        rw [← hd] at hlead hdn hdne
        have hown := hg1
        unfold Gb at hown
        rw [toL_length] at hown
        obtain ⟨g, c7, hv7, hgb, hgl⟩ := World.ownsRow.form hown (by omega)
        subst hv7
        obtain ⟨a, ha⟩ : ∃ a, a = r d := ⟨_, rfl⟩
        have HA := Lib.hid ha
        have hab := hrest.md d
        rw [← ha] at hab hdne
        have hcell : w1.cell? ⟨g, d, none⟩ = some (.int .i64 a) := by
          rw [World.ownsRow.cellAt hown d (by omega), ha]
          simp [toL, hdn]
        have HZ := Lib.hid hz
        have HOWN := Lib.hid hown
        have HLEAD := Lib.hid hlead
        have HINV := Lib.hid (l01Inverse_any p a w1 HP.out (by omega) (by omega))
        clear hlead hg1 hb1 hrest hrw hz hur2 HRST hd ha hown
        go_wp2_with fail
        refine HLEAD.out.mono ?_
        rintro e w' ⟨rfl, rfl⟩
        go_wp2_with fail
        refine HINV.out.mono ?_
        rintro e w' ⟨inv, rfl, rfl, hi1, hip, hinv⟩
        have HIV := Lib.hid hinv
        clear hinv hcell HINV HLEAD
        go_wp2
        go_loopw [10] (fun i wr => ∃ (q : Nat), q ≤ n ∧ i = .int .i64 q ∧ Hid (Below wo.heap.size wo wr) ∧ Hid (wr.ownsRow wo.heap.size 2 1 (.slice (some ⟨g, 0, none⟩) n c7) n ((toL n (scal p inv r q)).map (Value.int .i64)))) (fun i _ => n - (intOf i).toNat)
        case atStart => exact ⟨0, Nat.zero_le _, rfl, HB1, Lib.hid (by rw [scal_zero]; exact HOWN.out)⟩
        case round =>
          clear HOWN HB1
          obtain ⟨q, hq, rfl, HBI, HOI⟩ := hrel
          by_cases hltq : q < n
          · obtain ⟨x, hx⟩ : ∃ x, x = r q := ⟨_, rfl⟩
            have hxb := HRE.out.md q
            rw [← hx] at hxb
            have hc : wr.cell? ⟨g, q, none⟩ = some (.int .i64 x) := by
              rw [World.ownsRow.cellAt HOI.out q (by omega), hx]
              simp [toL, scal, hltq]
            have hf := World.ownsRow.frozenAt HOI.out q
            obtain ⟨m0, m1⟩ := mul_bd HP.out (a := x) (b := (inv : Int)) hxb.1 hxb.2 (by omega) (by omega)
            have hst := World.ownsRow.stored HOI.out q (.int .i64 (x * inv % p))
            have HO2 : Hid ((wr.setCell ⟨g, q, none⟩ (.int .i64 (x * inv % p))).ownsRow wo.heap.size 2 1 (.slice (some ⟨g, 0, none⟩) n c7) n ((toL n (scal p inv r (q + 1))).map (Value.int .i64))) := Lib.hid (by
              have h := hst.1
              rw [toL_set] at h
              have e : toL n (scal p inv r (q + 1)) = toL n (fun i => if i = q then x * inv % p else scal p inv r q i) := toL_congr (fun i _ => by
                unfold scal
                by_cases e1 : i = q
                · subst e1
                  rw [if_pos (Nat.lt_succ_self _), if_pos rfl, hx]
                · rw [if_neg e1]
                  by_cases e2 : i < q
                  · rw [if_pos e2, if_pos (by omega)]
                  · rw [if_neg e2, if_neg (by omega)])
              rw [e]
              exact h)
            have HB2 : Hid (Below wo.heap.size wo (wr.setCell ⟨g, q, none⟩ (.int .i64 (x * inv % p)))) := Lib.hid (HBI.out.setCell hgb _)
            clear hst hx HOI HBI
            go_wp2
            go_roundw
            case rel => exact ⟨q + 1, by omega, by go_num, HB2, HO2⟩
            case measure => simp [intOf]; omega
          · obtain ⟨w2, hw2⟩ : ∃ w2 : World, w2 = wr := ⟨_, rfl⟩
            subst hw2
            have hqq : Hid (q = n) := Lib.hid (by omega)
            obtain ⟨u, hu⟩ : ∃ u : Lin.V, u = fun i => (inv : Int) * r i % p := ⟨_, rfl⟩
            have HUU : Hid (Lin.Unit p r u) := Lib.hid (by rw [hu]; exact Lin.Unit.mk' (by omega) HRE.out.md HZ.out (by rw [← HD.out, ← HA.out]; exact HIV.out))
            have HUW : Hid (Lin.Wd n u) := Lib.hid (fun i hi => by rw [hu]; simp [HRW.out i hi])
            have HLU : Hid (Lin.ld u = d) := Lib.hid (HUU.out.lead.trans HD.out.symm)
            have HOWN7 : Hid (G1 w2 (.slice (some ⟨g, 0, none⟩) n c7) (toL n u)) := Lib.hid (by
              have h := HOI.out
              have e : toL n (scal p inv r q) = toL n u := toL_congr (fun i hi => by
                unfold scal
                rw [hu, if_pos (by have := hqq.out; omega), Int.mul_comm])
              rw [e] at h
              unfold G1
              rw [toL_length]
              exact owns_mono h (Nat.zero_le _))
            have hs2 : wo.heap.size ≤ w2.heap.size := HBI.out.size
            have HO2 := Lib.hid (HO.out.below HBI.out)
            have HB2 := HBI
            have HOWN1 := Lib.hid (World.ownsRow_made (base := w2.heap.size) (e := 22) (size := 1) w2 #[] 0 (Nat.le_refl _) (by unfold maxLen; omega) (by simp))
            clear HOI HBI hu HIV HA hqq
            go_wp2
            go_loopw [11, 12, 13] (fun nx pb i wr => ∃ (j : Nat) (pt : Bool) (N : List Lin.V), j ≤ R.length ∧ i = .int .i64 j ∧ pb = .bool pt ∧ Hid (Below w2.heap.size w2 wr) ∧ Hid (Gs w2.heap.size wr nx (N.map (toL n))) ∧ Hid (Nx p R u j pt N)) (fun _ _ i _ => R.length - (intOf i).toNat)
            case atStart => exact ⟨0, false, [], Nat.zero_le _, rfl, rfl, Lib.hid ((Below.refl _ _).alloc (Nat.le_refl _) _), Lib.hid ⟨[], by simpa using HOWN1.out, fun k h1 _ => absurd h1 (Nat.not_lt_zero _)⟩, Lib.hid (Nx.start p R u)⟩
            case round =>
              clear HOWN1
              obtain ⟨j, pt, N, hjl, rfl, rfl, HBX, HGN0, HNX⟩ := hrel
              have hsx : w2.heap.size ≤ wr.heap.size := HBX.out.size
              have hNl : N.length ≤ j + 1 := HNX.out.length hjl
              obtain ⟨vs, hvo, hvr⟩ := HGN0.out
              have HVO := Lib.hid hvo
              have HVR := Lib.hid hvr
              obtain ⟨an, cn, hnv⟩ := Sl.shape HGN0.out.l2
              rw [List.length_map] at hnv
              subst hnv
              clear hvo hvr
              by_cases hj : j < R.length
              · refine Sl.cases HO2.out.l2 (fun _ _ hx _ => absurd hj (by have := congrArg List.length hx; simp at this; simp [this])) (fun bo oo c2 hvv _ _ hc => ?_)
                rw [List.length_map] at hvv
                obtain ⟨rfl, rfl⟩ : ao = some ⟨bo, oo, none⟩ ∧ co = c2 := by simpa using hvv
                obtain ⟨uj, huj, hrj⟩ := hc j (by rw [List.length_map]; exact hj)
                rw [List.getElem_map] at hrj
                obtain ⟨s, hs⟩ : ∃ s, s = R[j] := ⟨_, rfl⟩
                have HSE := Lib.hid hs
                rw [← hs] at hrj
                have HSW : Hid (Lin.Wd n s) := Lib.hid (by rw [hs]; exact HR.out.wd _ (List.getElem_mem hj))
                have HSM : Hid (Lin.Md p s) := Lib.hid (by rw [hs]; exact HR.out.red.md _ (List.getElem_mem hj))
                have HSN : Hid (s ≠ Lin.zv) := Lib.hid (by rw [hs]; exact HR.out.red.ne (List.getElem_mem hj))
                have HSL : Hid (Lin.ld s ≠ Lin.ld u) := Lib.hid (by rw [hs]; exact lead_apart HRE.out HUU.out (List.getElem_mem hj))
                obtain ⟨bj, oj, cj, huv, hcj⟩ := l1_toL hrj (show 0 < n by omega)
                subst huv
                obtain ⟨f, hf⟩ : ∃ f, f = s d := ⟨_, rfl⟩
                have hfb := HSM.out d
                rw [← hf] at hfb
                have HROWJ := Lib.hid hrj
                have hrowj : ∀ W, Below w2.heap.size w2 W → W.cell? ⟨bo, oo + j, none⟩ = some (.slice (some ⟨bj, oj, none⟩) n cj) := fun W h => later h (Nat.le_refl _) huj
                have hcellj : ∀ W, Below w2.heap.size w2 W → W.cell? ⟨bj, oj + d, none⟩ = some (.int .i64 f) := fun W h => by rw [hf]; exact later h (Nat.le_refl _) (hcj d hdn)
                have HLESS : Hid (∀ W, Below w2.heap.size w2 W → Calls Try.prog 197 #[.int .i64 p, .slice (some ⟨bj, oj, none⟩) n cj, .slice (some ⟨g, 0, none⟩) n c7, .int .i64 f] W (GbR (toL n (less1 p u R[j])) W)) := Lib.hid (fun W h => by
                  have e : less1 p u R[j] = Lin.add p s (-f) u := by rw [less1, ← HSE.out, HLU.out, hf]
                  rw [e]
                  exact l01Less_any p f n _ _ s u W HP.out (HROWJ.out.below h) ((HOWN7.out.below h).l1) HSM.out HUU.out.md hfb hn)
                have hrow0 := hrowj _ HBX.out
                have HLJ : Hid (Calls Try.prog 108 #[.slice (some ⟨bj, oj, none⟩) n cj] wr (QW (.int .i64 (Lin.ld s : Int)) wr)) := Lib.hid (by
                  have := l01Lead_any _ _ wr (HROWJ.out.below HBX.out) (by rw [toL_length]; exact hn)
                  rwa [leadOf_toL HSW.out HSN.out] at this)
                clear hvv hc huj hrj hs hcj hf hfb
                cases pt with
                | true =>
                  clear HLJ
                  go_wp2
                  clear hrow0
                  refine wp_region_held (S := fun W => Below w2.heap.size w2 W) (by kernel_rfl) ?_
                  have S0 : Below w2.heap.size w2 wr.drew := HBX.out.drew
                  refine held_take (i := 0) (v := .slice an N.length cn) (some 77) rfl rfl (by kernel_rfl) (by kernel_rfl) (by kernel_rfl) (fun _ _ _ h => h) (yieldsIf_move (by kernel_rfl) rfl (by kernel_rfl)) S0 ?_
                  refine held_take (i := 1) (v := .int .i64 p) (some 78) rfl rfl (by kernel_rfl) (by kernel_rfl) (by kernel_rfl) (fun _ _ _ h => h) (yieldsIf_move (by kernel_rfl) rfl (by kernel_rfl)) S0 ?_
                  refine held_take (i := 2) (v := .slice (some ⟨bo, oo, none⟩) R.length co) (some 79) rfl rfl (by kernel_rfl) (by kernel_rfl) (by kernel_rfl) (fun _ _ _ h => h) (yieldsIf_move (by kernel_rfl) rfl (by kernel_rfl)) S0 ?_
                  refine held_take (i := 3) (v := .int .i64 (j : Int)) (some 80) rfl rfl (by kernel_rfl) (by kernel_rfl) (by kernel_rfl) (fun _ _ _ h => h) (yieldsIf_move (by kernel_rfl) rfl (by kernel_rfl)) S0 ?_
                  refine held_take (i := 4) (v := .pointer (some ⟨bo, oo + j, none⟩)) (some 81) rfl rfl (by kernel_rfl) (by kernel_rfl) (by kernel_rfl) (fun _ _ _ h => h) (yieldsIf_index (by kernel_rfl) rfl (by kernel_rfl) (by kernel_rfl) (hidxS bo oo co hj)) S0 ?_
                  refine held_take (i := 5) (v := .slice (some ⟨bj, oj, none⟩) n cj) (some 82) rfl rfl (by kernel_rfl) (by kernel_rfl) (by kernel_rfl) (fun _ _ _ h => h) (yieldsIf_cell (by kernel_rfl) rfl (by kernel_rfl) (fun W h => hloadS W (hrowj W h))) S0 ?_
                  refine held_take (i := 6) (v := .slice (some ⟨g, 0, none⟩) n c7) (some 83) rfl rfl (by kernel_rfl) (by kernel_rfl) (by kernel_rfl) (fun _ _ _ h => h) (yieldsIf_move (by kernel_rfl) rfl (by kernel_rfl)) S0 ?_
                  refine held_take (i := 7) (v := .slice (some ⟨bo, oo, none⟩) R.length co) (some 84) rfl rfl (by kernel_rfl) (by kernel_rfl) (by kernel_rfl) (fun _ _ _ h => h) (yieldsIf_move (by kernel_rfl) rfl (by kernel_rfl)) S0 ?_
                  refine held_take (i := 8) (v := .int .i64 (j : Int)) (some 85) rfl rfl (by kernel_rfl) (by kernel_rfl) (by kernel_rfl) (fun _ _ _ h => h) (yieldsIf_move (by kernel_rfl) rfl (by kernel_rfl)) S0 ?_
                  refine held_take (i := 9) (v := .pointer (some ⟨bo, oo + j, none⟩)) (some 86) rfl rfl (by kernel_rfl) (by kernel_rfl) (by kernel_rfl) (fun _ _ _ h => h) (yieldsIf_index (by kernel_rfl) rfl (by kernel_rfl) (by kernel_rfl) (hidxS bo oo co hj)) S0 ?_
                  refine held_take (i := 10) (v := .slice (some ⟨bj, oj, none⟩) n cj) (some 87) rfl rfl (by kernel_rfl) (by kernel_rfl) (by kernel_rfl) (fun _ _ _ h => h) (yieldsIf_cell (by kernel_rfl) rfl (by kernel_rfl) (fun W h => hloadS W (hrowj W h))) S0 ?_
                  refine held_take (i := 11) (v := .int .i64 (d : Int)) (some 88) rfl rfl (by kernel_rfl) (by kernel_rfl) (by kernel_rfl) (fun _ _ _ h => h) (yieldsIf_move (by kernel_rfl) rfl (by kernel_rfl)) S0 ?_
                  refine held_take (i := 12) (v := .pointer (some ⟨bj, oj + d, none⟩)) (some 89) rfl rfl (by kernel_rfl) (by kernel_rfl) (by kernel_rfl) (fun _ _ _ h => h) (yieldsIf_index (by kernel_rfl) rfl (by kernel_rfl) (by kernel_rfl) (hidxI bj oj cj hdn)) S0 ?_
                  refine held_take (i := 13) (v := .int .i64 f) (some 90) rfl rfl (by kernel_rfl) (by kernel_rfl) (by kernel_rfl) (fun _ _ _ h => h) (yieldsIf_cell (by kernel_rfl) rfl (by kernel_rfl) (fun W h => hload W (hcellj W h))) S0 ?_
                  refine held_enter (i := 14) (some 91) (f := 197) (args := #[.int .i64 p, .slice (some ⟨bj, oj, none⟩) n cj, .slice (some ⟨g, 0, none⟩) n c7, .int .i64 f]) (by kernel_rfl) rfl rfl rfl (by kernel_rfl) (HLESS.out _ S0) ?_ (fun c w' h => by obtain ⟨_, h, _⟩ := h; cases h) (fun w' h => by obtain ⟨_, h, _⟩ := h; cases h)
                  rintro e5 W5 ⟨u5, he5, hg5, hb5⟩
                  injection he5 with he5
                  subst he5
                  have S1 : Below w2.heap.size w2 W5 := S0.trans (hb5.mono S0.size)
                  have hb5' : Below wr.heap.size wr W5 := ((Below.refl wr.heap.size wr).drew).trans hb5
                  have HO5 := Lib.hid (owns_below HVO.out hb5')
                  have HG5 := Lib.hid hg5.g1
                  obtain ⟨a5, c5, hv5⟩ := l1_slice hg5.l1
                  subst hv5
                  refine ⟨S1, ?_⟩
                  have hs5 : w2.heap.size ≤ W5.heap.size := S1.size
                  have S2 : Below w2.heap.size w2 (W5.alloc (.cells #[.slice a5 n c5] 22)) := S1.alloc hs5 _
                  have hba : Below W5.heap.size W5 (W5.alloc (.cells #[.slice a5 n c5] 22)) := (Below.refl _ _).alloc (Nat.le_refl _) _
                  have HOX := Lib.hid (owns_below HO5.out hba)
                  refine held_buildS (i := 15) (some 92) (by kernel_rfl) rfl rfl rfl (.tmp 91) a5 n c5 rfl (by kernel_rfl) ⟨S2, ?_⟩
                  refine held_appendS (i := 16) (some 93) (by kernel_rfl) rfl rfl rfl (.tmp 77) (.tmp 92) rfl w2.heap.size (.slice an N.length cn) _ _ (by kernel_rfl) HOX.out W5.heap.size a5 n c5 (by kernel_rfl) (cell_alloc1 W5 _ _) (by simp; omega) (by simp; omega) ?_
                  intro v' w3 hown hgrow
                  have S3 : Below w2.heap.size w2 w3 := S2.grown hgrow (by simp; omega) (fun g hg => ((HOX.out.lt) g hg).1)
                  have HB3 := Lib.hid S3
                  have HGS3 : Hid (Gs w2.heap.size w3 v' ((N ++ [less1 p u R[j]]).map (toL n))) := Lib.hid (by
                    rw [List.map_append]
                    exact Gs.push HOX.out (fun i h1 h2 => ((HVR.out i h1 h2).below hb5').below hba) (HG5.out.below hba) hown hgrow)
                  refine ⟨S3, ?_⟩
                  refine held_take (i := 17) (v := v') (some 11) rfl rfl (by kernel_rfl) (by kernel_rfl) (by kernel_rfl) (fun _ _ _ h => h) (yieldsIf_assign (by kernel_rfl) rfl (by kernel_rfl)) S3 ?_
                  refine wpAnyH_done (by kernel_rfl) ?_ _
                  simp only [Act.put, List.setIfInBounds_toArray, List.set_cons_zero, List.set_cons_succ]
                  clear S0 S1 S2 S3 hown hgrow hb5 hb5' hba hg5 HOX HO5 HG5 hrowj hcellj HLESS hs5
                  go_wp2
                  go_roundw
                  case rel => exact ⟨j + 1, true, _, by omega, by go_num, rfl, HB3, HGS3, Lib.hid (HNX.out.keep hj)⟩
                  case measure => simp [intOf]; omega
                | false =>
                  by_cases hgt : Lin.ld u < Lin.ld s
                  · have hgt2 : (d : Int) < (Lin.ld s : Int) := by have := HLU.out; omega
                    have HNX2 : Hid (Nx p R u (j + 1) true (N ++ [u] ++ [less1 p u R[j]])) := Lib.hid (HNX.out.in' hj (by rw [← HSE.out]; exact hgt))
                    go_wp2_with fail
                    refine HLJ.out.mono ?_
                    rintro e w' ⟨rfl, rfl⟩
                    clear hrow0 HLJ
                    go_wp2_with (at_builtin; refine wpList_append_own _ rfl (.tmp 73) (.tmp 75) 26 rfl w2.heap.size 22 i0 (.slice none 0 0) 1 24 Try.underlying26 hi0 hz0 hz1 hz2 rfl (by decide) _ _ _ rfl (HVO.out.alloc _) ⟨wr.heap.size, 0, none⟩ 1 1 [.slice (some ⟨g, 0, none⟩) n c7] rfl rfl ?c1 ?c2 ?c3 ?c4 ?c5 ?_)
                    case c1 =>
                      intro j u hj
                      match j, hj with
                      | 0, hj => simp at hj; subst hj; simp [Addr.add]
                    case c2 => intro u hu; simp at hu; subst hu; rfl
                    case c3 => rw [List.length_map]; unfold maxLen; omega
                    case c4 => rw [List.length_map]; omega
                    case c5 => simp; omega
                    intro v' w3 hown hgrow _
                    have hba : Below wr.heap.size wr (wr.alloc (.cells #[.slice (some ⟨g, 0, none⟩) n c7] 22)) := (Below.refl _ _).alloc (Nat.le_refl _) _
                    have HOX := Lib.hid (owns_below HVO.out hba)
                    have HBN := Lib.hid ((HBX.out.alloc hsx (.cells #[.slice (some ⟨g, 0, none⟩) n c7] 22)).grown hgrow (by simp; omega) (fun g hg => ((HOX.out.lt) g hg).1))
                    have HGN : Hid (Gs w2.heap.size w3 v' ((N ++ [u]).map (toL n))) := Lib.hid (by
                      rw [List.map_append]
                      exact Gs.push HOX.out (fun i h1 h2 => (HVR.out i h1 h2).below hba) ((HOWN7.out.below HBX.out).below hba) (by rw [List.length_map]; exact hown) hgrow)
                    clear hown hgrow hba HOX
                    have HNE : Hid (True) := Lib.hid trivial
                    obtain ⟨vs3, hvo3, hvr3⟩ := HGN.out
                    have HVO3 := Lib.hid hvo3
                    have HVR3 := Lib.hid hvr3
                    clear hvo3 hvr3 HNE
                    go_wp2
                    refine wp_region_held (S := fun W => Below w2.heap.size w2 W) (by kernel_rfl) ?_
                    have S0 : Below w2.heap.size w2 w3.drew := HBN.out.drew
                    refine held_take (i := 0) (v := v') (some 77) rfl rfl (by kernel_rfl) (by kernel_rfl) (by kernel_rfl) (fun _ _ _ h => h) (yieldsIf_move (by kernel_rfl) rfl (by kernel_rfl)) S0 ?_
                    refine held_take (i := 1) (v := .int .i64 p) (some 78) rfl rfl (by kernel_rfl) (by kernel_rfl) (by kernel_rfl) (fun _ _ _ h => h) (yieldsIf_move (by kernel_rfl) rfl (by kernel_rfl)) S0 ?_
                    refine held_take (i := 2) (v := .slice (some ⟨bo, oo, none⟩) R.length co) (some 79) rfl rfl (by kernel_rfl) (by kernel_rfl) (by kernel_rfl) (fun _ _ _ h => h) (yieldsIf_move (by kernel_rfl) rfl (by kernel_rfl)) S0 ?_
                    refine held_take (i := 3) (v := .int .i64 (j : Int)) (some 80) rfl rfl (by kernel_rfl) (by kernel_rfl) (by kernel_rfl) (fun _ _ _ h => h) (yieldsIf_move (by kernel_rfl) rfl (by kernel_rfl)) S0 ?_
                    refine held_take (i := 4) (v := .pointer (some ⟨bo, oo + j, none⟩)) (some 81) rfl rfl (by kernel_rfl) (by kernel_rfl) (by kernel_rfl) (fun _ _ _ h => h) (yieldsIf_index (by kernel_rfl) rfl (by kernel_rfl) (by kernel_rfl) (hidxS bo oo co hj)) S0 ?_
                    refine held_take (i := 5) (v := .slice (some ⟨bj, oj, none⟩) n cj) (some 82) rfl rfl (by kernel_rfl) (by kernel_rfl) (by kernel_rfl) (fun _ _ _ h => h) (yieldsIf_cell (by kernel_rfl) rfl (by kernel_rfl) (fun W h => hloadS W (hrowj W h))) S0 ?_
                    refine held_take (i := 6) (v := .slice (some ⟨g, 0, none⟩) n c7) (some 83) rfl rfl (by kernel_rfl) (by kernel_rfl) (by kernel_rfl) (fun _ _ _ h => h) (yieldsIf_move (by kernel_rfl) rfl (by kernel_rfl)) S0 ?_
                    refine held_take (i := 7) (v := .slice (some ⟨bo, oo, none⟩) R.length co) (some 84) rfl rfl (by kernel_rfl) (by kernel_rfl) (by kernel_rfl) (fun _ _ _ h => h) (yieldsIf_move (by kernel_rfl) rfl (by kernel_rfl)) S0 ?_
                    refine held_take (i := 8) (v := .int .i64 (j : Int)) (some 85) rfl rfl (by kernel_rfl) (by kernel_rfl) (by kernel_rfl) (fun _ _ _ h => h) (yieldsIf_move (by kernel_rfl) rfl (by kernel_rfl)) S0 ?_
                    refine held_take (i := 9) (v := .pointer (some ⟨bo, oo + j, none⟩)) (some 86) rfl rfl (by kernel_rfl) (by kernel_rfl) (by kernel_rfl) (fun _ _ _ h => h) (yieldsIf_index (by kernel_rfl) rfl (by kernel_rfl) (by kernel_rfl) (hidxS bo oo co hj)) S0 ?_
                    refine held_take (i := 10) (v := .slice (some ⟨bj, oj, none⟩) n cj) (some 87) rfl rfl (by kernel_rfl) (by kernel_rfl) (by kernel_rfl) (fun _ _ _ h => h) (yieldsIf_cell (by kernel_rfl) rfl (by kernel_rfl) (fun W h => hloadS W (hrowj W h))) S0 ?_
                    refine held_take (i := 11) (v := .int .i64 (d : Int)) (some 88) rfl rfl (by kernel_rfl) (by kernel_rfl) (by kernel_rfl) (fun _ _ _ h => h) (yieldsIf_move (by kernel_rfl) rfl (by kernel_rfl)) S0 ?_
                    refine held_take (i := 12) (v := .pointer (some ⟨bj, oj + d, none⟩)) (some 89) rfl rfl (by kernel_rfl) (by kernel_rfl) (by kernel_rfl) (fun _ _ _ h => h) (yieldsIf_index (by kernel_rfl) rfl (by kernel_rfl) (by kernel_rfl) (hidxI bj oj cj hdn)) S0 ?_
                    refine held_take (i := 13) (v := .int .i64 f) (some 90) rfl rfl (by kernel_rfl) (by kernel_rfl) (by kernel_rfl) (fun _ _ _ h => h) (yieldsIf_cell (by kernel_rfl) rfl (by kernel_rfl) (fun W h => hload W (hcellj W h))) S0 ?_
                    refine held_enter (i := 14) (some 91) (f := 197) (args := #[.int .i64 p, .slice (some ⟨bj, oj, none⟩) n cj, .slice (some ⟨g, 0, none⟩) n c7, .int .i64 f]) (by kernel_rfl) rfl rfl rfl (by kernel_rfl) (HLESS.out _ S0) ?_ (fun c w' h => by obtain ⟨_, h, _⟩ := h; cases h) (fun w' h => by obtain ⟨_, h, _⟩ := h; cases h)
                    rintro e5 W5 ⟨u5, he5, hg5, hb5⟩
                    injection he5 with he5
                    subst he5
                    have S1 : Below w2.heap.size w2 W5 := S0.trans (hb5.mono S0.size)
                    have hb5' : Below w3.heap.size w3 W5 := ((Below.refl w3.heap.size w3).drew).trans hb5
                    have HO5 := Lib.hid (owns_below HVO3.out hb5')
                    have HG5 := Lib.hid hg5.g1
                    obtain ⟨a5, c5, hv5⟩ := l1_slice hg5.l1
                    subst hv5
                    refine ⟨S1, ?_⟩
                    have hs5 : w2.heap.size ≤ W5.heap.size := S1.size
                    have S2 : Below w2.heap.size w2 (W5.alloc (.cells #[.slice a5 n c5] 22)) := S1.alloc hs5 _
                    have hba : Below W5.heap.size W5 (W5.alloc (.cells #[.slice a5 n c5] 22)) := (Below.refl _ _).alloc (Nat.le_refl _) _
                    have HOX := Lib.hid (owns_below HO5.out hba)
                    refine held_buildS (i := 15) (some 92) (by kernel_rfl) rfl rfl rfl (.tmp 91) a5 n c5 rfl (by kernel_rfl) ⟨S2, ?_⟩
                    refine held_appendS (i := 16) (some 93) (by kernel_rfl) rfl rfl rfl (.tmp 77) (.tmp 92) rfl w2.heap.size (v') _ _ (by kernel_rfl) HOX.out W5.heap.size a5 n c5 (by kernel_rfl) (cell_alloc1 W5 _ _) (by simp; omega) (by simp; omega) ?_
                    intro v4 w4 hown hgrow
                    have S3 : Below w2.heap.size w2 w4 := S2.grown hgrow (by simp; omega) (fun g hg => ((HOX.out.lt) g hg).1)
                    have HB3 := Lib.hid S3
                    have HGS3 : Hid (Gs w2.heap.size w4 v4 (((N ++ [u]) ++ [less1 p u R[j]]).map (toL n))) := Lib.hid (by
                      rw [List.map_append]
                      exact Gs.push HOX.out (fun i h1 h2 => ((HVR3.out i h1 h2).below hb5').below hba) (HG5.out.below hba) hown hgrow)
                    refine ⟨S3, ?_⟩
                    refine held_take (i := 17) (v := v4) (some 11) rfl rfl (by kernel_rfl) (by kernel_rfl) (by kernel_rfl) (fun _ _ _ h => h) (yieldsIf_assign (by kernel_rfl) rfl (by kernel_rfl)) S3 ?_
                    refine wpAnyH_done (by kernel_rfl) ?_ _
                    simp only [Act.put, List.setIfInBounds_toArray, List.set_cons_zero, List.set_cons_succ]
                    clear S0 S1 S2 S3 hown hgrow hb5 hb5' hba hg5 HOX HO5 HG5 hrowj hcellj HLESS hs5
                    go_wp2
                    go_roundw
                    case rel => exact ⟨j + 1, true, _, by omega, by go_num, rfl, HB3, HGS3, Lib.hid (HNX2.out)⟩
                    case measure => simp [intOf]; omega
                  · have hle2 : ¬ ((d : Int) < (Lin.ld s : Int)) := by have := HLU.out; omega
                    have HNX2 : Hid (Nx p R u (j + 1) false (N ++ [less1 p u R[j]])) := Lib.hid (HNX.out.pass hj (by rw [← HSE.out]; have := HSL.out; omega))
                    go_wp2_with fail
                    refine HLJ.out.mono ?_
                    rintro e w' ⟨rfl, rfl⟩
                    clear hrow0 HLJ
                    go_wp2
                    refine wp_region_held (S := fun W => Below w2.heap.size w2 W) (by kernel_rfl) ?_
                    have S0 : Below w2.heap.size w2 wr.drew := HBX.out.drew
                    refine held_take (i := 0) (v := .slice an N.length cn) (some 77) rfl rfl (by kernel_rfl) (by kernel_rfl) (by kernel_rfl) (fun _ _ _ h => h) (yieldsIf_move (by kernel_rfl) rfl (by kernel_rfl)) S0 ?_
                    refine held_take (i := 1) (v := .int .i64 p) (some 78) rfl rfl (by kernel_rfl) (by kernel_rfl) (by kernel_rfl) (fun _ _ _ h => h) (yieldsIf_move (by kernel_rfl) rfl (by kernel_rfl)) S0 ?_
                    refine held_take (i := 2) (v := .slice (some ⟨bo, oo, none⟩) R.length co) (some 79) rfl rfl (by kernel_rfl) (by kernel_rfl) (by kernel_rfl) (fun _ _ _ h => h) (yieldsIf_move (by kernel_rfl) rfl (by kernel_rfl)) S0 ?_
                    refine held_take (i := 3) (v := .int .i64 (j : Int)) (some 80) rfl rfl (by kernel_rfl) (by kernel_rfl) (by kernel_rfl) (fun _ _ _ h => h) (yieldsIf_move (by kernel_rfl) rfl (by kernel_rfl)) S0 ?_
                    refine held_take (i := 4) (v := .pointer (some ⟨bo, oo + j, none⟩)) (some 81) rfl rfl (by kernel_rfl) (by kernel_rfl) (by kernel_rfl) (fun _ _ _ h => h) (yieldsIf_index (by kernel_rfl) rfl (by kernel_rfl) (by kernel_rfl) (hidxS bo oo co hj)) S0 ?_
                    refine held_take (i := 5) (v := .slice (some ⟨bj, oj, none⟩) n cj) (some 82) rfl rfl (by kernel_rfl) (by kernel_rfl) (by kernel_rfl) (fun _ _ _ h => h) (yieldsIf_cell (by kernel_rfl) rfl (by kernel_rfl) (fun W h => hloadS W (hrowj W h))) S0 ?_
                    refine held_take (i := 6) (v := .slice (some ⟨g, 0, none⟩) n c7) (some 83) rfl rfl (by kernel_rfl) (by kernel_rfl) (by kernel_rfl) (fun _ _ _ h => h) (yieldsIf_move (by kernel_rfl) rfl (by kernel_rfl)) S0 ?_
                    refine held_take (i := 7) (v := .slice (some ⟨bo, oo, none⟩) R.length co) (some 84) rfl rfl (by kernel_rfl) (by kernel_rfl) (by kernel_rfl) (fun _ _ _ h => h) (yieldsIf_move (by kernel_rfl) rfl (by kernel_rfl)) S0 ?_
                    refine held_take (i := 8) (v := .int .i64 (j : Int)) (some 85) rfl rfl (by kernel_rfl) (by kernel_rfl) (by kernel_rfl) (fun _ _ _ h => h) (yieldsIf_move (by kernel_rfl) rfl (by kernel_rfl)) S0 ?_
                    refine held_take (i := 9) (v := .pointer (some ⟨bo, oo + j, none⟩)) (some 86) rfl rfl (by kernel_rfl) (by kernel_rfl) (by kernel_rfl) (fun _ _ _ h => h) (yieldsIf_index (by kernel_rfl) rfl (by kernel_rfl) (by kernel_rfl) (hidxS bo oo co hj)) S0 ?_
                    refine held_take (i := 10) (v := .slice (some ⟨bj, oj, none⟩) n cj) (some 87) rfl rfl (by kernel_rfl) (by kernel_rfl) (by kernel_rfl) (fun _ _ _ h => h) (yieldsIf_cell (by kernel_rfl) rfl (by kernel_rfl) (fun W h => hloadS W (hrowj W h))) S0 ?_
                    refine held_take (i := 11) (v := .int .i64 (d : Int)) (some 88) rfl rfl (by kernel_rfl) (by kernel_rfl) (by kernel_rfl) (fun _ _ _ h => h) (yieldsIf_move (by kernel_rfl) rfl (by kernel_rfl)) S0 ?_
                    refine held_take (i := 12) (v := .pointer (some ⟨bj, oj + d, none⟩)) (some 89) rfl rfl (by kernel_rfl) (by kernel_rfl) (by kernel_rfl) (fun _ _ _ h => h) (yieldsIf_index (by kernel_rfl) rfl (by kernel_rfl) (by kernel_rfl) (hidxI bj oj cj hdn)) S0 ?_
                    refine held_take (i := 13) (v := .int .i64 f) (some 90) rfl rfl (by kernel_rfl) (by kernel_rfl) (by kernel_rfl) (fun _ _ _ h => h) (yieldsIf_cell (by kernel_rfl) rfl (by kernel_rfl) (fun W h => hload W (hcellj W h))) S0 ?_
                    refine held_enter (i := 14) (some 91) (f := 197) (args := #[.int .i64 p, .slice (some ⟨bj, oj, none⟩) n cj, .slice (some ⟨g, 0, none⟩) n c7, .int .i64 f]) (by kernel_rfl) rfl rfl rfl (by kernel_rfl) (HLESS.out _ S0) ?_ (fun c w' h => by obtain ⟨_, h, _⟩ := h; cases h) (fun w' h => by obtain ⟨_, h, _⟩ := h; cases h)
                    rintro e5 W5 ⟨u5, he5, hg5, hb5⟩
                    injection he5 with he5
                    subst he5
                    have S1 : Below w2.heap.size w2 W5 := S0.trans (hb5.mono S0.size)
                    have hb5' : Below wr.heap.size wr W5 := ((Below.refl wr.heap.size wr).drew).trans hb5
                    have HO5 := Lib.hid (owns_below HVO.out hb5')
                    have HG5 := Lib.hid hg5.g1
                    obtain ⟨a5, c5, hv5⟩ := l1_slice hg5.l1
                    subst hv5
                    refine ⟨S1, ?_⟩
                    have hs5 : w2.heap.size ≤ W5.heap.size := S1.size
                    have S2 : Below w2.heap.size w2 (W5.alloc (.cells #[.slice a5 n c5] 22)) := S1.alloc hs5 _
                    have hba : Below W5.heap.size W5 (W5.alloc (.cells #[.slice a5 n c5] 22)) := (Below.refl _ _).alloc (Nat.le_refl _) _
                    have HOX := Lib.hid (owns_below HO5.out hba)
                    refine held_buildS (i := 15) (some 92) (by kernel_rfl) rfl rfl rfl (.tmp 91) a5 n c5 rfl (by kernel_rfl) ⟨S2, ?_⟩
                    refine held_appendS (i := 16) (some 93) (by kernel_rfl) rfl rfl rfl (.tmp 77) (.tmp 92) rfl w2.heap.size (.slice an N.length cn) _ _ (by kernel_rfl) HOX.out W5.heap.size a5 n c5 (by kernel_rfl) (cell_alloc1 W5 _ _) (by simp; omega) (by simp; omega) ?_
                    intro v' w3 hown hgrow
                    have S3 : Below w2.heap.size w2 w3 := S2.grown hgrow (by simp; omega) (fun g hg => ((HOX.out.lt) g hg).1)
                    have HB3 := Lib.hid S3
                    have HGS3 : Hid (Gs w2.heap.size w3 v' ((N ++ [less1 p u R[j]]).map (toL n))) := Lib.hid (by
                      rw [List.map_append]
                      exact Gs.push HOX.out (fun i h1 h2 => ((HVR.out i h1 h2).below hb5').below hba) (HG5.out.below hba) hown hgrow)
                    refine ⟨S3, ?_⟩
                    refine held_take (i := 17) (v := v') (some 11) rfl rfl (by kernel_rfl) (by kernel_rfl) (by kernel_rfl) (fun _ _ _ h => h) (yieldsIf_assign (by kernel_rfl) rfl (by kernel_rfl)) S3 ?_
                    refine wpAnyH_done (by kernel_rfl) ?_ _
                    simp only [Act.put, List.setIfInBounds_toArray, List.set_cons_zero, List.set_cons_succ]
                    clear S0 S1 S2 S3 hown hgrow hb5 hb5' hba hg5 HOX HO5 HG5 hrowj hcellj HLESS hs5
                    go_wp2
                    go_roundw
                    case rel => exact ⟨j + 1, false, _, by omega, by go_num, rfl, HB3, HGS3, Lib.hid (HNX2.out)⟩
                    case measure => simp [intOf]; omega
              · have hjj : Hid (j = R.length) := Lib.hid (by omega)
                have HBO : Hid (Below w.heap.size w wr) := Lib.hid (HB.out.trans ((HB2.out.trans (HBX.out.mono hs2)).mono hsz))
                cases pt with
                | true =>
                  have hdone : ∃ K, K ≤ R.length ∧ N = Lin.put p R K u ∧ (∀ w ∈ R.take K, Lin.ld w < Lin.ld u) ∧ ∀ w ∈ R.drop K, ¬ Lin.ld w < Lin.ld u := Nx.done HR.out.red (by have := HNX.out; rwa [hjj.out] at this)
                  obtain ⟨KK, hK, hN, hlo, hhi⟩ := hdone
                  have HR6 : Hid (RedN p n N (TS.take (k + 1))) := Lib.hid (by
                    rw [HTK.out, hN]
                    exact HR.out.put hp1 HTKM.out HTT.out.1 HRE.out HZ.out HUU.out HUW.out hK hlo hhi)
                  have hNl2 : N.length ≤ k + 1 := by rw [hN, put_length p R KK u hK]; omega
                  clear hlo hhi hN
                  go_wp2
                  go_roundw
                  case rel => exact ⟨k + 1, N, by omega, by go_num, HBO, Lib.hid (HGN0.out.mono (by omega)), HR6, hNl2⟩
                  case measure => simp [intOf]; omega
                | false =>
                  have hdone : ∃ K, K ≤ R.length ∧ N ++ [u] = Lin.put p R K u ∧ (∀ w ∈ R.take K, Lin.ld w < Lin.ld u) ∧ ∀ w ∈ R.drop K, ¬ Lin.ld w < Lin.ld u := Nx.end (by have := HNX.out; rwa [hjj.out] at this)
                  obtain ⟨KK, hK, hN, hlo, hhi⟩ := hdone
                  have HR6 : Hid (RedN p n (N ++ [u]) (TS.take (k + 1))) := Lib.hid (by
                    rw [HTK.out, hN]
                    exact HR.out.put hp1 HTKM.out HTT.out.1 HRE.out HZ.out HUU.out HUW.out hK hlo hhi)
                  have hNl2 : (N ++ [u]).length ≤ k + 1 := by rw [hN, put_length p R KK u hK]; omega
                  clear hlo hhi hN
                  go_wp2_with (at_builtin; refine wpList_append_own _ rfl (.tmp 96) (.tmp 98) 26 rfl w2.heap.size 22 i0 (.slice none 0 0) 1 24 Try.underlying26 hi0 hz0 hz1 hz2 rfl (by decide) _ _ _ rfl (HVO.out.alloc _) ⟨wr.heap.size, 0, none⟩ 1 1 [.slice (some ⟨g, 0, none⟩) n c7] rfl rfl ?c1 ?c2 ?c3 ?c4 ?c5 ?_)
                  case c1 =>
                    intro j u hj
                    match j, hj with
                    | 0, hj => simp at hj; subst hj; simp [Addr.add]
                  case c2 => intro u hu; simp at hu; subst hu; rfl
                  case c3 => rw [List.length_map]; unfold maxLen; omega
                  case c4 => rw [List.length_map]; omega
                  case c5 => simp; omega
                  intro v' w3 hown hgrow _
                  have hba : Below wr.heap.size wr (wr.alloc (.cells #[.slice (some ⟨g, 0, none⟩) n c7] 22)) := (Below.refl _ _).alloc (Nat.le_refl _) _
                  have HOX := Lib.hid (owns_below HVO.out hba)
                  have HBN := Lib.hid ((HBX.out.alloc hsx (.cells #[.slice (some ⟨g, 0, none⟩) n c7] 22)).grown hgrow (by simp; omega) (fun g hg => ((HOX.out.lt) g hg).1))
                  have HGN : Hid (Gs w2.heap.size w3 v' ((N ++ [u]).map (toL n))) := Lib.hid (by
                    rw [List.map_append]
                    exact Gs.push HOX.out (fun i h1 h2 => (HVR.out i h1 h2).below hba) ((HOWN7.out.below HBX.out).below hba) (by rw [List.length_map]; exact hown) hgrow)
                  clear hown hgrow hba HOX
                  have HBO2 : Hid (Below w.heap.size w w3) := Lib.hid (HB.out.trans ((HB2.out.trans (HBN.out.mono hs2)).mono hsz))
                  go_wp2
                  go_roundw
                  case rel => exact ⟨k + 1, N ++ [u], by omega, by go_num, HBO2, Lib.hid (HGN.out.mono (by omega)), HR6, hNl2⟩
                  case measure => simp [intOf]; omega
    · have hkk : Hid (TS.take k = TS) := Lib.hid (List.take_of_length_le (by omega))
      go_wp2
      go_ret
      exact ⟨_, R, rfl, HO.out, HB.out, by have := HR.out; rwa [hkk.out] at this, by omega⟩
end Go.Proofs.Ytpdkfidmmjlmnab
