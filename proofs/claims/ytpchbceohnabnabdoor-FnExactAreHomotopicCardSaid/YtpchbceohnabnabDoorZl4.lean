/-
  Texts that ProofAhl needs, part 4.
-/
import Derived.Test.YtpchbceohnabnabDoorZl3
import Derived.Great.BuildSlice
import Derived.Laws.AppendOwn
import Derived.Deep.AppendLies
import Derived.Lib.AppendZeros
import Derived.Deep.RegionHeld3
import Derived.Laws.EntriesVeiled
import Derived.Deep.QuietTactic
import Derived.BigRegion
import Derived.Deep.Cut
import Derived.Deep.CutRange
namespace Go.Proofs.YtpchbceohnabnabDoor
open Go.RowKit

section
variable {P : Program} {md : Region.Mode} {ops : Array Oper} {Q : Exit → Act → World → Prop} {S : World → Prop}
theorem yieldsIf_bin {o : Oper} {a : Act} {x y : Operand} {v u i : Value} {b : BinOp} {t t' : TypeId} (hg : o.guard = none) (ho : o.op = .binOp b t x y t') (hx : a.eval x = u) (hy : a.eval y = i) (hge : ∀ w, (eqGuard b t x y u i).run P w = .ok () w) (hrun : ∀ w, (binOp b t u i).run P w = .ok v w) : YieldsIf P ops S o v a :=
  Or.inl ⟨by unfold Region.wanted; rw [hg], fun w _ => by
    unfold execOp
    simp only [ho, hx, hy, Sem.run_bind, hge w, hrun w, Result.andThen_ok]
    rfl⟩
theorem yieldsIf_run {o : Oper} {a : Act} {v : Value} (hg : o.guard = none) (hrun : ∀ w, S w → (execOp a.eval o).run P w = .ok (.value v) w) : YieldsIf P ops S o v a :=
  Or.inl ⟨by unfold Region.wanted; rw [hg], hrun⟩
theorem yieldsIf_assign {o : Oper} {a : Act} {x : Operand} {v : Value} (hg : o.guard = none) (ho : o.op = .assign x) (hx : a.eval x = v) : YieldsIf P ops S o v a :=
  Or.inl ⟨by unfold Region.wanted; rw [hg], fun w _ => by
    unfold execOp
    simp only [ho, hx]
    rfl⟩
end
section
variable {md : Region.Mode} {ops : Array Oper} {Q : Exit → Act → World → Prop} {S : World → Prop}
/-- A slice of one new number. -/
theorem held_buildI {i : Nat} {oi : Oper} {fuel : Nat} {listed : Array Bool} {a : Act} {w : World} (d : Option Tmp) (hr : Region.ready md ops listed = [i]) (hi : ops[i]? = some oi) (hg : oi.guard = none) (hd : oi.dst = d)
    (x : Operand) (n : Int) (ho : oi.op = .buildSlice 22 1 #[(0, x)]) (hx : a.eval x = .int .i64 n)
    (h : S (w.alloc (.cells #[.int .i64 n] 2)) ∧ wpAnyH Tryd.prog md ops Q S fuel (listed.setIfInBounds i true) (a.put d (.slice (some ⟨w.heap.size, 0, none⟩) 1 1)) (w.alloc (.cells #[.int .i64 n] 2))) : wpAnyH Tryd.prog md ops Q S (fuel + 1) listed a w := by
  obtain ⟨ie, hie, hz, h1, _⟩ := info_parts Tryd.infoI
  subst hd
  refine held_call hr hi hg (wp_buildSlice 22 2 1 #[(0, x)] ho #[.int .i64 n] ie _ Tryd.underlying22 hie hz (by rw [h1]; decide) (by rw [h1]; decide) ?_ h)
  simp only [h1, List.map_toArray, List.map_cons, List.map_nil, hx]
  first | kernel_rfl | simp [Instr.fill]
/-- A slice of one new row. -/
theorem held_buildS {i : Nat} {oi : Oper} {fuel : Nat} {listed : Array Bool} {a : Act} {w : World} (d : Option Tmp) (hr : Region.ready md ops listed = [i]) (hi : ops[i]? = some oi) (hg : oi.guard = none) (hd : oi.dst = d)
    (x : Operand) (ad : Option Addr) (n c : Nat) (ho : oi.op = .buildSlice 48 1 #[(0, x)]) (hx : a.eval x = .slice ad n c)
    (h : S (w.alloc (.cells #[.slice ad n c] 22)) ∧ wpAnyH Tryd.prog md ops Q S fuel (listed.setIfInBounds i true) (a.put d (.slice (some ⟨w.heap.size, 0, none⟩) 1 1)) (w.alloc (.cells #[.slice ad n c] 22))) : wpAnyH Tryd.prog md ops Q S (fuel + 1) listed a w := by
  obtain ⟨ie, hie, hz, h1, _⟩ := info_parts Tryd.infoS
  subst hd
  refine held_call hr hi hg (wp_buildSlice 48 22 1 #[(0, x)] ho #[.slice ad n c] ie _ Tryd.underlying48 hie hz (by rw [h1]; decide) (by rw [h1]; decide) ?_ h)
  simp only [h1, List.map_toArray, List.map_cons, List.map_nil, hx]
  first | kernel_rfl | simp [Instr.fill]
/-- append of one number. -/
theorem held_appendI {i : Nat} {oi : Oper} {fuel : Nat} {listed : Array Bool} {a : Act} {w : World} (d : Option Tmp) (hr : Region.ready md ops listed = [i]) (hi : ops[i]? = some oi) (hg : oi.guard = none) (hd : oi.dst = d)
    (s x : Operand) (ho : oi.op = .call { callee := .builtin .append, args := #[s, x], argTypes := #[22, 22] }) (base : Nat) (v : Value) (n : Nat) (xs : List Value) (hs : a.eval s = v) (hown : w.ownsRow base 2 1 v n xs)
    (b : Nat) (y : Int) (hx : a.eval x = .slice (some ⟨b, 0, none⟩) 1 1) (hc : w.cell? ⟨b, 0, none⟩ = some (.int .i64 y)) (hn : n ≤ 2097152) (hb : base ≤ w.heap.size)
    (h : ∀ v' w', w'.ownsRow base 2 1 v' (n + 1) (xs ++ [.int .i64 y]) → w.grownBy w' v.ownBlock → S w' ∧ wpAnyH Tryd.prog md ops Q S fuel (listed.setIfInBounds i true) (a.put d v') w') : wpAnyH Tryd.prog md ops Q S (fuel + 1) listed a w := by
  obtain ⟨ie, hie, hz, h1, h2⟩ := info_parts Tryd.infoI
  subst hd
  refine held_call hr hi hg (wp_append_own w s x 22 ho base 2 ie _ 1 8 Tryd.underlying22 hie hz h1 h2 rfl (by decide) v n xs hs hown ⟨b, 0, none⟩ 1 1 [.int .i64 y] hx rfl ?_ ?_ (by unfold maxLen; omega) (by omega) hb (fun v' w' h2 h3 _ => h v' w' h2 h3))
  · intro j u hj
    match j, hj with
    | 0, hj =>
      simp at hj
      subst hj
      exact hc
  · intro u hu
    simp at hu
    subst hu
    rfl
/-- append of one row. -/
theorem held_appendS {i : Nat} {oi : Oper} {fuel : Nat} {listed : Array Bool} {a : Act} {w : World} (d : Option Tmp) (hr : Region.ready md ops listed = [i]) (hi : ops[i]? = some oi) (hg : oi.guard = none) (hd : oi.dst = d)
    (s x : Operand) (ho : oi.op = .call { callee := .builtin .append, args := #[s, x], argTypes := #[48, 48] }) (base : Nat) (v : Value) (n : Nat) (xs : List Value) (hs : a.eval s = v) (hown : w.ownsRow base 22 1 v n xs)
    (b : Nat) (ad : Option Addr) (m c : Nat) (hx : a.eval x = .slice (some ⟨b, 0, none⟩) 1 1) (hc : w.cell? ⟨b, 0, none⟩ = some (.slice ad m c)) (hn : n ≤ 2097152) (hb : base ≤ w.heap.size)
    (h : ∀ v' w', w'.ownsRow base 22 1 v' (n + 1) (xs ++ [.slice ad m c]) → w.grownBy w' v.ownBlock → S w' ∧ wpAnyH Tryd.prog md ops Q S fuel (listed.setIfInBounds i true) (a.put d v') w') : wpAnyH Tryd.prog md ops Q S (fuel + 1) listed a w := by
  obtain ⟨ie, hie, hz, h1, h2⟩ := info_parts Tryd.infoS
  subst hd
  refine held_call hr hi hg (wp_append_own w s x 48 ho base 22 ie _ 1 24 Tryd.underlying48 hie hz h1 h2 rfl (by decide) v n xs hs hown ⟨b, 0, none⟩ 1 1 [.slice ad m c] hx rfl ?_ ?_ (by unfold maxLen; omega) (by omega) hb (fun v' w' h2 h3 _ => h v' w' h2 h3))
  · intro j u hj
    match j, hj with
    | 0, hj =>
      simp at hj
      subst hj
      exact hc
  · intro u hu
    simp at hu
    subst hu
    rfl
end
theorem hmulI {a b : Int} (h0 : -1000 ≤ a * b) (h1 : a * b ≤ 1000) (w : World) : (binOp .mul 2 (.int .i64 a) (.int .i64 b)).run Tryd.prog w = .ok (.int .i64 (a * b)) w := by
  have hw : IntKind.i64.wrap (a * b) = a * b := IntWalk.i64_in _ (by omega)
  go_simp
theorem hsubI {a b : Int} (h0 : -1000 ≤ a - b) (h1 : a - b ≤ 1000) (w : World) : (binOp .sub 2 (.int .i64 a) (.int .i64 b)).run Tryd.prog w = .ok (.int .i64 (a - b)) w := by
  have hw : IntKind.i64.wrap (a - b) = a - b := IntWalk.i64_in _ (by omega)
  go_simp
theorem cell_alloc1 (w : World) (v : Value) (t : TypeId) : (w.alloc (.cells #[v] t)).cell? ⟨w.heap.size, 0, none⟩ = some v := by
  unfold World.cell?
  rw [heap_alloc_new w (.cells #[v] t)]
  rfl
theorem hidxI (b o : Nat) {k n : Nat} (cap : Nat) (hk : k < n) (w : World) : (Instr.indexAt 22 (.slice (some ⟨b, o, none⟩) n cap) (.int .i64 k)).run Tryd.prog w = .ok (.pointer (some ⟨b, o + k, none⟩)) w := by
  have h2 : (0 : Int) ≤ (k : Int) := by omega
  have h3 : (k : Int) < (n : Int) := by omega
  go_simp
theorem hidxS (b o : Nat) {k n : Nat} (cap : Nat) (hk : k < n) (w : World) : (Instr.indexAt 48 (.slice (some ⟨b, o, none⟩) n cap) (.int .i64 k)).run Tryd.prog w = .ok (.pointer (some ⟨b, o + k, none⟩)) w := by
  have h2 : (0 : Int) ≤ (k : Int) := by omega
  have h3 : (k : Int) < (n : Int) := by omega
  go_simp
theorem hloadS (w : World) {b o : Nat} {x : Value} (h : w.cell? ⟨b, o, none⟩ = some x) : (Instr.loadAt 22 (.pointer (some ⟨b, o, none⟩))).run Tryd.prog w = .ok x w := by go_simp
end Go.Proofs.YtpchbceohnabnabDoor

namespace Go.Proofs.YtpchbceohnabnabDoor
open Go.RowKit

theorem ld_ltn {n : Nat} {v : Lin.V} (hw : Lin.Wd n v) (hne : v ≠ Lin.zv) : Lin.ld v < n ∧ v (Lin.ld v) ≠ 0 ∧ ∀ j, j < Lin.ld v → v j = 0 := by
  obtain ⟨i, hi⟩ := Lin.ne_zv hne
  obtain ⟨h1, h2⟩ := Lin.ld_spec hi
  refine ⟨Classical.byContradiction fun hn => h1 (hw _ (by omega)), h1, h2⟩
theorem leadOf_toL {n : Nat} {u : Lin.V} (hw : Lin.Wd n u) (hne : u ≠ Lin.zv) : leadOf (toL n u) = (Lin.ld u : Int) := by
  obtain ⟨h1, h2, h3⟩ := ld_ltn hw hne
  refine leadOf_at (k := Lin.ld u) (by rw [toL_length]; exact h1) (fun j hj hjk => ?_) ?_
  · rw [toL_get]; exact h3 j hjk
  · rw [toL_get]; exact h2
theorem leadOf_zv (n : Nat) : leadOf (toL n Lin.zv) = -1 := leadOf_zero (fun j hj => by rw [toL_get]; rfl)
/-- What a reduced list of rows of n numbers has to do with a list. -/
structure RedN (p : Int) (n : Nat) (R T : List Lin.V) : Prop where
  red : Lin.Red p R
  wd : ∀ u ∈ R, Lin.Wd n u
  eqv : Lin.Eqv p R T
theorem RedN.nil (p : Int) (n : Nat) : RedN p n [] [] := ⟨Lin.Red.nil p, by simp, Lin.Eqv.refl _ _⟩
theorem RedN.skip {p : Int} (hp : 0 < p) {n : Nat} {R T : List Lin.V} (h : RedN p n R T) {v : Lin.V} (hT : ∀ w ∈ T, Lin.Md p w) (hv : Lin.Md p v) (hr : Lin.Rest p R v R.length Lin.zv) : RedN p n R (T ++ [v]) :=
  ⟨h.red, h.wd, Lin.skip_eqv hp h.red hT hv h.eqv hr⟩
theorem RedN.put {p : Int} (hp : 1 < p) {n : Nat} {R T : List Lin.V} (h : RedN p n R T) {v r u : Lin.V} {k : Nat} (hT : ∀ w ∈ T, Lin.Md p w) (hv : Lin.Md p v) (hr : Lin.Rest p R v R.length r) (hne : r ≠ Lin.zv) (hu : Lin.Unit p r u) (huw : Lin.Wd n u) (hk : k ≤ R.length)
    (hlo : ∀ w ∈ R.take k, Lin.ld w < Lin.ld u) (hhi : ∀ w ∈ R.drop k, ¬ Lin.ld w < Lin.ld u) : RedN p n (Lin.put p R k u) (T ++ [v]) := by
  have hf := Lin.fits_of hr hne hu hk hlo hhi
  refine ⟨hf.red hp h.red, fun x hx => ?_, Lin.put_eqv hp h.red hT hv h.eqv hr hu hf⟩
  rcases Lin.put_mem.1 hx with rfl | ⟨y, hy, rfl⟩
  · exact huw
  · exact Lin.add_wd _ (h.wd y hy) huw
theorem RedN.same {p : Int} (hp : 1 < p) {n : Nat} {R R' T : List Lin.V} (h : RedN p n R T) (k : RedOf p R' T) : R' = R :=
  Lin.Red.unique hp k.red h.red (fun v => (k.eqv v).trans (h.eqv v).symm)
theorem RedN.unique {p : Int} (hp : 1 < p) {n n' : Nat} {R R' T T' : List Lin.V} (h : RedN p n R T) (k : RedN p n' R' T') (e : Lin.Eqv p T T') : R' = R :=
  Lin.Red.unique hp k.red h.red (fun v => ((k.eqv v).trans (e v).symm).trans (h.eqv v).symm)

/-- A row less its multiple of u. -/
noncomputable def less1 (p : Int) (u w : Lin.V) : Lin.V := Lin.add p w (-(w (Lin.ld u))) u
/-- The next list while it is gathered: j rows have been seen; pt: the new row is in. -/
def Nx (p : Int) (R : List Lin.V) (u : Lin.V) (j : Nat) (pt : Bool) (N : List Lin.V) : Prop :=
  if pt then ∃ K, K ≤ j ∧ (∃ h : K < R.length, Lin.ld u < Lin.ld R[K]) ∧ (∀ w ∈ R.take K, Lin.ld w < Lin.ld u) ∧ N = Lin.put p (R.take j) K u
  else (∀ w ∈ R.take j, Lin.ld w < Lin.ld u) ∧ N = (R.take j).map (less1 p u)
theorem Nx.start (p : Int) (R : List Lin.V) (u : Lin.V) : Nx p R u 0 false [] := ⟨by simp, by simp⟩
theorem put_more {p : Int} {R : List Lin.V} {u : Lin.V} {j K : Nat} (hK : K ≤ j) (hj : j < R.length) : Lin.put p (R.take j) K u ++ [less1 p u R[j]] = Lin.put p (R.take (j + 1)) K u := by
  have hl : (R.take j).length = j := by simp; omega
  rw [List.take_succ_eq_append_getElem hj]
  unfold Lin.put
  rw [List.take_append_of_le_length (by omega), List.drop_append_of_le_length (by omega), List.map_append, List.append_assoc]
  rfl
theorem put_last {p : Int} {R : List Lin.V} {u : Lin.V} : (R.map (less1 p u)) ++ [u] = Lin.put p R R.length u := by
  unfold Lin.put
  rw [List.take_of_length_le (Nat.le_refl _), List.drop_of_length_le (Nat.le_refl _)]
  rfl
theorem Nx.keep {p : Int} {R : List Lin.V} {u : Lin.V} {j : Nat} {N : List Lin.V} (h : Nx p R u j true N) (hj : j < R.length) : Nx p R u (j + 1) true (N ++ [less1 p u R[j]]) := by
  obtain ⟨K, hK, hx, hlo, rfl⟩ := h
  exact ⟨K, by omega, hx, hlo, put_more hK hj⟩
theorem Nx.pass {p : Int} {R : List Lin.V} {u : Lin.V} {j : Nat} {N : List Lin.V} (h : Nx p R u j false N) (hj : j < R.length) (hlt : Lin.ld R[j] < Lin.ld u) : Nx p R u (j + 1) false (N ++ [less1 p u R[j]]) := by
  obtain ⟨hlo, rfl⟩ := h
  refine ⟨fun w hw => ?_, ?_⟩
  · rw [List.take_succ_eq_append_getElem hj] at hw
    rcases List.mem_append.1 hw with h1 | h1
    · exact hlo w h1
    · rw [List.mem_singleton.1 h1]; exact hlt
  · rw [List.take_succ_eq_append_getElem hj, List.map_append]
    rfl
theorem Nx.in' {p : Int} {R : List Lin.V} {u : Lin.V} {j : Nat} {N : List Lin.V} (h : Nx p R u j false N) (hj : j < R.length) (hlt : Lin.ld u < Lin.ld R[j]) : Nx p R u (j + 1) true (N ++ [u] ++ [less1 p u R[j]]) := by
  obtain ⟨hlo, rfl⟩ := h
  have hl : (R.take j).length = j := by simp; omega
  refine ⟨j, by omega, ⟨hj, hlt⟩, hlo, ?_⟩
  have e := put_last (p := p) (R := R.take j) (u := u)
  rw [e, hl]
  exact put_more (Nat.le_refl _) hj
theorem Nx.done {p : Int} {R : List Lin.V} {u : Lin.V} {N : List Lin.V} (hR : Lin.Red p R) (h : Nx p R u R.length true N) : ∃ K, K ≤ R.length ∧ N = Lin.put p R K u ∧ (∀ w ∈ R.take K, Lin.ld w < Lin.ld u) ∧ ∀ w ∈ R.drop K, ¬ Lin.ld w < Lin.ld u := by
  obtain ⟨K, hK, ⟨hk, hx⟩, hlo, rfl⟩ := h
  refine ⟨K, hK, by rw [List.take_of_length_le (Nat.le_refl _)], hlo, fun w hw => ?_⟩
  rw [List.drop_eq_getElem_cons hk] at hw
  have hp := hR.inc
  rw [← List.take_append_drop K R, List.drop_eq_getElem_cons hk] at hp
  have h2 := (List.pairwise_append.1 hp).2.1
  rcases List.mem_cons.1 hw with rfl | hw
  · omega
  · have := (List.pairwise_cons.1 h2).1 w hw
    omega
theorem Nx.end {p : Int} {R : List Lin.V} {u : Lin.V} {N : List Lin.V} (h : Nx p R u R.length false N) : ∃ K, K ≤ R.length ∧ N ++ [u] = Lin.put p R K u ∧ (∀ w ∈ R.take K, Lin.ld w < Lin.ld u) ∧ ∀ w ∈ R.drop K, ¬ Lin.ld w < Lin.ld u := by
  obtain ⟨hlo, rfl⟩ := h
  refine ⟨R.length, Nat.le_refl _, ?_, hlo, ?_⟩
  · rw [List.take_of_length_le (Nat.le_refl _)]
    exact put_last
  · rw [List.drop_of_length_le (Nat.le_refl _)]
    simp
theorem Nx.length {p : Int} {R : List Lin.V} {u : Lin.V} {j : Nat} {pt : Bool} {N : List Lin.V} (h : Nx p R u j pt N) (hj : j ≤ R.length) : N.length ≤ j + 1 := by
  have hl : (R.take j).length = j := by simp; omega
  cases pt with
  | true =>
    obtain ⟨K, hK, _, _, rfl⟩ := h
    rw [put_length p _ K u (by omega)]
    omega
  | false =>
    obtain ⟨_, rfl⟩ := h
    rw [List.length_map]
    omega
/-- A unit row's lead is none of the list's. -/
theorem lead_apart {p : Int} {R : List Lin.V} {v r u w : Lin.V} (hr : Lin.Rest p R v R.length r) (hu : Lin.Unit p r u) (hw : w ∈ R) : Lin.ld w ≠ Lin.ld u := fun e => by
  have h0 := hu.at0 _ (hr.off w (by rw [List.take_of_length_le (Nat.le_refl _)]; exact hw))
  rw [e, hu.one] at h0
  exact absurd h0 (by decide)
/-- The remainder as the reference model takes it. -/
theorem mod_twice {p x : Int} (hp : 0 < p) : (x.tmod p + p).tmod p = x % p := by
  have h1 : 0 ≤ x.tmod p + p := by
    have := Int.lt_tmod_of_pos x hp
    omega
  rw [Int.tmod_eq_emod_of_nonneg h1, Int.add_emod_right]
  rcases Int.le_total 0 x with h | h
  · rw [Int.tmod_eq_emod_of_nonneg h, Int.emod_emod_of_dvd x (Int.dvd_refl p)]
  · have e := Int.mul_tdiv_add_tmod x p
    have : x.tmod p = x + p * (-(x.tdiv p)) := by rw [Int.mul_neg]; omega
    rw [this, Int.add_mul_emod_self_left]
end Go.Proofs.YtpchbceohnabnabDoor

namespace Go.Proofs.YtpchbceohnabnabDoor
open Go.RowKit

/-- A row of numbers that a call has gathered above a base. -/
def Gb (base : Nat) (w : World) (u : Value) (xs : List Int) : Prop := w.ownsRow base 2 1 u xs.length (xs.map (Value.int .i64))
theorem Gb.g1 {base : Nat} {w : World} {u : Value} {xs : List Int} (h : Gb base w u xs) : G1 w u xs := owns_mono h (Nat.zero_le _)
theorem Gb.l1 {base : Nat} {w : World} {u : Value} {xs : List Int} (h : Gb base w u xs) : L1 0 w u xs := h.g1.l1
theorem Gb.below {base : Nat} {w w' : World} {u : Value} {xs : List Int} (h : Gb base w u xs) (hb : Below w.heap.size w w') : Gb base w' u xs := owns_below h hb
theorem Gb.mono {base base' : Nat} {w : World} {u : Value} {xs : List Int} (h : Gb base w u xs) (hb : base' ≤ base) : Gb base' w u xs := owns_mono h hb

theorem toL_succ (q : Nat) (v : Lin.V) : toL (q + 1) v = toL q v ++ [v q] := by simp [toL, List.range_succ]

def GbR (xs : List Int) (w : World) (e : Ending) (w' : World) : Prop := ∃ u, e = .returned u ∧ Gb w.heap.size w' u xs ∧ Below w.heap.size w w'

theorem run_append_zero (w : World) (ty : TypeId) (g : Nat) (ad : Option Addr) (cap : Nat) :
    (Builtin.append_ #[22, 22] ty #[.slice (some ⟨g, 0, none⟩) 0 0, .slice ad 0 cap]).run Tryd.prog w = .ok (.slice (some ⟨g, 0, none⟩) 0 0) w := by
  obtain ⟨i, hi, _, _, _⟩ := info_parts Tryd.infoI
  cases ad with
  | none => simp [Builtin.append_, run_underlying Tryd.underlying22, sizeOf, typeInfo, hi, Builtin.lenOf, Builtin.firstCells, storeCells]
  | some a =>
    have hl := run_loadCells_list (P := Tryd.prog) w a [] (by simp)
    simp at hl
    simp [Builtin.append_, run_underlying Tryd.underlying22, sizeOf, typeInfo, hi, Builtin.lenOf, Builtin.firstCells, storeCells, hl]
theorem wpList_append_run {ops : Array Oper} {rest : List Oper} {o : Oper} {a : Act} {w : World} {Q : Exit → Act → World → Prop} {P : Program} (hgd : o.guard = none) (d s : Operand) (t t' : TypeId)
    (ho : o.op = .call { callee := .builtin .append, args := #[d, s], argTypes := #[t, t'] }) (v u : Value) (hd : a.eval d = v) (hs : a.eval s = u) {v' : Value} {w' : World}
    (hr : (Builtin.append_ #[t, t'] o.type #[v, u]).run P w = .ok v' w') (h : wpList P ops Q rest (a.put o.dst v') w') : wpList P ops Q (o :: rest) a w :=
  wpList_plain hgd fun K hK => by
    unfold Oper.wp execOp
    simp only [ho, resolve, invoke, builtin, Sem.run_bind, Sem.run_pure, Result.andThen_ok, List.map_toArray, List.map_cons, List.map_nil, hd, hs, hr]
    exact hK _ _ h

set_option maxHeartbeats 800000 in
theorem l01Own_any (v : Value) (xs : List Int) (w : World) (h : L1 0 w v xs) (hm : xs.length ≤ 1048576) :
    Calls Tryd.prog 75 #[v] w (GbR xs w) := by
  have HOWN := Lib.hid (World.ownsRow_made (base := w.heap.size) (e := 2) (size := 1) w #[] 0 (Nat.le_refl _) (by unfold maxLen; omega) (by simp))
  obtain ⟨i1, hj, hy0, hy1, hy2⟩ := info_parts Tryd.infoI
  refine Sl.cases h (fun ad cap hx hv => ?_) (fun b o cap hv _ hpos hc => ?_)
  · subst hx hv
    clear h
    have hrun := fun W ty => run_append_zero W ty w.heap.size ad cap
    go_enter Tryd.func75, Tryd.ntmps75
    go_wp2_with (at_builtin; refine wpList_append_run rfl (.tmp 3) (.tmp 4) 22 22 rfl _ _ rfl rfl (hrun _ _) ?_)
    go_wp2
    go_ret
    exact ⟨_, rfl, by simpa [Gb] using HOWN.out, (Below.refl _ _).alloc (Nat.le_refl _) _⟩
  · subst hv
    clear h
    have HC := Lib.hid hc
    clear hc
    go_enter Tryd.func75, Tryd.ntmps75
    go_wp2_with (at_builtin; refine wpList_append_own _ rfl (.tmp 3) (.tmp 4) 22 rfl w.heap.size 2 i1 (.int .i64 0) 1 8 Tryd.underlying22 hj hy0 hy1 hy2 rfl (by decide) _ _ _ rfl HOWN.out ⟨b, o, none⟩ xs.length cap (xs.map (Value.int .i64)) rfl ?c0 ?c1 ?c2 ?c3 ?c4 ?c5 ?_)
    case c0 => simp
    case c1 =>
      intro j u hju
      have hj' : j < xs.length := by
        have := (List.getElem?_eq_some_iff.1 hju).1
        simpa using this
      obtain ⟨u2, h2, h3⟩ := HC.out j hj'
      rw [Addr.add_lit]
      have h4 := cell_lt h2
      rw [((Below.refl w.heap.size w).alloc (Nat.le_refl _) _).cell (p := ⟨b, o + j, none⟩) h4, h2, h3]
      simp [hj'] at hju
      rw [hju]
    case c2 => intro u hu; obtain ⟨x, _, rfl⟩ := List.mem_map.1 hu; rfl
    case c3 => unfold maxLen; omega
    case c4 => omega
    case c5 => simp
    intro v' w3 hown' hgrow _
    have HB3 : Hid (Below w.heap.size w w3) := Lib.hid (((Below.refl _ _).alloc (Nat.le_refl _) _).grown hgrow (by simp) (fun g hg => ((HOWN.out.lt) g hg).1))
    have HO3 := Lib.hid hown'
    clear hown' hgrow
    go_wp2
    go_ret
    exact ⟨_, rfl, by simpa [Gb] using HO3.out, HB3.out⟩

theorem tmod_bd {p x : Int} (hp : IsP p) : -7 < x.tmod p ∧ x.tmod p < 7 := by
  have h1 := Int.lt_tmod_of_pos x (show 0 < p by have := hp.lo; omega)
  have h2 := Int.tmod_lt_of_pos x (show 0 < p by have := hp.lo; omega)
  have := hp.hi
  omega
set_option maxHeartbeats 400000 in
theorem l01Mod_any (p x : Int) (w : World) (hp : IsP p) : Calls Tryd.prog 74 #[.int .i64 p, .int .i64 x] w (QW (.int .i64 (x % p)) w) := by
  have HM := Lib.hid (mod_twice (x := x) (show 0 < p by have := hp.lo; omega))
  obtain ⟨hb0, hb1⟩ := tmod_bd (x := x) hp
  have hp0 := hp.lo
  have hp1 := hp.hi
  obtain ⟨r, hr⟩ : ∃ r, r = x.tmod p := ⟨_, rfl⟩
  rw [← hr] at hb0 hb1
  have HR := Lib.hid hr
  clear hr
  go_enter Tryd.func74, Tryd.ntmps74
  go_wp2
  rw [← HR.out]
  have hw : wrap64 (r + p) = r + p := by unfold wrap64; omega
  go_ret
  exact ⟨ret_int (by rw [← HM.out, ← HR.out, hw]), rfl⟩

set_option maxHeartbeats 800000 in
theorem l01Inverse_any (p a : Int) (w : World) (hp : IsP p) (h0 : 0 < a) (h1 : a < p) : Calls Tryd.prog 103 #[.int .i64 p, .int .i64 a] w (InvR p a w) := by
  obtain ⟨d, hd1, hdp, hd⟩ := inv_ex hp h0 h1
  have hp7 := hp.hi7
  have hp1 := hp.lo1
  have HD := Lib.hid hd
  have HP := Lib.hid hp
  have HAM : Hid (a % p = a) := Lib.hid (Int.emod_eq_of_lt (by omega) h1)
  clear hd hp
  go_enter Tryd.func103, Tryd.ntmps103
  go_wp2
  go_loop [5] (fun i => ∃ k : Nat, 1 ≤ k ∧ k ≤ d ∧ i = .int .i64 k) (fun i => d + 1 - (intOf i).toNat)
  case atStart => exact ⟨1, Nat.le_refl _, hd1, rfl⟩
  case round =>
    obtain ⟨k, hk1, hk, rfl⟩ := hrel
    obtain ⟨hm0, hm1⟩ := mul_bd HP.out (a := (k : Int)) (b := a) (by omega) (by omega) (by omega) (by omega)
    have hkp : (k : Int) < p := by omega
    go_wp2_with fail
    have hmod := l01Mod_any p a w HP.out
    rw [HAM.out] at hmod
    refine hmod.mono ?_
    clear hmod
    rintro e w' ⟨rfl, rfl⟩
    by_cases hq : (k : Int) * a % p = 1
    · have hx : ((k : Int) * a % p == 1) = true := by rw [hq]; rfl
      have HQ := Lib.hid hq
      clear hq
      go_wp2
      go_ret
      exact ⟨k, rfl, rfl, hk1, by omega, HQ.out⟩
    · have hx : ((k : Int) * a % p == 1) = false := by simp [hq]
      have hkd : k < d := by
        rcases Nat.lt_or_ge k d with h | h
        · exact h
        · have : k = d := by omega
          subst this
          exact absurd HD.out hq
      clear hq
      go_wp2
      go_round
      case rel => exact ⟨k + 1, by omega, by omega, by go_num⟩
      case measure => simp [intOf]; omega

/-- What l01Less computes, number by number, stays small. -/
theorem less_bd {p k a b : Int} (hp : IsP p) (hb : 0 ≤ b ∧ b < p) (hk : 0 ≤ k ∧ k < p) : 0 ≤ k * b ∧ k * b ≤ 42 ∧ (a - k * b) % p = (a + -k * b) % p := by
  obtain ⟨h1, h2⟩ := mul_bd hp hk.1 hk.2 hb.1 (Int.le_of_lt hb.2)
  exact ⟨h1, h2, by rw [Int.neg_mul, Int.sub_eq_add_neg]⟩

set_option maxHeartbeats 3200000 in
set_option maxRecDepth 100000 in
theorem l01Less_any (p k : Int) (n : Nat) (va vb : Value) (u t : Lin.V) (w : World) (hp : IsP p) (ha : L1 0 w va (toL n u)) (hb : L1 0 w vb (toL n t)) (hu : Lin.Md p u) (ht : Lin.Md p t) (hk : 0 ≤ k ∧ k < p) (hn : n ≤ 1048576) :
    Calls Tryd.prog 104 #[.int .i64 p, va, vb, .int .i64 k] w (GbR (toL n (Lin.add p u (-k) t)) w) := by
  have HP := Lib.hid hp
  have hp7 := hp.hi7
  have hp1 := hp.lo1
  have HA := Lib.hid ha
  have HB := Lib.hid hb
  have HU := Lib.hid hu
  have HT := Lib.hid ht
  obtain ⟨y, hy⟩ : ∃ y, y = Lin.add p u (-k) t := ⟨_, rfl⟩
  have HY := Lib.hid hy
  rw [← hy]
  obtain ⟨i1, hj, hy0, hy1, hy2⟩ := info_parts Tryd.infoI
  have HOWN := Lib.hid (World.ownsRow_made (base := w.heap.size) (e := 2) (size := 1) w #[] 0 (Nat.le_refl _) (by unfold maxLen; omega) (by simp))
  obtain ⟨ada, capa, hva⟩ := Sl.shape ha
  obtain ⟨adb, capb, hvb⟩ := Sl.shape hb
  rw [toL_length] at hva hvb
  subst hva hvb
  clear hp ha hb hu ht hy
  go_enter Tryd.func104, Tryd.ntmps104
  go_wp2
  go_loopw [9, 10] (fun o i wr => ∃ (q : Nat), q ≤ n ∧ i = .int .i64 q ∧ Hid (Below w.heap.size w wr) ∧ Hid (wr.ownsRow w.heap.size 2 1 o q ((toL q y).map (Value.int .i64)))) (fun _ i _ => n - (intOf i).toNat)
  case atStart => exact ⟨0, Nat.zero_le _, rfl, Lib.hid ((Below.refl _ _).alloc (Nat.le_refl _) _), Lib.hid (by simpa [toL] using HOWN.out)⟩
  case round =>
    clear HOWN
    obtain ⟨q, hq, rfl, HBE, HO⟩ := hrel
    by_cases hlt : q < n
    · refine Sl.cases HA.out (fun _ _ hx _ => absurd hlt (by have := congrArg List.length hx; rw [toL_length] at this; simp at this; omega)) (fun ba oa ca hva _ _ hca => ?_)
      refine Sl.cases HB.out (fun _ _ hx _ => absurd hlt (by have := congrArg List.length hx; rw [toL_length] at this; simp at this; omega)) (fun bb ob cb hvb _ _ hcb => ?_)
      rw [toL_length] at hva hvb
      obtain ⟨rfl, rfl⟩ : ada = some ⟨ba, oa, none⟩ ∧ capa = ca := by simpa using hva
      obtain ⟨rfl, rfl⟩ : adb = some ⟨bb, ob, none⟩ ∧ capb = cb := by simpa using hvb
      obtain ⟨ua, hua, hra⟩ := hca q (by rw [toL_length]; exact hlt)
      obtain ⟨ub, hub, hrb⟩ := hcb q (by rw [toL_length]; exact hlt)
      rw [toL_get] at hra hrb
      obtain ⟨a, haa⟩ : ∃ a, a = u q := ⟨_, rfl⟩
      obtain ⟨b, hbb⟩ : ∃ b, b = t q := ⟨_, rfl⟩
      have hab := HU.out q
      have hbb2 := HT.out q
      rw [← haa] at hra hab
      rw [← hbb] at hrb hbb2
      have h1 : wr.cell? ⟨ba, oa + q, none⟩ = some (.int .i64 a) := by rw [later HBE.out (Nat.le_refl _) hua, hra]
      have h2 : wr.cell? ⟨bb, ob + q, none⟩ = some (.int .i64 b) := by rw [later HBE.out (Nat.le_refl _) hub, hrb]
      obtain ⟨m0, m1, m2⟩ := less_bd (a := a) HP.out hbb2 hk
      have HM2 : Hid ((a - k * b) % p = y q) := Lib.hid (by rw [m2, HY.out, haa, hbb]; rfl)
      have hmod := fun W => l01Mod_any p (a - k * b) W HP.out
      rw [HM2.out] at hmod
      have HMOD := Lib.hid hmod
      have hsz : w.heap.size ≤ wr.heap.size := HBE.out.size
      have hca1 : ∀ W, Below w.heap.size w W → W.cell? ⟨ba, oa + q, none⟩ = some (.int .i64 a) := fun W h => by rw [later h (Nat.le_refl _) hua, hra]
      have hcb1 : ∀ W, Below w.heap.size w W → W.cell? ⟨bb, ob + q, none⟩ = some (.int .i64 b) := fun W h => by rw [later h (Nat.le_refl _) hub, hrb]
      have hmul : ∀ w, (binOp .mul 2 (.int .i64 k) (.int .i64 b)).run Tryd.prog w = .ok (.int .i64 (k * b)) w := fun w => hmulI (by omega) (by omega) w
      have hsub : ∀ w, (binOp .sub 2 (.int .i64 a) (.int .i64 (k * b))).run Tryd.prog w = .ok (.int .i64 (a - k * b)) w := fun w => hsubI (by omega) (by omega) w
      clear h1 h2
      clear hra hrb hca hcb hva hvb m2 haa hbb hmod
      go_wp2
      refine wp_region_held (S := fun W => Below w.heap.size w W) (by kernel_rfl) ?_
      have S0 : Below w.heap.size w wr.drew := HBE.out.drew
      refine held_take (i := 0) (v := u9) (some 18) rfl rfl (by kernel_rfl) (by kernel_rfl) (by kernel_rfl) (fun _ _ _ h => h) (yieldsIf_move (by kernel_rfl) rfl (by kernel_rfl)) S0 ?_
      refine held_take (i := 1) (v := .int .i64 p) (some 19) rfl rfl (by kernel_rfl) (by kernel_rfl) (by kernel_rfl) (fun _ _ _ h => h) (yieldsIf_move (by kernel_rfl) rfl (by kernel_rfl)) S0 ?_
      refine held_take (i := 2) (v := .slice (some ⟨ba, oa, none⟩) n capa) (some 20) rfl rfl (by kernel_rfl) (by kernel_rfl) (by kernel_rfl) (fun _ _ _ h => h) (yieldsIf_move (by kernel_rfl) rfl (by kernel_rfl)) S0 ?_
      refine held_take (i := 3) (v := .int .i64 (q : Int)) (some 21) rfl rfl (by kernel_rfl) (by kernel_rfl) (by kernel_rfl) (fun _ _ _ h => h) (yieldsIf_move (by kernel_rfl) rfl (by kernel_rfl)) S0 ?_
      refine held_take (i := 4) (v := .pointer (some ⟨ba, oa + q, none⟩)) (some 22) rfl rfl (by kernel_rfl) (by kernel_rfl) (by kernel_rfl) (fun _ _ _ h => h) (yieldsIf_index (by kernel_rfl) rfl (by kernel_rfl) (by kernel_rfl) (hidxI ba oa capa hlt)) S0 ?_
      refine held_take (i := 5) (v := .int .i64 a) (some 23) rfl rfl (by kernel_rfl) (by kernel_rfl) (by kernel_rfl) (fun _ _ _ h => h) (yieldsIf_cell (by kernel_rfl) rfl (by kernel_rfl) (fun W h => hload W (hca1 W h))) S0 ?_
      refine held_take (i := 6) (v := .int .i64 k) (some 24) rfl rfl (by kernel_rfl) (by kernel_rfl) (by kernel_rfl) (fun _ _ _ h => h) (yieldsIf_move (by kernel_rfl) rfl (by kernel_rfl)) S0 ?_
      refine held_take (i := 7) (v := .slice (some ⟨bb, ob, none⟩) n capb) (some 25) rfl rfl (by kernel_rfl) (by kernel_rfl) (by kernel_rfl) (fun _ _ _ h => h) (yieldsIf_move (by kernel_rfl) rfl (by kernel_rfl)) S0 ?_
      refine held_take (i := 8) (v := .int .i64 (q : Int)) (some 26) rfl rfl (by kernel_rfl) (by kernel_rfl) (by kernel_rfl) (fun _ _ _ h => h) (yieldsIf_move (by kernel_rfl) rfl (by kernel_rfl)) S0 ?_
      refine held_take (i := 9) (v := .pointer (some ⟨bb, ob + q, none⟩)) (some 27) rfl rfl (by kernel_rfl) (by kernel_rfl) (by kernel_rfl) (fun _ _ _ h => h) (yieldsIf_index (by kernel_rfl) rfl (by kernel_rfl) (by kernel_rfl) (hidxI bb ob capb hlt)) S0 ?_
      refine held_take (i := 10) (v := .int .i64 b) (some 28) rfl rfl (by kernel_rfl) (by kernel_rfl) (by kernel_rfl) (fun _ _ _ h => h) (yieldsIf_cell (by kernel_rfl) rfl (by kernel_rfl) (fun W h => hload W (hcb1 W h))) S0 ?_
      refine held_take (i := 11) (v := .int .i64 (k * b)) (some 29) rfl rfl (by kernel_rfl) (by kernel_rfl) (by kernel_rfl) (fun _ _ _ h => h) (yieldsIf_bin (by kernel_rfl) rfl (by kernel_rfl) (by kernel_rfl) (fun _ => rfl) hmul) S0 ?_
      refine held_take (i := 12) (v := .int .i64 (a - k * b)) (some 30) rfl rfl (by kernel_rfl) (by kernel_rfl) (by kernel_rfl) (fun _ _ _ h => h) (yieldsIf_bin (by kernel_rfl) rfl (by kernel_rfl) (by kernel_rfl) (fun _ => rfl) hsub) S0 ?_
      refine held_enter (i := 13) (some 31) (f := 74) (args := #[.int .i64 p, .int .i64 (a - k * b)]) (by kernel_rfl) rfl rfl rfl (by kernel_rfl) (HMOD.out _) ?_ (fun c w' h => by cases h.1) (fun w' h => by cases h.1)
      rintro e4 W4 ⟨he4, rfl⟩
      injection he4 with he4
      subst he4
      refine ⟨S0, ?_⟩
      have S1 : Below w.heap.size w (wr.drew.alloc (.cells #[.int .i64 (y q)] 2)) := S0.alloc hsz _
      have HOX := Lib.hid (HO.out.alloc (.cells #[.int .i64 (y q)] 2))
      refine held_buildI (i := 14) (some 32) (by kernel_rfl) rfl rfl rfl (.tmp 31) (y q) rfl (by kernel_rfl) ⟨S1, ?_⟩
      refine held_appendI (i := 15) (some 33) (by kernel_rfl) rfl rfl rfl (.tmp 18) (.tmp 32) rfl w.heap.size u9 q _ (by kernel_rfl) HOX.out wr.heap.size (y q) (by kernel_rfl) (cell_alloc1 wr.drew _ _) (by omega) (by simp; omega) ?_
      intro v' w3 hown hgrow
      have S2 : Below w.heap.size w w3 := S1.grown hgrow (by simp; omega) (fun g hg => ((HOX.out.lt) g hg).1)
      have HB3 := Lib.hid S2
      have HO3 : Hid (w3.ownsRow w.heap.size 2 1 v' (q + 1) ((toL (q + 1) y).map (Value.int .i64))) := Lib.hid (by rw [toL_succ, List.map_append]; exact hown)
      refine ⟨S2, ?_⟩
      refine held_take (i := 16) (v := v') (some 9) rfl rfl (by kernel_rfl) (by kernel_rfl) (by kernel_rfl) (fun _ _ _ h => h) (yieldsIf_assign (by kernel_rfl) rfl (by kernel_rfl)) S2 ?_
      refine wpAnyH_done (by kernel_rfl) ?_ _
      simp only [Act.put, List.setIfInBounds_toArray, List.set_cons_zero, List.set_cons_succ]
      clear S0 S1 S2 hown hgrow hca1 hcb1 hmul hsub HOX HO HBE
      go_wp2
      go_roundw
      case rel => exact ⟨q + 1, by omega, by go_num, HB3, HO3⟩
      case measure => simp [intOf]; omega
    · have hqq : Hid (q = n) := Lib.hid (by omega)
      go_wp2
      go_ret
      refine ⟨_, rfl, ?_, HBE.out⟩
      have := HO.out
      rw [hqq.out] at this
      unfold Gb
      rw [toL_length]
      exact this
end Go.Proofs.YtpchbceohnabnabDoor

namespace Go.Proofs.YtpchbceohnabnabDoor
open Go.RowKit

def RestR (p : Int) (n : Nat) (R : List Lin.V) (v : Lin.V) (w : World) (e : Ending) (w' : World) : Prop :=
  ∃ (u : Value) (r : Lin.V), e = .returned u ∧ Gb w.heap.size w' u (toL n r) ∧ Below w.heap.size w w' ∧ Lin.Rest p R v R.length r ∧ Lin.Wd n r

/-- A row of n numbers lies somewhere, if there are any. -/
theorem l1_toL {lo : Nat} {w : World} {u : Value} {n : Nat} {v : Lin.V} (h : L1 lo w u (toL n v)) (hn : 0 < n) : ∃ b o cap, u = .slice (some ⟨b, o, none⟩) n cap ∧ ∀ k, k < n → w.cell? ⟨b, o + k, none⟩ = some (.int .i64 (v k)) := by
  refine Sl.cases h (fun _ _ hx _ => by have := congrArg List.length hx; rw [toL_length] at this; simp at this; omega) (fun b o cap hv _ _ hc => ⟨b, o, cap, by rw [hv, toL_length], fun k hk => ?_⟩)
  obtain ⟨x, hx, hr⟩ := hc k (by rw [toL_length]; exact hk)
  rw [toL_get] at hr
  rw [hx, hr]
theorem l1_slice {lo : Nat} {w : World} {u : Value} {n : Nat} {v : Lin.V} (h : L1 lo w u (toL n v)) : ∃ ad cap, u = .slice ad n cap := by
  obtain ⟨ad, cap, hv⟩ := Sl.shape h
  exact ⟨ad, cap, by rw [hv, toL_length]⟩

set_option maxHeartbeats 3200000 in
set_option maxRecDepth 100000 in
theorem l01Rest_any (p : Int) (n : Nat) (vl vr : Value) (R : List Lin.V) (v : Lin.V) (w : World) (hp : IsP p) (hL : L2 0 w vl (R.map (toL n))) (hv : L1 0 w vr (toL n v)) (hR : Lin.Red p R) (hw : ∀ u ∈ R, Lin.Wd n u) (hm : Lin.Md p v) (hvw : Lin.Wd n v) (hn : n ≤ 1048576) (hl : R.length ≤ 1048576) :
    Calls Tryd.prog 101 #[.int .i64 p, vl, vr] w (RestR p n R v w) := by
  have HP := Lib.hid hp
  have HL := Lib.hid hL
  have HR := Lib.hid hR
  have HW := Lib.hid hw
  have HM := Lib.hid hm
  have HVW := Lib.hid hvw
  have HOWN := Lib.hid (l01Own_any vr (toL n v) w hv (by rw [toL_length]; exact hn))
  obtain ⟨al, cl, hvl⟩ := Sl.shape hL
  rw [List.length_map] at hvl
  subst hvl
  clear hp hL hR hw hm hvw hv
  go_enter Tryd.func101, Tryd.ntmps101
  go_wp2_with fail
  refine HOWN.out.mono ?_
  rintro e w1 ⟨u1, rfl, hg1, hb1⟩
  have HG1 := Lib.hid hg1
  have HB1 := Lib.hid hb1
  clear hg1 hb1 HOWN
  go_wp2
  go_loopw [7, 8] (fun o i wr => ∃ (k : Nat) (r : Lin.V), k ≤ R.length ∧ i = .int .i64 k ∧ Hid (Below w.heap.size w wr) ∧ Hid (Gb w.heap.size wr o (toL n r)) ∧ Hid (Lin.Rest p R v k r) ∧ Hid (Lin.Wd n r)) (fun _ i _ => R.length - (intOf i).toNat)
  case atStart => exact ⟨0, v, Nat.zero_le _, rfl, HB1, HG1, Lib.hid (Lin.Rest.start HM.out), HVW⟩
  case round =>
    clear HG1 HB1
    obtain ⟨k, r, hk, rfl, HB, HG, HRE, HRW⟩ := hrel
    have hsz : w.heap.size ≤ wr.heap.size := HB.out.size
    by_cases hlt : k < R.length
    · refine Sl.cases HL.out (fun _ _ hx _ => absurd hlt (by have := congrArg List.length hx; simp at this; simp [this])) (fun b o c2 hvv _ _ hc => ?_)
      rw [List.length_map] at hvv
      obtain ⟨rfl, rfl⟩ : al = some ⟨b, o, none⟩ ∧ cl = c2 := by simpa using hvv
      obtain ⟨ur, hur, hrr⟩ := hc k (by rw [List.length_map]; exact hlt)
      rw [List.getElem_map] at hrr
      obtain ⟨t, ht⟩ : ∃ t, t = R[k] := ⟨_, rfl⟩
      have HTE := Lib.hid ht
      rw [← ht] at hrr
      have HTW : Hid (Lin.Wd n t) := Lib.hid (by rw [ht]; exact HW.out _ (List.getElem_mem hlt))
      have HTM : Hid (Lin.Md p t) := Lib.hid (by rw [ht]; exact HR.out.md _ (List.getElem_mem hlt))
      have HTN : Hid (t ≠ Lin.zv) := Lib.hid (by rw [ht]; exact HR.out.ne (List.getElem_mem hlt))
      obtain ⟨hdn, _, _⟩ := ld_ltn HTW.out HTN.out
      obtain ⟨d, hd⟩ : ∃ d, d = Lin.ld t := ⟨_, rfl⟩
      have HD := Lib.hid hd
      rw [← hd] at hdn
      obtain ⟨g, og, cg, hou, hcell⟩ := l1_toL HG.out.l1 (show 0 < n by omega)
      subst hou
      obtain ⟨f, hf⟩ : ∃ f, f = r d := ⟨_, rfl⟩
      have HF := Lib.hid hf
      have hfb := HRE.out.md d
      rw [← hf] at hfb
      obtain ⟨ar, cr, hus⟩ := l1_slice hrr
      subst hus
      have HROW := Lib.hid hrr
      have hrow1 : ∀ W, Below wr.heap.size wr W → W.cell? ⟨b, o + k, none⟩ = some (.slice ar n cr) := fun W h => later (HB.out.trans (h.mono hsz)) (Nat.le_refl _) hur
      have hcell1 : ∀ W, Below wr.heap.size wr W → W.cell? ⟨g, og + d, none⟩ = some (.int .i64 f) := fun W h => by rw [hf]; exact later h (Nat.le_refl _) (hcell d hdn)
      obtain ⟨y, hy⟩ : ∃ y, y = Lin.add p r (-f) t := ⟨_, rfl⟩
      have HRE2 : Hid (Lin.Rest p R v (k + 1) y) := Lib.hid (by rw [hy, HF.out, HD.out, HTE.out]; exact HRE.out.step (by have := HP.out.lo1; omega) HR.out hlt)
      have HYW : Hid (Lin.Wd n y) := Lib.hid (by rw [hy]; exact Lin.add_wd _ HRW.out HTW.out)
      have HLEAD : Hid (∀ W, Below wr.heap.size wr W → Calls Tryd.prog 102 #[.slice ar n cr] W (QW (.int .i64 (d : Int)) W)) := Lib.hid (fun W h => by
        have := l01Lead_any _ _ W (HROW.out.below (HB.out.trans (h.mono hsz))) (by rw [toL_length]; exact hn)
        rwa [leadOf_toL HTW.out HTN.out, ← HD.out] at this)
      have HLESS : Hid (∀ W, Below wr.heap.size wr W → Calls Tryd.prog 104 #[.int .i64 p, .slice (some ⟨g, og, none⟩) n cg, .slice ar n cr, .int .i64 f] W (GbR (toL n y) W)) := Lib.hid (fun W h => by
        rw [hy]
        exact l01Less_any p f n _ _ r t W HP.out ((HG.out.below h).l1) (HROW.out.below (HB.out.trans (h.mono hsz))) HRE.out.md HTM.out hfb hn)
      clear hvv hc hur hrr ht hd hcell hf hy hfb
      go_wp2
      refine wp_region_held (S := fun W => Below wr.heap.size wr W) (by kernel_rfl) ?_
      have S0 : Below wr.heap.size wr wr.drew := (Below.refl _ _).drew
      refine held_take (i := 0) (v := .int .i64 p) (some 17) rfl rfl (by kernel_rfl) (by kernel_rfl) (by kernel_rfl) (fun _ _ _ h => h) (yieldsIf_move (by kernel_rfl) rfl (by kernel_rfl)) S0 ?_
      refine held_take (i := 1) (v := .slice (some ⟨g, og, none⟩) n cg) (some 18) rfl rfl (by kernel_rfl) (by kernel_rfl) (by kernel_rfl) (fun _ _ _ h => h) (yieldsIf_move (by kernel_rfl) rfl (by kernel_rfl)) S0 ?_
      refine held_take (i := 2) (v := .slice (some ⟨b, o, none⟩) R.length cl) (some 19) rfl rfl (by kernel_rfl) (by kernel_rfl) (by kernel_rfl) (fun _ _ _ h => h) (yieldsIf_move (by kernel_rfl) rfl (by kernel_rfl)) S0 ?_
      refine held_take (i := 3) (v := .int .i64 (k : Int)) (some 20) rfl rfl (by kernel_rfl) (by kernel_rfl) (by kernel_rfl) (fun _ _ _ h => h) (yieldsIf_move (by kernel_rfl) rfl (by kernel_rfl)) S0 ?_
      refine held_take (i := 4) (v := .pointer (some ⟨b, o + k, none⟩)) (some 21) rfl rfl (by kernel_rfl) (by kernel_rfl) (by kernel_rfl) (fun _ _ _ h => h) (yieldsIf_index (by kernel_rfl) rfl (by kernel_rfl) (by kernel_rfl) (hidxS b o cl hlt)) S0 ?_
      refine held_take (i := 5) (v := .slice ar n cr) (some 22) rfl rfl (by kernel_rfl) (by kernel_rfl) (by kernel_rfl) (fun _ _ _ h => h) (yieldsIf_cell (by kernel_rfl) rfl (by kernel_rfl) (fun W h => hloadS W (hrow1 W h))) S0 ?_
      refine held_take (i := 6) (v := .slice (some ⟨g, og, none⟩) n cg) (some 23) rfl rfl (by kernel_rfl) (by kernel_rfl) (by kernel_rfl) (fun _ _ _ h => h) (yieldsIf_move (by kernel_rfl) rfl (by kernel_rfl)) S0 ?_
      refine held_take (i := 7) (v := .slice (some ⟨b, o, none⟩) R.length cl) (some 24) rfl rfl (by kernel_rfl) (by kernel_rfl) (by kernel_rfl) (fun _ _ _ h => h) (yieldsIf_move (by kernel_rfl) rfl (by kernel_rfl)) S0 ?_
      refine held_take (i := 8) (v := .int .i64 (k : Int)) (some 25) rfl rfl (by kernel_rfl) (by kernel_rfl) (by kernel_rfl) (fun _ _ _ h => h) (yieldsIf_move (by kernel_rfl) rfl (by kernel_rfl)) S0 ?_
      refine held_take (i := 9) (v := .pointer (some ⟨b, o + k, none⟩)) (some 26) rfl rfl (by kernel_rfl) (by kernel_rfl) (by kernel_rfl) (fun _ _ _ h => h) (yieldsIf_index (by kernel_rfl) rfl (by kernel_rfl) (by kernel_rfl) (hidxS b o cl hlt)) S0 ?_
      refine held_take (i := 10) (v := .slice ar n cr) (some 27) rfl rfl (by kernel_rfl) (by kernel_rfl) (by kernel_rfl) (fun _ _ _ h => h) (yieldsIf_cell (by kernel_rfl) rfl (by kernel_rfl) (fun W h => hloadS W (hrow1 W h))) S0 ?_
      refine held_enter (i := 11) (some 28) (f := 102) (args := #[.slice ar n cr]) (by kernel_rfl) rfl rfl rfl (by kernel_rfl) (HLEAD.out _ S0) ?_ (fun c w' h => by cases h.1) (fun w' h => by cases h.1)
      rintro e4 W4 ⟨he4, rfl⟩
      injection he4 with he4
      subst he4
      refine ⟨S0, ?_⟩
      refine held_take (i := 12) (v := .pointer (some ⟨g, og + d, none⟩)) (some 29) rfl rfl (by kernel_rfl) (by kernel_rfl) (by kernel_rfl) (fun _ _ _ h => h) (yieldsIf_index (by kernel_rfl) rfl (by kernel_rfl) (by kernel_rfl) (hidxI g og cg hdn)) S0 ?_
      refine held_take (i := 13) (v := .int .i64 f) (some 30) rfl rfl (by kernel_rfl) (by kernel_rfl) (by kernel_rfl) (fun _ _ _ h => h) (yieldsIf_cell (by kernel_rfl) rfl (by kernel_rfl) (fun W h => hload W (hcell1 W h))) S0 ?_
      refine held_enter (i := 14) (some 31) (f := 104) (args := #[.int .i64 p, .slice (some ⟨g, og, none⟩) n cg, .slice ar n cr, .int .i64 f]) (by kernel_rfl) rfl rfl rfl (by kernel_rfl) (HLESS.out _ S0) ?_ (fun c w' h => by obtain ⟨_, h, _⟩ := h; cases h) (fun w' h => by obtain ⟨_, h, _⟩ := h; cases h)
      rintro e5 W5 ⟨u5, he5, hg5, hb5⟩
      injection he5 with he5
      subst he5
      have S1 : Below wr.heap.size wr W5 := S0.trans hb5
      have HB5 := Lib.hid (HB.out.trans (S1.mono hsz))
      have HG5 : Hid (Gb w.heap.size W5 e5 (toL n y)) := Lib.hid (hg5.mono hsz)
      refine ⟨S1, ?_⟩
      refine held_take (i := 15) (v := e5) (some 7) rfl rfl (by kernel_rfl) (by kernel_rfl) (by kernel_rfl) (fun _ _ _ h => h) (yieldsIf_assign (by kernel_rfl) rfl (by kernel_rfl)) S1 ?_
      refine wpAnyH_done (by kernel_rfl) ?_ _
      simp only [Act.put, List.setIfInBounds_toArray, List.set_cons_zero, List.set_cons_succ]
      clear S0 S1 hg5 hb5 hrow1 hcell1 HLEAD HLESS HB HG
      go_wp2
      go_roundw
      case rel => exact ⟨k + 1, y, by omega, by go_num, HB5, HG5, HRE2, HYW⟩
      case measure => simp [intOf]; omega
    · have hkk : Hid (k = R.length) := Lib.hid (by omega)
      go_wp2
      go_ret
      exact ⟨_, r, rfl, HG.out, HB.out, by have := HRE.out; rwa [hkk.out] at this, HRW.out⟩
end Go.Proofs.YtpchbceohnabnabDoor

namespace Go.Proofs.YtpchbceohnabnabDoor
open Go.RowKit

/-- A table gathered row by row, above a base. -/
def Gs (base : Nat) (w : World) (u : Value) (t : List (List Int)) : Prop := ∃ vs, w.ownsRow base 22 1 u t.length vs ∧ ∀ k (h1 : k < vs.length) (h2 : k < t.length), G1 w vs[k] t[k]
theorem Gs.below {base : Nat} {w w' : World} {u : Value} {t : List (List Int)} (h : Gs base w u t) (hb : Below w.heap.size w w') : Gs base w' u t := by
  obtain ⟨vs, ho, hr⟩ := h
  exact ⟨vs, owns_below ho hb, fun k h1 h2 => (hr k h1 h2).below hb⟩
theorem Gs.mono {base base' : Nat} {w : World} {u : Value} {t : List (List Int)} (h : Gs base w u t) (hb : base' ≤ base) : Gs base' w u t := by
  obtain ⟨vs, ho, hr⟩ := h
  exact ⟨vs, owns_mono ho hb, hr⟩
theorem Gs.l2 {base : Nat} {w : World} {u : Value} {t : List (List Int)} (h : Gs base w u t) : L2 0 w u t := by
  obtain ⟨vs, ho, hr⟩ := h
  exact sl_of_owns ho (Nat.zero_le _) rfl (fun k h1 h2 => (hr k h2 h1).l1)
theorem Gs.push {base : Nat} {w w3 : World} {v v' row : Value} {t : List (List Int)} {vs : List Value} {x : List Int} (ho : w.ownsRow base 22 1 v t.length vs) (hr : ∀ k (h1 : k < vs.length) (h2 : k < t.length), G1 w vs[k] t[k]) (hx : G1 w row x)
    (ho3 : w3.ownsRow base 22 1 v' (t.length + 1) (vs ++ [row])) (hg : w.grownBy w3 v.ownBlock) : Gs base w3 v' (t ++ [x]) := by
  have hvl : vs.length = t.length := by have := ho.1; omega
  have keep : ∀ u xs, G1 w u xs → G1 w3 u xs := fun u xs h => owns_grown h ho (by decide) hg
  refine ⟨vs ++ [row], by simpa using ho3, fun k h1 h2 => ?_⟩
  by_cases e : k < vs.length
  · rw [List.getElem_append_left e, List.getElem_append_left (by omega)]
    exact keep _ _ (hr k e (by omega))
  · have e2 : k = vs.length := by simp at h1; omega
    subst e2
    rw [List.getElem_append_right (by omega), List.getElem_append_right (by omega)]
    simp only [hvl, Nat.sub_self, List.getElem_cons_zero]
    exact keep _ _ hx

/-- The first q numbers of a row multiplied. -/
def scal (p inv : Int) (r : Lin.V) (q : Nat) : Lin.V := fun i => if i < q then r i * inv % p else r i
theorem scal_zero (p inv : Int) (r : Lin.V) : scal p inv r 0 = r := by (funext i; simp [scal])
theorem toL_congr {n : Nat} {u v : Lin.V} (h : ∀ i, i < n → u i = v i) : toL n u = toL n v := List.map_congr_left (fun i hi => h i (List.mem_range.1 hi))
theorem toL_set {n : Nat} (v : Lin.V) (q : Nat) (x : Int) : ((toL n v).map (Value.int .i64)).set q (.int .i64 x) = (toL n (fun i => if i = q then x else v i)).map (Value.int .i64) := by
  refine List.ext_getElem (by simp [toL_length]) fun i h1 h2 => ?_
  rw [List.getElem_set]
  by_cases e : q = i
  · subst e
    simp [toL]
  · have e2 : ¬ i = q := fun h => e h.symm
    simp [toL, e, e2]

def EchR (p : Int) (n : Nat) (TS : List Lin.V) (w : World) (e : Ending) (w' : World) : Prop :=
  ∃ (u : Value) (R : List Lin.V), e = .returned u ∧ Gs w.heap.size w' u (R.map (toL n)) ∧ Below w.heap.size w w' ∧ RedN p n R TS ∧ R.length ≤ TS.length

set_option maxHeartbeats 12800000 in
set_option maxRecDepth 100000 in
theorem l01Echelon_any (p : Int) (n : Nat) (vl : Value) (TS : List Lin.V) (w : World) (hp : IsP p) (hL : L2 0 w vl (TS.map (toL n))) (hm : ∀ u ∈ TS, Lin.Md p u) (hw : ∀ u ∈ TS, Lin.Wd n u) (hn : n ≤ 1048576) (hl : TS.length ≤ 1048575) :
    Calls Tryd.prog 82 #[.int .i64 p, vl] w (EchR p n TS w) := by
  have HP := Lib.hid hp
  have HL := Lib.hid hL
  have HTM := Lib.hid hm
  have HTW := Lib.hid hw
  have hp7 := hp.hi7
  have hp1 := hp.lo1
  obtain ⟨al, cl, hvl⟩ := Sl.shape hL
  rw [List.length_map] at hvl
  subst hvl
  obtain ⟨i0, hi0, hz0, hz1, hz2⟩ := info_parts Tryd.infoS
  have HOWN0 := Lib.hid (World.ownsRow_made (base := w.heap.size) (e := 22) (size := 1) w #[] 0 (Nat.le_refl _) (by unfold maxLen; omega) (by simp))
  clear hp hL hm hw
  go_enter Tryd.func82, Tryd.ntmps82
  go_wp2
  go_loopw [5, 6] (fun o i wr => ∃ (k : Nat) (R : List Lin.V), k ≤ TS.length ∧ i = .int .i64 k ∧ Hid (Below w.heap.size w wr) ∧ Hid (Gs w.heap.size wr o (R.map (toL n))) ∧ Hid (RedN p n R (TS.take k)) ∧ R.length ≤ k) (fun _ i _ => TS.length - (intOf i).toNat)
  case atStart => exact ⟨0, [], Nat.zero_le _, rfl, Lib.hid ((Below.refl _ _).alloc (Nat.le_refl _) _), Lib.hid ⟨[], by simpa using HOWN0.out, fun k h1 _ => absurd h1 (Nat.not_lt_zero _)⟩, Lib.hid (by rw [List.take_zero]; exact RedN.nil p n), Nat.le_refl _⟩
  case round =>
    clear HOWN0
    obtain ⟨k, R, hk, rfl, HB, HO, HR, hRk⟩ := hrel
    obtain ⟨wo, hwo⟩ : ∃ wo : World, wo = wr := ⟨_, rfl⟩
    subst hwo
    have hsz : w.heap.size ≤ wo.heap.size := HB.out.size
    obtain ⟨ao, co, hov⟩ := Sl.shape HO.out.l2
    rw [List.length_map] at hov
    subst hov
    by_cases hlt : k < TS.length
    · refine Sl.cases HL.out (fun _ _ hx _ => absurd hlt (by have := congrArg List.length hx; simp at this; simp [this])) (fun b o c2 hvv _ _ hc => ?_)
      rw [List.length_map] at hvv
      obtain ⟨rfl, rfl⟩ : al = some ⟨b, o, none⟩ ∧ cl = c2 := by simpa using hvv
      obtain ⟨ur, hur, hrr⟩ := hc k (by rw [List.length_map]; exact hlt)
      rw [List.getElem_map] at hrr
      obtain ⟨t, ht⟩ : ∃ t, t = TS[k] := ⟨_, rfl⟩
      have HTK : Hid (TS.take (k + 1) = TS.take k ++ [t]) := Lib.hid (by rw [ht]; exact List.take_succ_eq_append_getElem hlt)
      have HTKM : Hid (∀ x ∈ TS.take k, Lin.Md p x) := Lib.hid (fun x hx => HTM.out x (List.mem_of_mem_take hx))
      rw [← ht] at hrr
      have HTT : Hid (Lin.Md p t ∧ Lin.Wd n t) := Lib.hid (by rw [ht]; exact ⟨HTM.out _ (List.getElem_mem hlt), HTW.out _ (List.getElem_mem hlt)⟩)
      have hur2 := later HB.out (Nat.le_refl _) hur
      obtain ⟨ar, cr, hus⟩ := l1_slice hrr
      subst hus
      have HRST := Lib.hid (l01Rest_any p n _ _ R t wo HP.out HO.out.l2 (hrr.below HB.out) HR.out.red HR.out.wd HTT.out.1 HTT.out.2 hn (by omega))
      clear hvv hc hur hrr ht
      go_wp2_with fail
      refine HRST.out.mono ?_
      rintro e w1 ⟨u7, r, rfl, hg1, hb1, hrest, hrw⟩
      have HRE := Lib.hid hrest
      have HRW := Lib.hid hrw
      have HB1 := Lib.hid hb1
      have hs1 : wo.heap.size ≤ w1.heap.size := hb1.size
      by_cases hz : r = Lin.zv
      · have hlead := l01Lead_any u7 (toL n r) w1 hg1.l1 (by rw [toL_length]; exact hn)
        rw [hz, leadOf_zv] at hlead
        have HR2 : Hid (RedN p n R (TS.take (k + 1))) := Lib.hid (by
          rw [HTK.out]
          have := HRE.out
          rw [hz] at this
          exact HR.out.skip (by omega) HTKM.out HTT.out.1 this)
        have HLEAD := Lib.hid hlead
        obtain ⟨a7, c7, hv7⟩ := l1_slice hg1.l1
        subst hv7
        clear hlead hg1 hb1 hrest hrw hz hur2 HRST
        go_wp2_with fail
        refine HLEAD.out.mono ?_
        rintro e w' ⟨rfl, rfl⟩
        go_wp2
        go_roundw
        case rel => exact ⟨k + 1, R, by omega, by go_num, Lib.hid (HB.out.trans (HB1.out.mono hsz)), Lib.hid (HO.out.below HB1.out), HR2, by omega⟩
        case measure => simp [intOf]; omega
      · obtain ⟨hdn, hdne, _⟩ := ld_ltn hrw hz
        have hlead := l01Lead_any u7 (toL n r) w1 hg1.l1 (by rw [toL_length]; exact hn)
        rw [leadOf_toL hrw hz] at hlead
        obtain ⟨d, hd⟩ : ∃ d, d = Lin.ld r := ⟨_, rfl⟩
        have HD := Lib.hid hd
        rw [← hd] at hlead hdn hdne
        have hown := hg1
        unfold Gb at hown
        rw [toL_length] at hown
        obtain ⟨g, c7, hv7, hgb, hgl⟩ := World.ownsRow.form hown (by omega)
        subst hv7
        obtain ⟨a, ha⟩ : ∃ a, a = r d := ⟨_, rfl⟩
        have HA := Lib.hid ha
        have hab := hrest.md d
        rw [← ha] at hab hdne
        have hcell : w1.cell? ⟨g, d, none⟩ = some (.int .i64 a) := by
          rw [World.ownsRow.cellAt hown d (by omega), ha]
          simp [toL, hdn]
        have HZ := Lib.hid hz
        have HOWN := Lib.hid hown
        have HLEAD := Lib.hid hlead
        have HINV := Lib.hid (l01Inverse_any p a w1 HP.out (by omega) (by omega))
        clear hlead hg1 hb1 hrest hrw hz hur2 HRST hd ha hown
        go_wp2_with fail
        refine HLEAD.out.mono ?_
        rintro e w' ⟨rfl, rfl⟩
        go_wp2_with fail
        refine HINV.out.mono ?_
        rintro e w' ⟨inv, rfl, rfl, hi1, hip, hinv⟩
        have HIV := Lib.hid hinv
        clear hinv hcell HINV HLEAD
        go_wp2
        go_loopw [10] (fun i wr => ∃ (q : Nat), q ≤ n ∧ i = .int .i64 q ∧ Hid (Below wo.heap.size wo wr) ∧ Hid (wr.ownsRow wo.heap.size 2 1 (.slice (some ⟨g, 0, none⟩) n c7) n ((toL n (scal p inv r q)).map (Value.int .i64)))) (fun i _ => n - (intOf i).toNat)
        case atStart => exact ⟨0, Nat.zero_le _, rfl, HB1, Lib.hid (by rw [scal_zero]; exact HOWN.out)⟩
        case round =>
          clear HOWN HB1
          obtain ⟨q, hq, rfl, HBI, HOI⟩ := hrel
          by_cases hltq : q < n
          · obtain ⟨x, hx⟩ : ∃ x, x = r q := ⟨_, rfl⟩
            have hxb := HRE.out.md q
            rw [← hx] at hxb
            have hc : wr.cell? ⟨g, q, none⟩ = some (.int .i64 x) := by
              rw [World.ownsRow.cellAt HOI.out q (by omega), hx]
              simp [toL, scal, hltq]
            have hf := World.ownsRow.frozenAt HOI.out q
            obtain ⟨m0, m1⟩ := mul_bd HP.out (a := x) (b := (inv : Int)) hxb.1 hxb.2 (by omega) (by omega)
            have hst := World.ownsRow.stored HOI.out q (.int .i64 (x * inv % p))
            have HO2 : Hid ((wr.setCell ⟨g, q, none⟩ (.int .i64 (x * inv % p))).ownsRow wo.heap.size 2 1 (.slice (some ⟨g, 0, none⟩) n c7) n ((toL n (scal p inv r (q + 1))).map (Value.int .i64))) := Lib.hid (by
              have h := hst.1
              rw [toL_set] at h
              have e : toL n (scal p inv r (q + 1)) = toL n (fun i => if i = q then x * inv % p else scal p inv r q i) := toL_congr (fun i _ => by
                unfold scal
                by_cases e1 : i = q
                · subst e1
                  rw [if_pos (Nat.lt_succ_self _), if_pos rfl, hx]
                · rw [if_neg e1]
                  by_cases e2 : i < q
                  · rw [if_pos e2, if_pos (by omega)]
                  · rw [if_neg e2, if_neg (by omega)])
              rw [e]
              exact h)
            have HB2 : Hid (Below wo.heap.size wo (wr.setCell ⟨g, q, none⟩ (.int .i64 (x * inv % p)))) := Lib.hid (HBI.out.setCell hgb _)
            clear hst hx HOI HBI
            go_wp2
            go_roundw
            case rel => exact ⟨q + 1, by omega, by go_num, HB2, HO2⟩
            case measure => simp [intOf]; omega
          · obtain ⟨w2, hw2⟩ : ∃ w2 : World, w2 = wr := ⟨_, rfl⟩
            subst hw2
            have hqq : Hid (q = n) := Lib.hid (by omega)
            obtain ⟨u, hu⟩ : ∃ u : Lin.V, u = fun i => (inv : Int) * r i % p := ⟨_, rfl⟩
            have HUU : Hid (Lin.Unit p r u) := Lib.hid (by rw [hu]; exact Lin.Unit.mk' (by omega) HRE.out.md HZ.out (by rw [← HD.out, ← HA.out]; exact HIV.out))
            have HUW : Hid (Lin.Wd n u) := Lib.hid (fun i hi => by rw [hu]; simp [HRW.out i hi])
            have HLU : Hid (Lin.ld u = d) := Lib.hid (HUU.out.lead.trans HD.out.symm)
            have HOWN7 : Hid (G1 w2 (.slice (some ⟨g, 0, none⟩) n c7) (toL n u)) := Lib.hid (by
              have h := HOI.out
              have e : toL n (scal p inv r q) = toL n u := toL_congr (fun i hi => by
                unfold scal
                rw [hu, if_pos (by have := hqq.out; omega), Int.mul_comm])
              rw [e] at h
              unfold G1
              rw [toL_length]
              exact owns_mono h (Nat.zero_le _))
            have hs2 : wo.heap.size ≤ w2.heap.size := HBI.out.size
            have HO2 := Lib.hid (HO.out.below HBI.out)
            have HB2 := HBI
            have HOWN1 := Lib.hid (World.ownsRow_made (base := w2.heap.size) (e := 22) (size := 1) w2 #[] 0 (Nat.le_refl _) (by unfold maxLen; omega) (by simp))
            clear HOI HBI hu HIV HA hqq
            go_wp2
            go_loopw [11, 12, 13] (fun nx pb i wr => ∃ (j : Nat) (pt : Bool) (N : List Lin.V), j ≤ R.length ∧ i = .int .i64 j ∧ pb = .bool pt ∧ Hid (Below w2.heap.size w2 wr) ∧ Hid (Gs w2.heap.size wr nx (N.map (toL n))) ∧ Hid (Nx p R u j pt N)) (fun _ _ i _ => R.length - (intOf i).toNat)
            case atStart => exact ⟨0, false, [], Nat.zero_le _, rfl, rfl, Lib.hid ((Below.refl _ _).alloc (Nat.le_refl _) _), Lib.hid ⟨[], by simpa using HOWN1.out, fun k h1 _ => absurd h1 (Nat.not_lt_zero _)⟩, Lib.hid (Nx.start p R u)⟩
            case round =>
              clear HOWN1
              obtain ⟨j, pt, N, hjl, rfl, rfl, HBX, HGN0, HNX⟩ := hrel
              have hsx : w2.heap.size ≤ wr.heap.size := HBX.out.size
              have hNl : N.length ≤ j + 1 := HNX.out.length hjl
              obtain ⟨vs, hvo, hvr⟩ := HGN0.out
              have HVO := Lib.hid hvo
              have HVR := Lib.hid hvr
              obtain ⟨an, cn, hnv⟩ := Sl.shape HGN0.out.l2
              rw [List.length_map] at hnv
              subst hnv
              clear hvo hvr
              by_cases hj : j < R.length
              · refine Sl.cases HO2.out.l2 (fun _ _ hx _ => absurd hj (by have := congrArg List.length hx; simp at this; simp [this])) (fun bo oo c2 hvv _ _ hc => ?_)
                rw [List.length_map] at hvv
                obtain ⟨rfl, rfl⟩ : ao = some ⟨bo, oo, none⟩ ∧ co = c2 := by simpa using hvv
                obtain ⟨uj, huj, hrj⟩ := hc j (by rw [List.length_map]; exact hj)
                rw [List.getElem_map] at hrj
                obtain ⟨s, hs⟩ : ∃ s, s = R[j] := ⟨_, rfl⟩
                have HSE := Lib.hid hs
                rw [← hs] at hrj
                have HSW : Hid (Lin.Wd n s) := Lib.hid (by rw [hs]; exact HR.out.wd _ (List.getElem_mem hj))
                have HSM : Hid (Lin.Md p s) := Lib.hid (by rw [hs]; exact HR.out.red.md _ (List.getElem_mem hj))
                have HSN : Hid (s ≠ Lin.zv) := Lib.hid (by rw [hs]; exact HR.out.red.ne (List.getElem_mem hj))
                have HSL : Hid (Lin.ld s ≠ Lin.ld u) := Lib.hid (by rw [hs]; exact lead_apart HRE.out HUU.out (List.getElem_mem hj))
                obtain ⟨bj, oj, cj, huv, hcj⟩ := l1_toL hrj (show 0 < n by omega)
                subst huv
                obtain ⟨f, hf⟩ : ∃ f, f = s d := ⟨_, rfl⟩
                have hfb := HSM.out d
                rw [← hf] at hfb
                have HROWJ := Lib.hid hrj
                have hrowj : ∀ W, Below w2.heap.size w2 W → W.cell? ⟨bo, oo + j, none⟩ = some (.slice (some ⟨bj, oj, none⟩) n cj) := fun W h => later h (Nat.le_refl _) huj
                have hcellj : ∀ W, Below w2.heap.size w2 W → W.cell? ⟨bj, oj + d, none⟩ = some (.int .i64 f) := fun W h => by rw [hf]; exact later h (Nat.le_refl _) (hcj d hdn)
                have HLESS : Hid (∀ W, Below w2.heap.size w2 W → Calls Tryd.prog 104 #[.int .i64 p, .slice (some ⟨bj, oj, none⟩) n cj, .slice (some ⟨g, 0, none⟩) n c7, .int .i64 f] W (GbR (toL n (less1 p u R[j])) W)) := Lib.hid (fun W h => by
                  have e : less1 p u R[j] = Lin.add p s (-f) u := by rw [less1, ← HSE.out, HLU.out, hf]
                  rw [e]
                  exact l01Less_any p f n _ _ s u W HP.out (HROWJ.out.below h) ((HOWN7.out.below h).l1) HSM.out HUU.out.md hfb hn)
                have hrow0 := hrowj _ HBX.out
                have HLJ : Hid (Calls Tryd.prog 102 #[.slice (some ⟨bj, oj, none⟩) n cj] wr (QW (.int .i64 (Lin.ld s : Int)) wr)) := Lib.hid (by
                  have := l01Lead_any _ _ wr (HROWJ.out.below HBX.out) (by rw [toL_length]; exact hn)
                  rwa [leadOf_toL HSW.out HSN.out] at this)
                clear hvv hc huj hrj hs hcj hf hfb
                cases pt with
                | true =>
                  clear HLJ
                  go_wp2
                  clear hrow0
                  refine wp_region_held (S := fun W => Below w2.heap.size w2 W) (by kernel_rfl) ?_
                  have S0 : Below w2.heap.size w2 wr.drew := HBX.out.drew
                  refine held_take (i := 0) (v := .slice an N.length cn) (some 77) rfl rfl (by kernel_rfl) (by kernel_rfl) (by kernel_rfl) (fun _ _ _ h => h) (yieldsIf_move (by kernel_rfl) rfl (by kernel_rfl)) S0 ?_
                  refine held_take (i := 1) (v := .int .i64 p) (some 78) rfl rfl (by kernel_rfl) (by kernel_rfl) (by kernel_rfl) (fun _ _ _ h => h) (yieldsIf_move (by kernel_rfl) rfl (by kernel_rfl)) S0 ?_
                  refine held_take (i := 2) (v := .slice (some ⟨bo, oo, none⟩) R.length co) (some 79) rfl rfl (by kernel_rfl) (by kernel_rfl) (by kernel_rfl) (fun _ _ _ h => h) (yieldsIf_move (by kernel_rfl) rfl (by kernel_rfl)) S0 ?_
                  refine held_take (i := 3) (v := .int .i64 (j : Int)) (some 80) rfl rfl (by kernel_rfl) (by kernel_rfl) (by kernel_rfl) (fun _ _ _ h => h) (yieldsIf_move (by kernel_rfl) rfl (by kernel_rfl)) S0 ?_
                  refine held_take (i := 4) (v := .pointer (some ⟨bo, oo + j, none⟩)) (some 81) rfl rfl (by kernel_rfl) (by kernel_rfl) (by kernel_rfl) (fun _ _ _ h => h) (yieldsIf_index (by kernel_rfl) rfl (by kernel_rfl) (by kernel_rfl) (hidxS bo oo co hj)) S0 ?_
                  refine held_take (i := 5) (v := .slice (some ⟨bj, oj, none⟩) n cj) (some 82) rfl rfl (by kernel_rfl) (by kernel_rfl) (by kernel_rfl) (fun _ _ _ h => h) (yieldsIf_cell (by kernel_rfl) rfl (by kernel_rfl) (fun W h => hloadS W (hrowj W h))) S0 ?_
                  refine held_take (i := 6) (v := .slice (some ⟨g, 0, none⟩) n c7) (some 83) rfl rfl (by kernel_rfl) (by kernel_rfl) (by kernel_rfl) (fun _ _ _ h => h) (yieldsIf_move (by kernel_rfl) rfl (by kernel_rfl)) S0 ?_
                  refine held_take (i := 7) (v := .slice (some ⟨bo, oo, none⟩) R.length co) (some 84) rfl rfl (by kernel_rfl) (by kernel_rfl) (by kernel_rfl) (fun _ _ _ h => h) (yieldsIf_move (by kernel_rfl) rfl (by kernel_rfl)) S0 ?_
                  refine held_take (i := 8) (v := .int .i64 (j : Int)) (some 85) rfl rfl (by kernel_rfl) (by kernel_rfl) (by kernel_rfl) (fun _ _ _ h => h) (yieldsIf_move (by kernel_rfl) rfl (by kernel_rfl)) S0 ?_
                  refine held_take (i := 9) (v := .pointer (some ⟨bo, oo + j, none⟩)) (some 86) rfl rfl (by kernel_rfl) (by kernel_rfl) (by kernel_rfl) (fun _ _ _ h => h) (yieldsIf_index (by kernel_rfl) rfl (by kernel_rfl) (by kernel_rfl) (hidxS bo oo co hj)) S0 ?_
                  refine held_take (i := 10) (v := .slice (some ⟨bj, oj, none⟩) n cj) (some 87) rfl rfl (by kernel_rfl) (by kernel_rfl) (by kernel_rfl) (fun _ _ _ h => h) (yieldsIf_cell (by kernel_rfl) rfl (by kernel_rfl) (fun W h => hloadS W (hrowj W h))) S0 ?_
                  refine held_take (i := 11) (v := .int .i64 (d : Int)) (some 88) rfl rfl (by kernel_rfl) (by kernel_rfl) (by kernel_rfl) (fun _ _ _ h => h) (yieldsIf_move (by kernel_rfl) rfl (by kernel_rfl)) S0 ?_
                  refine held_take (i := 12) (v := .pointer (some ⟨bj, oj + d, none⟩)) (some 89) rfl rfl (by kernel_rfl) (by kernel_rfl) (by kernel_rfl) (fun _ _ _ h => h) (yieldsIf_index (by kernel_rfl) rfl (by kernel_rfl) (by kernel_rfl) (hidxI bj oj cj hdn)) S0 ?_
                  refine held_take (i := 13) (v := .int .i64 f) (some 90) rfl rfl (by kernel_rfl) (by kernel_rfl) (by kernel_rfl) (fun _ _ _ h => h) (yieldsIf_cell (by kernel_rfl) rfl (by kernel_rfl) (fun W h => hload W (hcellj W h))) S0 ?_
                  refine held_enter (i := 14) (some 91) (f := 104) (args := #[.int .i64 p, .slice (some ⟨bj, oj, none⟩) n cj, .slice (some ⟨g, 0, none⟩) n c7, .int .i64 f]) (by kernel_rfl) rfl rfl rfl (by kernel_rfl) (HLESS.out _ S0) ?_ (fun c w' h => by obtain ⟨_, h, _⟩ := h; cases h) (fun w' h => by obtain ⟨_, h, _⟩ := h; cases h)
                  rintro e5 W5 ⟨u5, he5, hg5, hb5⟩
                  injection he5 with he5
                  subst he5
                  have S1 : Below w2.heap.size w2 W5 := S0.trans (hb5.mono S0.size)
                  have hb5' : Below wr.heap.size wr W5 := ((Below.refl wr.heap.size wr).drew).trans hb5
                  have HO5 := Lib.hid (owns_below HVO.out hb5')
                  have HG5 := Lib.hid hg5.g1
                  obtain ⟨a5, c5, hv5⟩ := l1_slice hg5.l1
                  subst hv5
                  refine ⟨S1, ?_⟩
                  have hs5 : w2.heap.size ≤ W5.heap.size := S1.size
                  have S2 : Below w2.heap.size w2 (W5.alloc (.cells #[.slice a5 n c5] 22)) := S1.alloc hs5 _
                  have hba : Below W5.heap.size W5 (W5.alloc (.cells #[.slice a5 n c5] 22)) := (Below.refl _ _).alloc (Nat.le_refl _) _
                  have HOX := Lib.hid (owns_below HO5.out hba)
                  refine held_buildS (i := 15) (some 92) (by kernel_rfl) rfl rfl rfl (.tmp 91) a5 n c5 rfl (by kernel_rfl) ⟨S2, ?_⟩
                  refine held_appendS (i := 16) (some 93) (by kernel_rfl) rfl rfl rfl (.tmp 77) (.tmp 92) rfl w2.heap.size (.slice an N.length cn) _ _ (by kernel_rfl) HOX.out W5.heap.size a5 n c5 (by kernel_rfl) (cell_alloc1 W5 _ _) (by simp; omega) (by simp; omega) ?_
                  intro v' w3 hown hgrow
                  have S3 : Below w2.heap.size w2 w3 := S2.grown hgrow (by simp; omega) (fun g hg => ((HOX.out.lt) g hg).1)
                  have HB3 := Lib.hid S3
                  have HGS3 : Hid (Gs w2.heap.size w3 v' ((N ++ [less1 p u R[j]]).map (toL n))) := Lib.hid (by
                    rw [List.map_append]
                    exact Gs.push HOX.out (fun i h1 h2 => ((HVR.out i h1 h2).below hb5').below hba) (HG5.out.below hba) hown hgrow)
                  refine ⟨S3, ?_⟩
                  refine held_take (i := 17) (v := v') (some 11) rfl rfl (by kernel_rfl) (by kernel_rfl) (by kernel_rfl) (fun _ _ _ h => h) (yieldsIf_assign (by kernel_rfl) rfl (by kernel_rfl)) S3 ?_
                  refine wpAnyH_done (by kernel_rfl) ?_ _
                  simp only [Act.put, List.setIfInBounds_toArray, List.set_cons_zero, List.set_cons_succ]
                  clear S0 S1 S2 S3 hown hgrow hb5 hb5' hba hg5 HOX HO5 HG5 hrowj hcellj HLESS hs5
                  go_wp2
                  go_roundw
                  case rel => exact ⟨j + 1, true, _, by omega, by go_num, rfl, HB3, HGS3, Lib.hid (HNX.out.keep hj)⟩
                  case measure => simp [intOf]; omega
                | false =>
                  by_cases hgt : Lin.ld u < Lin.ld s
                  · have hgt2 : (d : Int) < (Lin.ld s : Int) := by have := HLU.out; omega
                    have HNX2 : Hid (Nx p R u (j + 1) true (N ++ [u] ++ [less1 p u R[j]])) := Lib.hid (HNX.out.in' hj (by rw [← HSE.out]; exact hgt))
                    go_wp2_with fail
                    refine HLJ.out.mono ?_
                    rintro e w' ⟨rfl, rfl⟩
                    clear hrow0 HLJ
                    go_wp2_with (at_builtin; refine wpList_append_own _ rfl (.tmp 73) (.tmp 75) 48 rfl w2.heap.size 22 i0 (.slice none 0 0) 1 24 Tryd.underlying48 hi0 hz0 hz1 hz2 rfl (by decide) _ _ _ rfl (HVO.out.alloc _) ⟨wr.heap.size, 0, none⟩ 1 1 [.slice (some ⟨g, 0, none⟩) n c7] rfl rfl ?c1 ?c2 ?c3 ?c4 ?c5 ?_)
                    case c1 =>
                      intro j u hj
                      match j, hj with
                      | 0, hj => simp at hj; subst hj; simp [Addr.add]
                    case c2 => intro u hu; simp at hu; subst hu; rfl
                    case c3 => rw [List.length_map]; unfold maxLen; omega
                    case c4 => rw [List.length_map]; omega
                    case c5 => simp; omega
                    intro v' w3 hown hgrow _
                    have hba : Below wr.heap.size wr (wr.alloc (.cells #[.slice (some ⟨g, 0, none⟩) n c7] 22)) := (Below.refl _ _).alloc (Nat.le_refl _) _
                    have HOX := Lib.hid (owns_below HVO.out hba)
                    have HBN := Lib.hid ((HBX.out.alloc hsx (.cells #[.slice (some ⟨g, 0, none⟩) n c7] 22)).grown hgrow (by simp; omega) (fun g hg => ((HOX.out.lt) g hg).1))
                    have HGN : Hid (Gs w2.heap.size w3 v' ((N ++ [u]).map (toL n))) := Lib.hid (by
                      rw [List.map_append]
                      exact Gs.push HOX.out (fun i h1 h2 => (HVR.out i h1 h2).below hba) ((HOWN7.out.below HBX.out).below hba) (by rw [List.length_map]; exact hown) hgrow)
                    clear hown hgrow hba HOX
                    have HNE : Hid (True) := Lib.hid trivial
                    obtain ⟨vs3, hvo3, hvr3⟩ := HGN.out
                    have HVO3 := Lib.hid hvo3
                    have HVR3 := Lib.hid hvr3
                    clear hvo3 hvr3 HNE
                    go_wp2
                    refine wp_region_held (S := fun W => Below w2.heap.size w2 W) (by kernel_rfl) ?_
                    have S0 : Below w2.heap.size w2 w3.drew := HBN.out.drew
                    refine held_take (i := 0) (v := v') (some 77) rfl rfl (by kernel_rfl) (by kernel_rfl) (by kernel_rfl) (fun _ _ _ h => h) (yieldsIf_move (by kernel_rfl) rfl (by kernel_rfl)) S0 ?_
                    refine held_take (i := 1) (v := .int .i64 p) (some 78) rfl rfl (by kernel_rfl) (by kernel_rfl) (by kernel_rfl) (fun _ _ _ h => h) (yieldsIf_move (by kernel_rfl) rfl (by kernel_rfl)) S0 ?_
                    refine held_take (i := 2) (v := .slice (some ⟨bo, oo, none⟩) R.length co) (some 79) rfl rfl (by kernel_rfl) (by kernel_rfl) (by kernel_rfl) (fun _ _ _ h => h) (yieldsIf_move (by kernel_rfl) rfl (by kernel_rfl)) S0 ?_
                    refine held_take (i := 3) (v := .int .i64 (j : Int)) (some 80) rfl rfl (by kernel_rfl) (by kernel_rfl) (by kernel_rfl) (fun _ _ _ h => h) (yieldsIf_move (by kernel_rfl) rfl (by kernel_rfl)) S0 ?_
                    refine held_take (i := 4) (v := .pointer (some ⟨bo, oo + j, none⟩)) (some 81) rfl rfl (by kernel_rfl) (by kernel_rfl) (by kernel_rfl) (fun _ _ _ h => h) (yieldsIf_index (by kernel_rfl) rfl (by kernel_rfl) (by kernel_rfl) (hidxS bo oo co hj)) S0 ?_
                    refine held_take (i := 5) (v := .slice (some ⟨bj, oj, none⟩) n cj) (some 82) rfl rfl (by kernel_rfl) (by kernel_rfl) (by kernel_rfl) (fun _ _ _ h => h) (yieldsIf_cell (by kernel_rfl) rfl (by kernel_rfl) (fun W h => hloadS W (hrowj W h))) S0 ?_
                    refine held_take (i := 6) (v := .slice (some ⟨g, 0, none⟩) n c7) (some 83) rfl rfl (by kernel_rfl) (by kernel_rfl) (by kernel_rfl) (fun _ _ _ h => h) (yieldsIf_move (by kernel_rfl) rfl (by kernel_rfl)) S0 ?_
                    refine held_take (i := 7) (v := .slice (some ⟨bo, oo, none⟩) R.length co) (some 84) rfl rfl (by kernel_rfl) (by kernel_rfl) (by kernel_rfl) (fun _ _ _ h => h) (yieldsIf_move (by kernel_rfl) rfl (by kernel_rfl)) S0 ?_
                    refine held_take (i := 8) (v := .int .i64 (j : Int)) (some 85) rfl rfl (by kernel_rfl) (by kernel_rfl) (by kernel_rfl) (fun _ _ _ h => h) (yieldsIf_move (by kernel_rfl) rfl (by kernel_rfl)) S0 ?_
                    refine held_take (i := 9) (v := .pointer (some ⟨bo, oo + j, none⟩)) (some 86) rfl rfl (by kernel_rfl) (by kernel_rfl) (by kernel_rfl) (fun _ _ _ h => h) (yieldsIf_index (by kernel_rfl) rfl (by kernel_rfl) (by kernel_rfl) (hidxS bo oo co hj)) S0 ?_
                    refine held_take (i := 10) (v := .slice (some ⟨bj, oj, none⟩) n cj) (some 87) rfl rfl (by kernel_rfl) (by kernel_rfl) (by kernel_rfl) (fun _ _ _ h => h) (yieldsIf_cell (by kernel_rfl) rfl (by kernel_rfl) (fun W h => hloadS W (hrowj W h))) S0 ?_
                    refine held_take (i := 11) (v := .int .i64 (d : Int)) (some 88) rfl rfl (by kernel_rfl) (by kernel_rfl) (by kernel_rfl) (fun _ _ _ h => h) (yieldsIf_move (by kernel_rfl) rfl (by kernel_rfl)) S0 ?_
                    refine held_take (i := 12) (v := .pointer (some ⟨bj, oj + d, none⟩)) (some 89) rfl rfl (by kernel_rfl) (by kernel_rfl) (by kernel_rfl) (fun _ _ _ h => h) (yieldsIf_index (by kernel_rfl) rfl (by kernel_rfl) (by kernel_rfl) (hidxI bj oj cj hdn)) S0 ?_
                    refine held_take (i := 13) (v := .int .i64 f) (some 90) rfl rfl (by kernel_rfl) (by kernel_rfl) (by kernel_rfl) (fun _ _ _ h => h) (yieldsIf_cell (by kernel_rfl) rfl (by kernel_rfl) (fun W h => hload W (hcellj W h))) S0 ?_
                    refine held_enter (i := 14) (some 91) (f := 104) (args := #[.int .i64 p, .slice (some ⟨bj, oj, none⟩) n cj, .slice (some ⟨g, 0, none⟩) n c7, .int .i64 f]) (by kernel_rfl) rfl rfl rfl (by kernel_rfl) (HLESS.out _ S0) ?_ (fun c w' h => by obtain ⟨_, h, _⟩ := h; cases h) (fun w' h => by obtain ⟨_, h, _⟩ := h; cases h)
                    rintro e5 W5 ⟨u5, he5, hg5, hb5⟩
                    injection he5 with he5
                    subst he5
                    have S1 : Below w2.heap.size w2 W5 := S0.trans (hb5.mono S0.size)
                    have hb5' : Below w3.heap.size w3 W5 := ((Below.refl w3.heap.size w3).drew).trans hb5
                    have HO5 := Lib.hid (owns_below HVO3.out hb5')
                    have HG5 := Lib.hid hg5.g1
                    obtain ⟨a5, c5, hv5⟩ := l1_slice hg5.l1
                    subst hv5
                    refine ⟨S1, ?_⟩
                    have hs5 : w2.heap.size ≤ W5.heap.size := S1.size
                    have S2 : Below w2.heap.size w2 (W5.alloc (.cells #[.slice a5 n c5] 22)) := S1.alloc hs5 _
                    have hba : Below W5.heap.size W5 (W5.alloc (.cells #[.slice a5 n c5] 22)) := (Below.refl _ _).alloc (Nat.le_refl _) _
                    have HOX := Lib.hid (owns_below HO5.out hba)
                    refine held_buildS (i := 15) (some 92) (by kernel_rfl) rfl rfl rfl (.tmp 91) a5 n c5 rfl (by kernel_rfl) ⟨S2, ?_⟩
                    refine held_appendS (i := 16) (some 93) (by kernel_rfl) rfl rfl rfl (.tmp 77) (.tmp 92) rfl w2.heap.size (v') _ _ (by kernel_rfl) HOX.out W5.heap.size a5 n c5 (by kernel_rfl) (cell_alloc1 W5 _ _) (by simp; omega) (by simp; omega) ?_
                    intro v4 w4 hown hgrow
                    have S3 : Below w2.heap.size w2 w4 := S2.grown hgrow (by simp; omega) (fun g hg => ((HOX.out.lt) g hg).1)
                    have HB3 := Lib.hid S3
                    have HGS3 : Hid (Gs w2.heap.size w4 v4 (((N ++ [u]) ++ [less1 p u R[j]]).map (toL n))) := Lib.hid (by
                      rw [List.map_append]
                      exact Gs.push HOX.out (fun i h1 h2 => ((HVR3.out i h1 h2).below hb5').below hba) (HG5.out.below hba) hown hgrow)
                    refine ⟨S3, ?_⟩
                    refine held_take (i := 17) (v := v4) (some 11) rfl rfl (by kernel_rfl) (by kernel_rfl) (by kernel_rfl) (fun _ _ _ h => h) (yieldsIf_assign (by kernel_rfl) rfl (by kernel_rfl)) S3 ?_
                    refine wpAnyH_done (by kernel_rfl) ?_ _
                    simp only [Act.put, List.setIfInBounds_toArray, List.set_cons_zero, List.set_cons_succ]
                    clear S0 S1 S2 S3 hown hgrow hb5 hb5' hba hg5 HOX HO5 HG5 hrowj hcellj HLESS hs5
                    go_wp2
                    go_roundw
                    case rel => exact ⟨j + 1, true, _, by omega, by go_num, rfl, HB3, HGS3, Lib.hid (HNX2.out)⟩
                    case measure => simp [intOf]; omega
                  · have hle2 : ¬ ((d : Int) < (Lin.ld s : Int)) := by have := HLU.out; omega
                    have HNX2 : Hid (Nx p R u (j + 1) false (N ++ [less1 p u R[j]])) := Lib.hid (HNX.out.pass hj (by rw [← HSE.out]; have := HSL.out; omega))
                    go_wp2_with fail
                    refine HLJ.out.mono ?_
                    rintro e w' ⟨rfl, rfl⟩
                    clear hrow0 HLJ
                    go_wp2
                    refine wp_region_held (S := fun W => Below w2.heap.size w2 W) (by kernel_rfl) ?_
                    have S0 : Below w2.heap.size w2 wr.drew := HBX.out.drew
                    refine held_take (i := 0) (v := .slice an N.length cn) (some 77) rfl rfl (by kernel_rfl) (by kernel_rfl) (by kernel_rfl) (fun _ _ _ h => h) (yieldsIf_move (by kernel_rfl) rfl (by kernel_rfl)) S0 ?_
                    refine held_take (i := 1) (v := .int .i64 p) (some 78) rfl rfl (by kernel_rfl) (by kernel_rfl) (by kernel_rfl) (fun _ _ _ h => h) (yieldsIf_move (by kernel_rfl) rfl (by kernel_rfl)) S0 ?_
                    refine held_take (i := 2) (v := .slice (some ⟨bo, oo, none⟩) R.length co) (some 79) rfl rfl (by kernel_rfl) (by kernel_rfl) (by kernel_rfl) (fun _ _ _ h => h) (yieldsIf_move (by kernel_rfl) rfl (by kernel_rfl)) S0 ?_
                    refine held_take (i := 3) (v := .int .i64 (j : Int)) (some 80) rfl rfl (by kernel_rfl) (by kernel_rfl) (by kernel_rfl) (fun _ _ _ h => h) (yieldsIf_move (by kernel_rfl) rfl (by kernel_rfl)) S0 ?_
                    refine held_take (i := 4) (v := .pointer (some ⟨bo, oo + j, none⟩)) (some 81) rfl rfl (by kernel_rfl) (by kernel_rfl) (by kernel_rfl) (fun _ _ _ h => h) (yieldsIf_index (by kernel_rfl) rfl (by kernel_rfl) (by kernel_rfl) (hidxS bo oo co hj)) S0 ?_
                    refine held_take (i := 5) (v := .slice (some ⟨bj, oj, none⟩) n cj) (some 82) rfl rfl (by kernel_rfl) (by kernel_rfl) (by kernel_rfl) (fun _ _ _ h => h) (yieldsIf_cell (by kernel_rfl) rfl (by kernel_rfl) (fun W h => hloadS W (hrowj W h))) S0 ?_
                    refine held_take (i := 6) (v := .slice (some ⟨g, 0, none⟩) n c7) (some 83) rfl rfl (by kernel_rfl) (by kernel_rfl) (by kernel_rfl) (fun _ _ _ h => h) (yieldsIf_move (by kernel_rfl) rfl (by kernel_rfl)) S0 ?_
                    refine held_take (i := 7) (v := .slice (some ⟨bo, oo, none⟩) R.length co) (some 84) rfl rfl (by kernel_rfl) (by kernel_rfl) (by kernel_rfl) (fun _ _ _ h => h) (yieldsIf_move (by kernel_rfl) rfl (by kernel_rfl)) S0 ?_
                    refine held_take (i := 8) (v := .int .i64 (j : Int)) (some 85) rfl rfl (by kernel_rfl) (by kernel_rfl) (by kernel_rfl) (fun _ _ _ h => h) (yieldsIf_move (by kernel_rfl) rfl (by kernel_rfl)) S0 ?_
                    refine held_take (i := 9) (v := .pointer (some ⟨bo, oo + j, none⟩)) (some 86) rfl rfl (by kernel_rfl) (by kernel_rfl) (by kernel_rfl) (fun _ _ _ h => h) (yieldsIf_index (by kernel_rfl) rfl (by kernel_rfl) (by kernel_rfl) (hidxS bo oo co hj)) S0 ?_
                    refine held_take (i := 10) (v := .slice (some ⟨bj, oj, none⟩) n cj) (some 87) rfl rfl (by kernel_rfl) (by kernel_rfl) (by kernel_rfl) (fun _ _ _ h => h) (yieldsIf_cell (by kernel_rfl) rfl (by kernel_rfl) (fun W h => hloadS W (hrowj W h))) S0 ?_
                    refine held_take (i := 11) (v := .int .i64 (d : Int)) (some 88) rfl rfl (by kernel_rfl) (by kernel_rfl) (by kernel_rfl) (fun _ _ _ h => h) (yieldsIf_move (by kernel_rfl) rfl (by kernel_rfl)) S0 ?_
                    refine held_take (i := 12) (v := .pointer (some ⟨bj, oj + d, none⟩)) (some 89) rfl rfl (by kernel_rfl) (by kernel_rfl) (by kernel_rfl) (fun _ _ _ h => h) (yieldsIf_index (by kernel_rfl) rfl (by kernel_rfl) (by kernel_rfl) (hidxI bj oj cj hdn)) S0 ?_
                    refine held_take (i := 13) (v := .int .i64 f) (some 90) rfl rfl (by kernel_rfl) (by kernel_rfl) (by kernel_rfl) (fun _ _ _ h => h) (yieldsIf_cell (by kernel_rfl) rfl (by kernel_rfl) (fun W h => hload W (hcellj W h))) S0 ?_
                    refine held_enter (i := 14) (some 91) (f := 104) (args := #[.int .i64 p, .slice (some ⟨bj, oj, none⟩) n cj, .slice (some ⟨g, 0, none⟩) n c7, .int .i64 f]) (by kernel_rfl) rfl rfl rfl (by kernel_rfl) (HLESS.out _ S0) ?_ (fun c w' h => by obtain ⟨_, h, _⟩ := h; cases h) (fun w' h => by obtain ⟨_, h, _⟩ := h; cases h)
                    rintro e5 W5 ⟨u5, he5, hg5, hb5⟩
                    injection he5 with he5
                    subst he5
                    have S1 : Below w2.heap.size w2 W5 := S0.trans (hb5.mono S0.size)
                    have hb5' : Below wr.heap.size wr W5 := ((Below.refl wr.heap.size wr).drew).trans hb5
                    have HO5 := Lib.hid (owns_below HVO.out hb5')
                    have HG5 := Lib.hid hg5.g1
                    obtain ⟨a5, c5, hv5⟩ := l1_slice hg5.l1
                    subst hv5
                    refine ⟨S1, ?_⟩
                    have hs5 : w2.heap.size ≤ W5.heap.size := S1.size
                    have S2 : Below w2.heap.size w2 (W5.alloc (.cells #[.slice a5 n c5] 22)) := S1.alloc hs5 _
                    have hba : Below W5.heap.size W5 (W5.alloc (.cells #[.slice a5 n c5] 22)) := (Below.refl _ _).alloc (Nat.le_refl _) _
                    have HOX := Lib.hid (owns_below HO5.out hba)
                    refine held_buildS (i := 15) (some 92) (by kernel_rfl) rfl rfl rfl (.tmp 91) a5 n c5 rfl (by kernel_rfl) ⟨S2, ?_⟩
                    refine held_appendS (i := 16) (some 93) (by kernel_rfl) rfl rfl rfl (.tmp 77) (.tmp 92) rfl w2.heap.size (.slice an N.length cn) _ _ (by kernel_rfl) HOX.out W5.heap.size a5 n c5 (by kernel_rfl) (cell_alloc1 W5 _ _) (by simp; omega) (by simp; omega) ?_
                    intro v' w3 hown hgrow
                    have S3 : Below w2.heap.size w2 w3 := S2.grown hgrow (by simp; omega) (fun g hg => ((HOX.out.lt) g hg).1)
                    have HB3 := Lib.hid S3
                    have HGS3 : Hid (Gs w2.heap.size w3 v' ((N ++ [less1 p u R[j]]).map (toL n))) := Lib.hid (by
                      rw [List.map_append]
                      exact Gs.push HOX.out (fun i h1 h2 => ((HVR.out i h1 h2).below hb5').below hba) (HG5.out.below hba) hown hgrow)
                    refine ⟨S3, ?_⟩
                    refine held_take (i := 17) (v := v') (some 11) rfl rfl (by kernel_rfl) (by kernel_rfl) (by kernel_rfl) (fun _ _ _ h => h) (yieldsIf_assign (by kernel_rfl) rfl (by kernel_rfl)) S3 ?_
                    refine wpAnyH_done (by kernel_rfl) ?_ _
                    simp only [Act.put, List.setIfInBounds_toArray, List.set_cons_zero, List.set_cons_succ]
                    clear S0 S1 S2 S3 hown hgrow hb5 hb5' hba hg5 HOX HO5 HG5 hrowj hcellj HLESS hs5
                    go_wp2
                    go_roundw
                    case rel => exact ⟨j + 1, false, _, by omega, by go_num, rfl, HB3, HGS3, Lib.hid (HNX2.out)⟩
                    case measure => simp [intOf]; omega
              · have hjj : Hid (j = R.length) := Lib.hid (by omega)
                have HBO : Hid (Below w.heap.size w wr) := Lib.hid (HB.out.trans ((HB2.out.trans (HBX.out.mono hs2)).mono hsz))
                cases pt with
                | true =>
                  have hdone : ∃ K, K ≤ R.length ∧ N = Lin.put p R K u ∧ (∀ w ∈ R.take K, Lin.ld w < Lin.ld u) ∧ ∀ w ∈ R.drop K, ¬ Lin.ld w < Lin.ld u := Nx.done HR.out.red (by have := HNX.out; rwa [hjj.out] at this)
                  obtain ⟨KK, hK, hN, hlo, hhi⟩ := hdone
                  have HR6 : Hid (RedN p n N (TS.take (k + 1))) := Lib.hid (by
                    rw [HTK.out, hN]
                    exact HR.out.put hp1 HTKM.out HTT.out.1 HRE.out HZ.out HUU.out HUW.out hK hlo hhi)
                  have hNl2 : N.length ≤ k + 1 := by rw [hN, put_length p R KK u hK]; omega
                  clear hlo hhi hN
                  go_wp2
                  go_roundw
                  case rel => exact ⟨k + 1, N, by omega, by go_num, HBO, Lib.hid (HGN0.out.mono (by omega)), HR6, hNl2⟩
                  case measure => simp [intOf]; omega
                | false =>
                  have hdone : ∃ K, K ≤ R.length ∧ N ++ [u] = Lin.put p R K u ∧ (∀ w ∈ R.take K, Lin.ld w < Lin.ld u) ∧ ∀ w ∈ R.drop K, ¬ Lin.ld w < Lin.ld u := Nx.end (by have := HNX.out; rwa [hjj.out] at this)
                  obtain ⟨KK, hK, hN, hlo, hhi⟩ := hdone
                  have HR6 : Hid (RedN p n (N ++ [u]) (TS.take (k + 1))) := Lib.hid (by
                    rw [HTK.out, hN]
                    exact HR.out.put hp1 HTKM.out HTT.out.1 HRE.out HZ.out HUU.out HUW.out hK hlo hhi)
                  have hNl2 : (N ++ [u]).length ≤ k + 1 := by rw [hN, put_length p R KK u hK]; omega
                  clear hlo hhi hN
                  go_wp2_with (at_builtin; refine wpList_append_own _ rfl (.tmp 96) (.tmp 98) 48 rfl w2.heap.size 22 i0 (.slice none 0 0) 1 24 Tryd.underlying48 hi0 hz0 hz1 hz2 rfl (by decide) _ _ _ rfl (HVO.out.alloc _) ⟨wr.heap.size, 0, none⟩ 1 1 [.slice (some ⟨g, 0, none⟩) n c7] rfl rfl ?c1 ?c2 ?c3 ?c4 ?c5 ?_)
                  case c1 =>
                    intro j u hj
                    match j, hj with
                    | 0, hj => simp at hj; subst hj; simp [Addr.add]
                  case c2 => intro u hu; simp at hu; subst hu; rfl
                  case c3 => rw [List.length_map]; unfold maxLen; omega
                  case c4 => rw [List.length_map]; omega
                  case c5 => simp; omega
                  intro v' w3 hown hgrow _
                  have hba : Below wr.heap.size wr (wr.alloc (.cells #[.slice (some ⟨g, 0, none⟩) n c7] 22)) := (Below.refl _ _).alloc (Nat.le_refl _) _
                  have HOX := Lib.hid (owns_below HVO.out hba)
                  have HBN := Lib.hid ((HBX.out.alloc hsx (.cells #[.slice (some ⟨g, 0, none⟩) n c7] 22)).grown hgrow (by simp; omega) (fun g hg => ((HOX.out.lt) g hg).1))
                  have HGN : Hid (Gs w2.heap.size w3 v' ((N ++ [u]).map (toL n))) := Lib.hid (by
                    rw [List.map_append]
                    exact Gs.push HOX.out (fun i h1 h2 => (HVR.out i h1 h2).below hba) ((HOWN7.out.below HBX.out).below hba) (by rw [List.length_map]; exact hown) hgrow)
                  clear hown hgrow hba HOX
                  have HBO2 : Hid (Below w.heap.size w w3) := Lib.hid (HB.out.trans ((HB2.out.trans (HBN.out.mono hs2)).mono hsz))
                  go_wp2
                  go_roundw
                  case rel => exact ⟨k + 1, N ++ [u], by omega, by go_num, HBO2, Lib.hid (HGN.out.mono (by omega)), HR6, hNl2⟩
                  case measure => simp [intOf]; omega
    · have hkk : Hid (TS.take k = TS) := Lib.hid (List.take_of_length_le (by omega))
      go_wp2
      go_ret
      exact ⟨_, R, rfl, HO.out, HB.out, by have := HR.out; rwa [hkk.out] at this, by omega⟩
end Go.Proofs.YtpchbceohnabnabDoor


namespace Go.Proofs.YtpchbceohnabnabDoor
open Go.RowKit

/-- What the functions on spaces take. -/
def SpOk (p n : Int) (rows : List (List Int)) : Prop := IsP p ∧ (0 ≤ n ∧ n ≤ 40) ∧ rows.length ≤ 40 ∧ TabOk p (rows.length : Int) n rows
theorem SpOk.row {p n : Int} {rows : List (List Int)} (h : SpOk p n rows) {r : List Int} (hr : r ∈ rows) : RowOk p n r := h.2.2.2.2 r hr
theorem SpOk.md {p n : Int} {rows : List (List Int)} (h : SpOk p n rows) : ∀ u ∈ rows.map ofL, Lin.Md p u := fun u hu => by
  obtain ⟨r, hr, rfl⟩ := List.mem_map.1 hu
  exact ofL_md (by have := h.1.lo; omega) (h.row hr)
theorem SpOk.wd {p n : Int} {rows : List (List Int)} (h : SpOk p n rows) : ∀ u ∈ rows.map ofL, Lin.Wd n.toNat u := fun u hu => by
  obtain ⟨r, hr, rfl⟩ := List.mem_map.1 hu
  exact ofL_wd (by have := (h.row hr).1; omega)
theorem SpOk.short {p n : Int} {rows : List (List Int)} (h : SpOk p n rows) : ∀ r ∈ rows, r.length ≤ 40 := fun r hr => by
  have := (h.row hr).1
  have := h.2.1
  omega
theorem wd_wider {n m : Nat} {u : Lin.V} (h : Lin.Wd n u) (hm : n ≤ m) : Lin.Wd m u := fun i hi => h i (by omega)

theorem led_length {n : Nat} : ∀ (L : List Lin.V) (k : Nat), L.Pairwise (fun v w => Lin.ld v < Lin.ld w) → (∀ u ∈ L, k ≤ Lin.ld u ∧ Lin.ld u < n) → L.length ≤ n - k
  | [], _, _, _ => by simp
  | v :: L, k, hp, h => by
    have h1 := List.pairwise_cons.1 hp
    have h0 := h v (by simp)
    have := led_length L (Lin.ld v + 1) h1.2 (fun u hu => ⟨h1.1 u hu, (h u (by simp [hu])).2⟩)
    simp only [List.length_cons]
    omega
theorem red_length {p : Int} {n : Nat} {R : List Lin.V} (h : Lin.Red p R) (hw : ∀ u ∈ R, Lin.Wd n u) : R.length ≤ n := by
  have := led_length (n := n) R 0 h.inc (fun u hu => ⟨Nat.zero_le _, (ld_ltn (hw u hu) (h.ne hu)).1⟩)
  omega

/-- What such a function answers: the reduced list of a space, or a code. -/
structure SpOut (p : Int) (n : Nat) (S : Lin.V → Prop) (c0 : Int) (out : List (List Int)) (c : Int) : Prop where
  good : c0 = 0 → ∃ R, Lin.Red p R ∧ (∀ u ∈ R, Lin.Wd n u) ∧ (∀ v, Lin.Sp p R v ↔ S v) ∧ out = R.map (toL n)
  bad : c0 ≠ 0 → out = []
  code : c = c0
theorem SpOut.unique {p : Int} {n : Nat} {S : Lin.V → Prop} {c0 : Int} {o1 o2 : List (List Int)} {c1 c2 : Int} (hp : c0 = 0 → 1 < p) (h1 : SpOut p n S c0 o1 c1) (h2 : SpOut p n S c0 o2 c2) : o1 = o2 ∧ c1 = c2 := by
  refine ⟨?_, h1.code.trans h2.code.symm⟩
  by_cases h0 : c0 = 0
  · obtain ⟨R1, a1, _, b1, rfl⟩ := h1.good h0
    obtain ⟨R2, a2, _, b2, rfl⟩ := h2.good h0
    rw [Lin.Red.unique (hp h0) a1 a2 (fun v => (b1 v).trans (b2 v).symm)]
  · rw [h1.bad h0, h2.bad h0]
theorem SpOut.bd {p : Int} {n : Nat} {S : Lin.V → Prop} {c0 : Int} {o : List (List Int)} {c : Int} (h : SpOut p n S c0 o c) (hn : c0 = 0 → n ≤ 1048576) : Bd2 1048576 o := by
  by_cases h0 : c0 = 0
  · obtain ⟨R, a, b, _, rfl⟩ := h.good h0
    have := red_length a b
    have hn := hn h0
    refine ⟨by rw [List.length_map]; omega, fun r hr => ?_⟩
    obtain ⟨u, _, rfl⟩ := List.mem_map.1 hr
    unfold Bd1
    rw [toL_length]
    exact hn
  · rw [h.bad h0]
    exact ⟨by simp, by simp⟩
theorem TW.wider {lo lo' hi : Nat} {W : World} {u : Value} {R : List (List Int)} (h : TW lo hi W u R) (hl : lo' ≤ lo) : TW lo' hi W u R := by
  rcases h with h | ⟨g, r, c, Z, h1, h2, h3, h4, h5, h6, h7⟩
  · exact Or.inl h
  · exact Or.inr ⟨g, r, c, Z, by omega, h2, h3, h4, h5, h6, h7⟩
end Go.Proofs.YtpchbceohnabnabDoor

namespace Go.Proofs.YtpchbceohnabnabDoor
open Go.RowKit

theorem nil2 (w : World) : L2 0 w (.slice none 0 0) [] := Or.inl ⟨rfl, _, _, rfl⟩

end Go.Proofs.YtpchbceohnabnabDoor

namespace Go.Proofs.YtpchbceohnabnabDoor
open Go.RowKit

/-- append of no elements. -/
theorem run_append_none' {P : Program} (w : World) (t ty e : TypeId) (i : TypeInfo) (ht : P.underlying t = some (.slice e)) (hi : P.info? e = some i) {base size n : Nat} {v : Value} {xs : List Value} (hown : w.ownsRow base e size v n xs) (ad : Option Addr) (cap : Nat) :
    (Builtin.append_ #[t, t] ty #[v, .slice ad 0 cap]).run P w = .ok v w := by
  cases ad with
  | none =>
    rcases hown.2 with ⟨rfl, rfl⟩ | ⟨g, cap, cur, rfl, _, _, hnc, _⟩
    · simp [Builtin.append_, run_underlying ht, sizeOf, typeInfo, hi, Builtin.lenOf, Builtin.firstCells]
    · simp [Builtin.append_, run_underlying ht, sizeOf, typeInfo, hi, Builtin.lenOf, Builtin.firstCells, hnc, storeCells]
  | some a =>
    have hl := run_loadCells_list (P := P) w a [] (by simp)
    simp at hl
    rcases hown.2 with ⟨rfl, rfl⟩ | ⟨g, cap, cur, rfl, _, _, hnc, _⟩
    · simp [Builtin.append_, run_underlying ht, sizeOf, typeInfo, hi, Builtin.lenOf, Builtin.firstCells, hl]
    · simp [Builtin.append_, run_underlying ht, sizeOf, typeInfo, hi, Builtin.lenOf, Builtin.firstCells, hnc, storeCells, hl]

/-- append of a list of vectors to one that the call owns. -/
theorem wpList_appendVs {ops : Array Oper} {rest : List Oper} {o : Oper} {a : Act} {w : World} {Q : Exit → Act → World → Prop} (hgd : o.guard = none) (dst : Option Tmp) (hdst : o.dst = dst) (s x : Operand)
    (ho : o.op = .call { callee := .builtin .append, args := #[s, x], argTypes := #[91, 91] }) (base : Nat) (v u : Value) (A B : List Lin.V) (hs : a.eval s = v) (hx : a.eval x = u) (hown : Ow base w v A) (hB : Vs 0 w u B)
    (hl : A.length + B.length ≤ 2097152) (hb : base ≤ w.heap.size)
    (h : ∀ v' w', Ow base w' v' (A ++ B) → w.grownBy w' v.ownBlock → wpList Tryd.prog ops Q rest (a.put dst v') w') : wpList Tryd.prog ops Q (o :: rest) a w := by
  obtain ⟨i, hi, hz, hs1, hb1⟩ := info_parts Tryd.infoVz
  subst hdst
  refine Vs.cases hB (fun ad cap hB0 hu => ?_) (fun b o' cap hu _ hpos hc => ?_)
  · subst hB0 hu
    refine Lib.wpList_append_run _ hgd s x _ _ ho _ _ hs hx _ _ (run_append_none' w _ _ _ i Tryd.underlyingSV hi hown ad cap) ?_
    rw [List.append_nil] at h
    exact h v w hown ⟨rfl, rfl, rfl, Nat.le_refl _, fun _ _ _ => rfl⟩
  · subst hu
    refine wpList_append_own w hgd s x 91 ho base 94 i _ 40 320 Tryd.underlyingSV hi hz hs1 hb1 (by simp [Value.cells, zl_length]) (by decide) v A.length (cellsOf A) hs hown ⟨b, o', none⟩ B.length cap (cellsOf B) hx (cellsOf_length _) ?_ ?_ (by unfold maxLen; omega) (by omega) hb (fun v' w' h1 h2 _ => h v' w' ?_ h2)
    · intro j y hj
      rw [Addr.add_mid]
      have hjl : j < B.length * 40 := by rw [← cellsOf_length]; exact (List.getElem?_eq_some_iff.1 hj).1
      have hq : j / 40 < B.length := Nat.div_lt_of_lt_mul (by omega)
      have hm : j % 40 < 40 := Nat.mod_lt _ (by decide)
      have := (hc (j / 40) hq).cell hm
      rw [show o' + j / 40 * 40 + j % 40 = o' + j by omega] at this
      rw [this]
      have e := cellsOf_at (L := B) hq hm
      rw [show j / 40 * 40 + j % 40 = j by omega] at e
      rw [← hj, e]
    · exact cellsOf_one' B
    · unfold Ow
      rw [List.length_append, cellsOf_append]
      exact h1

set_option maxHeartbeats 800000 in
set_option maxRecDepth 100000 in
theorem grow_any (n : Nat) (w : World) (hn : n ≤ 2097152) : Calls Tryd.prog 121 #[.slice none 0 0, .int .i64 n] w (VsR (fun M => M = []) w) := by
  obtain ⟨i, hi, hz, hs1, hb1⟩ := info_parts Tryd.infoVz
  by_cases h0 : n = 0
  · subst h0
    go_enter Tryd.func121, Tryd.ntmps121
    go_wp2
    go_ret
    exact ⟨_, [], rfl, Below.refl _ _, Ow.nil _ _, rfl⟩
  · have hpos : 0 < n := by omega
    have hpos2 : (0 : Int) < (n : Int) := by omega
    have hrun := fun ty => Lib.run_append_nil_zeros w 91 3 ty 94 i _ .i64 .i64 Tryd.underlyingSV Tryd.underlying3 hi hz n hpos (by rw [hs1]; decide) (by omega) (by rw [hb1]; omega)
    obtain ⟨G, hG⟩ : ∃ G, G = grownCap w n 0 94 := ⟨_, rfl⟩
    rw [← hG] at hrun
    have hGn : n ≤ G := by rw [hG]; exact grownCap_ge w _ _ _
    have hGm : G ≤ maxLen := by rw [hG]; exact grownCap_le_maxLen w n 0 _ (by unfold maxLen; omega)
    obtain ⟨ROW, hROW⟩ : ∃ ROW : Array Value, ROW = Builtin.zeroCells (Value.agg zl.toArray).cells n ++ Builtin.zeroCells (Value.agg zl.toArray).cells (G - n) := ⟨_, rfl⟩
    rw [← hROW] at hrun
    have hsz : ROW.size = G * 40 := by
      rw [hROW]
      simp [Builtin.zeroCells, Value.cells, zl_length]
      omega
    have HOW : Hid (Ow w.heap.size (w.drew.alloc (.cells ROW 94)) (.slice (some ⟨w.heap.size, 0, none⟩) 0 G) []) := Lib.hid (World.ownsRow_made (base := w.heap.size) (e := 94) (size := 40) w.drew ROW G (Nat.le_refl _) hGm hsz)
    have HBE : Hid (Below w.heap.size w (w.drew.alloc (.cells ROW 94))) := Lib.hid ((Below.refl _ _).drew.alloc (Nat.le_refl _) _)
    clear hROW hsz hG
    go_enter Tryd.func121, Tryd.ntmps121
    go_wp2_with (at_builtin; refine Lib.wpList_append_run _ rfl (.tmp 20) (.tmp 21) 91 3 rfl _ _ rfl rfl _ _ (hrun _) ?_)
    go_wp2
    go_ret
    exact ⟨_, [], rfl, HBE.out, HOW.out, rfl⟩

set_option maxHeartbeats 1600000 in
set_option maxRecDepth 100000 in
theorem concat_any (g : Nat) (sa sb : Value) (A B : List Lin.V) (w : World) (h0 : w.cell? ⟨g, 0, none⟩ = some sa) (h1 : w.cell? ⟨g, 1, none⟩ = some sb) (hA : Vs 0 w sa A) (hB : Vs 0 w sb B) (hl : A.length + B.length ≤ 2097152) :
    Calls Tryd.prog 108 #[.slice (some ⟨g, 0, none⟩) 2 2] w (VsR (fun M => M = A ++ B) w) := by
  have HA := Lib.hid hA
  have HB := Lib.hid hB
  obtain ⟨aa, ca, rfl⟩ := Vs.shape hA
  obtain ⟨ab, cb, rfl⟩ := Vs.shape hB
  have hgl : g < w.heap.size := cell_lt h0
  have hgr := grow_any (A.length + B.length) w hl
  rw [Int.natCast_add] at hgr
  have HG := Lib.hid hgr
  have n0 : ¬ ((A.length : Int) < 0) := by omega
  have n1 : ¬ ((A.length : Int) + (B.length : Int) < 0) := by omega
  clear hgr
  clear hA hB
  go_enter Tryd.func108, Tryd.ntmps108
  go_wp2
  refine wp_loop_rounds 3 ?_
  rw [rounds_succ]
  go_wp2
  rw [rounds_succ]
  go_wp2
  rw [rounds_succ]
  go_wp2_with fail
  refine HG.out.mono ?_
  rintro e w1 ⟨s6, M, rfl, hb1, ho1, rfl⟩
  have HB1 := Lib.hid hb1
  have HO1 := Lib.hid ho1
  have h0' := later hb1 (Nat.le_refl _) h0
  have h1' := later hb1 (Nat.le_refl _) h1
  have HA1 := Lib.hid (HA.out.below hb1)
  clear hb1 ho1 HG h0 h1 n0 n1
  go_wp2
  refine wp_loop_rounds 3 ?_
  rw [rounds_succ]
  go_wp2_with (at_builtin; refine wpList_appendVs rfl (some 33) rfl (.tmp 31) (.tmp 32) rfl w.heap.size _ _ [] A rfl rfl HO1.out HA1.out ?c1 ?c2 ?_)
  case c1 => simp; omega
  case c2 => exact HB1.out.size
  rw [List.nil_append]
  intro v2 w2 ho2 hg2
  have HB2 : Hid (Below w.heap.size w w2) := Lib.hid (HB1.out.grown hg2 HB1.out.size (fun g hg => ((World.ownsRow.lt HO1.out) g hg).1))
  have HO2 := Lib.hid ho2
  have h1'' : w2.cell? ⟨g, 1, none⟩ = some (.slice ab B.length cb) := by rw [World.grownBy.cell hg2 h1' (fun e => by have := ((World.ownsRow.lt HO1.out) g e.symm).1; omega)]
  have HB2b := Lib.hid (HB.out.below HB2.out)
  clear ho2 hg2 h0' h1' HA1 HO1 HB1
  go_wp2
  rw [rounds_succ]
  go_wp2_with (at_builtin; refine wpList_appendVs rfl (some 33) rfl (.tmp 31) (.tmp 32) rfl w.heap.size _ _ A B rfl rfl HO2.out HB2b.out ?c1 ?c2 ?_)
  case c1 => exact hl
  case c2 => exact HB2.out.size
  intro v3 w3 ho3 hg3
  have HB3 : Hid (Below w.heap.size w w3) := Lib.hid (HB2.out.grown hg3 HB2.out.size (fun g hg => ((World.ownsRow.lt HO2.out) g hg).1))
  have HO3 := Lib.hid ho3
  clear ho3 hg3 h1''
  go_wp2
  rw [rounds_succ]
  go_wp2
  go_ret
  exact ⟨_, A ++ B, rfl, HB3.out, HO3.out, rfl⟩

set_option maxHeartbeats 1600000 in
set_option maxRecDepth 100000 in
theorem sumSpace_any (p : Int) (sa sb : Value) (A B : List Lin.V) (w : World) (hp : IsP p) (hA : Vs 0 w sa A) (hB : Vs 0 w sb B) (hm : ∀ u ∈ A ++ B, Lin.Md p u) (hw : ∀ u ∈ A ++ B, Lin.Wd 40 u) (hl : (A ++ B).length ≤ 1048575) :
    Calls Tryd.prog 86 #[.int .i64 p, sa, sb] w (VsR (fun R => RedOf p R (A ++ B) ∧ R.length ≤ (A ++ B).length) w) := by
  have HP := Lib.hid hp
  have HM := Lib.hid hm
  have HW := Lib.hid hw
  obtain ⟨aa, ca, rfl⟩ := Vs.shape hA
  obtain ⟨ab, cb, rfl⟩ := Vs.shape hB
  have hba : Below w.heap.size w (w.alloc (.cells #[.slice aa A.length ca, .slice ab B.length cb] 91)) := below_alloc1 _ _
  have HBA := Lib.hid hba
  have h0 : (w.alloc (.cells #[.slice aa A.length ca, .slice ab B.length cb] 91)).cell? ⟨w.heap.size, 0, none⟩ = some (.slice aa A.length ca) := by
    unfold World.cell?
    rw [heap_alloc_new w _]
    rfl
  have h1 : (w.alloc (.cells #[.slice aa A.length ca, .slice ab B.length cb] 91)).cell? ⟨w.heap.size, 1, none⟩ = some (.slice ab B.length cb) := by
    unfold World.cell?
    rw [heap_alloc_new w _]
    rfl
  have HC := Lib.hid (concat_any w.heap.size _ _ A B _ h0 h1 (hA.below hba) (hB.below hba) (by rw [List.length_append] at hl; omega))
  clear hp hA hB hm hw hba h0 h1
  go_enter Tryd.func86, Tryd.ntmps86
  go_wp2_with fail
  refine HC.out.mono ?_
  rintro e w1 ⟨s1, M, rfl, hb1, ho1, rfl⟩
  have HB1 := Lib.hid (HBA.out.trans (hb1.mono HBA.out.size))
  have HO1 := Lib.hid (ho1.vs.lower (Nat.zero_le _))
  clear hb1 ho1 HC
  go_wp2_with fail
  refine (reducedList_any p s1 (A ++ B) _ HP.out HO1.out HM.out HW.out hl).mono ?_
  rintro e w2 ⟨s2, R, rfl, hb2, ho2, hr⟩
  have HB2 := Lib.hid (HB1.out.trans (hb2.mono HB1.out.size))
  have HO2 : Hid (Ow w.heap.size w2 s2 R) := Lib.hid ⟨ho2.1, ho2.2.imp id (fun ⟨g, cap, cur, h1, h2, h3⟩ => ⟨g, cap, cur, h1, Nat.le_trans HB1.out.size h2, h3⟩)⟩
  have HR := Lib.hid hr
  clear hb2 ho2 hr
  go_wp2
  go_ret
  exact ⟨_, R, rfl, HB2.out, HO2.out, HR.out⟩
end Go.Proofs.YtpchbceohnabnabDoor

namespace Go.Proofs.YtpchbceohnabnabDoor
open Go.RowKit

/-- The rows' values of a table. -/
structure RowsAt (w : World) (v : Value) (tb : List (List Int)) (vs : List Value) : Prop where
  len : vs.length = tb.length
  row : ∀ k (h1 : k < vs.length) (h2 : k < tb.length), L1 0 w vs[k] tb[k]
  one : ∀ u ∈ vs, u.oneCell' = true
  at' : ∃ ad cap, v = .slice ad tb.length cap ∧ (0 < tb.length → ∃ a, ad = some a ∧ ∀ j u, vs[j]? = some u → w.cell? (a.add j) = some u)
theorem RowsAt.below {w w' : World} {v : Value} {tb : List (List Int)} {vs : List Value} (h : RowsAt w v tb vs) (hb : Below w.heap.size w w') : RowsAt w' v tb vs := by
  obtain ⟨ad, cap, hv, hc⟩ := h.at'
  refine ⟨h.len, fun k h1 h2 => (h.row k h1 h2).below hb, h.one, ad, cap, hv, fun h0 => ?_⟩
  obtain ⟨a, ha, hc⟩ := hc h0
  exact ⟨a, ha, fun j u hj => by rw [hb.cell (World.block_lt_of_cell? _ _ (hc j u hj)), hc j u hj]⟩
theorem wpList_appendT {ops : Array Oper} {rest : List Oper} {o : Oper} {a : Act} {w : World} {Q : Exit → Act → World → Prop} (hgd : o.guard = none) (dst : Option Tmp) (hdst : o.dst = dst) (s x : Operand)
    (ho : o.op = .call { callee := .builtin .append, args := #[s, x], argTypes := #[48, 48] }) (base n : Nat) (v u : Value) (xs : List Value) (tb : List (List Int)) (vs : List Value) (hs : a.eval s = v) (hx : a.eval x = u) (hown : w.ownsRow base 22 1 v n xs) (hT : RowsAt w u tb vs)
    (hl : n + tb.length ≤ 2097152) (hb : base ≤ w.heap.size)
    (h : ∀ v' w', w'.ownsRow base 22 1 v' (n + tb.length) (xs ++ vs) → w.grownBy w' v.ownBlock → wpList Tryd.prog ops Q rest (a.put dst v') w') : wpList Tryd.prog ops Q (o :: rest) a w := by
  obtain ⟨i, hi, hz, hs1, hb1⟩ := info_parts Tryd.infoS
  subst hdst
  obtain ⟨ad, cap, hv, hc⟩ := hT.at'
  subst hv
  by_cases h0 : tb.length = 0
  · have hvs : vs = [] := List.eq_nil_of_length_eq_zero (by rw [hT.len, h0])
    subst hvs
    rw [h0] at hx h
    refine Lib.wpList_append_run _ hgd s x _ _ ho _ _ hs hx _ _ (run_append_none' w _ _ _ i Tryd.underlying48 hi hown ad cap) ?_
    rw [List.append_nil] at h
    exact h v w hown ⟨rfl, rfl, rfl, Nat.le_refl _, fun _ _ _ => rfl⟩
  · obtain ⟨a0, rfl, hcell⟩ := hc (by omega)
    exact wpList_append_own w hgd s x 48 ho base 22 i _ 1 24 Tryd.underlying48 hi hz hs1 hb1 rfl (by decide) v n xs hs hown a0 tb.length cap vs hx (by rw [hT.len]; omega) hcell hT.one (by unfold maxLen; omega) (by omega) hb (fun v' w' h1 h2 _ => h v' w' h1 h2)

end Go.Proofs.YtpchbceohnabnabDoor


namespace Go.Proofs.YtpchbceohnabnabDoor
open Go.RowKit

theorem hloadC (w : World) {b : Nat} {p : Int} {dv mv : Value} (c0 : w.cell? ⟨b, 0, none⟩ = some (.int .i64 p)) (c1 : w.cell? ⟨b, 1, none⟩ = some dv) (c2 : w.cell? ⟨b, 2, none⟩ = some mv) : (Instr.loadAt 30 (.pointer (some ⟨b, 0, none⟩))).run Tryd.prog w = .ok (.agg #[.int .i64 p, dv, mv]) w := by go_simp

open Classical in
/-- The code of a complex and a degree. -/
noncomputable def cxCode (p : Int) (ds : List Int) (ms : List (List (List Int))) (n : Int) : Int := if IsCx p ds ms then (if 0 ≤ n ∧ n ≤ (ds.length : Int) - 1 then 0 else 2) else 1
theorem cxCode_zero {p : Int} {ds : List Int} {ms : List (List (List Int))} {n : Int} (h : cxCode p ds ms n = 0) : IsCx p ds ms ∧ 0 ≤ n ∧ n ≤ (ds.length : Int) - 1 := by
  unfold cxCode at h
  by_cases a : IsCx p ds ms
  · rw [if_pos a] at h
    by_cases b : 0 ≤ n ∧ n ≤ (ds.length : Int) - 1
    · exact ⟨a, b⟩
    · rw [if_neg b] at h; exact absurd h (by decide)
  · rw [if_neg a] at h; exact absurd h (by decide)
/-- The dimension of a degree. -/
def dimN (ds : List Int) (n : Int) : Nat := (ds.getD n.toNat 0).toNat

/-- What a function on a complex and a degree answers as a list of vectors. -/
def SpF (p : Int) (n : Nat) (S : Lin.V → Prop) (R : List Lin.V) : Prop := Lin.Red p R ∧ (∀ u ∈ R, Lin.Wd n u) ∧ (∀ v, Lin.Sp p R v ↔ S v)
theorem SpF.short {p : Int} {n : Nat} {S : Lin.V → Prop} {R : List Lin.V} (h : SpF p n S R) : R.length ≤ n := red_length h.1 h.2.1

end Go.Proofs.YtpchbceohnabnabDoor

namespace Go.Proofs.YtpchbceohnabnabDoor
open Go.RowKit

/-- The table from the degree k + 1 to k, none beyond the degrees. -/
def tabN (ms : List (List (List Int))) (k : Nat) : List (List Int) := ms.getD k []
theorem tabN_ok {p : Int} {ds : List Int} {ms : List (List (List Int))} (h : IsCx p ds ms) (k : Nat) : ∀ r ∈ tabN ms k, RowOk p (ds.getD k 0) r := fun r hr => by
  by_cases hk : k < ms.length
  · exact (h.tab hk).2 r hr
  · have e : tabN ms k = [] := by simp [tabN, List.getD, show ms.length ≤ k by omega]
    rw [e] at hr
    cases hr
theorem tabN_len {p : Int} {ds : List Int} {ms : List (List (List Int))} (h : IsCx p ds ms) (k : Nat) : (tabN ms k).length ≤ 8 := by
  by_cases hk : k < ms.length
  · have h1 := (h.tab hk).1
    have := (h.1.dim (k + 1)).2
    have e : tabN ms k = ms.getD k [] := rfl
    rw [e]
    omega
  · have e : tabN ms k = [] := by simp [tabN, List.getD, show ms.length ≤ k by omega]
    rw [e]
    simp
theorem cx_row {p : Int} {ds : List Int} {ms : List (List (List Int))} (h : IsCx p ds ms) {k : Nat} {r : List Int} (hr : RowOk p (ds.getD k 0) r) : r.length = dimN ds (k : Int) ∧ dimN ds (k : Int) ≤ 8 := by
  have := h.1.dim k
  have h1 := hr.1
  unfold dimN
  rw [Int.toNat_natCast]
  omega
theorem vecs_md {p d : Int} {rows : List (List Int)} (hp : 0 < p) (h : ∀ r ∈ rows, RowOk p d r) : ∀ u ∈ rows.map ofL, Lin.Md p u := fun u hu => by
  obtain ⟨r, hr, rfl⟩ := List.mem_map.1 hu
  exact ofL_md hp (h r hr)
theorem vecs_wd {n : Nat} {rows : List (List Int)} (h : ∀ r ∈ rows, r.length = n) : ∀ u ∈ rows.map ofL, Lin.Wd n u := fun u hu => by
  obtain ⟨r, hr, rfl⟩ := List.mem_map.1 hu
  exact ofL_wd (by rw [h r hr]; exact Nat.le_refl _)
theorem rows_toL' {n : Nat} {rows : List (List Int)} (h : ∀ r ∈ rows, r.length = n) : (rows.map ofL).map (toL n) = rows := by
  rw [List.map_map]
  have : ∀ r ∈ rows, (toL n ∘ ofL) r = id r := fun r hr => toL_ofL (h r hr)
  rw [List.map_congr_left this, List.map_id]

set_option maxHeartbeats 1600000 in
set_option maxRecDepth 100000 in
theorem mapAt_any (p : Int) (k : Nat) (dv mv : Value) (ds : List Int) (ms : List (List (List Int))) (w : World) (h : Cx 0 w dv mv ds ms) (hcx : IsCx p ds ms) :
    Calls Tryd.prog 97 #[.agg #[.int .i64 p, dv, mv], .int .i64 k] w (L2R (tabN ms k) w) := by
  have HX0 := Lib.hid (Bx.start (p := p) 30 h)
  obtain ⟨ad, cap, rfl⟩ := Sl.shape h.dims
  obtain ⟨am, capm, rfl⟩ := Sl.shape h.maps
  have hml := hcx.1.mlen
  have hl6 := hcx.1.len1
  have c0 := HX0.out.c0
  have c1 := HX0.out.c1
  have c2 := HX0.out.c2
  clear h
  by_cases hk : k < ms.length
  · have hr : 0 ≤ (k : Int) ∧ (k : Int) ≤ (ds.length : Int) - 1 - 1 := by omega
    have HR := Lib.hid hr
    clear hr
    go_enter Tryd.func97, Tryd.ntmps97
    go_wp2_with fail
    refine (topOf_any p _ _ ds.length ad cap _ rfl (by omega)).mono ?_
    rintro e w1 ⟨rfl, hb1⟩
    have HX1 := Lib.hid (HX0.out.next hb1)
    clear hb1 c0 c1 c2
    have c0 := HX1.out.c0
    have c1 := HX1.out.c1
    have c2 := HX1.out.c2
    have hw1 : IntKind.i64.wrap ((ds.length : Int) - 1 - 1) = (ds.length : Int) - 1 - 1 := IntWalk.i64_in _ (by omega)
    go_wp2_with fail
    refine (in_yes HR.out _).mono ?_
    rintro e w' ⟨rfl, rfl⟩
    refine Sl.cases HX1.out.cx.maps (fun _ _ hx _ => absurd hk (by simp [hx])) (fun bm om capm2 hvm _ _ hclm => ?_)
    injection hvm with e1 _ e3
    subst e1 e3
    obtain ⟨um, hum, hrm⟩ := hclm k hk
    have HRM : Hid (L2 0 w1 um (tabN ms k)) := Lib.hid (by unfold tabN; rw [getD_of_lt _ hk]; exact hrm)
    have hk2 : (k : Int) < (ms.length : Int) := by omega
    have hk3 : (0 : Int) ≤ (k : Int) := by omega
    clear hrm hclm
    go_wp2
    go_ret
    exact ⟨um, rfl, HRM.out, HX1.out.below⟩
  · have hr : ¬ (0 ≤ (k : Int) ∧ (k : Int) ≤ (ds.length : Int) - 1 - 1) := by omega
    have HR := Lib.hid hr
    have HE : Hid (tabN ms k = []) := Lib.hid (by simp [tabN, List.getD, show ms.length ≤ k by omega])
    clear hr
    go_enter Tryd.func97, Tryd.ntmps97
    go_wp2_with fail
    refine (topOf_any p _ _ ds.length ad cap _ rfl (by omega)).mono ?_
    rintro e w1 ⟨rfl, hb1⟩
    have HX1 := Lib.hid (HX0.out.next hb1)
    clear hb1 c0 c1 c2
    have hw1 : IntKind.i64.wrap ((ds.length : Int) - 1 - 1) = (ds.length : Int) - 1 - 1 := IntWalk.i64_in _ (by omega)
    go_wp2_with fail
    refine (in_no HR.out _).mono ?_
    rintro e w' ⟨rfl, rfl⟩
    go_wp2
    go_ret
    exact ⟨_, rfl, by rw [HE.out]; exact nil2 _, HX1.out.below⟩

set_option maxHeartbeats 1600000 in
set_option maxRecDepth 100000 in
theorem boundarySpace_any (p : Int) (q : Nat) (dv mv : Value) (ds : List Int) (ms : List (List (List Int))) (w : World) (h : Cx 0 w dv mv ds ms) (hcx : IsCx p ds ms) :
    Calls Tryd.prog 85 #[.agg #[.int .i64 p, dv, mv], .int .i64 q] w (VsR (SpF p (dimN ds (q : Int)) (Lin.Sp p ((tabN ms q).map ofL))) w) := by
  have HX0 := Lib.hid (Bx.start (p := p) 30 h)
  obtain ⟨ad, cap, rfl⟩ := Sl.shape h.dims
  obtain ⟨am, capm, rfl⟩ := Sl.shape h.maps
  have HCX := Lib.hid hcx
  have hp1 := hcx.1.prime.lo1
  have c0 := HX0.out.c0
  have c1 := HX0.out.c1
  have c2 := HX0.out.c2
  have HLEN := Lib.hid (tabN_len hcx q)
  have HOK := Lib.hid (tabN_ok hcx q)
  have HRL : Hid (∀ r ∈ tabN ms q, r.length = dimN ds (q : Int)) := Lib.hid (fun r hr => (cx_row hcx (tabN_ok hcx q r hr)).1)
  have HR40 : Hid (∀ r ∈ tabN ms q, r.length ≤ 40) := Lib.hid (fun r hr => by have := cx_row hcx (tabN_ok hcx q r hr); omega)
  have HW40 : Hid (∀ u ∈ (tabN ms q).map ofL, Lin.Wd 40 u) := Lib.hid (fun u hu => by
    obtain ⟨r, hr, rfl⟩ := List.mem_map.1 hu
    exact ofL_wd (HR40.out r hr))
  clear h hcx
  go_enter Tryd.func85, Tryd.ntmps85
  go_wp2
  go_region_held3 (fun w' => w'.cell? ⟨w.heap.size, 0, none⟩ = some (.int .i64 p) ∧ w'.cell? ⟨w.heap.size, 1, none⟩ = some (.slice ad ds.length cap) ∧ w'.cell? ⟨w.heap.size, 2, none⟩ = some (.slice am ms.length capm) ∧ Hid (Bx w w' w.heap.size p (.slice ad ds.length cap) (.slice am ms.length capm) ds ms))
    (first | exact ⟨HX0.out.c0, HX0.out.c1, HX0.out.c2, HX0⟩ | exact ⟨HX0.out.c0, HX0.out.c1, HX0.out.c2, Lib.hid (HX0.out.next (Below.refl _ _).drew)⟩ | exact ⟨HX3.out.c0, HX3.out.c1, HX3.out.c2, HX3⟩ | exact ⟨HX4.out.c0, HX4.out.c1, HX4.out.c2, HX4⟩ | exact ⟨HX5.out.c0, HX5.out.c1, HX5.out.c2, HX5⟩ | go_keep)
    (first
      | (go_at_call 97; refine (mapAt_any p q _ _ ds ms _ ?_ HCX.out).mono ?_; (exact (HX0.out.next (Below.refl _ _).drew).cx); rintro e w3 ⟨v3, rfl, hl3, hb3⟩; have HX3 := Lib.hid ((HX0.out.next (Below.refl _ _).drew).next hb3); have HL3 := Lib.hid hl3; clear hl3 hb3)
      | (go_at_call 107; refine (vectorsOf_any v3 (tabN ms q) _ HL3.out (by have := HLEN.out; omega) HR40.out).mono ?_; rintro e w4 ⟨s4, M, rfl, hb4, ho4, rfl⟩; have HX4 := Lib.hid (HX3.out.next hb4); have HO4 := Lib.hid (ho4.vs.lower (Nat.zero_le _)); clear ho4 hb4)
      | (go_at_call 106; refine (reducedList_any p s4 _ _ HCX.out.1.prime HO4.out (vecs_md (by omega) HOK.out) HW40.out (by rw [List.length_map]; have := HLEN.out; omega)).mono ?_; rintro e w5 ⟨s5, R, rfl, hb5, ho5, hr5, hl5⟩; have HX5 := Lib.hid (HX4.out.next hb5); have HO5 := Lib.hid (And.intro ho5 HX4.out.below.size); have HR5 := Lib.hid hr5; clear ho5 hb5 hr5 hl5))
  go_wp2
  go_ret
  refine ⟨s5, R, rfl, HX5.out.below, ⟨HO5.out.1.1, HO5.out.1.2.imp id (fun ⟨g, cap, cur, h1, h2, h3⟩ => ⟨g, cap, cur, h1, Nat.le_trans HO5.out.2 h2, h3⟩)⟩, HR5.out.red, fun u hu => ?_, HR5.out.eqv⟩
  exact Lin.Sp.wd (vecs_wd HRL.out) ((HR5.out.eqv u).1 (Lin.Sp.mem hu (HR5.out.red.md u hu)))

set_option maxHeartbeats 1600000 in
set_option maxRecDepth 100000 in
theorem l01Bounds_any (p : Int) (q : Nat) (dv mv : Value) (ds : List Int) (ms : List (List (List Int))) (w : World) (h : Cx 0 w dv mv ds ms) (hcx : IsCx p ds ms) (hq : q < ds.length) :
    Calls Tryd.prog 81 #[.agg #[.int .i64 p, dv, mv], .int .i64 q] w (EchR p (dimN ds (q : Int)) ((tabN ms q).map ofL) w) := by
  have HX0 := Lib.hid (Bx.start (p := p) 30 h)
  obtain ⟨ad, cap, rfl⟩ := Sl.shape h.dims
  obtain ⟨am, capm, rfl⟩ := Sl.shape h.maps
  have HCX := Lib.hid hcx
  have hp1 := hcx.1.prime.lo1
  have hl6 := hcx.1.len1
  have hml := hcx.1.mlen
  have c0 := HX0.out.c0
  have c1 := HX0.out.c1
  have c2 := HX0.out.c2
  have HLEN := Lib.hid (tabN_len hcx q)
  have HOK := Lib.hid (tabN_ok hcx q)
  have HRL : Hid (∀ r ∈ tabN ms q, r.length = dimN ds (q : Int)) := Lib.hid (fun r hr => (cx_row hcx (tabN_ok hcx q r hr)).1)
  have HDIM : Hid (dimN ds (q : Int) ≤ 8) := Lib.hid (by unfold dimN; rw [Int.toNat_natCast]; have := hcx.1.dim q; omega)
  have HMAP : Hid (mapZ ds ms ((q : Int) + 1) = tabN ms q) := Lib.hid (by
    unfold mapZ tabN
    by_cases hr : 1 ≤ (q : Int) + 1 ∧ (q : Int) + 1 ≤ (ds.length : Int) - 1
    · rw [if_pos hr, show ((q : Int) + 1).toNat - 1 = q by omega]
    · rw [if_neg hr]
      have : dimZ ds ((q : Int) + 1) = 0 := by
        unfold dimZ
        rw [if_neg (by omega)]
      rw [this]
      simp [List.getD, show ms.length ≤ q by omega])
  have hw1 : IntKind.i64.wrap ((q : Int) + 1) = (q : Int) + 1 := IntWalk.i64_in _ (by omega)
  clear h hcx
  go_enter Tryd.func81, Tryd.ntmps81
  go_wp2
  go_region_held3 (fun w' => w'.cell? ⟨w.heap.size, 0, none⟩ = some (.int .i64 p) ∧ w'.cell? ⟨w.heap.size, 1, none⟩ = some (.slice ad ds.length cap) ∧ w'.cell? ⟨w.heap.size, 2, none⟩ = some (.slice am ms.length capm) ∧ Hid (Bx w w' w.heap.size p (.slice ad ds.length cap) (.slice am ms.length capm) ds ms))
    (first | exact ⟨HX0.out.c0, HX0.out.c1, HX0.out.c2, HX0⟩ | exact ⟨HX0.out.c0, HX0.out.c1, HX0.out.c2, Lib.hid (HX0.out.next (Below.refl _ _).drew)⟩ | exact ⟨HX3.out.c0, HX3.out.c1, HX3.out.c2, HX3⟩ | exact ⟨HX4.out.c0, HX4.out.c1, HX4.out.c2, HX4⟩ | go_keep)
    (first
      | (go_at_call 88; refine (l01Map_any p ((q : Int) + 1) _ _ ds ms _ ?_ HCX.out).mono ?_; (exact (HX0.out.next (Below.refl _ _).drew).cx); rw [HMAP.out]; rintro e w3 ⟨v3, rfl, hl3, hb3⟩; have HX3 := Lib.hid ((HX0.out.next (Below.refl _ _).drew).next hb3); have HL3 := Lib.hid hl3; clear hl3 hb3)
      | (go_at_call 82; refine (l01Echelon_any p (dimN ds (q : Int)) v3 ((tabN ms q).map ofL) _ HCX.out.1.prime (by rw [rows_toL' HRL.out]; exact HL3.out) (vecs_md (by omega) HOK.out) (vecs_wd HRL.out) (by have := HDIM.out; omega) (by rw [List.length_map]; have := HLEN.out; omega)).mono ?_; rintro e w4 ⟨u4, R, rfl, hg4, hb4, hr4, hl4⟩; have HX4 := Lib.hid (HX3.out.next hb4); have HG4 := Lib.hid (hg4.mono HX3.out.below.size); have HR4 := Lib.hid (And.intro hr4 hl4); clear hg4 hb4 hr4 hl4))
  go_wp2
  go_ret
  exact ⟨u4, R, rfl, HG4.out, HX4.out.below, HR4.out.1, HR4.out.2⟩

end Go.Proofs.YtpchbceohnabnabDoor

namespace Go.Proofs.YtpchbceohnabnabDoor
open Go.RowKit

/-- append of numbers to a row that the call owns. -/
theorem wpList_appendN {ops : Array Oper} {rest : List Oper} {o : Oper} {a : Act} {w : World} {Q : Exit → Act → World → Prop} (hgd : o.guard = none) (dst : Option Tmp) (hdst : o.dst = dst) (s x : Operand)
    (ho : o.op = .call { callee := .builtin .append, args := #[s, x], argTypes := #[22, 22] }) (base : Nat) (v u : Value) (xs ys : List Int) (hs : a.eval s = v) (hx : a.eval x = u) (hown : Gb base w v xs) (hy : L1 0 w u ys)
    (hl : xs.length + ys.length ≤ 2097152) (hb : base ≤ w.heap.size)
    (h : ∀ v' w', Gb base w' v' (xs ++ ys) → w.grownBy w' v.ownBlock → wpList Tryd.prog ops Q rest (a.put dst v') w') : wpList Tryd.prog ops Q (o :: rest) a w := by
  obtain ⟨i, hi, hz, hs1, hb1⟩ := info_parts Tryd.infoI
  subst hdst
  refine Sl.cases hy (fun ad cap hys hu => ?_) (fun b o' cap hu _ hpos hc => ?_)
  · subst hys hu
    refine Lib.wpList_append_run _ hgd s x _ _ ho _ _ hs hx _ _ (run_append_none' w _ _ _ i Tryd.underlying22 hi hown ad cap) ?_
    rw [List.append_nil] at h
    exact h v w hown ⟨rfl, rfl, rfl, Nat.le_refl _, fun _ _ _ => rfl⟩
  · subst hu
    refine wpList_append_own w hgd s x 22 ho base 2 i _ 1 8 Tryd.underlying22 hi hz hs1 hb1 rfl (by decide) v xs.length (xs.map (Value.int .i64)) hs hown ⟨b, o', none⟩ ys.length cap (ys.map (Value.int .i64)) hx (by simp) ?_ ?_ (by unfold maxLen; omega) (by omega) hb (fun v' w' h1 h2 _ => h v' w' ?_ h2)
    · intro j y hj
      have hj' : j < ys.length := by have := (List.getElem?_eq_some_iff.1 hj).1; simpa using this
      obtain ⟨u2, h2, h3⟩ := hc j hj'
      rw [Addr.add_lit, h2, h3]
      simp [hj'] at hj
      rw [hj]
    · intro y hy2
      obtain ⟨z, _, rfl⟩ := List.mem_map.1 hy2
      rfl
    · unfold Gb
      rw [List.length_append, List.map_append]
      exact h1
theorem Gs.lt {base : Nat} {w : World} {v : Value} {tb : List (List Int)} (h : Gs base w v tb) : ∀ k, v.ownBlock = some k → base ≤ k ∧ k < w.heap.size := by
  obtain ⟨vs, ho, _⟩ := h
  exact World.ownsRow.lt ho
theorem Gs.row {base : Nat} {w : World} {u : Value} {tb : List (List Int)} (h : Gs base w u tb) {k : Nat} (hk : k < tb.length) (hpos : 0 < (tb[k]).length) :
    ∃ b c, u = .slice (some ⟨b, 0, none⟩) tb.length c ∧ ∃ g cap, w.cell? ⟨b, k, none⟩ = some (.slice (some ⟨g, 0, none⟩) (tb[k]).length cap) ∧ (tb[k]).length ≤ cap ∧ G1 w (.slice (some ⟨g, 0, none⟩) (tb[k]).length cap) tb[k] := by
  obtain ⟨vs, ho, hr⟩ := h
  obtain ⟨b, c, rfl, _, _⟩ := World.ownsRow.form ho (by omega)
  have hvl : vs.length = tb.length := by have := ho.1; omega
  have hg := hr k (by omega) hk
  obtain ⟨g, cap, hv, _, _⟩ := World.ownsRow.form hg hpos
  refine ⟨b, c, rfl, g, cap, ?_, ?_, by rw [← hv]; exact hg⟩
  · rw [World.ownsRow.cellAt ho k (by omega), List.getElem?_eq_getElem (by omega), hv]
  · rw [hv] at hg
    rcases hg.2 with ⟨h0, _⟩ | ⟨g', cap', cur, h0, _, _, hnc, _⟩
    · cases h0
    · injection h0 with _ _ e3
      omega
/-- append of one row to a table that the call gathers. -/
theorem wpList_appendG {ops : Array Oper} {rest : List Oper} {o : Oper} {a : Act} {w : World} {Q : Exit → Act → World → Prop} (hgd : o.guard = none) (dst : Option Tmp) (hdst : o.dst = dst) (s x : Operand)
    (ho : o.op = .call { callee := .builtin .append, args := #[s, x], argTypes := #[48, 48] }) (base : Nat) (v : Value) (tb : List (List Int)) (hs : a.eval s = v) (hown : Gs base w v tb)
    (b : Nat) (hx : a.eval x = .slice (some ⟨b, 0, none⟩) 1 1) (ar : Option Addr) (nr cr : Nat) (hc : w.cell? ⟨b, 0, none⟩ = some (.slice ar nr cr)) (y : List Int) (hy : G1 w (.slice ar nr cr) y) (hl : tb.length ≤ 2097151) (hb : base ≤ w.heap.size)
    (h : ∀ v' w', Gs base w' v' (tb ++ [y]) → w.grownBy w' v.ownBlock → wpList Tryd.prog ops Q rest (a.put dst v') w') : wpList Tryd.prog ops Q (o :: rest) a w := by
  obtain ⟨i, hi, hz, hs1, hb1⟩ := info_parts Tryd.infoS
  obtain ⟨vs, hvo, hvr⟩ := hown
  subst hdst
  refine wpList_append_own w hgd s x 48 ho base 22 i _ 1 24 Tryd.underlying48 hi hz hs1 hb1 rfl (by decide) v tb.length vs hs hvo ⟨b, 0, none⟩ 1 1 [.slice ar nr cr] hx rfl ?_ ?_ (by unfold maxLen; omega) (by omega) hb (fun v' w' h1 h2 _ => h v' w' (Gs.push hvo hvr hy h1 h2) h2)
  · intro j u hj
    match j, hj with
    | 0, hj =>
      simp at hj
      subst hj
      exact hc
  · intro u hu
    simp at hu
    subst hu
    rfl

/-- The vectors of n numbers that all columns of a table annihilate. -/
def CycS (p : Int) (n m : Nat) (t : List (List Int)) (v : Lin.V) : Prop := Lin.Md p v ∧ Lin.Wd n v ∧ ∀ j, j < m → Lin.dot n (Lin.col (fun i => ofL (t.getD i [])) j) v % p = 0
def unitV (k : Nat) : Lin.V := fun i => if i = k then 1 else 0
theorem long_toL {m n k : Nat} (r : Lin.V) : toL m r ++ toL n (unitV k) = toL (m + n) (Lin.long m r k) := by
  refine List.ext_getElem (by simp [toL_length]) fun i h1 h2 => ?_
  rw [toL_get]
  by_cases h : i < m
  · rw [List.getElem_append_left (by rw [toL_length]; exact h), toL_get]
    simp [Lin.long, h]
  · rw [List.getElem_append_right (by rw [toL_length]; omega), toL_get]
    simp only [toL_length, unitV, Lin.long, if_neg h]
    by_cases e : i = m + k
    · rw [if_pos e, if_pos (by omega)]
    · rw [if_neg e, if_neg (by omega)]
/-- The first k long rows. -/
def longs (m : Nat) (t : List (List Int)) (k : Nat) : List Lin.V := (List.range k).map fun i => Lin.long m (ofL (t.getD i [])) i
theorem longs_succ (m : Nat) (t : List (List Int)) (k : Nat) : longs m t (k + 1) = longs m t k ++ [Lin.long m (ofL (t.getD k [])) k] := by simp [longs, List.range_succ]
theorem longs_length (m : Nat) (t : List (List Int)) (k : Nat) : (longs m t k).length = k := by simp [longs]
theorem longs_mem (m n : Nat) (t : List (List Int)) : Lin.Longs m n (fun i => ofL (t.getD i [])) (longs m t n) := ⟨fun y => by
  simp only [longs, List.mem_map, List.mem_range]
  exact ⟨fun ⟨i, hi, e⟩ => ⟨i, hi, e.symm⟩, fun ⟨i, hi, e⟩ => ⟨i, hi, e.symm⟩⟩⟩
theorem longs_wd {m n : Nat} {t : List (List Int)} : ∀ y ∈ longs m t n, Lin.Wd (m + n) y := fun y hy => by
  obtain ⟨i, hi, rfl⟩ := ((longs_mem m n t).mem y).1 hy
  intro j hj
  simp [Lin.long, show ¬ j < m by omega, show ¬ j = m + i by omega]
/-- The rows whose leads stand behind m, cut. -/
noncomputable def cuts (m : Nat) (E : List Lin.V) : List Lin.V := (E.filter fun y => decide (m ≤ Lin.ld y)).map (Lin.tail m)
theorem cuts_cut {p : Int} {m : Nat} {E : List Lin.V} (hE : Lin.Red p E) : Lin.Cut p m E (cuts m E) := by
  refine ⟨fun x => ?_, ?_⟩
  · simp only [cuts, List.mem_map, List.mem_filter, decide_eq_true_eq]
    exact ⟨fun ⟨y, ⟨h1, h2⟩, e⟩ => ⟨y, h1, h2, e.symm⟩, fun ⟨y, h1, h2, e⟩ => ⟨y, ⟨h1, h2⟩, e.symm⟩⟩
  · unfold cuts
    rw [List.pairwise_map]
    refine List.Pairwise.imp_of_mem (fun {a b} ha hb h => ?_) (hE.inc.filter _)
    obtain ⟨ha1, ha2⟩ := List.mem_filter.1 ha
    obtain ⟨hb1, hb2⟩ := List.mem_filter.1 hb
    have ha3 : m ≤ Lin.ld a := by simpa using ha2
    have hb3 : m ≤ Lin.ld b := by simpa using hb2
    rw [(Lin.cut_ld hE ha1 ha3).2.1, (Lin.cut_ld hE hb1 hb3).2.1]
    omega
theorem cuts_keep {m : Nat} {E : List Lin.V} {k : Nat} (hk : k < E.length) (h : m ≤ Lin.ld E[k]) : cuts m (E.take (k + 1)) = cuts m (E.take k) ++ [Lin.tail m E[k]] := by
  unfold cuts
  rw [List.take_succ_eq_append_getElem hk, List.filter_append, List.map_append, List.filter_cons_of_pos (by simpa using h)]
  rfl
theorem cuts_skip {m : Nat} {E : List Lin.V} {k : Nat} (hk : k < E.length) (h : ¬ m ≤ Lin.ld E[k]) : cuts m (E.take (k + 1)) = cuts m (E.take k) := by
  unfold cuts
  rw [List.take_succ_eq_append_getElem hk, List.filter_append, List.map_append, List.filter_cons_of_neg (by simpa using h)]
  simp
theorem cuts_length (m : Nat) (E : List Lin.V) : (cuts m E).length ≤ E.length := by
  unfold cuts
  rw [List.length_map]
  exact List.length_filter_le _ _
/-- What the model's kernel answers. -/
theorem kernel_spf {p : Int} (hp : 1 < p) {m n : Nat} {t : List (List Int)} {E : List Lin.V} (h : RedN p (m + n) E (longs m t n)) : SpF p n (CycS p n m t) (cuts m E) := by
  have hc := cuts_cut (m := m) h.red
  refine ⟨hc.red h.red, fun u hu => ?_, fun x => hc.ker hp h.red (longs_mem m n t) h.eqv x⟩
  obtain ⟨y, hy, _, rfl⟩ := (hc.mem u).1 hu
  intro i hi
  exact h.wd y hy _ (by omega)

theorem unit_row (w : World) {n k : Nat} (hk : k < n) : (w.alloc (.cells ((madeCells #[.int .i64 0] n).setIfInBounds k (.int .i64 1)) 2)).rowIs w.heap.size 2 n (fun i => .int .i64 (unitV k i)) := by
  refine ⟨_, heap_alloc_new w _, by simp [size_madeCells], fun i hi => ?_⟩
  rw [Array.getElem?_setIfInBounds]
  unfold unitV
  by_cases e : k = i
  · subst e
    simp [size_madeCells, hk]
  · have e2 : ¬ i = k := fun h => e h.symm
    simp [e, e2, madeCells, hi, Nat.mod_one]
def KerR (p : Int) (n m : Nat) (t : List (List Int)) (w : World) (e : Ending) (w' : World) : Prop :=
  ∃ (u : Value) (R : List Lin.V), e = .returned u ∧ Gs w.heap.size w' u (R.map (toL n)) ∧ Below w.heap.size w w' ∧ SpF p n (CycS p n m t) R

set_option maxHeartbeats 12800000 in
set_option maxRecDepth 100000 in
theorem l01Kernel_any (p : Int) (n m : Nat) (vt : Value) (t : List (List Int)) (w : World) (hp : IsP p) (ht : L2 0 w vt t) (htn : t.length = n) (hrow : ∀ r ∈ t, RowOk p (m : Int) r) (hn : n ≤ 1000) (hm : m ≤ 1000) :
    Calls Tryd.prog 100 #[.int .i64 p, .int .i64 n, vt] w (KerR p n m t w) := by
  have HP := Lib.hid hp
  have hp1 := hp.lo1
  have HT := Lib.hid ht
  have HROW := Lib.hid hrow
  have HTN := Lib.hid htn
  have hmk := run_make_row' (P := Tryd.prog) 22 2 (.int .i64 0) 8 Tryd.underlying22 Tryd.infoI rfl .i64 .i64 n (by omega) (by omega)
  have HMK := Lib.hid hmk
  obtain ⟨at', ct, hvt⟩ := Sl.shape ht
  rw [htn] at hvt
  subst hvt
  have HOWN0 := Lib.hid (World.ownsRow_made (base := w.heap.size) (e := 22) (size := 1) w #[] 0 (Nat.le_refl _) (by unfold maxLen; omega) (by simp))
  clear hp ht hrow htn hmk
  go_enter Tryd.func100, Tryd.ntmps100
  go_wp2
  go_loopw [7, 8, 9] (fun lv wv i wr => ∃ (k : Nat), k ≤ n ∧ i = .int .i64 k ∧ wv = .int .i64 (if k = 0 then 0 else (m : Int)) ∧ Hid (Below w.heap.size w wr) ∧ Hid (Gs w.heap.size wr lv ((longs m t k).map (toL (m + n))))) (fun _ _ i _ => n - (intOf i).toNat)
  case atStart => exact ⟨0, Nat.zero_le _, rfl, rfl, Lib.hid ((Below.refl _ _).alloc (Nat.le_refl _) _), Lib.hid ⟨[], by simpa [longs] using HOWN0.out, fun k h1 _ => absurd h1 (Nat.not_lt_zero _)⟩⟩
  case round =>
    clear HOWN0
    obtain ⟨k, hk, rfl, rfl, HB, HG⟩ := hrel
    obtain ⟨wx, hwx⟩ : ∃ wx : World, wx = wr := ⟨_, rfl⟩
    subst hwx
    have hsz : w.heap.size ≤ wx.heap.size := HB.out.size
    obtain ⟨al, cl, hlv⟩ := Sl.shape HG.out.l2
    rw [List.length_map, longs_length] at hlv
    subst hlv
    by_cases hlt : k < n
    · have hkt : k < t.length := by rw [HTN.out]; exact hlt
      refine Sl.cases HT.out (fun _ _ hx _ => absurd hkt (by simp [hx])) (fun b o c2 hvv _ _ hc => ?_)
      rw [HTN.out] at hvv
      obtain ⟨rfl, rfl⟩ : at' = some ⟨b, o, none⟩ ∧ ct = c2 := by simpa using hvv
      obtain ⟨ur, hur, hrr⟩ := hc k hkt
      obtain ⟨r, hr⟩ : ∃ r, r = t[k] := ⟨_, rfl⟩
      have HRE : Hid (t.getD k [] = r) := Lib.hid (by rw [getD_of_lt _ hkt, hr])
      have hrm : r.length = m := by have := (HROW.out _ (List.getElem_mem hkt)).1; rw [← hr] at this; omega
      rw [← hr] at hrr
      obtain ⟨ar, cr, hus⟩ := Sl.shape hrr
      rw [hrm] at hus
      subst hus
      have HRR := Lib.hid hrr
      have HUR : Hid (∀ W, Below w.heap.size w W → W.cell? ⟨b, o + k, none⟩ = some (.slice ar m cr)) := Lib.hid (fun W h => later h (Nat.le_refl _) hur)
      have HRM := Lib.hid hrm
      have hq1 : (k : Int) < (n : Int) := by omega
      have hq2 : (0 : Int) ≤ (k : Int) := by omega
      clear hvv hc hur hrr hr hrm
      have hmk := HMK.out
      have hrow0 := World.rowIs_made wx (.int .i64 0) n 2
      have hc0 := hrow0.cell hlt
      have hf0 := hrow0.frozen k
      have HR1 := Lib.hid (unit_row wx hlt)
      have HB1 : Hid (Below wx.heap.size wx (wx.alloc (.cells ((madeCells #[.int .i64 0] n).setIfInBounds k (.int .i64 1)) 2))) := Lib.hid ((Below.refl _ _).alloc (Nat.le_refl _) _)
      clear hrow0
      go_upto_region 8 with fail
      refine forget_wp (fun W => Hid (W.rowIs wx.heap.size 2 n (fun i => .int .i64 (unitV k i)) ∧ Below wx.heap.size wx W)) (Lib.hid ⟨HR1.out, HB1.out⟩) ?_
      intro W3 HS3
      clear hmk hc0 hf0 HR1 HB1
      have HB3 := Lib.hid (HB.out.trans (HS3.out.2.mono hsz))
      have hcell := HUR.out _ HB3.out
      have HG3 := Lib.hid (HG.out.below HS3.out.2)
      have HUN : Hid (L1 0 W3 (.slice (some ⟨wx.heap.size, 0, none⟩) n n) (toL n (unitV k))) := Lib.hid (Or.inr ⟨wx.heap.size, 0, n, by rw [toL_length], Nat.zero_le _, by rw [toL_length]; omega, fun i hi => ⟨_, by rw [Nat.zero_add]; exact HS3.out.1.cell (by rw [toL_length] at hi; exact hi), by rw [toL_get]; rfl⟩⟩)
      go_wp2_with fail
      refine (l01Own_any _ r W3 (HRR.out.below HB3.out) (by rw [HRM.out]; omega)).mono ?_
      rintro e W4 ⟨u4, rfl, hg4, hb4⟩
      have HG4 := Lib.hid hg4
      have HB4 := Lib.hid (HB3.out.trans (hb4.mono HB3.out.size))
      have HUN4 := Lib.hid (HUN.out.below hb4)
      have HGL4 := Lib.hid (HG3.out.below hb4)
      have hs34 : W3.heap.size ≤ W4.heap.size := hb4.size
      have HB34 := Lib.hid hb4
      clear hb4 hg4 hcell HUN HGL4
      go_wp2_with (at_builtin; refine wpList_appendN rfl (some 37) rfl (.tmp 35) (.tmp 36) rfl W3.heap.size _ _ r (toL n (unitV k)) rfl rfl HG4.out HUN4.out ?c1 ?c2 ?_)
      case c1 => rw [toL_length, HRM.out]; omega
      case c2 => exact hs34
      intro v5 W5 hg5 hgr5
      have HB45 : Hid (Below W3.heap.size W3 W5) := Lib.hid (HB34.out.grown hgr5 hs34 (fun g hg => ((World.ownsRow.lt HG4.out) g hg).1))
      have HROWL : Hid (r ++ toL n (unitV k) = toL (m + n) (Lin.long m (ofL (t.getD k [])) k)) := Lib.hid (by
        rw [← long_toL, HRE.out, toL_ofL HRM.out])
      have HG5 : Hid (G1 W5 v5 (toL (m + n) (Lin.long m (ofL (t.getD k [])) k))) := Lib.hid (by rw [← HROWL.out]; exact hg5.g1)
      have HGL5 := Lib.hid (HG3.out.below HB45.out)
      obtain ⟨a5, c5, hv5⟩ := l1_slice HG5.out.l1
      subst hv5
      have hs35 : w.heap.size ≤ W5.heap.size := by have := HB3.out.size; have := HB45.out.size; omega
      have hba : Below W5.heap.size W5 (W5.alloc (.cells #[.slice a5 (m + n) c5] 22)) := below_alloc1 _ _
      have HGL6 := Lib.hid (HGL5.out.below hba)
      have HG6 := Lib.hid (HG5.out.below hba)
      have hcell6 := cell_alloc1 W5 (.slice a5 (m + n) c5) 22
      have HB6 := Lib.hid ((HB3.out.trans (HB45.out.mono HB3.out.size)).trans (hba.mono hs35))
      clear hg5 hgr5 hba HG4 HUN4 HB34 HB4 HG3 HB45
      go_wp2_with (at_builtin; refine wpList_appendG rfl (some 39) rfl (.tmp 30) (.tmp 38) rfl w.heap.size _ ((longs m t k).map (toL (m + n))) rfl HGL6.out W5.heap.size rfl a5 (m + n) c5 hcell6 _ HG6.out ?c1 ?c2 ?_)
      case c1 => rw [List.length_map, longs_length]; omega
      case c2 => simp; omega
      intro v7 W7 hg7 hgr7
      have HG7 : Hid (Gs w.heap.size W7 v7 ((longs m t (k + 1)).map (toL (m + n)))) := Lib.hid (by
        rw [longs_succ, List.map_append]
        exact hg7)
      have HB7 : Hid (Below w.heap.size w W7) := Lib.hid (HB6.out.grown hgr7 (by simp; omega) (fun g hg => (HGL6.out.lt g hg).1))
      have hk1 : (if k + 1 = 0 then 0 else (m : Int)) = (m : Int) := by simp
      clear hg7 hgr7 hcell6
      go_wp2
      go_roundw
      case rel => exact ⟨k + 1, by omega, by go_num, by rw [hk1], HB7, HG7⟩
      case measure => simp [intOf]; omega
    · have hkn : Hid (k = n) := Lib.hid (by omega)
      have HGN : Hid (Gs w.heap.size wx (.slice al k cl) ((longs m t n).map (toL (m + n)))) := Lib.hid (by have := HG.out; rwa [hkn.out] at this ⊢)
      have HLM : Hid (∀ y ∈ longs m t n, Lin.Md p y) := Lib.hid ((longs_mem m n t).md hp1 (fun i hi => by
        have hit : i < t.length := by rw [HTN.out]; exact hi
        rw [getD_of_lt _ hit]
        exact ofL_md (by omega) (HROW.out _ (List.getElem_mem hit))))
      have HECH := Lib.hid (l01Echelon_any p (m + n) (.slice al k cl) (longs m t n) wx HP.out HGN.out.l2 HLM.out longs_wd (by omega) (by rw [longs_length]; omega))
      obtain ⟨wv, hwv⟩ : ∃ wv : Int, wv = (if k = 0 then 0 else (m : Int)) := ⟨_, rfl⟩
      have HWV : Hid (0 < n → wv = (m : Int)) := Lib.hid (fun h => by rw [hwv, if_neg (by have := hkn.out; omega)])
      have HEN : Hid (n = 0 → longs m t n = []) := Lib.hid (fun h => by rw [h]; rfl)
      rw [← hwv]
      clear hwv HG HGN
      go_wp2_with fail
      refine HECH.out.mono ?_
      rintro e w2 ⟨u2, E, rfl, hg2, hb2, hr2, hl2⟩
      have HE := Lib.hid hr2
      have HGE := Lib.hid hg2
      have HB2 := Lib.hid (HB.out.trans (hb2.mono hsz))
      have hs2 : w.heap.size ≤ w2.heap.size := HB2.out.size
      have hEl : E.length ≤ n := by rw [longs_length] at hl2; exact hl2
      have HOWN2 := Lib.hid (World.ownsRow_made (base := w.heap.size) (e := 22) (size := 1) w2 #[] 0 hs2 (by unfold maxLen; omega) (by simp))
      obtain ⟨ae, ce, hev⟩ := Sl.shape HGE.out.l2
      rw [List.length_map] at hev
      subst hev
      clear hg2 hb2 hr2 hl2 HECH HB
      go_wp2
      go_loopw [12, 13] (fun ov i wr => ∃ (q : Nat), q ≤ E.length ∧ i = .int .i64 q ∧ Hid (Below w2.heap.size w2 wr) ∧ Hid (Gs w2.heap.size wr ov ((cuts m (E.take q)).map (toL n)))) (fun _ i _ => E.length - (intOf i).toNat)
      case atStart => exact ⟨0, Nat.zero_le _, rfl, Lib.hid ((Below.refl _ _).alloc (Nat.le_refl _) _), Lib.hid ⟨[], by simpa [cuts] using World.ownsRow_made (base := w2.heap.size) (e := 22) (size := 1) w2 #[] 0 (Nat.le_refl _) (by unfold maxLen; omega) (by simp), fun k h1 _ => absurd h1 (Nat.not_lt_zero _)⟩⟩
      case round =>
        clear HOWN2
        obtain ⟨q, hq, rfl, HBX, HGO⟩ := hrel
        obtain ⟨wy, hwy⟩ : ∃ wy : World, wy = wr := ⟨_, rfl⟩
        subst hwy
        have hsy : w2.heap.size ≤ wy.heap.size := HBX.out.size
        have hcl : (cuts m (E.take q)).length ≤ q := by have := cuts_length m (E.take q); rw [List.length_take] at this; omega
        obtain ⟨ao, co, hov⟩ := Sl.shape HGO.out.l2
        rw [List.length_map] at hov
        subst hov
        by_cases hltq : q < E.length
        · have hn0 : 0 < n := by omega
          obtain rfl : wv = (m : Int) := HWV.out hn0
          obtain ⟨y, hy⟩ : ∃ y, y = E[q] := ⟨_, rfl⟩
          have HYE := Lib.hid hy
          have HYW : Hid (Lin.Wd (m + n) y) := Lib.hid (by rw [hy]; exact HE.out.wd _ (List.getElem_mem hltq))
          have HYN : Hid (y ≠ Lin.zv) := Lib.hid (by rw [hy]; exact HE.out.red.ne (List.getElem_mem hltq))
          obtain ⟨b, c2, hvv, by', cy, huy, hcap, hry⟩ := HGE.out.row (k := q) (by rw [List.length_map]; exact hltq) (by rw [List.getElem_map, toL_length]; omega)
          rw [List.getElem_map, toL_length] at huy hcap hry
          rw [← hy] at hry
          rw [List.length_map] at hvv
          obtain ⟨rfl, rfl⟩ : ae = some ⟨b, 0, none⟩ ∧ ce = c2 := by simpa using hvv
          have hry := hry.l1
          obtain ⟨b3, oy, cy3, huv, hcy⟩ := l1_toL hry (show 0 < m + n by omega)
          obtain ⟨rfl, rfl, rfl⟩ : by' = b3 ∧ oy = 0 ∧ cy = cy3 := by
            injection huv with e1 _ e3
            injection e1 with e1
            injection e1 with e1 e2
            exact ⟨e1, e2.symm, e3⟩
          have HRY := Lib.hid hry
          have hne1 : ¬ cy = m := by omega
          have hne2 : ¬ m = cy := by omega
          have huy2 := later HBX.out (Nat.le_refl _) huy
          have hlead := l01Lead_any _ _ wy (hry.below HBX.out) (by rw [toL_length]; omega)
          rw [leadOf_toL HYW.out HYN.out] at hlead
          have HLEAD := Lib.hid hlead
          have hldlt := (ld_ltn HYW.out HYN.out).1
          have HTAIL : Hid (L1 0 w2 (.slice (some ⟨by', m, none⟩) n (cy - m)) (toL n (Lin.tail m y))) := Lib.hid (Or.inr ⟨by', m, cy - m, by rw [toL_length], Nat.zero_le _, by rw [toL_length]; omega, fun i hi => by
            rw [toL_length] at hi
            refine ⟨_, by have := hcy (m + i) (by omega); rwa [Nat.zero_add] at this, ?_⟩
            rw [toL_get]
            rfl⟩)
          clear hvv huy hry hy hlead hcy huv
          by_cases hge : m ≤ Lin.ld y
          · have hge2 : (m : Int) ≤ (Lin.ld y : Int) := by omega
            have hmn : m + n - m = n := by omega
            have hm0 : (0 : Int) ≤ (m : Int) := by omega
            have HCUT : Hid (cuts m (E.take (q + 1)) = cuts m (E.take q) ++ [Lin.tail m y]) := Lib.hid (by rw [cuts_keep hltq (by rw [← HYE.out]; exact hge), ← HYE.out])
            go_wp2_with fail
            refine HLEAD.out.mono ?_
            rintro e w' ⟨rfl, rfl⟩
            go_wp2_with fail
            refine (l01Own_any _ (toL n (Lin.tail m y)) wy (HTAIL.out.below HBX.out) (by rw [toL_length]; omega)).mono ?_
            rintro e W4 ⟨u4, rfl, hg4, hb4⟩
            obtain ⟨a4, c4, hv4⟩ := l1_slice hg4.l1
            subst hv4
            have hba : Below W4.heap.size W4 (W4.alloc (.cells #[.slice a4 n c4] 22)) := below_alloc1 _ _
            have hs4 : wy.heap.size ≤ W4.heap.size := hb4.size
            have HG4 := Lib.hid (hg4.g1.below hba)
            have HGO4 := Lib.hid ((HGO.out.below hb4).below hba)
            have hcell4 := cell_alloc1 W4 (.slice a4 n c4) 22
            have HB4 := Lib.hid ((HBX.out.trans (hb4.mono hsy)).trans (hba.mono (show w2.heap.size ≤ W4.heap.size by omega)))
            clear hg4 hb4 hba huy2
            go_wp2_with (at_builtin; refine wpList_appendG rfl (some 66) rfl (.tmp 57) (.tmp 65) rfl w2.heap.size _ ((cuts m (E.take q)).map (toL n)) rfl HGO4.out W4.heap.size rfl a4 n c4 hcell4 _ HG4.out ?c1 ?c2 ?_)
            case c1 => rw [List.length_map]; omega
            case c2 => simp; omega
            intro v7 W7 hg7 hgr7
            have HG7 : Hid (Gs w2.heap.size W7 v7 ((cuts m (E.take (q + 1))).map (toL n))) := Lib.hid (by
              rw [HCUT.out, List.map_append]
              exact hg7)
            have HB7 : Hid (Below w2.heap.size w2 W7) := Lib.hid (HB4.out.grown hgr7 (by simp; omega) (fun g hg => (HGO4.out.lt g hg).1))
            clear hg7 hgr7 hcell4
            go_wp2
            go_roundw
            case rel => exact ⟨q + 1, by omega, by go_num, HB7, HG7⟩
            case measure => simp [intOf]; omega
          · have hge2 : ¬ ((m : Int) ≤ (Lin.ld y : Int)) := by omega
            have HCUT : Hid (cuts m (E.take (q + 1)) = cuts m (E.take q)) := Lib.hid (by rw [cuts_skip hltq (by rw [← HYE.out]; exact hge)])
            go_wp2_with fail
            refine HLEAD.out.mono ?_
            rintro e w' ⟨rfl, rfl⟩
            clear huy2
            go_wp2
            go_roundw
            case rel => exact ⟨q + 1, by omega, by go_num, HBX, Lib.hid (by have := HGO.out; rw [HCUT.out]; exact this)⟩
            case measure => simp [intOf]; omega
        · have hqq : Hid (E.take q = E) := Lib.hid (List.take_of_length_le (by omega))
          have HSP := Lib.hid (kernel_spf hp1 HE.out)
          go_wp2
          go_ret
          exact ⟨_, cuts m (E.take q), rfl, HGO.out.mono hs2, HB2.out.trans (HBX.out.mono hs2), by rw [hqq.out]; exact HSP.out⟩
end Go.Proofs.YtpchbceohnabnabDoor

namespace Go.Proofs.YtpchbceohnabnabDoor
open Go.RowKit

def bl : List Value := List.replicate 40 (.bool false)
set_option maxRecDepth 100000 in
theorem allocB_run (ρ : Operand → Value) (o : Oper) (w : World) : (execOp ρ { o with op := .alloc 129 }).run Tryd.prog w = .ok (.value (.pointer (some ⟨w.heap.size, 0, none⟩))) (w.alloc (.cells bl.toArray 129)) := by kernel_rfl
theorem rowIs_bl (w : World) : (w.alloc (.cells bl.toArray 129)).rowIs w.heap.size 129 40 (fun _ => .bool false) := by
  have h := World.rowIs_alloc w bl.toArray 129 (fun _ => .bool false) (fun i hi => by
    have hi' : i < 40 := by simpa [bl] using hi
    rw [List.getElem?_toArray, bl, List.getElem?_replicate, if_pos hi'])
  simpa [bl] using h
theorem wpList_allocB {ops : Array Oper} {rest : List Oper} {o : Oper} {a : Act} {w : World} {Q : Exit → Act → World → Prop} (hg : o.guard = none) (dst : Option Tmp) (hdst : o.dst = dst) (ho : o.op = .alloc 129)
    (h : ∀ W, Below w.heap.size w W → W.heap.size = w.heap.size + 1 → W.rowIs w.heap.size 129 40 (fun _ => .bool false) → wpList Tryd.prog ops Q rest (a.put dst (.pointer (some ⟨w.heap.size, 0, none⟩))) W) : wpList Tryd.prog ops Q (o :: rest) a w := by
  refine Great.wpList_runTo hg dst hdst (.pointer (some ⟨w.heap.size, 0, none⟩)) (w.alloc (.cells bl.toArray 129)) ?_ (h _ (below_alloc1 _ _) (by simp) (rowIs_bl w))
  have := allocB_run a.eval o w
  rw [← ho] at this
  exact this
theorem hindexB (b : Nat) {k : Nat} (hk : k < 40) (w : World) : (Instr.indexAt 129 (.pointer (some ⟨b, 0, none⟩)) (.int .i64 k)).run Tryd.prog w = .ok (.pointer (some ⟨b, k, none⟩)) w := by
  have h2 : (0 : Int) ≤ (k : Int) := by omega
  have h3 : (k : Int) < 40 := by omega
  have h4 : ¬ (40 : Int) ≤ (k : Int) := by omega
  go_simp
theorem hremI {a b : Int} (h0 : 0 ≤ a) (h1 : 0 < b) (h2 : b ≤ 1000) (w : World) : (binOp .rem 2 (.int .i64 a) (.int .i64 b)).run Tryd.prog w = .ok (.int .i64 (a % b)) w := by
  have hb : ¬ b = 0 := by omega
  have hb1 : ¬ b = -1 := by omega
  go_simp
  rw [Int.tmod_eq_emod_of_nonneg h0]
theorem hstoreI (w : World) {b o : Nat} {u : Value} (x : Int) (hc : w.cell? ⟨b, o, none⟩ = some u) (hf : w.frozen? ⟨b, o, none⟩ = false) : (Instr.storeAt 2 (.pointer (some ⟨b, o, none⟩)) (.int .i64 x)).run Tryd.prog w = .ok () (w.setCell ⟨b, o, none⟩ (.int .i64 x)) := by go_simp
section
variable {md : Region.Mode} {ops : Array Oper} {Q : Exit → Act → World → Prop} {S : World → Prop}
/-- A store of one number. -/
theorem held_storeI {i : Nat} {oi : Oper} {fuel : Nat} {listed : Array Bool} {a : Act} {w : World} (hr : Region.ready md ops listed = [i]) (hi : ops[i]? = some oi) (hg : oi.guard = none) (hd : oi.dst = none)
    (x y : Operand) (ho : oi.op = .store 2 x y) (b o : Nat) (z : Int) (u : Value) (hx : a.eval x = .pointer (some ⟨b, o, none⟩)) (hy : a.eval y = .int .i64 z) (hc : w.cell? ⟨b, o, none⟩ = some u) (hf : w.frozen? ⟨b, o, none⟩ = false)
    (h : S (w.setCell ⟨b, o, none⟩ (.int .i64 z)) ∧ wpAnyH Tryd.prog md ops Q S fuel (listed.setIfInBounds i true) a (w.setCell ⟨b, o, none⟩ (.int .i64 z))) : wpAnyH Tryd.prog md ops Q S (fuel + 1) listed a w :=
  held_call hr hi hg (by
    have e : a.put oi.dst undef = a := by rw [hd]; rfl
    rw [← e] at h
    unfold Oper.wp execOp
    simp only [ho, hx, hy, Sem.run_bind, Sem.run_pure, hstoreI w z hc hf, Result.andThen_ok]
    exact h)
end

open Classical in
/-- Whether a place is a lead of the first k rows. -/
noncomputable def isLd (R : List Lin.V) (k i : Nat) : Bool := decide (∃ w ∈ R.take k, Lin.ld w = i)
theorem isLd_true {R : List Lin.V} {i : Nat} (h : isLd R R.length i = true) : ¬ Lin.Free R i := fun hf => by
  obtain ⟨w, hw, e⟩ := of_decide_eq_true h
  rw [List.take_of_length_le (Nat.le_refl _)] at hw
  exact hf w hw e
theorem isLd_false {R : List Lin.V} {i : Nat} (h : isLd R R.length i = false) : Lin.Free R i := fun w hw e => by
  have := of_decide_eq_false h
  exact this ⟨w, by rw [List.take_of_length_le (Nat.le_refl _)]; exact hw, e⟩
theorem isLd_succ {R : List Lin.V} {k : Nat} (hk : k < R.length) (i : Nat) : isLd R (k + 1) i = if i = Lin.ld R[k] then true else isLd R k i := by
  unfold isLd
  rw [List.take_succ_eq_append_getElem hk]
  by_cases e : i = Lin.ld R[k]
  · rw [if_pos e]
    exact decide_eq_true ⟨R[k], List.mem_append_right _ (List.mem_singleton.2 rfl), e.symm⟩
  · rw [if_neg e]
    refine decide_eq_decide.2 ⟨fun ⟨w, hw, h⟩ => ?_, fun ⟨w, hw, h⟩ => ⟨w, List.mem_append_left _ hw, h⟩⟩
    rcases List.mem_append.1 hw with h1 | h1
    · exact ⟨w, h1, h⟩
    · rw [List.mem_singleton.1 h1] at h
      exact absurd h.symm e

/-- The solutions gathered from the places before f. -/
structure Sols (p : Int) (R : List Lin.V) (f : Nat) (L : List Lin.V) : Prop where
  all : ∀ g, g < f → Lin.Free R g → ∃ s ∈ L, Lin.Sol p R g s
  only : ∀ s ∈ L, ∃ g, g < f ∧ Lin.Free R g ∧ Lin.Sol p R g s
  len : L.length ≤ f
theorem Sols.nil (p : Int) (R : List Lin.V) : Sols p R 0 [] := ⟨fun g h => absurd h (Nat.not_lt_zero _), by simp, by simp⟩
theorem Sols.skip {p : Int} {R : List Lin.V} {f : Nat} {L : List Lin.V} (h : Sols p R f L) (hf : ¬ Lin.Free R f) : Sols p R (f + 1) L :=
  ⟨fun g hg hfr => by
    by_cases e : g = f
    · subst e; exact absurd hfr hf
    · exact h.all g (by omega) hfr, fun s hs => by obtain ⟨g, h1, h2⟩ := h.only s hs; exact ⟨g, by omega, h2⟩, by have := h.len; omega⟩
theorem Sols.add {p : Int} {R : List Lin.V} {f : Nat} {L : List Lin.V} (h : Sols p R f L) (hf : Lin.Free R f) {s : Lin.V} (hs : Lin.Sol p R f s) : Sols p R (f + 1) (L ++ [s]) :=
  ⟨fun g hg hfr => by
    by_cases e : g = f
    · subst e; exact ⟨s, by simp, hs⟩
    · obtain ⟨t, ht, h2⟩ := h.all g (by omega) hfr
      exact ⟨t, by simp [ht], h2⟩, fun t ht => by
    rcases List.mem_append.1 ht with h1 | h1
    · obtain ⟨g, h2, h3⟩ := h.only t h1; exact ⟨g, by omega, h3⟩
    · rw [List.mem_singleton.1 h1]; exact ⟨f, by omega, hf, hs⟩, by have := h.len; simp; omega⟩
theorem sol_wd {p : Int} {R : List Lin.V} {n f : Nat} {s : Lin.V} (hR : Lin.Red p R) (hw : ∀ u ∈ R, Lin.Wd n u) (hf : f < n) (h : Lin.Sol p R f s) : Lin.Wd n s := fun i hi => h.rest i (by omega) (fun w hww e => by
  have := (ld_ltn (hw w hww) (hR.ne hww)).1
  omega)
/-- A solution while it is made: k rows have been seen. -/
structure SolTo (p : Int) (R : List Lin.V) (f k : Nat) (s : Lin.V) : Prop where
  at1 : s f = 1
  lead : ∀ w ∈ R.take k, s (Lin.ld w) = (p - w f) % p
  rest : ∀ i, i ≠ f → (∀ w ∈ R.take k, Lin.ld w ≠ i) → s i = 0
theorem SolTo.start (p : Int) (R : List Lin.V) (f : Nat) : SolTo p R f 0 (fun i => if i = f then 1 else Lin.zv i) := ⟨by simp, by simp, fun i h _ => by simp [h, Lin.zv]⟩
theorem SolTo.step {p : Int} {R : List Lin.V} {f k : Nat} {s : Lin.V} (hR : Lin.Red p R) (hf : Lin.Free R f) (h : SolTo p R f k s) (hk : k < R.length) : SolTo p R f (k + 1) (fun i => if i = Lin.ld R[k] then (p - R[k] f) % p else s i) := by
  have hne : ∀ w ∈ R.take k, Lin.ld w ≠ Lin.ld R[k] := fun w hw e => by
    obtain ⟨j, hj, rfl⟩ := List.getElem_of_mem hw
    have hjk : j < k := by simp at hj; omega
    have := List.pairwise_iff_getElem.1 hR.inc j k (by omega) hk hjk
    rw [List.getElem_take] at e
    omega
  refine ⟨?_, fun w hw => ?_, fun i hi hn => ?_⟩
  · rw [if_neg (fun e => hf _ (List.getElem_mem hk) e.symm)]
    exact h.at1
  · rw [List.take_succ_eq_append_getElem hk] at hw
    rcases List.mem_append.1 hw with h1 | h1
    · rw [if_neg (hne w h1)]
      exact h.lead w h1
    · rw [List.mem_singleton.1 h1, if_pos rfl]
  · have hn2 := hn R[k] (by rw [List.take_succ_eq_append_getElem hk]; exact List.mem_append_right _ (List.mem_singleton.2 rfl))
    rw [if_neg (fun e => hn2 e.symm)]
    exact h.rest i hi (fun w hw => hn w (by rw [List.take_succ_eq_append_getElem hk]; exact List.mem_append_left _ hw))
theorem SolTo.done {p : Int} {R : List Lin.V} {f : Nat} {s : Lin.V} (h : SolTo p R f R.length s) : Lin.Sol p R f s := by
  have e : R.take R.length = R := List.take_of_length_le (Nat.le_refl _)
  exact ⟨h.at1, fun w hw => h.lead w (by rw [e]; exact hw), fun i hi hn => h.rest i hi (fun w hw => hn w (by rw [e] at hw; exact hw))⟩

set_option maxHeartbeats 12800000 in
set_option maxRecDepth 100000 in
theorem annihilator_any (p : Int) (n : Nat) (s : Value) (L : List Lin.V) (w : World) (hp : IsP p) (hs : Vs 0 w s L) (hLm : ∀ u ∈ L, Lin.Md p u) (hLw : ∀ u ∈ L, Lin.Wd n u) (hn : n ≤ 40) (hl : L.length ≤ 1048575) :
    Calls Tryd.prog 114 #[.int .i64 p, .int .i64 n, s] w (VsR (SpF p n (Lin.Ker p n L)) w) := by
  have HP := Lib.hid hp
  have hp7 := hp.hi7
  have hp1 := hp.lo1
  have HLM := Lib.hid hLm
  have HLW := Lib.hid hLw
  have HRED := Lib.hid (reducedList_any p s L w hp hs hLm (fun u hu => wd_wider (hLw u hu) hn) hl)
  clear hp hs hLm hLw
  go_enter Tryd.func114, Tryd.ntmps114
  go_wp2_with fail
  refine HRED.out.mono ?_
  rintro e w1 ⟨s1, R, rfl, hb1, ho1, hr1, hlr⟩
  have HB1 := Lib.hid hb1
  have HR := Lib.hid hr1
  have HVS := Lib.hid (ho1.vs.lower (Nat.zero_le _))
  have HRW : Hid (∀ u ∈ R, Lin.Wd n u) := Lib.hid (fun u hu => Lin.Sp.wd HLW.out ((hr1.eqv u).1 (Lin.Sp.mem hu (hr1.red.md u hu))))
  have hRn : R.length ≤ n := red_length hr1.red HRW.out
  obtain ⟨ads, caps, rfl⟩ := ho1.shape
  clear hb1 ho1 hr1 hlr HRED
  go_wp2_with (with_reducible refine wpList_allocB rfl (some 8) rfl rfl ?_; intro w2 hb2 hs2 hrow2; have HB2 := Lib.hid hb2; have HROW2 := Lib.hid hrow2; clear hb2 hrow2)
  go_wp2
  go_loopw [10, 21] (fun _ i wr => ∃ (k : Nat), k ≤ R.length ∧ i = .int .i64 k ∧ Hid (Below w1.heap.size w1 wr) ∧ Hid (wr.rowIs w1.heap.size 129 40 (fun i => .bool (isLd R k i)))) (fun _ i _ => R.length - (intOf i).toNat)
  case atStart => exact ⟨0, Nat.zero_le _, rfl, HB2, Lib.hid (HROW2.out.congr (fun i _ => by simp [isLd]))⟩
  case round =>
    clear HB2 HROW2
    obtain ⟨k, hk, rfl, HB, HROW⟩ := hrel
    obtain ⟨wx, hwx⟩ : ∃ wx : World, wx = wr := ⟨_, rfl⟩
    subst hwx
    by_cases hlt : k < R.length
    · refine Vs.cases (HVS.out.below HB.out) (fun _ _ hx _ => absurd hlt (by simp [hx])) (fun b o cap2 hv _ _ hc => ?_)
      obtain ⟨rfl, rfl⟩ : ads = some ⟨b, o, none⟩ ∧ caps = cap2 := by simpa using hv
      obtain ⟨u, hu⟩ : ∃ u, u = R[k] := ⟨_, rfl⟩
      have HVA : Hid (At wx b (o + k * 40) u) := Lib.hid (by rw [hu]; exact hc k hlt)
      have HI2V := Lib.hid (Tryd.infoVl u)
      have HIS : Hid ((Tryd.prog.info? 94).map (·.size) = some (vl u).toArray.size) := Lib.hid (by have := HI2V.out; simpa using this)
      have HUW : Hid (Lin.Wd 40 u) := Lib.hid (by rw [hu]; exact wd_wider (HRW.out _ (List.getElem_mem hlt)) hn)
      have HUN : Hid (u ≠ Lin.zv) := Lib.hid (by rw [hu]; exact HR.out.red.ne (List.getElem_mem hlt))
      obtain ⟨hd40, _, _⟩ := ld_lt HUW.out HUN.out
      obtain ⟨d, hd⟩ : ∃ d, d = Lin.ld u := ⟨_, rfl⟩
      have HD := Lib.hid hd
      have HUE := Lib.hid hu
      rw [← hd] at hd40
      have hsz : w1.heap.size ≤ wx.heap.size := HB.out.size
      clear hv hc hu hd
      go_upto_region 6 with (first | (with_reducible refine wpList_load_mid rfl 94 (.tmp 23) rfl b (o + k * 40) rfl (vl u) _ HVA.out.range Tryd.underlyingV rfl HI2V.out ?_) | (with_reducible refine wpList_allocV rfl (some 10) rfl rfl ?_; intro W2 hn2; have HN2 := Lib.hid hn2; have HT2 : Hid (W2.there wx.heap.size 0 (vl u).toArray.size) := (Lib.hid (by have := hn2.there; simpa [vl_length] using this)); clear hn2) | (with_reducible refine wpList_store_mid rfl 94 (.tmp 10) (.tmp 24) rfl wx.heap.size 0 (vl u).toArray rfl rfl HT2.out HIS.out (vl_all _) ?_))
      refine forget_wp (fun W => Hid (At W wx.heap.size 0 u ∧ Below wx.heap.size wx W)) (Lib.hid ?_) ?_
      · have hp2 := HN2.out.put u
        exact ⟨hp2.2.1, hp2.1⟩
      intro W3 HS3
      clear HN2 HT2 HVA HIS
      simp only [Act.put]
      go_wp2_with (with_reducible refine wpList_load_mid rfl 94 (.tmp 10) rfl wx.heap.size 0 rfl (vl u) _ HS3.out.1.range Tryd.underlyingV rfl HI2V.out ?_)
      refine (leadOf_any u _ HUW.out HUN.out).mono ?_
      rw [← HD.out]
      rintro e W4 ⟨rfl, hb4⟩
      have HB4 := Lib.hid ((HB.out.trans (HS3.out.2.mono hsz)).trans (hb4.mono (by have := HS3.out.2.size; omega)))
      have HROW4 := Lib.hid (rowIs_below (rowIs_below HROW.out HS3.out.2) hb4)
      have hcell := HROW4.out.cell hd40
      have hfz := HROW4.out.frozen d
      have hib := hindexB w1.heap.size hd40
      have HROW5 := Lib.hid ((HROW4.out.set d (.bool true)).congr (g := fun i => .bool (isLd R (k + 1) i)) (fun i _ => by
        rw [isLd_succ hlt, ← HUE.out, ← HD.out]
        by_cases e : i = d
        · simp [e]
        · simp [e]))
      have HB5 : Hid (Below w1.heap.size w1 (W4.setCell ⟨w1.heap.size, d, none⟩ (.bool true))) := Lib.hid (HB4.out.setCell (Nat.le_refl _) _)
      clear hb4 HS3 HROW4 HB4 HROW HB
      go_wp2
      go_roundw
      case rel => exact ⟨k + 1, by omega, by go_num, HB5, HROW5⟩
      case measure => simp [intOf]; omega
    · have hkk : Hid (k = R.length) := Lib.hid (by omega)
      have HROWL : Hid (wx.rowIs w1.heap.size 129 40 (fun i => .bool (isLd R R.length i))) := Lib.hid (by have := HROW.out; rwa [hkk.out] at this)
      have HVSL := Lib.hid (HVS.out.below HB.out)
      have hsL : w.heap.size ≤ wx.heap.size := by have := HB1.out.size; have := HB.out.size; omega
      have HBL := Lib.hid (HB1.out.trans (HB.out.mono HB1.out.size))
      obtain ⟨wl, hwl⟩ : ∃ wl : World, wl = wx := ⟨_, rfl⟩
      subst hwl
      clear HROW HB HVS HB1 hkk
      go_wp2
      go_loopw [11, 30] (fun sv i wr => ∃ (f : Nat) (SL : List Lin.V), f ≤ n ∧ i = .int .i64 f ∧ Hid (Below wl.heap.size wl wr) ∧ Hid (Ow wl.heap.size wr sv SL) ∧ Hid (Sols p R f SL)) (fun _ i _ => n - (intOf i).toNat)
      case atStart => exact ⟨0, [], Nat.zero_le _, rfl, Lib.hid (Below.refl _ _), Lib.hid (Ow.nil _ _), Lib.hid (Sols.nil p R)⟩
      case round =>
        obtain ⟨f, SL, hf, rfl, HB, HO, HSL⟩ := hrel
        obtain ⟨wx, hwx⟩ : ∃ wx : World, wx = wr := ⟨_, rfl⟩
        subst hwx
        obtain ⟨ado, capo, rfl⟩ := HO.out.shape
        have hsx : wl.heap.size ≤ wx.heap.size := HB.out.size
        by_cases hfn : f < n
        · have hf40 : f < 40 := by omega
          have hib := hindexB w1.heap.size hf40
          have hcell := (rowIs_below HROWL.out HB.out).cell hf40
          cases hfree : isLd R R.length f with
          | true =>
            rw [hfree] at hcell
            have HS2 := Lib.hid (HSL.out.skip (isLd_true hfree))
            clear hfree
            go_wp2
            go_roundw
            case rel => exact ⟨f + 1, SL, by omega, by go_num, HB, HO, HS2⟩
            case measure => simp [intOf]; omega
          | false =>
            rw [hfree] at hcell
            have HFR := Lib.hid (isLd_false hfree)
            have HI2V := Lib.hid (Tryd.infoVl Lin.zv)
            have HIS : Hid ((Tryd.prog.info? 94).map (·.size) = some (vl Lin.zv).toArray.size) := Lib.hid (by have := HI2V.out; simpa using this)
            clear hfree
            go_upto_region 14 with (first | (with_reducible refine wpList_buildZ rfl (some 36) rfl rfl ?_) | (with_reducible refine wpList_allocV rfl (some 13) rfl rfl ?_; intro W2 hn2; have HN2 := Lib.hid hn2; have HT2 : Hid (W2.there wx.heap.size 0 (vl Lin.zv).toArray.size) := (Lib.hid (by have := hn2.there; simpa [vl_length] using this)); clear hn2) | (with_reducible refine wpList_store_mid rfl 94 (.tmp 13) (.tmp 36) rfl wx.heap.size 0 (vl Lin.zv).toArray rfl rfl HT2.out HIS.out (vl_all _) ?_))
            refine forget_wp (fun W => Hid (At W wx.heap.size 0 Lin.zv ∧ W.there wx.heap.size 0 40 ∧ Below wx.heap.size wx W)) (Lib.hid ?_) ?_
            · have hp2 := HN2.out.put Lin.zv
              exact ⟨hp2.2.1, World.there_setCells HN2.out.there _ _ _, hp2.1⟩
            intro W3 HS3
            clear HN2 HT2 HI2V HIS hcell hib
            simp only [Act.put]
            have hc3 := HS3.out.1.cell hf40
            rw [Nat.zero_add] at hc3
            have hf3 := (HS3.out.2.1 f hf40).2
            rw [Nat.zero_add] at hf3
            have hiv := hindexV wx.heap.size hf40
            have hat4 := HS3.out.1.set hf40 1
            rw [Nat.zero_add] at hat4
            obtain ⟨v1, hv1⟩ : ∃ v1 : Lin.V, v1 = (fun i => if i = f then 1 else Lin.zv i) := ⟨_, rfl⟩
            rw [← hv1] at hat4
            have HST : Hid (SolTo p R f 0 v1) := Lib.hid (by rw [hv1]; exact SolTo.start p R f)
            have HN4 : Hid (Below wx.heap.size wx (W3.setCell ⟨wx.heap.size, f, none⟩ (.int .i64 1)) ∧ At (W3.setCell ⟨wx.heap.size, f, none⟩ (.int .i64 1)) wx.heap.size 0 v1 ∧ (W3.setCell ⟨wx.heap.size, f, none⟩ (.int .i64 1)).there wx.heap.size 0 40) := Lib.hid ⟨HS3.out.2.2.setCell (Nat.le_refl _) _, hat4, there_set HS3.out.2.1 _ _⟩
            clear hat4 hv1 HS3
            go_wp2
            clear hc3 hf3 hiv
            have HBW := Lib.hid (HB.out)
            obtain ⟨wo, hwo⟩ : ∃ wo : World, wo = wx := ⟨_, rfl⟩
            subst hwo
            go_loopw [15, 41] (fun _ i wr => ∃ (j : Nat) (v : Lin.V), j ≤ R.length ∧ i = .int .i64 j ∧ Hid (Below wo.heap.size wo wr) ∧ Hid (At wr wo.heap.size 0 v) ∧ Hid (wr.there wo.heap.size 0 40) ∧ Hid (SolTo p R f j v)) (fun _ i _ => R.length - (intOf i).toNat)
            case atStart => exact ⟨0, v1, Nat.zero_le _, rfl, Lib.hid HN4.out.1, Lib.hid HN4.out.2.1, Lib.hid HN4.out.2.2, HST⟩
            case round =>
              clear HN4 HST
              obtain ⟨j, v, hj, rfl, HBX, HAT, HTH, HSO⟩ := hrel
              obtain ⟨wx, hwx⟩ : ∃ wx : World, wx = wr := ⟨_, rfl⟩
              subst hwx
              have hsw : wo.heap.size ≤ wx.heap.size := HBX.out.size
              have hvlt : wo.heap.size < wx.heap.size := HAT.out.lt
              by_cases hltj : j < R.length
              · refine Vs.cases (HVSL.out.below (HB.out.trans (HBX.out.mono hsx))) (fun _ _ hx _ => absurd hltj (by simp [hx])) (fun b o cap2 hv _ _ hc => ?_)
                obtain ⟨rfl, rfl⟩ : ads = some ⟨b, o, none⟩ ∧ caps = cap2 := by simpa using hv
                obtain ⟨u, hu⟩ : ∃ u, u = R[j] := ⟨_, rfl⟩
                have HVA : Hid (At wx b (o + j * 40) u) := Lib.hid (by rw [hu]; exact hc j hltj)
                have HI2V := Lib.hid (Tryd.infoVl u)
                have HIS : Hid ((Tryd.prog.info? 94).map (·.size) = some (vl u).toArray.size) := Lib.hid (by have := HI2V.out; simpa using this)
                have HUW : Hid (Lin.Wd 40 u) := Lib.hid (by rw [hu]; exact wd_wider (HRW.out _ (List.getElem_mem hltj)) hn)
                have HUN : Hid (u ≠ Lin.zv) := Lib.hid (by rw [hu]; exact HR.out.red.ne (List.getElem_mem hltj))
                have HUM : Hid (Lin.Md p u) := Lib.hid (by rw [hu]; exact HR.out.red.md _ (List.getElem_mem hltj))
                obtain ⟨hd40, _, _⟩ := ld_lt HUW.out HUN.out
                obtain ⟨d, hd⟩ : ∃ d, d = Lin.ld u := ⟨_, rfl⟩
                have HD := Lib.hid hd
                have HUE := Lib.hid hu
                rw [← hd] at hd40
                obtain ⟨x, hx⟩ : ∃ x, x = u f := ⟨_, rfl⟩
                have hxb := HUM.out f
                rw [← hx] at hxb
                have HXE := Lib.hid hx
                obtain ⟨y, hy⟩ : ∃ y, y = (p - x) % p := ⟨_, rfl⟩
                have HYE := Lib.hid hy
                have hrem : ∀ w, (binOp .rem 2 (.int .i64 (p - x)) (.int .i64 p)).run Tryd.prog w = .ok (.int .i64 y) w := fun w => by rw [hy]; exact hremI (by omega) (by omega) (by omega) w
                have HLD := Lib.hid (leadOf_any u · HUW.out HUN.out)
                rw [← HD.out] at HLD
                have HSO2 : Hid (SolTo p R f (j + 1) (fun i => if i = d then y else v i)) := Lib.hid (by
                  have := HSO.out.step HR.out.red HFR.out hltj
                  rwa [← HUE.out, ← HD.out, ← HXE.out, ← HYE.out] at this)
                clear hv hc hu hd hx hy
                go_upto_region 18 with (first | (with_reducible refine wpList_load_mid rfl 94 (.tmp 43) rfl b (o + j * 40) rfl (vl u) _ HVA.out.range Tryd.underlyingV rfl HI2V.out ?_) | (with_reducible refine wpList_allocV rfl (some 15) rfl rfl ?_; intro W2 hn2; have HN2 := Lib.hid hn2; have HT2 : Hid (W2.there wx.heap.size 0 (vl u).toArray.size) := (Lib.hid (by have := hn2.there; simpa [vl_length] using this)); clear hn2) | (with_reducible refine wpList_store_mid rfl 94 (.tmp 15) (.tmp 44) rfl wx.heap.size 0 (vl u).toArray rfl rfl HT2.out HIS.out (vl_all _) ?_))
                refine forget_wp (fun W => Hid (At W wx.heap.size 0 u ∧ Below wx.heap.size wx W)) (Lib.hid ?_) ?_
                · have hp2 := HN2.out.put u
                  exact ⟨hp2.2.1, hp2.1⟩
                intro W3 HS3
                clear HN2 HT2 HVA HIS
                simp only [Act.put, List.setIfInBounds_toArray, List.set_cons_zero, List.set_cons_succ]
                have hcx : ∀ W, (At W wx.heap.size 0 u ∧ Below wo.heap.size wo W) → W.cell? ⟨wx.heap.size, f, none⟩ = some (.int .i64 x) := fun W h => by
                  have := h.1.cell hf40
                  rwa [Nat.zero_add, ← HXE.out] at this
                refine wp_region_held (S := fun W => At W wx.heap.size 0 u ∧ Below wo.heap.size wo W) (by kernel_rfl) ?_
                have hb3 : Below wx.heap.size wx W3.drew := HS3.out.2.drew
                have S0 : At W3.drew wx.heap.size 0 u ∧ Below wo.heap.size wo W3.drew := ⟨HS3.out.1, HBX.out.trans (hb3.mono hsw)⟩
                refine held_take (i := 0) (v := .agg (vl u).toArray) (some 45) rfl rfl (by kernel_rfl) (by kernel_rfl) (by kernel_rfl) (fun _ _ _ h => h) (yieldsIf_load_mid (by kernel_rfl) 94 (.tmp 15) (by kernel_rfl) wx.heap.size 0 (by kernel_rfl) (vl u) _ (fun W h => h.1) Tryd.underlyingV rfl HI2V.out) S0 ?_
                refine held_take (i := 2) (v := .int .i64 p) (some 47) rfl rfl (by kernel_rfl) (by kernel_rfl) (by kernel_rfl) (fun _ _ _ h => h) (yieldsIf_move (by kernel_rfl) rfl (by kernel_rfl)) S0 ?_
                refine held_take (i := 3) (v := .int .i64 (f : Int)) (some 48) rfl rfl (by kernel_rfl) (by kernel_rfl) (by kernel_rfl) (fun _ _ _ h => h) (yieldsIf_move (by kernel_rfl) rfl (by kernel_rfl)) S0 ?_
                refine held_take (i := 4) (v := .pointer (some ⟨wx.heap.size, f, none⟩)) (some 49) rfl rfl (by kernel_rfl) (by kernel_rfl) (by kernel_rfl) (fun _ _ _ h => h) (yieldsIf_index (by kernel_rfl) rfl (by kernel_rfl) (by kernel_rfl) (hindexV wx.heap.size hf40)) S0 ?_
                refine held_take (i := 5) (v := .int .i64 x) (some 50) rfl rfl (by kernel_rfl) (by kernel_rfl) (by kernel_rfl) (fun _ _ _ h => h) (yieldsIf_cell (by kernel_rfl) rfl (by kernel_rfl) (fun W h => hload W (hcx W h))) S0 ?_
                refine held_take (i := 6) (v := .int .i64 (p - x)) (some 51) rfl rfl (by kernel_rfl) (by kernel_rfl) (by kernel_rfl) (fun _ _ _ h => h) (yieldsIf_bin (by kernel_rfl) rfl (by kernel_rfl) (by kernel_rfl) (fun _ => rfl) (hsubI (by omega) (by omega))) S0 ?_
                refine held_take (i := 7) (v := .int .i64 p) (some 52) rfl rfl (by kernel_rfl) (by kernel_rfl) (by kernel_rfl) (fun _ _ _ h => h) (yieldsIf_move (by kernel_rfl) rfl (by kernel_rfl)) S0 ?_
                refine held_take (i := 8) (v := .int .i64 y) (some 53) rfl rfl (by kernel_rfl) (by kernel_rfl) (by kernel_rfl) (fun _ _ _ h => h) (yieldsIf_bin (by kernel_rfl) rfl (by kernel_rfl) (by kernel_rfl) (fun _ => rfl) hrem) S0 ?_
                refine held_enter (i := 1) (some 46) (f := 118) (args := #[vv u]) (by kernel_rfl) rfl rfl rfl (by kernel_rfl) (HLD.out _) ?_ (fun c w' h => by cases h.1) (fun w' h => by cases h.1)
                rintro e4 W4 ⟨he4, hb4⟩
                injection he4 with he4
                subst he4
                have hb34 : Below wx.heap.size wx W4 := hb3.trans (hb4.mono hb3.size)
                have S1 : At W4 wx.heap.size 0 u ∧ Below wo.heap.size wo W4 := ⟨S0.1.later hb4, HBX.out.trans (hb34.mono hsw)⟩
                refine ⟨S1, ?_⟩
                refine held_take (i := 9) (v := .pointer (some ⟨wo.heap.size, d, none⟩)) (some 54) rfl rfl (by kernel_rfl) (by kernel_rfl) (by kernel_rfl) (fun _ _ _ h => h) (yieldsIf_index (by kernel_rfl) rfl (by kernel_rfl) (by kernel_rfl) (hindexV wo.heap.size hd40)) S1 ?_
                have HAT4 := HAT.out.later hb34
                have HTH4 := there_below HTH.out hb34 hvlt
                have hc4 := HAT4.cell hd40
                rw [Nat.zero_add] at hc4
                have hf4 := (HTH4 d hd40).2
                rw [Nat.zero_add] at hf4
                have hat5 := HAT4.set hd40 y
                rw [Nat.zero_add] at hat5
                have S2 : At (W4.setCell ⟨wo.heap.size, d, none⟩ (.int .i64 y)) wx.heap.size 0 u ∧ Below wo.heap.size wo (W4.setCell ⟨wo.heap.size, d, none⟩ (.int .i64 y)) := ⟨S1.1.setOther (by show wo.heap.size ≠ wx.heap.size; omega) _, S1.2.setCell (Nat.le_refl _) _⟩
                have HN5 : Hid (Below wo.heap.size wo (W4.setCell ⟨wo.heap.size, d, none⟩ (.int .i64 y)) ∧ At (W4.setCell ⟨wo.heap.size, d, none⟩ (.int .i64 y)) wo.heap.size 0 (fun i => if i = d then y else v i) ∧ (W4.setCell ⟨wo.heap.size, d, none⟩ (.int .i64 y)).there wo.heap.size 0 40) := Lib.hid ⟨S2.2, hat5, there_set HTH4 _ _⟩
                refine held_storeI (i := 10) (by kernel_rfl) rfl rfl rfl (.tmp 54) (.tmp 53) rfl wo.heap.size d y _ (by kernel_rfl) (by kernel_rfl) hc4 hf4 ⟨S2, ?_⟩
                refine wpAnyH_done (by kernel_rfl) ?_ _
                simp only [Act.put, List.setIfInBounds_toArray, List.set_cons_zero, List.set_cons_succ]
                clear S0 S1 S2 hat5 hc4 hf4 HAT4 HTH4 hcx hrem hb3 hb34 hb4 HS3 HLD HAT HTH HBX HSO
                go_wp2
                go_roundw
                case rel => exact ⟨j + 1, _, by omega, by go_num, Lib.hid HN5.out.1, Lib.hid HN5.out.2.1, Lib.hid HN5.out.2.2, HSO2⟩
                case measure => simp [intOf]; omega
              · have hjj : Hid (j = R.length) := Lib.hid (by omega)
                have HSOL : Hid (Lin.Sol p R f v) := Lib.hid (SolTo.done (by have := HSO.out; rwa [hjj.out] at this))
                have HO5 := Lib.hid (HO.out.below HBX.out)
                have HB5 := Lib.hid (HB.out.trans (HBX.out.mono hsx))
                have hs5 : wl.heap.size ≤ wx.heap.size := by omega
                have hSl : SL.length ≤ 1048576 := by have := HSL.out.len; omega
                have HSL2 := Lib.hid (HSL.out.add HFR.out HSOL.out)
                have HI2V := Lib.hid (Tryd.infoVl v)
                go_wp2_with (first | (with_reducible refine wpList_load_mid rfl 94 (.tmp 13) rfl wo.heap.size 0 rfl (vl v) _ HAT.out.range Tryd.underlyingV rfl HI2V.out ?_) | (with_reducible refine wpList_oneV rfl (some 58) rfl (.tmp 57) rfl v rfl ?_; intro W7 hn7; have HN7 := Lib.hid hn7; have HZ7 : Hid (wl.heap.size ≤ W7.heap.size) := (Lib.hid (by have := hn7.size; omega)); have HO7 := Lib.hid (HO5.out.below hn7.below); clear hn7) | (at_builtin; with_reducible refine wpList_appendV rfl (some 59) rfl (.tmp 56) (.tmp 58) rfl wl.heap.size (.slice ado SL.length capo) SL rfl HO7.out wx.heap.size 1 v rfl HN7.out.at' hSl HZ7.out ?_; intro s8 W8 ho8 hg8; have HO8 := Lib.hid ho8; have HG8 := Lib.hid hg8; clear ho8 hg8))
                have HB7 := Lib.hid (HB5.out.trans (HN7.out.below.mono hs5))
                have HB8 : Hid (Below wl.heap.size wl W8) := Lib.hid (HB7.out.grown HG8.out (by have := HB7.out.size; omega) (fun g hg => ((HO7.out.lt) g hg).1))
                go_roundw
                case rel => exact ⟨f + 1, SL ++ [v], by omega, by go_num, HB8, HO8, HSL2⟩
                case measure => simp [intOf]; omega
        · have hff : Hid (f = n) := Lib.hid (by omega)
          have HSN : Hid (Sols p R n SL) := Lib.hid (by have := HSL.out; rwa [hff.out] at this)
          have HSM : Hid (∀ t ∈ SL, Lin.Md p t) := Lib.hid (fun t ht => by obtain ⟨g, _, _, h⟩ := HSN.out.only t ht; exact h.md hp1)
          have HSW : Hid (∀ t ∈ SL, Lin.Wd n t) := Lib.hid (fun t ht => by obtain ⟨g, h1, _, h⟩ := HSN.out.only t ht; exact sol_wd HR.out.red HRW.out h1 h)
          have hSl : SL.length ≤ 1048575 := by have := HSL.out.len; omega
          have HOV := Lib.hid (HO.out.vs.lower (Nat.zero_le _))
          go_wp2_with fail
          refine (reducedList_any p _ SL _ HP.out HOV.out HSM.out (fun t ht => wd_wider (HSW.out t ht) hn) hSl).mono ?_
          rintro e W9 ⟨s9, R9, rfl, hb9, ho9, hr9, _⟩
          have hsw : w.heap.size ≤ wx.heap.size := by omega
          have HB9 := Lib.hid (HBL.out.trans ((HB.out.trans (hb9.mono hsx)).mono hsL))
          have HO9 : Hid (Ow w.heap.size W9 s9 R9) := Lib.hid ⟨ho9.1, ho9.2.imp id (fun ⟨g, cap, cur, h1, h2, h3⟩ => ⟨g, cap, cur, h1, Nat.le_trans hsw h2, h3⟩)⟩
          have HR9 := Lib.hid hr9
          clear hb9 ho9 hr9
          go_wp2
          go_ret
          refine ⟨_, R9, rfl, HB9.out, HO9.out, HR9.out.red, fun t ht => Lin.Sp.wd HSW.out ((HR9.out.eqv t).1 (Lin.Sp.mem ht (HR9.out.red.md t ht))), fun x => ?_⟩
          rw [HR9.out.eqv x, Lin.sols_eqv hp1 HR.out.red HRW.out (fun g hg hfr => HSN.out.all g hg hfr) (fun t ht => HSN.out.only t ht) x]
          exact ⟨fun h => h.eqv HLM.out HR.out.eqv, fun h => h.eqv HR.out.red.md HR.out.eqv.symm⟩
end Go.Proofs.YtpchbceohnabnabDoor

namespace Go.Proofs.YtpchbceohnabnabDoor
open Go.RowKit

theorem hidxU (b o : Nat) {k n : Nat} (cap : Nat) (hk : k < n) (w : World) : (Instr.indexAt 23 (.slice (some ⟨b, o, none⟩) n cap) (.int .i64 k)).run Tryd.prog w = .ok (.pointer (some ⟨b, o + k, none⟩)) w := by
  have h2 : (0 : Int) ≤ (k : Int) := by omega
  have h3 : (k : Int) < (n : Int) := by omega
  go_simp

/-- The table whose columns the cycles of a degree annihilate, and its width. -/
def cycT (ds : List Int) (ms : List (List (List Int))) (q : Nat) : List (List Int) := mapZ ds ms (q : Int)
def cycM (ds : List Int) (q : Nat) : Nat := if q = 0 then 0 else dimN ds ((q - 1 : Nat) : Int)
theorem dimN_le8 {p : Int} {ds : List Int} {ms : List (List (List Int))} (h : IsCx p ds ms) (q : Nat) : dimN ds (q : Int) ≤ 8 ∧ ds.getD q 0 = (dimN ds (q : Int) : Int) := by
  have := h.1.dim q
  unfold dimN
  rw [Int.toNat_natCast]
  omega
theorem cyc_ok {p : Int} {ds : List Int} {ms : List (List (List Int))} (h : IsCx p ds ms) {q : Nat} (hq : q < ds.length) :
    (cycT ds ms q).length = dimN ds (q : Int) ∧ (∀ r ∈ cycT ds ms q, RowOk p (cycM ds q : Int) r) ∧ cycM ds q ≤ 8 := by
  have hd := dimN_le8 h q
  by_cases h0 : q = 0
  · subst h0
    have e : cycT ds ms 0 = List.replicate (dimN ds ((0 : Nat) : Int)) [] := by
      unfold cycT mapZ
      rw [if_neg (by omega)]
      have : dimZ ds ((0 : Nat) : Int) = ds.getD 0 0 := by
        unfold dimZ
        rw [if_pos (by omega)]
        rfl
      rw [this]
      rfl
    rw [e]
    refine ⟨List.length_replicate, fun r hr => ?_, by simp [cycM]⟩
    rw [List.eq_of_mem_replicate hr]
    exact ⟨by simp [cycM], by simp⟩
  · obtain ⟨k, rfl⟩ : ∃ k, q = k + 1 := ⟨q - 1, by omega⟩
    have hml := h.1.mlen
    have hkm : k < ms.length := by omega
    have e : cycT ds ms (k + 1) = tabN ms k := by
      unfold cycT mapZ tabN
      rw [if_pos (by omega), show (((k + 1 : Nat) : Int)).toNat - 1 = k by omega]
    have hk := dimN_le8 h k
    have ht := h.tab hkm
    have e2 : cycM ds (k + 1) = dimN ds (k : Int) := by simp [cycM]
    rw [e, e2]
    refine ⟨by have := ht.1; have e3 : tabN ms k = ms.getD k [] := rfl; rw [e3]; omega, fun r hr => by rw [← hk.2]; exact ht.2 r hr, hk.1⟩
theorem cycT_succ {p : Int} {ds : List Int} {ms : List (List (List Int))} (h : IsCx p ds ms) {k : Nat} (hq : k + 1 < ds.length) : cycT ds ms (k + 1) = tabN ms k := by
  have hml := h.1.mlen
  unfold cycT mapZ tabN
  rw [if_pos (by omega), show (((k + 1 : Nat) : Int)).toNat - 1 = k by omega]
/-- The columns as vectors. -/
theorem ker_cols {p : Int} {d c : Nat} {t : List (List Int)} (htl : t.length = d) (v : Lin.V) : Lin.Ker p d ((flipT c t).map ofL) v ↔ CycS p d c t v := by
  have key : ∀ j, j < c → Lin.dot d (ofL ((List.range t.length).map fun i => (t.getD i []).getD j 0)) v = Lin.dot d (Lin.col (fun i => ofL (t.getD i [])) j) v := fun j _ => Lin.dot_congr (fun i hi => by
    have : ofL ((List.range t.length).map fun i => (t.getD i []).getD j 0) i = (t.getD i []).getD j 0 := by
      rw [ofL_at (by simp; omega)]
      simp
    rw [this]
    rfl)
  constructor
  · intro h
    refine ⟨h.md, h.wd, fun j hj => ?_⟩
    rw [← key j hj]
    exact h.ann _ (List.mem_map.2 ⟨_, List.mem_map.2 ⟨j, List.mem_range.2 hj, rfl⟩, rfl⟩)
  · rintro ⟨h1, h2, h3⟩
    refine ⟨h1, h2, fun r hr => ?_⟩
    obtain ⟨row, hrow, rfl⟩ := List.mem_map.1 hr
    obtain ⟨j, hj, rfl⟩ := List.mem_map.1 hrow
    have hj' := List.mem_range.1 hj
    rw [key j hj']
    exact h3 j hj'
theorem SpF.congr {p : Int} {n : Nat} {S S' : Lin.V → Prop} {R : List Lin.V} (h : SpF p n S R) (e : ∀ v, S v ↔ S' v) : SpF p n S' R := ⟨h.1, h.2.1, fun v => (h.2.2 v).trans (e v)⟩
theorem flip_row {p : Int} {c : Nat} {t : List (List Int)} (h : ∀ r ∈ t, RowOk p (c : Int) r) : ∀ r ∈ flipT c t, RowOk p (t.length : Int) r := fun r hr => by
  obtain ⟨j, hj, rfl⟩ := List.mem_map.1 hr
  have hj' := List.mem_range.1 hj
  refine ⟨by simp, fun x hx => ?_⟩
  obtain ⟨i, hi, rfl⟩ := List.mem_map.1 hx
  have hi' := List.mem_range.1 hi
  have hro := h _ (List.getElem_mem hi')
  show 0 ≤ (t.getD i []).getD j 0 ∧ (t.getD i []).getD j 0 ≤ p - 1
  rw [getD_of_lt _ hi']
  have hl : j < (t[i]).length := by have := hro.1; omega
  rw [getD_of_lt _ hl]
  exact hro.2 _ (List.getElem_mem hl)

/-- A table as an answer. -/
def DtR (t : List (List Int)) (w : World) (e : Ending) (w' : World) : Prop := ∃ v, e = .returned v ∧ L2 0 w' v t ∧ Below w.heap.size w w'
theorem cycT_zero (ds : List Int) (ms : List (List (List Int))) (h0 : 0 < ds.length) : cycT ds ms 0 = List.replicate (dimN ds ((0 : Nat) : Int)) [] := by
  unfold cycT mapZ
  rw [if_neg (by omega)]
  have : dimZ ds ((0 : Nat) : Int) = ds.getD 0 0 := by
    unfold dimZ
    rw [if_pos (by omega)]
    rfl
  rw [this]
  rfl
theorem tableOf_none (d : Nat) (Z : Nat → Nat → Int) : tableOf d 0 Z = List.replicate d [] := by simp [tableOf, List.map_const']
theorem cycM_dimZ {p : Int} {ds : List Int} {ms : List (List (List Int))} (h : IsCx p ds ms) {q : Nat} (hq : q < ds.length) : dimZ ds ((q : Int) - 1) = (cycM ds q : Int) := by
  by_cases h0 : q = 0
  · subst h0
    unfold dimZ cycM
    rw [if_neg (by omega), if_pos rfl]
    rfl
  · obtain ⟨k, rfl⟩ : ∃ k, q = k + 1 := ⟨q - 1, by omega⟩
    unfold cycM
    rw [if_neg h0, show ((k + 1 : Nat) : Int) - 1 = (k : Int) by omega, show k + 1 - 1 = k from rfl, ← (dimN_le8 h k).2]
    unfold dimZ
    rw [if_pos (by omega), Int.toNat_natCast]

set_option maxHeartbeats 1600000 in
set_option maxRecDepth 100000 in
theorem differentialTable_any (p : Int) (q : Nat) (dv mv : Value) (ds : List Int) (ms : List (List (List Int))) (w : World) (h : Cx 0 w dv mv ds ms) (hcx : IsCx p ds ms) (hq : q < ds.length) :
    Calls Tryd.prog 94 #[.agg #[.int .i64 p, dv, mv], .int .i64 q] w (DtR (cycT ds ms q) w) := by
  have HX0 := Lib.hid (Bx.start (p := p) 30 h)
  have HCX := Lib.hid hcx
  have hml := hcx.1.mlen
  have hl6 := hcx.1.len1
  refine Sl.cases HX0.out.cx.dims (fun _ _ hx _ => absurd hq (by simp [hx])) (fun bd od capd hvd _ _ hcld => ?_)
  subst hvd
  have c0 := HX0.out.c0
  have c1 := HX0.out.c1
  have c2 := HX0.out.c2
  by_cases hq0 : q = 0
  · subst hq0
    obtain ⟨ud, hud, hrd⟩ := hcld 0 hq
    obtain ⟨d, hd⟩ : ∃ d, d = dimN ds ((0 : Nat) : Int) := ⟨_, rfl⟩
    have hd8 : d ≤ 8 := by rw [hd]; exact (dimN_le8 hcx 0).1
    have hcel : (w.alloc (.cells #[.int .i64 p, .slice (some ⟨bd, od, none⟩) ds.length capd, mv] 30)).cell? ⟨bd, od, none⟩ = some (.int .i64 (d : Int)) := by
      rw [Nat.add_zero] at hud
      rw [hud, hrd, ← getD_of_lt 0 hq, (dimN_le8 hcx 0).2, hd]
    have HDT : Hid (tableOf d 0 (fun _ _ => 0) = cycT ds ms 0) := Lib.hid (by rw [cycT_zero ds ms hq, tableOf_none, hd])
    have hlen : (0 : Int) < (ds.length : Int) := by omega
    clear h hcx hcld hud hrd hd
    go_enter Tryd.func94, Tryd.ntmps94
    go_wp2_with fail
    refine (zeroTable_any d 0 _ (by omega) (by omega)).mono ?_
    rintro e w1 ⟨rfl, hm1⟩
    have HM1 := Lib.hid hm1
    clear hm1 hcel c0 c1 c2
    go_wp2
    go_ret
    refine ⟨.slice (some ⟨w.heap.size + 1, 0, none⟩) d d, rfl, ?_, HX0.out.below.trans (HM1.out.below.mono HX0.out.below.size)⟩
    have hh := HM1.out.w2.l2.lower (Nat.zero_le _)
    rw [HDT.out] at hh
    simpa using hh
  · obtain ⟨k, rfl⟩ : ∃ k, q = k + 1 := ⟨q - 1, by omega⟩
    have hkm : k < ms.length := by omega
    refine Sl.cases HX0.out.cx.maps (fun _ _ hx _ => absurd hkm (by simp [hx])) (fun bm om capm hvm _ _ hclm => ?_)
    subst hvm
    obtain ⟨um, hum, hrm⟩ := hclm k hkm
    have HTE : Hid (cycT ds ms (k + 1) = tabN ms k) := Lib.hid (cycT_succ hcx hq)
    have HRM : Hid (L2 0 (w.alloc (.cells #[.int .i64 p, .slice (some ⟨bd, od, none⟩) ds.length capd, .slice (some ⟨bm, om, none⟩) ms.length capm] 30)) um (tabN ms k)) := Lib.hid (by unfold tabN; rw [getD_of_lt _ hkm]; exact hrm)
    have hne : (((k + 1 : Nat) : Int) == 0) = false := by
      have : ¬ ((k + 1 : Nat) : Int) = 0 := by omega
      simpa using this
    have hne2 : ¬ ((k : Int) + 1 = 0) := by omega
    have hwr : IntKind.i64.wrap (((k + 1 : Nat) : Int) - 1) = (k : Int) := by rw [show ((k + 1 : Nat) : Int) - 1 = (k : Int) by omega]; exact IntWalk.i64_in _ (by omega)
    have hsub : ((k : Int) + 1) - 1 = (k : Int) := by omega
    have hlt : (k : Int) < (ms.length : Int) := by omega
    clear h hcx hclm hcld hrm hq0
    go_enter Tryd.func94, Tryd.ntmps94
    go_wp2
    go_ret
    exact ⟨_, rfl, by rw [HTE.out]; exact HRM.out, HX0.out.below⟩

set_option maxHeartbeats 1600000 in
set_option maxRecDepth 100000 in
theorem kernelSpace_any (p : Int) (d c : Nat) (vt : Value) (t : List (List Int)) (w : World) (hp : IsP p) (ht : L2 0 w vt t) (htl : t.length = d) (hrow : ∀ r ∈ t, RowOk p (c : Int) r) (hd : d ≤ 40) (hc : c ≤ 1048575) :
    Calls Tryd.prog 105 #[.int .i64 p, vt, .int .i64 (c : Int)] w (VsR (SpF p d (CycS p d c t)) w) := by
  obtain ⟨at', ct, rfl⟩ := Sl.shape ht
  have hp1 := hp.lo
  have HP := Lib.hid hp
  have HT := Lib.hid ht
  have HTL := Lib.hid htl
  have HTR := Lib.hid hrow
  clear hp ht htl hrow
  go_enter Tryd.func105, Tryd.ntmps105
  go_wp2_with fail
  refine (transposedTable_any c _ t _ HT.out (by have := HTL.out; omega) (by omega) (fun r hr => by have := (HTR.out r hr).1; omega)).mono ?_
  rintro e4 W4 ⟨rfl, hm4⟩
  have HB4 := Lib.hid hm4.below
  have HT4 : Hid (L2 0 W4 (.slice (some ⟨w.heap.size, 0, none⟩) c c) (flipT c t)) := Lib.hid (hm4.w2.l2.lower (Nat.zero_le _))
  have HFR := Lib.hid (flip_row HTR.out)
  have HFL : Hid ((flipT c t).length = c) := Lib.hid (by simp [flipT, tableOf])
  clear hm4
  go_wp2_with fail
  refine (vectorsOf_any _ (flipT c t) W4 HT4.out (by have := HFL.out; omega) (fun r hr => by have := (HFR.out r hr).1; have := HTL.out; omega)).mono ?_
  rintro e5 W5 ⟨s5, M, rfl, hb5, ho5, rfl⟩
  have HB5 := Lib.hid hb5
  have HO5 := Lib.hid (ho5.vs.lower (Nat.zero_le _))
  clear hb5 ho5
  have HD : Hid ((t.length : Int) = (d : Int)) := Lib.hid (by rw [HTL.out])
  rw [HD.out]
  go_wp2_with fail
  refine (annihilator_any p d _ ((flipT c t).map ofL) _ HP.out HO5.out (vecs_md (by omega) HFR.out) (fun u hu => by have := vecs_wd (n := d) (fun r hr => by have := (HFR.out r hr).1; have := HTL.out; omega) u hu; exact this) (by omega) ?hlen).mono ?_
  case hlen => rw [List.length_map, HFL.out]; omega
  rintro e6 W6 ⟨s6, R, rfl, hb6, ho6, hsp⟩
  have HB6 := Lib.hid hb6
  have HO6 := Lib.hid ho6
  have HSP := Lib.hid hsp
  have hs5 : w.heap.size ≤ W5.heap.size := Nat.le_trans HB4.out.size HB5.out.size
  clear hb6 ho6 hsp
  go_wp2
  go_ret
  exact ⟨_, R, rfl, HB4.out.trans ((HB5.out.mono HB4.out.size).trans (HB6.out.mono hs5)), ⟨HO6.out.1, HO6.out.2.imp id (fun ⟨g, cap, cur, h1, h2, h3⟩ => ⟨g, cap, cur, h1, Nat.le_trans hs5 h2, h3⟩)⟩, HSP.out.congr (fun v => ker_cols HTL.out v)⟩

set_option maxHeartbeats 6400000 in
set_option maxRecDepth 100000 in
theorem cycleSpace_any (p : Int) (q : Nat) (dv mv : Value) (ds : List Int) (ms : List (List (List Int))) (w : World) (h : Cx 0 w dv mv ds ms) (hcx : IsCx p ds ms) (hq : q < ds.length) :
    Calls Tryd.prog 83 #[.agg #[.int .i64 p, dv, mv], .int .i64 q] w (VsR (SpF p (dimN ds (q : Int)) (CycS p (dimN ds (q : Int)) (cycM ds q) (cycT ds ms q))) w) := by
  obtain ⟨ad, cap, rfl⟩ := Sl.shape h.dims
  obtain ⟨am, capm, rfl⟩ := Sl.shape h.maps
  have HX0 := Lib.hid (Bx.start (p := p) 30 h)
  have HCX := Lib.hid hcx
  have hl6 := hcx.1.len1
  obtain ⟨w1, hw1⟩ : ∃ w1, w1 = w.alloc (.cells #[.int .i64 p, .slice ad ds.length cap, .slice am ms.length capm] 30) := ⟨_, rfl⟩
  rw [← hw1] at HX0
  have HNX : Hid (∀ W, Below w1.heap.size w1 W → Bx w W w.heap.size p (.slice ad ds.length cap) (.slice am ms.length capm) ds ms) := Lib.hid (fun W h => HX0.out.next h)
  have HOK := Lib.hid (cyc_ok hcx hq)
  have hd8 := (dimN_le8 hcx q).1
  obtain ⟨c, hc⟩ : ∃ c, c = cycM ds q := ⟨_, rfl⟩
  have hc8 : c ≤ 8 := by rw [hc]; exact HOK.out.2.2
  have hsub : ∀ w, (binOp .sub 2 (.int .i64 (q : Int)) (.int .i64 1)).run Tryd.prog w = .ok (.int .i64 ((q : Int) - 1)) w := fun w => hsubI (by omega) (by omega) w
  have HDZ : Hid (dimZ ds ((q : Int) - 1) = (c : Int)) := Lib.hid (by rw [hc]; exact cycM_dimZ hcx hq)
  have HCE := Lib.hid hc
  have HQ := Lib.hid hq
  have hs1 : w.heap.size ≤ w1.heap.size := HX0.out.below.size
  clear h hcx hc hq
  go_enter Tryd.func83, Tryd.ntmps83
  go_wp2
  rw [← hw1]
  clear hw1
  refine wp_region_held (S := fun W => Below w1.heap.size w1 W) (by kernel_rfl) ?_
  have S0 : Below w1.heap.size w1 w1.drew := (Below.refl _ _).drew
  refine held_take (i := 0) (v := .pointer (some ⟨w.heap.size, 0, none⟩)) (some 5) rfl rfl (by kernel_rfl) (by kernel_rfl) (by kernel_rfl) (fun _ _ _ h => h) (yieldsIf_run (by kernel_rfl) (fun W _ => by kernel_rfl)) S0 ?_
  refine held_take (i := 1) (v := .int .i64 p) (some 6) rfl rfl (by kernel_rfl) (by kernel_rfl) (by kernel_rfl) (fun _ _ _ h => h) (yieldsIf_cell (by kernel_rfl) rfl (by kernel_rfl) (fun W h => hload W ((HNX.out W h).c0))) S0 ?_
  refine held_take (i := 2) (v := .agg #[.int .i64 p, .slice ad ds.length cap, .slice am ms.length capm]) (some 7) rfl rfl (by kernel_rfl) (by kernel_rfl) (by kernel_rfl) (fun _ _ _ h => h) (yieldsIf_cell (by kernel_rfl) rfl (by kernel_rfl) (fun W h => hloadC W (HNX.out W h).c0 (HNX.out W h).c1 (HNX.out W h).c2)) S0 ?_
  refine held_take (i := 3) (v := .int .i64 (q : Int)) (some 8) rfl rfl (by kernel_rfl) (by kernel_rfl) (by kernel_rfl) (fun _ _ _ h => h) (yieldsIf_move (by kernel_rfl) rfl (by kernel_rfl)) S0 ?_
  refine held_take (i := 5) (v := .agg #[.int .i64 p, .slice ad ds.length cap, .slice am ms.length capm]) (some 10) rfl rfl (by kernel_rfl) (by kernel_rfl) (by kernel_rfl) (fun _ _ _ h => h) (yieldsIf_cell (by kernel_rfl) rfl (by kernel_rfl) (fun W h => hloadC W (HNX.out W h).c0 (HNX.out W h).c1 (HNX.out W h).c2)) S0 ?_
  refine held_take (i := 6) (v := .int .i64 (q : Int)) (some 11) rfl rfl (by kernel_rfl) (by kernel_rfl) (by kernel_rfl) (fun _ _ _ h => h) (yieldsIf_move (by kernel_rfl) rfl (by kernel_rfl)) S0 ?_
  refine held_take (i := 7) (v := .int .i64 ((q : Int) - 1)) (some 12) rfl rfl (by kernel_rfl) (by kernel_rfl) (by kernel_rfl) (fun _ _ _ h => h) (yieldsIf_bin (by kernel_rfl) rfl (by kernel_rfl) (by kernel_rfl) (fun _ => rfl) hsub) S0 ?_
  refine held_enter (i := 4) (some 9) (f := 94) (args := #[.agg #[.int .i64 p, .slice ad ds.length cap, .slice am ms.length capm], .int .i64 (q : Int)]) (by kernel_rfl) rfl rfl rfl (by kernel_rfl) (differentialTable_any p q _ _ ds ms _ (HNX.out _ S0).cx HCX.out HQ.out) ?_ (fun c w' h => by obtain ⟨_, h, _⟩ := h; cases h) (fun w' h => by obtain ⟨_, h, _⟩ := h; cases h)
  rintro e4 W4 ⟨v4, he4, ht4, hb4⟩
  injection he4 with he4
  subst he4
  have S1 : Below w1.heap.size w1 W4 := S0.trans (hb4.mono S0.size)
  refine ⟨S1, ?_⟩
  refine held_enter (i := 8) (some 13) (f := 76) (args := #[.agg #[.int .i64 p, .slice ad ds.length cap, .slice am ms.length capm], .int .i64 ((q : Int) - 1)]) (by kernel_rfl) rfl rfl rfl (by kernel_rfl) (dimAt_any p _ _ _ ds ms _ (HNX.out _ S1).cx (by omega)) ?_ (fun c w' h => by cases h.1) (fun w' h => by cases h.1)
  rintro e5 W5 ⟨he5, hb5⟩
  rw [HDZ.out] at he5
  injection he5 with he5
  subst he5
  have S2 : Below w1.heap.size w1 W5 := S1.trans (hb5.mono S1.size)
  refine ⟨S2, ?_⟩
  refine held_enter (i := 9) (some 14) (f := 105) (args := #[.int .i64 p, e4, .int .i64 (c : Int)]) (by kernel_rfl) rfl rfl rfl (by kernel_rfl) (kernelSpace_any p (dimN ds (q : Int)) c e4 (cycT ds ms q) _ HCX.out.1.prime (ht4.below hb5) HOK.out.1 (by rw [HCE.out]; exact HOK.out.2.1) (by omega) (by omega)) ?_ (fun c w' h => by obtain ⟨_, _, h, _⟩ := h; cases h) (fun w' h => by obtain ⟨_, _, h, _⟩ := h; cases h)
  rintro e6 W6 ⟨s6, R, he6, hb6, ho6, hsp⟩
  injection he6 with he6
  subst he6
  have S3 : Below w1.heap.size w1 W6 := S2.trans (hb6.mono S2.size)
  have HB6 := Lib.hid (HNX.out _ S3).below
  have hs5 : w.heap.size ≤ W5.heap.size := Nat.le_trans hs1 S2.size
  have HO6 := Lib.hid ho6
  have HSP := Lib.hid hsp
  refine ⟨S3, ?_⟩
  refine held_take (i := 10) (v := e6) (some 4) rfl rfl (by kernel_rfl) (by kernel_rfl) (by kernel_rfl) (fun _ _ _ h => h) (yieldsIf_assign (by kernel_rfl) rfl (by kernel_rfl)) S3 ?_
  refine wpAnyH_done (by kernel_rfl) ?_ _
  simp only [Act.put, List.setIfInBounds_toArray, List.set_cons_zero, List.set_cons_succ]
  clear S0 S1 S2 S3 hb4 hb5 hb6 ho6 hsp ht4
  go_wp2
  go_ret
  refine ⟨_, R, rfl, HB6.out, ⟨HO6.out.1, HO6.out.2.imp id (fun ⟨g, cap, cur, h1, h2, h3⟩ => ⟨g, cap, cur, h1, Nat.le_trans hs5 h2, h3⟩)⟩, ?_⟩
  rw [← HCE.out]
  exact HSP.out

set_option maxHeartbeats 1600000 in
set_option maxRecDepth 100000 in
theorem l01Cycles_any (p : Int) (q : Nat) (dv mv : Value) (ds : List Int) (ms : List (List (List Int))) (w : World) (h : Cx 0 w dv mv ds ms) (hcx : IsCx p ds ms) (hq : q < ds.length) :
    Calls Tryd.prog 80 #[.agg #[.int .i64 p, dv, mv], .int .i64 q] w (KerR p (dimN ds (q : Int)) (cycM ds q) (cycT ds ms q) w) := by
  have HX0 := Lib.hid (Bx.start (p := p) 30 h)
  obtain ⟨ad, cap, rfl⟩ := Sl.shape h.dims
  obtain ⟨am, capm, rfl⟩ := Sl.shape h.maps
  have HCX := Lib.hid hcx
  have hl6 := hcx.1.len1
  have c0 := HX0.out.c0
  have c1 := HX0.out.c1
  have c2 := HX0.out.c2
  have HOK := Lib.hid (cyc_ok hcx hq)
  have HD8 := Lib.hid (dimN_le8 hcx q)
  have HDZ : Hid (dimZ ds (q : Int) = (dimN ds (q : Int) : Int)) := Lib.hid (by
    unfold dimZ
    rw [if_pos (by omega), Int.toNat_natCast]
    exact (dimN_le8 hcx q).2)
  have HMZ : Hid (mapZ ds ms (q : Int) = cycT ds ms q) := Lib.hid rfl
  clear h hcx
  go_enter Tryd.func80, Tryd.ntmps80
  go_wp2
  go_region_held3 (fun w' => w'.cell? ⟨w.heap.size, 0, none⟩ = some (.int .i64 p) ∧ w'.cell? ⟨w.heap.size, 1, none⟩ = some (.slice ad ds.length cap) ∧ w'.cell? ⟨w.heap.size, 2, none⟩ = some (.slice am ms.length capm) ∧ Hid (Bx w w' w.heap.size p (.slice ad ds.length cap) (.slice am ms.length capm) ds ms))
    (first | exact ⟨HX0.out.c0, HX0.out.c1, HX0.out.c2, HX0⟩ | exact ⟨HX0.out.c0, HX0.out.c1, HX0.out.c2, Lib.hid (HX0.out.next (Below.refl _ _).drew)⟩ | exact ⟨HX3.out.c0, HX3.out.c1, HX3.out.c2, HX3⟩ | exact ⟨HX4.out.c0, HX4.out.c1, HX4.out.c2, HX4⟩ | exact ⟨HX5.out.c0, HX5.out.c1, HX5.out.c2, HX5⟩ | go_keep)
    (first
      | (go_at_call 58; refine (l01Dim_any p (q : Int) _ _ ds ms _ ?_ (by omega)).mono ?_; (exact (HX0.out.next (Below.refl _ _).drew).cx); rw [HDZ.out]; rintro e w3 ⟨rfl, hb3⟩; have HX3 := Lib.hid ((HX0.out.next (Below.refl _ _).drew).next hb3); clear hb3)
      | (go_at_call 88; refine (l01Map_any p (q : Int) _ _ ds ms _ HX3.out.cx HCX.out).mono ?_; rw [HMZ.out]; rintro e w4 ⟨v4, rfl, hl4, hb4⟩; have HX4 := Lib.hid (HX3.out.next hb4); have HL4 := Lib.hid hl4; clear hl4 hb4)
      | (go_at_call 100; refine (l01Kernel_any p (dimN ds (q : Int)) (cycM ds q) v4 (cycT ds ms q) _ HCX.out.1.prime HL4.out HOK.out.1 HOK.out.2.1 (by have := HD8.out.1; omega) (by have := HOK.out.2.2; omega)).mono ?_; rintro e w5 ⟨u5, R, rfl, hg5, hb5, hr5⟩; have HX5 := Lib.hid (HX4.out.next hb5); have HG5 := Lib.hid (hg5.mono HX4.out.below.size); have HR5 := Lib.hid hr5; clear hg5 hb5 hr5))
  go_wp2
  go_ret
  exact ⟨u5, R, rfl, HG5.out, HX5.out.below, HR5.out⟩

end Go.Proofs.YtpchbceohnabnabDoor


namespace Go.Proofs.YtpchbceohnabnabDoor
open Go.RowKit

/-- The slice u holds tables, in a row of its own. -/
def Gt (base : Nat) (w : World) (u : Value) (ts : List (List (List Int))) : Prop := ∃ vs, w.ownsRow base 48 1 u ts.length vs ∧ ∀ k (h1 : k < vs.length) (h2 : k < ts.length), Gs 0 w vs[k] ts[k]
theorem Gt.below {base : Nat} {w w' : World} {u : Value} {ts : List (List (List Int))} (h : Gt base w u ts) (hb : Below w.heap.size w w') : Gt base w' u ts := by
  obtain ⟨vs, ho, hr⟩ := h
  exact ⟨vs, owns_below ho hb, fun k h1 h2 => (hr k h1 h2).below hb⟩
theorem Gt.l3 {base : Nat} {w : World} {u : Value} {ts : List (List (List Int))} (h : Gt base w u ts) : L3 0 w u ts := by
  obtain ⟨vs, ho, hr⟩ := h
  exact sl_of_owns ho (Nat.zero_le _) rfl (fun k h1 h2 => (hr k h2 h1).l2)
theorem Gt.lt {base : Nat} {w : World} {v : Value} {ts : List (List (List Int))} (h : Gt base w v ts) : ∀ k, v.ownBlock = some k → base ≤ k ∧ k < w.heap.size := by
  obtain ⟨vs, ho, _⟩ := h
  exact World.ownsRow.lt ho
theorem Gt.new {base : Nat} (w : World) (hb : base ≤ w.heap.size) : Gt base (w.alloc (.cells #[] 48)) (.slice (some ⟨w.heap.size, 0, none⟩) 0 0) [] :=
  ⟨[], by simpa using World.ownsRow_made (base := base) (e := 48) (size := 1) w #[] 0 hb (by unfold maxLen; omega) (by simp), fun k h1 _ => absurd h1 (Nat.not_lt_zero _)⟩
theorem Gs.new {base : Nat} (w : World) (hb : base ≤ w.heap.size) : Gs base (w.alloc (.cells #[] 22)) (.slice (some ⟨w.heap.size, 0, none⟩) 0 0) [] :=
  ⟨[], by simpa using World.ownsRow_made (base := base) (e := 22) (size := 1) w #[] 0 hb (by unfold maxLen; omega) (by simp), fun k h1 _ => absurd h1 (Nat.not_lt_zero _)⟩
theorem Gb.new {base : Nat} (w : World) (hb : base ≤ w.heap.size) : Gb base (w.alloc (.cells #[] 2)) (.slice (some ⟨w.heap.size, 0, none⟩) 0 0) [] := by
  have := World.ownsRow_made (base := base) (e := 2) (size := 1) w #[] 0 hb (by unfold maxLen; omega) (by simp)
  simpa [Gb] using this
theorem Gs.grown {w w3 : World} {base base' n : Nat} {u v : Value} {t : List (List Int)} {vs : List Value} (h : Gs base' w u t) (ho : w.ownsRow base 48 1 v n vs) (hg : w.grownBy w3 v.ownBlock) : Gs base' w3 u t := by
  obtain ⟨us, hu, hr⟩ := h
  exact ⟨us, owns_grown hu ho (by decide) hg, fun k h1 h2 => owns_grown (hr k h1 h2) ho (by decide) hg⟩
theorem Gt.push {base : Nat} {w w3 : World} {v v' row : Value} {ts : List (List (List Int))} {vs : List Value} {x : List (List Int)} (ho : w.ownsRow base 48 1 v ts.length vs) (hr : ∀ k (h1 : k < vs.length) (h2 : k < ts.length), Gs 0 w vs[k] ts[k]) (hx : Gs 0 w row x)
    (ho3 : w3.ownsRow base 48 1 v' (ts.length + 1) (vs ++ [row])) (hg : w.grownBy w3 v.ownBlock) : Gt base w3 v' (ts ++ [x]) := by
  have hvl : vs.length = ts.length := by have := ho.1; omega
  refine ⟨vs ++ [row], by simpa using ho3, fun k h1 h2 => ?_⟩
  by_cases e : k < vs.length
  · rw [List.getElem_append_left e, List.getElem_append_left (by omega)]
    exact (hr k e (by omega)).grown ho hg
  · have e2 : k = vs.length := by simp at h1; omega
    subst e2
    rw [List.getElem_append_right (by omega), List.getElem_append_right (by omega)]
    simp only [hvl, Nat.sub_self, List.getElem_cons_zero]
    exact hx.grown ho hg
theorem gb_row {W : World} {base g n : Nat} {f : Nat → Value} {xs : List Int} (h : W.rowIs g 2 n f) (hl : xs.length = n) (hf : ∀ i (h : i < xs.length), f i = .int .i64 xs[i]) (hn : n ≤ maxLen) (hb : base ≤ g) : Gb base W (.slice (some ⟨g, 0, none⟩) n n) xs := by
  obtain ⟨cs, hbl, hsz, hcs⟩ := h
  refine ⟨by simp, Or.inr ⟨g, n, cs, by rw [hl], hb, hbl, by omega, hn, by simp [hsz], ?_⟩⟩
  refine List.ext_getElem (by simp [hl, hsz]) fun i h1 h2 => ?_
  have hi : i < n := by have : i < xs.length := by simpa using h2
                        omega
  simp only [List.getElem_take, List.getElem_map]
  have := hcs i hi
  rw [hf i (by omega)] at this
  obtain ⟨_, h3⟩ := Array.getElem?_eq_some_iff.1 this
  simpa using h3
section
variable {ops : Array Oper} {rest : List Oper} {Q : Exit → Act → World → Prop}
theorem wpList_appendT3 {o : Oper} {a : Act} {w : World} (hgd : o.guard = none) (dst : Option Tmp) (hdst : o.dst = dst) (s x : Operand)
    (ho : o.op = .call { callee := .builtin .append, args := #[s, x], argTypes := #[23, 23] }) (base : Nat) (v : Value) (ts : List (List (List Int))) (hs : a.eval s = v) (hown : Gt base w v ts)
    (b : Nat) (hx : a.eval x = .slice (some ⟨b, 0, none⟩) 1 1) (ar : Option Addr) (nr cr : Nat) (hc : w.cell? ⟨b, 0, none⟩ = some (.slice ar nr cr)) (y : List (List Int)) (hy : Gs 0 w (.slice ar nr cr) y) (hl : ts.length ≤ 2097151) (hb : base ≤ w.heap.size)
    (h : ∀ v' w', Gt base w' v' (ts ++ [y]) → w.grownBy w' v.ownBlock → wpList Tryd.prog ops Q rest (a.put dst v') w') : wpList Tryd.prog ops Q (o :: rest) a w := by
  obtain ⟨i, hi, hz, hs1, hb1⟩ := info_parts Tryd.infoSS
  obtain ⟨vs, hvo, hvr⟩ := hown
  subst hdst
  refine wpList_append_own w hgd s x 23 ho base 48 i _ 1 24 Tryd.underlying23 hi hz hs1 hb1 rfl (by decide) v ts.length vs hs hvo ⟨b, 0, none⟩ 1 1 [.slice ar nr cr] hx rfl ?_ ?_ (by unfold maxLen; omega) (by omega) hb (fun v' w' h1 h2 _ => h v' w' (Gt.push hvo hvr hy h1 h2) h2)
  · intro j u hj
    match j, hj with
    | 0, hj =>
      simp at hj
      subst hj
      exact hc
  · intro u hu
    simp at hu
    subst hu
    rfl
end
end Go.Proofs.YtpchbceohnabnabDoor


namespace Go.Proofs.YtpchbceohnabnabDoor
open Go.RowKit

section
variable {w w' : World} {base size n k : Nat} {e t : TypeId} {u v : Value} {xs : List Value} {g : Nat} {f : Nat → Value}
theorem owns_off (ho : w.ownsRow base e size u n xs) (hr : w.rowIs g t k f) (h : t ≠ e) (i : Nat) (x : Value) : (w.setCell ⟨g, i, none⟩ x).ownsRow base e size u n xs := by
  obtain ⟨c, hc, _⟩ := hr
  refine ⟨ho.1, ?_⟩
  rcases ho.2 with h2 | ⟨g2, cap, cur, hu, hb, hh, r⟩
  · exact Or.inl h2
  · refine Or.inr ⟨g2, cap, cur, hu, hb, ?_, r⟩
    rw [Below.heap_setCell w _ x g2 (by
      intro e2
      have e3 : g2 = g := e2
      subst e3
      rw [hc] at hh
      simp at hh
      exact h hh.2)]
    exact hh
end
theorem G1.off {w : World} {g k : Nat} {t : TypeId} {f : Nat → Value} {u : Value} {xs : List Int} (h : G1 w u xs) (hr : w.rowIs g t k f) (ht : t ≠ 2) (i : Nat) (x : Value) : G1 (w.setCell ⟨g, i, none⟩ x) u xs := owns_off h hr ht i x
theorem Gb.off {base : Nat} {w : World} {g k : Nat} {t : TypeId} {f : Nat → Value} {u : Value} {xs : List Int} (h : Gb base w u xs) (hr : w.rowIs g t k f) (ht : t ≠ 2) (i : Nat) (x : Value) : Gb base (w.setCell ⟨g, i, none⟩ x) u xs := owns_off h hr ht i x
theorem Gs.off {base : Nat} {w : World} {g k : Nat} {t : TypeId} {f : Nat → Value} {u : Value} {xs : List (List Int)} (h : Gs base w u xs) (hr : w.rowIs g t k f) (ht : t ≠ 2 ∧ t ≠ 22) (i : Nat) (x : Value) : Gs base (w.setCell ⟨g, i, none⟩ x) u xs := by
  obtain ⟨vs, ho, h1⟩ := h
  exact ⟨vs, owns_off ho hr ht.2 i x, fun k a b => (h1 k a b).off hr ht.1 i x⟩
theorem Gt.off {base : Nat} {w : World} {g k : Nat} {t : TypeId} {f : Nat → Value} {u : Value} {xs : List (List (List Int))} (h : Gt base w u xs) (hr : w.rowIs g t k f) (ht : t ≠ 2 ∧ t ≠ 22 ∧ t ≠ 48) (i : Nat) (x : Value) : Gt base (w.setCell ⟨g, i, none⟩ x) u xs := by
  obtain ⟨vs, ho, h1⟩ := h
  exact ⟨vs, owns_off ho hr ht.2.2 i x, fun k a b => (h1 k a b).off hr ⟨ht.1, ht.2.1⟩ i x⟩
section
variable {o : Oper} {a : Act} {w : World} {K : Act → World → Prop} {Q : Exit → Act → World → Prop}
theorem wp_appendB1 (dst : Option Tmp) (hdst : o.dst = dst) (s x : Operand) (ho : o.op = .call { callee := .builtin .append, args := #[s, x], argTypes := #[22, 22] }) (base : Nat) (v : Value) (xs : List Int) (hs : a.eval s = v) (hown : Gb base w v xs)
    (b : Nat) (hx : a.eval x = .slice (some ⟨b, 0, none⟩) 1 1) (z : Int) (hc : w.cell? ⟨b, 0, none⟩ = some (.int .i64 z)) (hl : xs.length ≤ 2097151) (hb : base ≤ w.heap.size)
    (h : ∀ g cap w', Gb base w' (.slice (some ⟨g, 0, none⟩) (xs.length + 1) cap) (xs ++ [z]) → w.grownBy w' v.ownBlock → K (a.put dst (.slice (some ⟨g, 0, none⟩) (xs.length + 1) cap)) w') : o.wp Tryd.prog a w K Q := by
  obtain ⟨i, hi, hz, hs1, hb1⟩ := info_parts Tryd.infoI
  subst hdst
  refine wp_append_lies w s x 22 ho base 2 i _ 1 8 Tryd.underlying22 hi hz hs1 hb1 rfl (by decide) v xs.length (xs.map (Value.int .i64)) hs hown ⟨b, 0, none⟩ 1 1 [.int .i64 z] hx rfl ?_ ?_ (by omega) (by unfold maxLen; omega) (by omega) hb _ rfl (fun g cap w' h1 h2 _ _ => h g cap w' (by simpa [Gb] using h1) h2)
  · intro j u hj
    match j, hj with
    | 0, hj =>
      simp at hj
      subst hj
      exact hc
  · intro u hu
    simp at hu
    subst hu
    rfl
end
section
variable {P : Program} {ops : Array Oper} {Q : Exit → Act → World → Prop} {md : Region.Mode} {S : World → Prop}
/-- An operation that makes memory, alone to come up. -/
theorem held_mem {i : Nat} {oi : Oper} {fuel : Nat} {listed : Array Bool} {a : Act} {w w' : World} {v : Value} (d : Option Tmp) (hr : Region.ready md ops listed = [i]) (hi : ops[i]? = some oi) (hg : oi.guard = none) (hd : oi.dst = d)
    (h : (execOp a.eval oi).run P w = .ok (.value v) w') (hS : S w') (hh : wpAnyH P md ops Q S fuel (listed.setIfInBounds i true) (a.put d v) w') : wpAnyH P md ops Q S (fuel + 1) listed a w := by
  subst hd
  refine held_call hr hi hg ?_
  unfold Oper.wp
  rw [h]
  exact ⟨hS, hh⟩
end

/-- A complex that the model gathers: its box at block g, its two lists. -/
structure Sd (w1 wr : World) (g : Nat) (p : Int) (v vm : Value) (xs : List Int) (ts : List (List (List Int))) : Prop where
  below : Below w1.heap.size w1 wr
  lo : w1.heap.size ≤ g
  box : wr.rowIs g 30 3 (sel3 (.int .i64 p) v vm)
  dims : Gb w1.heap.size wr v xs
  maps : Gt w1.heap.size wr vm ts
theorem Sd.next {w1 wr wa : World} {g : Nat} {p : Int} {v vm : Value} {xs : List Int} {ts : List (List (List Int))} (h : Sd w1 wr g p v vm xs ts) (hb : Below wr.heap.size wr wa) : Sd w1 wa g p v vm xs ts :=
  ⟨h.below.trans (hb.mono h.below.size), h.lo, h.box.of_block (hb.block _ h.box.lt), h.dims.below hb, h.maps.below hb⟩
end Go.Proofs.YtpchbceohnabnabDoor


namespace Go.Proofs.YtpchbceohnabnabDoor
open Go.RowKit

section
variable {P : Program} {ops : Array Oper} {Q : Exit → Act → World → Prop} {md : Region.Mode} {S : World → Prop}
theorem held_one {i : Nat} {fuel : Nat} {listed : Array Bool} {a : Act} {w : World} (hr : Region.ready md ops listed = [i])
    (h1 : wpOp P ops Q i (fun a' w' => S w' ∧ wpAnyH P md ops Q S fuel (listed.setIfInBounds i true) a' w') a w) : wpAnyH P md ops Q S (fuel + 1) listed a w :=
  wpAnyH_all hr (by simp) (fun k hk => by obtain rfl := List.mem_singleton.1 hk; exact h1)
theorem held_two {i j : Nat} {fuel : Nat} {listed : Array Bool} {a : Act} {w : World} (hr : Region.ready md ops listed = [i, j])
    (h1 : wpOp P ops Q i (fun a' w' => S w' ∧ wpAnyH P md ops Q S fuel (listed.setIfInBounds i true) a' w') a w)
    (h2 : wpOp P ops Q j (fun a' w' => S w' ∧ wpAnyH P md ops Q S fuel (listed.setIfInBounds j true) a' w') a w) : wpAnyH P md ops Q S (fuel + 1) listed a w :=
  wpAnyH_all hr (by simp) (fun k hk => by
    rcases List.mem_cons.1 hk with rfl | hk
    · exact h1
    · obtain rfl := List.mem_singleton.1 hk; exact h2)
theorem op_plain {i : Nat} {oi : Oper} {K : Act → World → Prop} {a : Act} {w : World} (hi : ops[i]? = some oi) (hg : oi.guard = none) (h : oi.wp P a w K Q) : wpOp P ops Q i K a w := by
  unfold wpOp
  rw [hi]
  have hw : Region.wanted oi (yielded ops a.tmps) = true := by unfold Region.wanted; rw [hg]
  simp only [hw, if_true]
  exact Or.inl h
theorem op_enter {i : Nat} {oi : Oper} {K : Act → World → Prop} {a : Act} {w : World} (d : Option Tmp) {f : FuncId} {args : Array Value} (hi : ops[i]? = some oi) (hg : oi.guard = none) (hd : oi.dst = d)
    (h : (execOp a.eval oi).run P w = .ok (.enter f args) w) {R : Ending → World → Prop} (hc : Calls P f args w R) (hR : ∀ v w', R (.returned v) w' → K (a.put d v) w') (h2 : ∀ c w', ¬ R (.panicked c) w') (h3 : ∀ w', ¬ R .outgrown w') : wpOp P ops Q i K a w :=
  op_plain hi hg (wp_enter h hc (fun v w' hv => by rw [hd]; exact hR v w' hv) h2 h3)
theorem op_mem {i : Nat} {oi : Oper} {K : Act → World → Prop} {a : Act} {w w' : World} {v : Value} (d : Option Tmp) (hi : ops[i]? = some oi) (hg : oi.guard = none) (hd : oi.dst = d)
    (h : (execOp a.eval oi).run P w = .ok (.value v) w') (hK : K (a.put d v) w') : wpOp P ops Q i K a w := by
  subst hd
  refine op_plain hi hg ?_
  unfold Oper.wp
  rw [h]
  exact hK
theorem op_row {i : Nat} {oi : Oper} {K : Act → World → Prop} {a : Act} {w : World} (hi : ops[i]? = some oi) (hgd : oi.guard = none) (hd : oi.dst = none) (ty : TypeId) (x y : Operand) (ho : oi.op = .store ty x y)
    (g : Nat) (cells : Array Value) (hx : a.eval x = .pointer (some ⟨g, 0, none⟩)) (hy : a.eval y = .agg cells) (t : TypeId) (old : Array Value) (hg : w.heap[g]? = some (.cells old t (0, 0))) (hs : (P.info? ty).map (·.size) = some cells.size)
    (hold : old.size = cells.size) (h1 : cells.all (·.oneCell') = true) (hK : K a (w.setRow g cells)) : wpOp P ops Q i K a w :=
  op_plain hi hgd (wp_store_row ty x y ho g cells hx hy t old hg hs hold h1 (by rw [hd]; exact hK))
end
/-- A block of cells that may be written. -/
def Rz (W : World) (g : Nat) (t : TypeId) (cs : Array Value) : Prop := W.heap[g]? = some (.cells cs t (0, 0))
theorem Rz.lt {W : World} {g : Nat} {t : TypeId} {cs : Array Value} (h : Rz W g t cs) : g < W.heap.size := (Array.getElem?_eq_some_iff.1 h).1
theorem Rz.next {W W' : World} {g : Nat} {t : TypeId} {cs : Array Value} (h : Rz W g t cs) (hb : Below W.heap.size W W') : Rz W' g t cs := (hb.block g h.lt).trans h
theorem Rz.new (W : World) (t : TypeId) (cs : Array Value) : Rz (W.alloc (.cells cs t)) W.heap.size t cs := by simpa [Rz] using heap_alloc_new W (.cells cs t)
theorem Rz.set {W : World} {g : Nat} {t : TypeId} {cs : Array Value} (h : Rz W g t cs) (x : Array Value) : Rz (W.setRow g x) g t x := setRow_heap W g cs x t _ h
theorem Rz.off {W : World} {g g' : Nat} {t : TypeId} {cs : Array Value} (h : Rz W g t cs) (hne : g ≠ g') (x : Array Value) : Rz (W.setRow g' x) g t cs := (setRow_other W g' g x hne).trans h
theorem Rz.cell {W : World} {g : Nat} {t : TypeId} {cs : Array Value} (h : Rz W g t cs) {i : Nat} {v : Value} (hv : cs[i]? = some v) : W.cell? ⟨g, i, none⟩ = some v := by
  have h' : W.heap[g]? = some (.cells cs t (0, 0)) := h
  simp [World.cell?, h', hv]
end Go.Proofs.YtpchbceohnabnabDoor


namespace Go.Proofs.YtpchbceohnabnabDoor
open Go.RowKit
theorem hload3 (w : World) {b : Nat} {x y z : Value} (c0 : w.cell? ⟨b, 0, none⟩ = some x) (c1 : w.cell? ⟨b, 1, none⟩ = some y) (c2 : w.cell? ⟨b, 2, none⟩ = some z) : (Instr.loadAt 30 (.pointer (some ⟨b, 0, none⟩))).run Tryd.prog w = .ok (.agg #[x, y, z]) w := by go_simp
theorem hload3x {w0 w : World} {b : Nat} {p : Int} {dv mv : Value} {ds : List Int} {ms : List (List (List Int))} (h : Bx w0 w b p dv mv ds ms) : (Instr.loadAt 30 (.pointer (some ⟨b, 0, none⟩))).run Tryd.prog w = .ok (.agg #[.int .i64 p, dv, mv]) w := hload3 w h.c0 h.c1 h.c2
theorem haddA {a b s : Int} (h : IntKind.i64.wrap (a + b) = s) (w : World) : (binOp .add 2 (.int .i64 a) (.int .i64 b)).run Tryd.prog w = .ok (.int .i64 s) w := by go_simp
theorem hsubA {a b s : Int} (h : IntKind.i64.wrap (a - b) = s) (w : World) : (binOp .sub 2 (.int .i64 a) (.int .i64 b)).run Tryd.prog w = .ok (.int .i64 s) w := by go_simp
theorem hmulA {a b s : Int} (h : IntKind.i64.wrap (a * b) = s) (w : World) : (binOp .mul 2 (.int .i64 a) (.int .i64 b)).run Tryd.prog w = .ok (.int .i64 s) w := by go_simp
section
variable {P : Program} {ops : Array Oper} {Q : Exit → Act → World → Prop} {md : Region.Mode} {S : World → Prop}
end
end Go.Proofs.YtpchbceohnabnabDoor


namespace Go.Proofs.YtpchbceohnabnabDoor
open Go.RowKit

/-- A pair of basis vectors, its key's datum. -/
def pv (i a j c : Int) : Value := .agg #[.int .i64 i, .int .i64 a, .int .i64 j, .int .i64 c]
end Go.Proofs.YtpchbceohnabnabDoor


namespace Go.Proofs.YtpchbceohnabnabDoor
open Go.RowKit

set_option maxHeartbeats 1600000 in
theorem identityTable_any (n : Nat) (w : World) (hn : n ≤ 1048576) : Calls Tryd.prog 91 #[.int .i64 n] w (MatR n n (fun j i => if i = j then 1 else 0) w) := by
  go_enter Tryd.func91, Tryd.ntmps91
  go_wp2_with fail
  refine (zeroTable_any n n _ hn hn).mono ?_
  rintro e w1 ⟨rfl, hm⟩
  have HM : Hid (Mat w w1 n n (fun j i => if j < 0 ∧ i = j then 1 else 0)) := Lib.hid (hm.congr (fun j _ i _ => by simp))
  clear hm
  go_wp2
  go_loopw [10] (fun i wr => ∃ (k : Nat), k ≤ n ∧ i = .int .i64 k ∧ Hid (Mat w wr n n (fun j i => if j < k ∧ i = j then 1 else 0))) (fun i _ => n - (intOf i).toNat)
  case atStart => exact ⟨0, Nat.zero_le _, rfl, HM⟩
  case round =>
    clear HM
    obtain ⟨k, hk, rfl, HM⟩ := hrel
    by_cases hlt : k < n
    · have htop := HM.out.top.cell hlt
      have hcel := (HM.out.rows k hlt).cell hlt
      have hfz := (HM.out.rows k hlt).frozen k
      have HS : Hid (Mat w (wr.setCell ⟨w.heap.size + 1 + k, k, none⟩ (.int .i64 1)) n n (fun j i => if j < k + 1 ∧ i = j then 1 else 0)) := Lib.hid ((HM.out.set hlt 1).congr (fun j _ i _ => by
        by_cases e : j = k ∧ i = k
        · rw [if_pos e, if_pos (by omega)]
        · rw [if_neg e]
          by_cases e2 : j < k ∧ i = j
          · rw [if_pos e2, if_pos (by omega)]
          · rw [if_neg e2, if_neg (by omega)]))
      clear HM
      go_wp2
      go_roundw
      case rel => exact ⟨k + 1, by omega, by go_num, HS⟩
      case measure => simp [intOf]; omega
    · have HS : Hid (Mat w wr n n (fun j i => if i = j then 1 else 0)) := Lib.hid (HM.out.congr (fun j hj i _ => by
        by_cases e : i = j
        · rw [if_pos ⟨by omega, e⟩, if_pos e]
        · rw [if_neg (fun h => e h.2), if_neg e]))
      clear HM
      go_wp2
      go_ret
      exact ⟨rfl, HS.out⟩

/-- Row i of the identity. -/
def unitRow (n i : Nat) : List Int := (List.range n).map fun j => if j = i then 1 else 0
theorem unitRow_length (n i : Nat) : (unitRow n i).length = n := by simp [unitRow]
set_option maxHeartbeats 800000 in
theorem l04Unit_any (n i : Nat) (w : World) (hn : n ≤ 1048576) (hi : i < n) : Calls Tryd.prog 61 #[.int .i64 n, .int .i64 i] w (GbR (unitRow n i) w) := by
  have hmk := run_make_row' (P := Tryd.prog) 22 2 (.int .i64 0) 8 Tryd.underlying22 Tryd.infoI rfl .i64 .i64 n (by omega) (by omega)
  have hc : (madeCells #[Value.int .i64 0] n)[i]? = some (.int .i64 0) := by simp [madeCells, hi, Nat.mod_one]
  go_enter Tryd.func61, Tryd.ntmps61
  go_wp2
  go_ret
  refine ⟨_, rfl, gb_row (unit_row w hi) (unitRow_length n i) (fun j hj => ?_) (by unfold maxLen; omega) (Nat.le_refl _), below_alloc1 _ _⟩
  simp only [unitRow, List.getElem_map, List.getElem_range, unitV]

end Go.Proofs.YtpchbceohnabnabDoor


namespace Go.Proofs.YtpchbceohnabnabDoor
open Go.RowKit

theorem Ap.doneW {w wr : World} {ty : TypeId} {p : Int} {c : Nat} {v : List Int} {t : List (List Int)} (ok : ApOk p c v t) (h : Ap w wr ty p c v t v.length 0) : W1 w.heap.size wr.heap.size wr (.slice (some ⟨w.heap.size, 0, none⟩) c c) (apT p c v t) := by
  have hl := apTo_length ok (Nat.le_refl _)
  by_cases h0 : c = 0
  · subst h0
    exact Or.inl ⟨List.eq_nil_of_length_eq_zero hl, _, _, rfl⟩
  · refine Or.inr ⟨w.heap.size, 0, c, by rw [apT, hl], Nat.le_refl _, h.row.lt, by rw [apT, hl]; omega, fun j hj => ⟨_, h.row.cell (by rw [apT, hl] at hj; omega), ?_⟩, fun j _ => h.row.frozen _⟩
    have hj' : j < (apTo p c v t v.length).length := hj
    simp only [apCell, IsI, Nat.not_lt_zero, if_false, apT, Nat.zero_add]
    rw [getD_of_lt _ hj']

def ApW (p : Int) (c : Nat) (v : List Int) (t : List (List Int)) (w : World) (e : Ending) (w' : World) : Prop := ∃ u, e = .returned u ∧ W1 w.heap.size w'.heap.size w' u (apT p c v t) ∧ Below w.heap.size w w'

set_option maxHeartbeats 1600000 in
theorem applyTablew_any (p : Int) (c : Nat) (va vt : Value) (v : List Int) (t : List (List Int)) (w : World) (ok : ApOk p c v t) (ha : L1 0 w va v) (ht : L2 0 w vt t) (hv : v.length ≤ 1048576) (hc : c ≤ 1048576) :
    Calls Tryd.prog 93 #[.int .i64 p, va, vt, .int .i64 c] w (ApW p c v t w) := by
  have hmk := run_make_row' (P := Tryd.prog) 22 2 (.int .i64 0) 8 Tryd.underlying22 Tryd.infoI rfl .i64 .i64 c (by omega) (by omega)
  have hp0 := ok.prime.lo
  have hp1 := ok.prime.hi
  have OK := Lib.hid ok
  clear ok
  refine Sl.cases ha (fun ad cap hx hv' => ?_) (fun b o cap hv' _ hpos hcl => ?_)
  · subst hx hv'
    clear ha ht
    go_enter Tryd.func93, Tryd.ntmps93
    go_wp2
    refine wp_loop_rounds 1 ?_
    rw [rounds_succ]
    go_wp2
    go_ret
    exact ⟨_, rfl, Ap.doneW OK.out (Ap.start _ _ _ _ _ _), (Below.refl _ _).alloc (Nat.le_refl _) _⟩
  · refine Sl.cases ht (fun ad2 cap2 hx2 hv2 => absurd OK.out.len (by subst hx2; simp only [List.length_nil]; omega)) (fun b2 o2 cap2 hv2 _ hpos2 hcl2 => ?_)
    subst hv' hv2
    clear ha ht
    have hlen := OK.out.len
    have HC := Lib.hid hcl
    have HC2 := Lib.hid hcl2
    clear hcl hcl2
    go_enter Tryd.func93, Tryd.ntmps93
    go_wp2
    clear hmk
    go_loopw [18] (fun i wr => ∃ (k : Nat), k ≤ v.length ∧ i = .int .i64 k ∧ Ap w wr 2 p c v t k 0) (fun i _ => v.length - (intOf i).toNat)
    case atStart => exact ⟨0, Nat.zero_le _, rfl, Ap.start _ _ _ _ _ _⟩
    case round =>
      obtain ⟨k, hk, rfl, HA⟩ := hrel
      by_cases hlt2 : k < v.length
      · have hlt3 : k < t.length := by omega
        obtain ⟨u, hu, hr⟩ := HC.out k hlt2
        obtain ⟨u2, hu2, hr2⟩ := HC2.out k hlt3
        have hnum := OK.out.num hlt2
        have hrow := OK.out.row hlt2
        rw [getD_of_lt _ hlt2] at hnum
        rw [getD_of_lt _ hlt3] at hrow
        obtain ⟨f, hf⟩ : ∃ f, f = v[k] := ⟨_, rfl⟩
        obtain ⟨ys, hy⟩ : ∃ ys, ys = t[k] := ⟨_, rfl⟩
        rw [← hf] at hnum
        rw [← hy] at hrow hr2
        obtain ⟨hf0, hf1⟩ := hnum
        have hu' : wr.cell? ⟨b, o + k, none⟩ = some (.int .i64 f) := by rw [HA.below.cell (p := ⟨b, o + k, none⟩) (cell_lt hu), hu, hr, hf]
        have hu2' : wr.cell? ⟨b2, o2 + k, none⟩ = some u2 := by rw [HA.below.cell (p := ⟨b2, o2 + k, none⟩) (cell_lt hu2), hu2]
        have HF := Lib.hid hf
        have HY := Lib.hid hy
        have HROW := Lib.hid hrow
        have HA' := Lib.hid HA
        clear hf hy hrow HA hu hr hu2
        refine Sl.cases hr2 (fun ad3 cap3 hx3 hv3 => ?_) (fun b3 o3 cap3 hv3 _ hpos3 hcl3 => ?_)
        · subst hv3
          have hc0 : Hid (c = 0) := Lib.hid (by have := HROW.out.1; rw [hx3] at this; simpa using this.symm)
          clear hx3 hr2
          go_wp2
          refine wp_loop_rounds 1 ?_
          rw [rounds_succ]
          go_wp2
          go_roundw
          case rel => exact ⟨k + 1, by omega, by go_num, Ap.next (by rw [hc0.out]; have := HA'.out; rwa [hc0.out] at this)⟩
          case measure => simp [intOf]; omega
        · subst hv3
          have hyc : ys.length = c := by have := HROW.out.1; omega
          have HYC := Lib.hid hyc
          have HC3 := Lib.hid hcl3
          clear hyc hr2 hcl3
          obtain ⟨wo, hwo⟩ : ∃ wo : World, wo = wr := ⟨_, rfl⟩
          have HWO := Lib.hid hwo
          clear hwo
          go_wp2
          go_loopw [28] (fun i wr => ∃ (q : Nat), q ≤ ys.length ∧ i = .int .i64 q ∧ Ap w wr 2 p c v t k q) (fun i _ => ys.length - (intOf i).toNat)
          case atStart => exact ⟨0, Nat.zero_le _, rfl, HA'.out⟩
          case round =>
            obtain ⟨q, hq, rfl, HB⟩ := hrel
            by_cases hlt4 : q < ys.length
            · have hqc : q < c := by have := HYC.out; omega
              obtain ⟨u3, hu3, hr3⟩ := HC3.out q hlt4
              have hx := HROW.out.2 _ (List.getElem_mem hlt4)
              obtain ⟨x, hxx⟩ : ∃ x, x = ys[q] := ⟨_, rfl⟩
              obtain ⟨a, haa⟩ : ∃ a, a = (apTo p c v t k).getD q 0 := ⟨_, rfl⟩
              have hab := apTo_mod OK.out (Nat.le_of_lt hlt2) q
              have hac := HB.cell hqc
              have hfz := HB.row.frozen q
              rw [← haa] at hab hac
              rw [← hxx] at hx
              obtain ⟨hx0, hx1⟩ := hx
              obtain ⟨ha0, ha1⟩ := hab
              have hu3' : wr.cell? ⟨b3, o3 + q, none⟩ = some (.int .i64 x) := by rw [HB.below.cell (p := ⟨b3, o3 + q, none⟩) (cell_lt hu3), hu3, hr3, hxx]
              have m0 : 0 ≤ f * x := Int.mul_nonneg hf0 hx0
              have m1 : f * x ≤ 36 := Int.le_trans (Int.mul_le_mul (show f ≤ 6 by omega) (show x ≤ 6 by omega) hx0 (by omega)) (by omega)
              have HS := Lib.hid (HB.step OK.out hlt2 hqc (x := (a + f * x) % p) (by rw [haa, HF.out, hxx, getD_of_lt _ hlt2, getD_of_lt _ hlt3, ← HY.out, getD_of_lt _ hlt4]))
              clear HB hu3 hr3 haa hxx
              go_wp2
              go_roundw
              case rel => exact ⟨q + 1, by omega, by go_num, HS.out⟩
              case measure => simp [intOf]; omega
            · have HB' := Lib.hid HB
              have hqc : Hid (q = c) := Lib.hid (by have := HYC.out; omega)
              clear HB
              go_wp2
              go_roundw
              case rel => exact ⟨k + 1, by omega, by go_num, Ap.next (by have := HB'.out; rwa [hqc.out] at this)⟩
              case measure => simp [intOf]; omega
      · have hkk : k = v.length := by omega
        subst hkk
        have HA' := Lib.hid HA
        clear HA
        go_wp2
        go_ret
        exact ⟨_, rfl, Ap.doneW OK.out HA'.out, HA'.out.below⟩

/-- The differential of a vector of the degree n. -/
def difOf (p : Int) (ds : List Int) (ms : List (List (List Int))) (n : Int) (vs : List Int) : List Int := if n = 0 then [] else apT p (ds.getD (n.toNat - 1) 0).toNat vs (ms.getD (n.toNat - 1) [])
def InDeg (ds : List Int) (n : Int) : Prop := 0 ≤ n ∧ n ≤ (ds.length : Int) - 1
/-- What DifferentialOf answers: a list and a code. -/
structure DifOut (p : Int) (ds : List Int) (ms : List (List (List Int))) (n : Int) (vs out : List Int) (c : Int) : Prop where
  bad : ¬ IsCx p ds ms → out = [] ∧ c = 1
  far : IsCx p ds ms → ¬ InDeg ds n → out = [] ∧ c = 2
  row : IsCx p ds ms → InDeg ds n → ¬ RowOk p (ds.getD n.toNat 0) vs → out = [] ∧ c = 2
  good : IsCx p ds ms → InDeg ds n → RowOk p (ds.getD n.toNat 0) vs → out = difOf p ds ms n vs ∧ c = 0
theorem DifOut.unique {p : Int} {ds : List Int} {ms : List (List (List Int))} {n : Int} {vs o1 o2 : List Int} {c1 c2 : Int} (h1 : DifOut p ds ms n vs o1 c1) (h2 : DifOut p ds ms n vs o2 c2) : o1 = o2 ∧ c1 = c2 := by
  by_cases a : IsCx p ds ms
  · by_cases b : InDeg ds n
    · by_cases c : RowOk p (ds.getD n.toNat 0) vs
      · have x := h1.good a b c
        have y := h2.good a b c
        exact ⟨x.1.trans y.1.symm, x.2.trans y.2.symm⟩
      · have x := h1.row a b c
        have y := h2.row a b c
        exact ⟨x.1.trans y.1.symm, x.2.trans y.2.symm⟩
    · have x := h1.far a b
      have y := h2.far a b
      exact ⟨x.1.trans y.1.symm, x.2.trans y.2.symm⟩
  · have x := h1.bad a
    have y := h2.bad a
    exact ⟨x.1.trans y.1.symm, x.2.trans y.2.symm⟩
theorem apT_length' {p : Int} {c : Nat} {v : List Int} {t : List (List Int)} (ok : ApOk p c v t) : (apT p c v t).length = c := apTo_length ok (Nat.le_refl _)
end Go.Proofs.YtpchbceohnabnabDoor


namespace Go.Proofs.YtpchbceohnabnabDoor
open Go.RowKit

theorem endCode_of_pr {p p2 : Int} {ds : List Int} {ms : List (List (List Int))} {ds2 : List Int} {ms2 : List (List (List Int))} (h : prCode p p2 ds ms ds2 ms2 ≠ 0) : endCode p p2 ds ms ds2 ms2 = prCode p p2 ds ms ds2 ms2 := by
  unfold prCode at h ⊢
  unfold endCode
  by_cases h1 : IsCx p ds ms ∧ IsCx p2 ds2 ms2
  · have h1' : ¬ ¬ (IsCx p ds ms ∧ IsCx p2 ds2 ms2) := fun k => k h1
    simp only [if_neg h1'] at h ⊢
    by_cases h2 : p = p2
    · exact absurd (if_pos h2) h
    · rw [if_neg (fun k => h2 k.1), if_neg h2]
  · rw [if_pos h1, if_pos h1]

set_option maxHeartbeats 6400000 in
set_option maxRecDepth 100000 in
theorem checkEnds2_any (p p2 : Int) (b : Nat) (dv mv dv2 mv2 : Value) (ds : List Int) (ms : List (List (List Int))) (ds2 : List Int) (ms2 : List (List (List Int))) (w : World) (hr : Row2 w b p p2 dv mv dv2 mv2) (h : Cx 0 w dv mv ds ms) (h2 : Cx 0 w dv2 mv2 ds2 ms2) (hd : ds.length ≤ 1048576) (hm : Bd3 1048576 ms) (hd2 : ds2.length ≤ 1048576) (hm2 : Bd3 1048576 ms2) :
    Calls Tryd.prog 71 #[.slice (some ⟨b, 0, none⟩) 2 2] w (BR (.int .i64 (endCode p p2 ds ms ds2 ms2)) w) := by
  obtain ⟨ad, cap, rfl⟩ := Sl.shape h.dims
  obtain ⟨am, capm, rfl⟩ := Sl.shape h.maps
  obtain ⟨ad2, cap2, rfl⟩ := Sl.shape h2.dims
  obtain ⟨am2, capm2, rfl⟩ := Sl.shape h2.maps
  have HROW := Lib.hid hr
  have HCK := Lib.hid (checkPrimes2_any p p2 b _ _ _ _ ds ms ds2 ms2 w hr h h2 hd hm hd2 hm2)
  obtain ⟨ec, hec⟩ : ∃ ec, ec = prCode p p2 ds ms ds2 ms2 := ⟨_, rfl⟩
  rw [← hec] at HCK
  have HEC := Lib.hid hec
  clear h h2 hm hm2 hr hec
  by_cases h0 : ec = 0
  · subst h0
    have HE := Lib.hid (prCode_zero HEC.out.symm)
    go_enter Tryd.func71, Tryd.ntmps71
    go_wp2_with fail
    refine HCK.out.mono ?_
    rintro e w2 ⟨rfl, hb2⟩
    have HB2 := Lib.hid hb2
    have HR2 := Lib.hid (HROW.out.next hb2)
    have hs2 : w.heap.size ≤ w2.heap.size := HB2.out.size
    have hbl : b < w.heap.size := cell_lt HROW.out.c0
    have hbn : b ≠ w2.heap.size := by omega
    clear hb2 HCK
    have c0 := HR2.out.c0
    have c1 := HR2.out.c1
    have c2 := HR2.out.c2
    have d0 := HR2.out.d0
    have d1 := HR2.out.d1
    have d2 := HR2.out.d2
    have hl0 : (((ds.length : Nat) : Int) != ((ds.length : Nat) : Int)) = false := by simp
    go_wp2
    refine wp_loop_rounds 3 ?_
    rw [rounds_succ]
    go_wp2
    obtain ⟨w3, hw3⟩ : ∃ w3, w3 = w2.alloc (.cells #[.int .i64 p, .slice ad ds.length cap, .slice am ms.length capm] 30) := ⟨_, rfl⟩
    have hb3 : Below w2.heap.size w2 w3 := by rw [hw3]; exact below_alloc1 _ _
    have e1 : w3.cell? ⟨w2.heap.size, 1, none⟩ = some (.slice ad ds.length cap) := by rw [hw3]; simp
    have HR3 := Lib.hid (HR2.out.next hb3)
    have HB3 := Lib.hid (HB2.out.trans (hb3.mono hs2))
    rw [← hw3]
    clear hw3 hb3 c0 c1 c2 d0 d1 d2 hbn hbl
    have c1 := HR3.out.c1
    go_quiet (fail)
    go_wp2
    rw [rounds_succ]
    have HB4 := Lib.hid (HB3.out.trans ((drewN_below w3 nq).mono HB3.out.size))
    have HR4 := Lib.hid (HR3.out.next (drewN_below w3 nq))
    generalize w3.drewN nq = w4 at *
    clear c1 e1 hs2 HR3 HB3
    have d0 := HR4.out.d0
    have d1 := HR4.out.d1
    have d2 := HR4.out.d2
    obtain ⟨w5, hw5⟩ : ∃ w5, w5 = w4.alloc (.cells #[.int .i64 p2, .slice ad2 ds2.length cap2, .slice am2 ms2.length capm2] 30) := ⟨_, rfl⟩
    have hb5 : Below w4.heap.size w4 w5 := by rw [hw5]; exact below_alloc1 _ _
    have e1 : w5.cell? ⟨w4.heap.size, 1, none⟩ = some (.slice ad2 ds2.length cap2) := by rw [hw5]; simp
    have HR5 := Lib.hid (HR4.out.next hb5)
    have HB5 := Lib.hid (HB4.out.trans (hb5.mono HB4.out.size))
    clear hb5
    go_wp2
    rw [← hw5]
    clear hw5 d0 d1 d2
    have c1 := HR5.out.c1
    by_cases hll : ds.length = ds2.length
    · have HL := Lib.hid hll
      have hl1 : (((ds2.length : Nat) : Int) != ((ds.length : Nat) : Int)) = false := by simp [hll]
      clear hll
      go_quiet (fail)
      go_wp2
      rw [rounds_succ]
      go_wp2
      go_ret
      refine ⟨ret_int (EndOk.code ⟨HE.out.x, HE.out.y, HE.out.prime, HL.out⟩).symm, ?_⟩
      exact HB5.out.trans ((drewN_below w5 nq).mono HB5.out.size)
    · have HL := Lib.hid hll
      have hl1 : (((ds2.length : Nat) : Int) != ((ds.length : Nat) : Int)) = true := by
        have : ¬ ((ds2.length : Int) = (ds.length : Int)) := by omega
        simpa using this
      clear hll
      go_quiet (fail)
      go_wp2
      go_ret
      refine ⟨ret_int ?_, ?_⟩
      · unfold endCode
        rw [if_neg (fun k => k ⟨HE.out.x, HE.out.y⟩), if_neg (fun k => HL.out k.2)]
      · exact HB5.out.trans ((drewN_below w5 nq).mono HB5.out.size)
  · have hne2 : (ec != 0) = true := by simp [h0]
    have hne3 : (ec == 0) = false := by simp [h0]
    have HNE := Lib.hid h0
    clear h0
    go_enter Tryd.func71, Tryd.ntmps71
    go_wp2_with fail
    refine HCK.out.mono ?_
    rintro e w2 ⟨rfl, hb2⟩
    have HB2 := Lib.hid hb2
    clear hb2 HCK
    go_wp2
    go_ret
    refine ⟨ret_int ?_, HB2.out⟩
    have hn := HNE.out
    rw [HEC.out] at hn ⊢
    exact (endCode_of_pr hn).symm
end Go.Proofs.YtpchbceohnabnabDoor


namespace Go.Proofs.YtpchbceohnabnabDoor
open Go.RowKit

/-- Tables are a family of the shift s. -/
def FamOk (p : Int) (ds ds2 : List Int) (s : Int) (fs : List (List (List Int))) : Prop := fs.length = ds.length ∧ ∀ n, n < fs.length → TabOk p (ds.getD n 0) (dimZ ds2 ((n : Int) + s)) (fs.getD n [])

set_option maxHeartbeats 3200000 in
set_option maxRecDepth 100000 in
theorem isFamily_any (p p2 s : Int) (dv mv dv2 mv2 fv : Value) (ds : List Int) (ms : List (List (List Int))) (ds2 : List Int) (ms2 : List (List (List Int))) (fs : List (List (List Int))) (w : World) (h : Cx 0 w dv mv ds ms) (h2 : Cx 0 w dv2 mv2 ds2 ms2) (hf : L3 0 w fv fs) (hcx : IsCx p ds ms) (hcy : IsCx p2 ds2 ms2) (hs : -1 ≤ s ∧ s ≤ 1) (hm : Bd3 1048576 fs) :
    Calls Tryd.prog 63 #[.agg #[.int .i64 p, dv, mv], .agg #[.int .i64 p2, dv2, mv2], .int .i64 s, fv] w (BB (FamOk p ds ds2 s fs) w) := by
  obtain ⟨ad, cap, rfl⟩ := Sl.shape h.dims
  obtain ⟨am, capm, rfl⟩ := Sl.shape h.maps
  obtain ⟨ad2, cap2, rfl⟩ := Sl.shape h2.dims
  obtain ⟨am2, capm2, rfl⟩ := Sl.shape h2.maps
  obtain ⟨af, cf, rfl⟩ := Sl.shape hf
  obtain ⟨k1, k2⟩ := bx_two (p := p) (p2 := p2) 30 h h2
  have HX0 := Lib.hid k1
  have HY0 := Lib.hid k2
  obtain ⟨w1, hw1⟩ : ∃ w1, w1 = ((w.alloc (.cells #[.int .i64 p, .slice ad ds.length cap, .slice am ms.length capm] 30)).alloc (.cells #[.int .i64 p2, .slice ad2 ds2.length cap2, .slice am2 ms2.length capm2] 30)) := ⟨_, rfl⟩
  rw [← hw1] at HX0 HY0
  have hb01 : Below w.heap.size w w1 := HX0.out.below
  have HF0 := Lib.hid (hf.below hb01)
  have HNX : Hid (∀ W, Below w1.heap.size w1 W → Bx w W w.heap.size p (.slice ad ds.length cap) (.slice am ms.length capm) ds ms) := Lib.hid (fun W h => HX0.out.next h)
  have HNY : Hid (∀ W, Below w1.heap.size w1 W → Bx w W (w.heap.size + 1) p2 (.slice ad2 ds2.length cap2) (.slice am2 ms2.length capm2) ds2 ms2) := Lib.hid (fun W h => HY0.out.next h)
  have HCX := Lib.hid hcx
  have HCY := Lib.hid hcy
  have HM := Lib.hid hm
  have hl6 := hcx.1.len1
  have hl7 := hcy.1.len1
  have hml : fs.length ≤ 1048576 := hm.1
  obtain ⟨hs0, hs1⟩ := hs
  have c1 := HX0.out.c1
  clear h h2 hf k1 k2 hcx hcy hm hb01
  go_enter Tryd.func63, Tryd.ntmps63
  go_upto_region 1 with fail
  rw [← hw1]
  clear hw1
  by_cases hll : fs.length = ds.length
  · have HLL := Lib.hid hll
    have hl1 : (((fs.length : Nat) : Int) != ((ds.length : Nat) : Int)) = false := by simp [hll]
    have hfd : fs.length ≤ 6 := by omega
    clear hll
    go_wp2
    clear c1 hl1
    go_loopw [19] (fun i wr => ∃ (k : Nat), k ≤ fs.length ∧ i = .int .i64 k ∧ Hid (Below w1.heap.size w1 wr) ∧ Hid (∀ j, j < k → TabOk p (ds.getD j 0) (dimZ ds2 ((j : Int) + s)) (fs.getD j []))) (fun i _ => fs.length - (intOf i).toNat)
    case atStart => exact ⟨0, Nat.zero_le _, rfl, Lib.hid (Below.refl _ _), Lib.hid (fun j hj => absurd hj (Nat.not_lt_zero _))⟩
    case round =>
      obtain ⟨k, hk, rfl, HB, HD⟩ := hrel
      obtain ⟨wx, hwx⟩ : ∃ wx : World, wx = wr := ⟨_, rfl⟩
      subst hwx
      by_cases hlt : k < fs.length
      · have hkd : k < ds.length := by have := HLL.out; omega
        have hX := HNX.out _ HB.out
        have hY := HNY.out _ HB.out
        have hdim := HCX.out.1.dim k
        obtain ⟨c, hc⟩ := Int.eq_ofNat_of_zero_le hdim.1
        have hz := dimZ_b HCY.out ((k : Int) + s)
        obtain ⟨c2, hc2⟩ := Int.eq_ofNat_of_zero_le hz.1
        refine Sl.cases hX.cx.dims (fun _ _ hx _ => absurd hkd (by simp [hx])) (fun bd od capd hvd _ _ hcl => ?_)
        injection hvd with e1 e2 e3
        clear e2
        subst e1 e3
        obtain ⟨u, hu, hru⟩ := hcl k hkd
        have hu2 : wx.cell? ⟨bd, od + k, none⟩ = some (.int .i64 (c : Int)) := by rw [hu, hru, ← hc, getD_of_lt _ hkd]
        refine Sl.cases (HF0.out.below HB.out) (fun _ _ hx _ => absurd hlt (by simp [hx])) (fun bf of cf2 hvf _ _ hcf => ?_)
        injection hvf with e1 e2 e3
        clear e2
        subst e1 e3
        obtain ⟨ut, hut, hrt⟩ := hcf k hlt
        obtain ⟨t, ht⟩ : ∃ t, t = fs[k] := ⟨_, rfl⟩
        rw [← ht] at hrt
        have HTE : Hid (fs.getD k [] = t) := Lib.hid (by rw [getD_of_lt _ hlt, ht])
        have HTM : Hid (Bd2 1048576 t) := Lib.hid (by rw [ht]; exact HM.out.2 _ (List.getElem_mem hlt))
        have HRT := Lib.hid hrt
        have HDA : Hid (∀ W, Below wx.heap.size wx W → Calls Tryd.prog 76 #[.agg #[.int .i64 p2, .slice ad2 ds2.length cap2, .slice am2 ms2.length capm2], .int .i64 ((k : Int) + s)] W (BR (.int .i64 (c2 : Int)) W)) := Lib.hid (fun W h => by
          have := dimAt_any p2 ((k : Int) + s) _ _ ds2 ms2 W (hY.next h).cx (by omega)
          rwa [hc2] at this)
        have HTC : Hid (dimZ ds2 ((k : Int) + s) = (c2 : Int)) := Lib.hid hc2
        have HDC : Hid (ds.getD k 0 = (c : Int)) := Lib.hid hc
        have c0 := hX.c0
        have c1 := hX.c1
        have d0 := hY.c0
        have d1 := hY.c1
        have d2 := hY.c2
        have HSP : Hid (∀ W, Below wx.heap.size wx W → W.cell? ⟨w.heap.size, 0, none⟩ = some (.int .i64 p) ∧ W.cell? ⟨w.heap.size, 1, none⟩ = some (.slice (some ⟨bd, od, none⟩) ds.length cap) ∧ W.cell? ⟨bd, od + k, none⟩ = some (.int .i64 (c : Int)) ∧ W.cell? ⟨w.heap.size + 1, 0, none⟩ = some (.int .i64 p2) ∧ W.cell? ⟨w.heap.size + 1, 1, none⟩ = some (.slice ad2 ds2.length cap2) ∧ W.cell? ⟨w.heap.size + 1, 2, none⟩ = some (.slice am2 ms2.length capm2) ∧ Hid (Below wx.heap.size wx W)) := Lib.hid (fun W h => ⟨later h (Nat.le_refl _) c0, later h (Nat.le_refl _) c1, later h (Nat.le_refl _) hu2, later h (Nat.le_refl _) d0, later h (Nat.le_refl _) d1, later h (Nat.le_refl _) d2, Lib.hid h⟩)
        have HDD : Hid (Below wx.heap.size wx wx.drew) := Lib.hid (Below.refl _ _).drew
        have hwk : IntKind.i64.wrap ((k : Int) + s) = (k : Int) + s := IntWalk.i64_in _ (by omega)
        have hk0 : (0 : Int) ≤ (k : Int) := by omega
        have hk1 : (k : Int) < (ds.length : Int) := by omega
        by_cases hT : TabOk p (c : Int) (c2 : Int) t
        · have HTB : Hid (∀ W, Below wx.heap.size wx W → Calls Tryd.prog 89 #[.int .i64 p, ut, .int .i64 (c : Int), .int .i64 (c2 : Int)] W (QW (.bool true) W)) := Lib.hid (fun W h => bw_yes (isTable_any p c c2 ut t W HCX.out.1.prime (HRT.out.below h) HTM.out) hT)
          have HT := Lib.hid hT
          clear hu hru hcl hX hY hdim hc hz hc2 hcf ht hrt hT
          go_wp2
          go_region_held3 (fun w' => w'.cell? ⟨w.heap.size, 0, none⟩ = some (.int .i64 p) ∧ w'.cell? ⟨w.heap.size, 1, none⟩ = some (.slice (some ⟨bd, od, none⟩) ds.length cap) ∧ w'.cell? ⟨bd, od + k, none⟩ = some (.int .i64 (c : Int)) ∧ w'.cell? ⟨w.heap.size + 1, 0, none⟩ = some (.int .i64 p2) ∧ w'.cell? ⟨w.heap.size + 1, 1, none⟩ = some (.slice ad2 ds2.length cap2) ∧ w'.cell? ⟨w.heap.size + 1, 2, none⟩ = some (.slice am2 ms2.length capm2) ∧ Hid (Below wx.heap.size wx w'))
            (first | exact HSP.out _ (Below.refl _ _) | exact HSP.out _ HDD.out | exact HSP.out _ HB4.out | go_keep)
            (first
              | (go_at_call 76; (with_reducible refine (HDA.out _ HDD.out).mono ?_); rintro e w4 ⟨rfl, hb4⟩; have HB4 : Hid (Below wx.heap.size wx w4) := Lib.hid (HDD.out.trans hb4); clear hb4)
              | (go_at_call 89; (with_reducible refine (HTB.out _ HB4.out).mono ?_); rintro e w5 ⟨rfl, rfl⟩))
          have HB5 := Lib.hid (HB.out.trans (HB4.out.mono HB.out.size))
          have HD5 : Hid (∀ j, j < k + 1 → TabOk p (ds.getD j 0) (dimZ ds2 ((j : Int) + s)) (fs.getD j [])) := Lib.hid (fun j hj => by
            by_cases e : j = k
            · subst e; rw [HDC.out, HTC.out, HTE.out]; exact HT.out
            · exact HD.out j (by omega))
          clear hwk hk0 hk1 c0 c1 d0 d1 d2 hu2 HSP HDA HTB hut HD
          go_wp2
          go_roundw
          case rel => exact ⟨k + 1, by omega, by go_num, HB5, HD5⟩
          case measure => simp [intOf]; omega
        · have HTB : Hid (∀ W, Below wx.heap.size wx W → Calls Tryd.prog 89 #[.int .i64 p, ut, .int .i64 (c : Int), .int .i64 (c2 : Int)] W (QW (.bool false) W)) := Lib.hid (fun W h => bw_no (isTable_any p c c2 ut t W HCX.out.1.prime (HRT.out.below h) HTM.out) hT)
          have HT := Lib.hid hT
          clear hu hru hcl hX hY hdim hc hz hc2 hcf ht hrt hT
          go_wp2
          go_region_held3 (fun w' => w'.cell? ⟨w.heap.size, 0, none⟩ = some (.int .i64 p) ∧ w'.cell? ⟨w.heap.size, 1, none⟩ = some (.slice (some ⟨bd, od, none⟩) ds.length cap) ∧ w'.cell? ⟨bd, od + k, none⟩ = some (.int .i64 (c : Int)) ∧ w'.cell? ⟨w.heap.size + 1, 0, none⟩ = some (.int .i64 p2) ∧ w'.cell? ⟨w.heap.size + 1, 1, none⟩ = some (.slice ad2 ds2.length cap2) ∧ w'.cell? ⟨w.heap.size + 1, 2, none⟩ = some (.slice am2 ms2.length capm2) ∧ Hid (Below wx.heap.size wx w'))
            (first | exact HSP.out _ (Below.refl _ _) | exact HSP.out _ HDD.out | exact HSP.out _ HB4.out | go_keep)
            (first
              | (go_at_call 76; (with_reducible refine (HDA.out _ HDD.out).mono ?_); rintro e w4 ⟨rfl, hb4⟩; have HB4 : Hid (Below wx.heap.size wx w4) := Lib.hid (HDD.out.trans hb4); clear hb4)
              | (go_at_call 89; (with_reducible refine (HTB.out _ HB4.out).mono ?_); rintro e w5 ⟨rfl, rfl⟩))
          have HB5 := Lib.hid (HNX.out _ (HB.out.trans (HB4.out.mono HB.out.size))).below
          clear hwk hk0 hk1 c0 c1 d0 d1 d2 hu2 HSP HDA HTB hut HD
          go_wp2
          go_ret
          exact bb_false HB5.out (fun hh => HT.out (by have := hh.2 k hlt; rwa [HDC.out, HTC.out, HTE.out] at this))
      · have HXX := Lib.hid (HNX.out _ HB.out).below
        go_wp2
        go_ret
        exact bb_true HXX.out ⟨HLL.out, fun n hn => HD.out n (by omega)⟩
  · have HLL := Lib.hid hll
    have hl1 : (((fs.length : Nat) : Int) != ((ds.length : Nat) : Int)) = true := by
      have : ¬ ((fs.length : Int) = (ds.length : Int)) := by omega
      simpa using this
    clear hll
    go_wp2
    go_ret
    exact bb_false HX0.out.below (fun hh => HLL.out hh.1)

open Classical in
/-- The code of two complexes and one family of the shift s. -/
noncomputable def famCode (p p2 s : Int) (ds : List Int) (ms : List (List (List Int))) (ds2 : List Int) (ms2 : List (List (List Int))) (fs : List (List (List Int))) : Int :=
  if endCode p p2 ds ms ds2 ms2 = 0 then (if FamOk p ds ds2 s fs then 0 else 2) else endCode p p2 ds ms ds2 ms2
theorem famCode_zero {p p2 s : Int} {ds : List Int} {ms : List (List (List Int))} {ds2 : List Int} {ms2 : List (List (List Int))} {fs : List (List (List Int))} (h : famCode p p2 s ds ms ds2 ms2 fs = 0) : EndOk p p2 ds ms ds2 ms2 ∧ FamOk p ds ds2 s fs := by
  unfold famCode at h
  by_cases h0 : endCode p p2 ds ms ds2 ms2 = 0
  · rw [if_pos h0] at h
    by_cases h1 : FamOk p ds ds2 s fs
    · exact ⟨endCode_zero h0, h1⟩
    · rw [if_neg h1] at h
      cases h
  · rw [if_neg h0] at h
    exact absurd h h0

end Go.Proofs.YtpchbceohnabnabDoor

