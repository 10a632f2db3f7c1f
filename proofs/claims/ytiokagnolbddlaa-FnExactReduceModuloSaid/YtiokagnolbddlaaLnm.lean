/-
  Lens complexes: what is asked, and how one that is gathered lies in memory.
-/
import Derived.Test.YtiokagnolbddlaaWhr
import Derived.Test.YtiokagnolbddlaaSdp
namespace Go.Proofs.Ytiokagnolbddlaa
open Go.RowKit

def lensM (n : Int) (k : Nat) : List (List (List Int)) := (List.range k).map fun j => [[((j % 2 : Nat) : Int) * n]]
def lensD (k : Nat) : List Int := List.replicate (k + 1) 1
def lensO (n : Int) (k : Nat) : WhO := (lensD k, lensM n k)
theorem lensM_length (n : Int) (k : Nat) : (lensM n k).length = k := by simp [lensM]
theorem lensM_at {n : Int} {k j : Nat} (h : j < (lensM n k).length) : (lensM n k)[j] = [[((j % 2 : Nat) : Int) * n]] := by simp [lensM]
theorem lensM_succ (n : Int) (k : Nat) : lensM n (k + 1) = lensM n k ++ [[[((k % 2 : Nat) : Int) * n]]] := by simp [lensM, List.range_succ]
theorem lensD_length (k : Nat) : (lensD k).length = k + 1 := by simp [lensD]
theorem lensD_succ (k : Nat) : lensD (k + 1) = lensD k ++ [1] := by simp [lensD, List.replicate_succ']
open Classical in
noncomputable def lensCode (n k : Int) : Int := if (0 ≤ n ∧ n ≤ 9) ∧ (0 ≤ k ∧ k ≤ 5) then 0 else 2
theorem lensCode_yes {n k : Int} (h : (0 ≤ n ∧ n ≤ 9) ∧ (0 ≤ k ∧ k ≤ 5)) : lensCode n k = 0 := if_pos h
theorem lensCode_no {n k : Int} (h : ¬ ((0 ≤ n ∧ n ≤ 9) ∧ (0 ≤ k ∧ k ≤ 5))) : lensCode n k = 2 := if_neg h
theorem lensCode_zero {n k : Int} (h : lensCode n k = 0) : (0 ≤ n ∧ n ≤ 9) ∧ (0 ≤ k ∧ k ≤ 5) := by
  by_cases hc : (0 ≤ n ∧ n ≤ 9) ∧ (0 ≤ k ∧ k ≤ 5)
  · exact hc
  · rw [lensCode_no hc] at h
    cases h
theorem lens_bd {n : Int} {k : Nat} (h : k ≤ 5) : WhBo (lensO n k) :=
  ⟨by show (lensD k).length ≤ _; rw [lensD_length]; omega, by show (lensM n k).length ≤ _; rw [lensM_length]; omega, fun x hx => by
    have hx : x ∈ lensM n k := hx
    obtain ⟨j, hj, rfl⟩ := List.getElem_of_mem hx
    rw [lensM_at]
    simp [Bd2, Bd1]⟩
def RsWh (W : World) (u : Value) (o : WhO) : Prop := ∃ ad cd am cm, u = .agg #[.slice ad o.1.length cd, .slice am o.2.length cm] ∧ Wh 0 W (.slice ad o.1.length cd) (.slice am o.2.length cm) o.1 o.2
theorem RwWh.rs {lo hi : Nat} {W : World} {u : Value} {o : WhO} (h : RwWh lo hi W u o) : RsWh W u o := by
  obtain ⟨ad, cd, am, cm, hu, hr⟩ := h
  exact ⟨ad, cd, am, cm, hu, hr.cx⟩

def sel2 (x y : Value) : Nat → Value := fun i => if i = 0 then x else y
theorem row_off {w : World} {a g k k' : Nat} {t t' : TypeId} {f f' : Nat → Value} (hr : w.rowIs a t k f) (hg : w.rowIs g t' k' f') (ht : t ≠ t') (i : Nat) (x : Value) : (w.setCell ⟨g, i, none⟩ x).rowIs a t k f := by
  refine hr.of_block (Below.heap_setCell w _ x a ?_)
  intro e
  have e2 : a = g := e
  subst e2
  obtain ⟨c, hc, _⟩ := hr
  obtain ⟨d, hd, _⟩ := hg
  rw [hc] at hd
  simp at hd
  exact ht hd.2
theorem row_one (w : World) (v : Value) (t : TypeId) : (w.alloc (.cells #[v] t)).rowIs w.heap.size t 1 (fun _ => v) :=
  ⟨#[v], heap_alloc_new w _, rfl, fun i hi => by
    obtain rfl : i = 0 := by omega
    rfl⟩
theorem whT : 25 ≠ 2 ∧ 25 ≠ 22 ∧ 25 ≠ 44 := by decide

/-- A table of one number. -/
structure LnT (w : World) (lo : Nat) (u : Value) (a b : Nat) (z : Int) : Prop where
  val : u = .slice (some ⟨a, 0, none⟩) 1 1
  lo1 : lo ≤ a
  lo2 : lo ≤ b
  top : w.rowIs a 22 1 (fun _ => .slice (some ⟨b, 0, none⟩) 1 1)
  row : w.rowIs b 2 1 (fun _ => .int .i64 z)
/-- A lens complex that is being gathered: its box at block g, its two lists. -/
structure Ln (w1 wr : World) (g : Nat) (n : Int) (qd q : Nat) (v vm : Value) : Prop where
  below : Below w1.heap.size w1 wr
  lo : w1.heap.size ≤ g
  box : wr.rowIs g 25 2 (sel2 v vm)
  dims : Gb w1.heap.size wr v (lensD qd)
  maps : ∃ (vs : List Value) (a b : Nat → Nat), wr.ownsRow w1.heap.size 44 1 vm q vs ∧ (∀ j (h : j < vs.length), LnT wr w1.heap.size vs[j] (a j) (b j) (((j % 2 : Nat) : Int) * n)) ∧ (∀ i j, i < j → j < q → b i < b j) ∧ ∀ j, j < q → v.ownBlock ≠ some (b j)
theorem LnT.next {w w' : World} {lo : Nat} {u : Value} {a b : Nat} {z : Int} (h : LnT w lo u a b z) (hb : Below w.heap.size w w') : LnT w' lo u a b z :=
  ⟨h.val, h.lo1, h.lo2, h.top.of_block (hb.block _ h.top.lt), h.row.of_block (hb.block _ h.row.lt)⟩
theorem Ln.next {w1 wr wa : World} {g : Nat} {n : Int} {qd q : Nat} {v vm : Value} (h : Ln w1 wr g n qd q v vm) (hb : Below wr.heap.size wr wa) : Ln w1 wa g n qd q v vm := by
  obtain ⟨vs, a, b, ho, ht, hi, hv⟩ := h.maps
  exact ⟨h.below.trans (hb.mono h.below.size), h.lo, h.box.of_block (hb.block _ h.box.lt), h.dims.below hb, vs, a, b, owns_below ho hb, fun j hj => (ht j hj).next hb, hi, hv⟩
theorem owns_len {w : World} {base n : Nat} {e : TypeId} {v : Value} {xs : List Value} (h : w.ownsRow base e 1 v n xs) : xs.length = n := by rw [h.1]; omega
theorem Ln.stepD {w1 wa w' : World} {g g' c : Nat} {n : Int} {qd q : Nat} {v vm : Value} {k : Nat} (h : Ln w1 wa g n qd q v vm) (hg : wa.grownBy w' v.ownBlock) (hn : Gb w1.heap.size w' (.slice (some ⟨g', 0, none⟩) k c) (lensD (qd + 1))) (hl : v.ownBlock = some g' ∨ g' = wa.heap.size) :
    Ln w1 (w'.setCell ⟨g, 0, none⟩ (.slice (some ⟨g', 0, none⟩) k c)) g n (qd + 1) q (.slice (some ⟨g', 0, none⟩) k c) vm := by
  have hr := row_grown h.box h.dims whT.1 hg
  have hb := h.below.grown hg h.below.size (fun g hg => (h.dims.lt g hg).1)
  obtain ⟨vs, a, b, ho, ht, hi, hv⟩ := h.maps
  have hlen := owns_len ho
  refine ⟨hb.setCell h.lo _, h.lo, (hr.set 0 _).congr (fun j hj => ?_), hn.off hr whT.1 _ _, vs, a, b, owns_off (owns_grown ho h.dims (by decide) hg) hr whT.2.2 _ _, fun j hj => ?_, hi, fun j hj e => ?_⟩
  · match j, hj with
    | 0, _ => rfl
    | 1, _ => rfl
  · have hj' := ht j hj
    have t1 := row_grown hj'.top h.dims (by decide) hg
    have t2 : w'.rowIs (b j) 2 1 (fun _ => .int .i64 (((j % 2 : Nat) : Int) * n)) := hj'.row.of_block (hg.block _ hj'.row.lt (fun e => hv j (by omega) e.symm))
    exact ⟨hj'.val, hj'.lo1, hj'.lo2, row_off t1 hr (Ne.symm whT.2.1) _ _, row_off t2 hr (Ne.symm whT.1) _ _⟩
  · have e2 : g' = b j := by simpa [Value.ownBlock] using e
    rcases hl with hl | hl
    · exact hv j hj (by rw [hl, e2])
    · have := (ht j (by omega)).row.lt
      omega
theorem Ln.stepM {w1 wr wa w' : World} {g : Nat} {n : Int} {qd q : Nat} {v vm v' u : Value} {a' b' : Nat} {vs : List Value} (h : Ln w1 wr g n qd q v vm) (hw : Below wr.heap.size wr wa) (hvs : wa.ownsRow w1.heap.size 44 1 vm q vs)
    (hu : LnT wa w1.heap.size u a' b' (((q % 2 : Nat) : Int) * n)) (hb' : wr.heap.size ≤ b') (hg : wa.grownBy w' vm.ownBlock) (hn : w'.ownsRow w1.heap.size 44 1 v' (q + 1) (vs ++ [u])) :
    Ln w1 (w'.setCell ⟨g, 1, none⟩ v') g n qd (q + 1) v v' := by
  obtain ⟨vs0, a, b, ho, ht, hi, hv⟩ := h.maps
  have hlen0 := owns_len ho
  have hlt : ∀ j, j < q → b j < wr.heap.size := fun j hj => (ht j (by omega)).row.lt
  have hdl : ∀ k, v.ownBlock = some k → k < wr.heap.size := fun k hk => (h.dims.lt k hk).2
  have hev : vs = vs0 := by
    have := owns_below ho hw
    rcases hvs.2 with ⟨e, e0⟩ | ⟨g1, c1, cur1, e1, _, hh1, _, _, _, t1⟩
    · rw [List.eq_nil_of_length_eq_zero (show vs.length = 0 by rw [owns_len hvs, e0]), List.eq_nil_of_length_eq_zero (show vs0.length = 0 by rw [hlen0, e0])]
    · rcases this.2 with ⟨e, _⟩ | ⟨g2, c2, cur2, e2, _, hh2, _, _, _, t2⟩
      · rw [e1] at e; cases e
      · rw [e1] at e2
        injection e2 with e3
        injection e3 with e3
        injection e3 with e3
        subst e3
        rw [hh1] at hh2
        simp at hh2
        subst hh2
        rw [← t1, ← t2]
  subst hev
  have h := h.next hw
  have hr := row_grown h.box hvs whT.2.2 hg
  have hb := h.below.grown hg h.below.size (fun g hg => (hvs.lt g hg).1)
  have hd : Gb w1.heap.size w' v (lensD qd) := owns_grown h.dims hvs (by decide) hg
  have hone : ∀ {u : Value} {a b : Nat} {z : Int}, LnT wa w1.heap.size u a b z → LnT (w'.setCell ⟨g, 1, none⟩ v') w1.heap.size u a b z := fun hx =>
    ⟨hx.val, hx.lo1, hx.lo2, row_off (row_grown hx.top hvs (by decide) hg) hr (Ne.symm whT.2.1) _ _, row_off (row_grown hx.row hvs (by decide) hg) hr (Ne.symm whT.1) _ _⟩
  refine ⟨hb.setCell h.lo _, h.lo, (hr.set 1 v').congr (fun j hj => ?_), hd.off hr whT.1 _ _, vs ++ [u], fun j => if j < q then a j else a', fun j => if j < q then b j else b', owns_off hn hr whT.2.2 _ _, fun j hj => ?_, fun i j hij hjq => ?_, fun j hj => ?_⟩
  · match j, hj with
    | 0, _ => rfl
    | 1, _ => rfl
  · by_cases e : j < q
    · simp only [if_pos e]
      rw [List.getElem_append_left (by omega)]
      exact hone ((ht j (by omega)).next hw)
    · obtain rfl : j = q := by simp at hj; omega
      simp only [if_neg (Nat.lt_irrefl _)]
      rw [List.getElem_append_right (by omega)]
      simp only [hlen0, Nat.sub_self, List.getElem_singleton]
      exact hone hu
  · by_cases e : j < q
    · simp only [if_pos e, if_pos (show i < q by omega)]
      exact hi i j hij e
    · simp only [if_neg e, if_pos (show i < q by omega)]
      have := hlt i (by omega)
      omega
  · by_cases e : j < q
    · simp only [if_pos e]
      exact hv j e
    · simp only [if_neg e]
      intro e2
      have := hdl _ e2
      omega
theorem Ln.shape {w1 wr : World} {g : Nat} {n : Int} {qd q : Nat} {v vm : Value} (h : Ln w1 wr g n qd q v vm) : (∃ ad c, v = .slice ad (qd + 1) c) ∧ ∃ ad c, vm = .slice ad q c := by
  obtain ⟨vs, a, b, ho, _⟩ := h.maps
  refine ⟨?_, ?_⟩
  · rcases h.dims.2 with ⟨e, e0⟩ | ⟨g1, c1, cur1, e1, _⟩
    · rw [lensD_length] at e0; omega
    · exact ⟨_, c1, by rw [e1, lensD_length]⟩
  · rcases ho.2 with ⟨e, e0⟩ | ⟨g1, c1, cur1, e1, _⟩
    · exact ⟨none, 0, by rw [e, e0]⟩
    · exact ⟨_, c1, e1⟩
/-- The end: a whole complex in memory of its own. -/
theorem Ln.rc {w1 wr : World} {g : Nat} {n : Int} {k : Nat} {v vm : Value} (h : Ln w1 wr g n k k v vm) (hk : k ≤ 5) : RcWh w1.heap.size wr.heap.size wr v vm (lensD k) (lensM n k) := by
  obtain ⟨vs, a, b, ho, ht, hi, hv⟩ := h.maps
  have hlen := owns_len ho
  have hdim := h.dims
  rcases hdim.2 with ⟨e, e0⟩ | ⟨gd, cd, cur, rfl, hgd, hh, hcd, _, hsz, htk⟩
  · rw [lensD_length] at e0; omega
  have hgl : gd < wr.heap.size := (Array.getElem?_eq_some_iff.1 hh).1
  have hcd' : ∀ i (hi : i < (lensD k).length), wr.cell? ⟨gd, i, none⟩ = some (.int .i64 ((lensD k)[i])) := fun i hi => by
    have := World.ownsRow.cellAt hdim i (by omega)
    rw [this]
    simp [hi]
  have hfd : ∀ i, wr.frozen? ⟨gd, i, none⟩ = false := fun i => World.ownsRow.frozenAt hdim i
  have hdl := lensD_length k
  have W1d : W1 w1.heap.size wr.heap.size wr (.slice (some ⟨gd, 0, none⟩) (lensD k).length cd) (lensD k) :=
    Or.inr ⟨gd, 0, cd, rfl, hgd, hgl, by omega, fun i hi => ⟨_, by rw [Nat.zero_add]; exact hcd' i hi, rfl⟩, fun i _ => hfd _⟩
  have S1d : S1 w1.heap.size wr.heap.size wr (.slice (some ⟨gd, 0, none⟩) (lensD k).length cd) [(gd, 0, (lensD k).length)] :=
    Or.inr ⟨gd, 0, (lensD k).length, cd, rfl, by omega, by omega, hgd, hgl, rfl⟩
  have N1d : Nums w1.heap.size wr.heap.size wr [(gd, 0, (lensD k).length)] := fun x hx => by
    obtain rfl : x = (gd, 0, (lensD k).length) := by simpa using hx
    exact ⟨hgd, hgl, fun i hi => ⟨⟨_, by rw [Nat.zero_add]; exact hcd' i hi⟩, hfd _⟩⟩
  have W1r : ∀ j (hj : j < k), W1 w1.heap.size wr.heap.size wr (.slice (some ⟨b j, 0, none⟩) 1 1) [((j % 2 : Nat) : Int) * n] := fun j hj => by
    have t := ht j (by omega)
    exact Or.inr ⟨b j, 0, 1, rfl, t.lo2, t.row.lt, by simp, fun i hi => by
      obtain rfl : i = 0 := by simp at hi; omega
      exact ⟨_, t.row.cell (i := 0) (by omega), rfl⟩, fun i _ => t.row.frozen _⟩
  have W2t : ∀ j (hj : j < k), W2 w1.heap.size wr.heap.size wr (.slice (some ⟨a j, 0, none⟩) 1 1) [[((j % 2 : Nat) : Int) * n]] := fun j hj => by
    have t := ht j (by omega)
    exact Or.inr ⟨a j, 0, 1, rfl, t.lo1, t.top.lt, by simp, fun i hi => by
      obtain rfl : i = 0 := by simp at hi; omega
      exact ⟨_, t.top.cell (i := 0) (by omega), W1r j hj⟩, fun i _ => t.top.frozen _⟩
  have N3 : Nums w1.heap.size wr.heap.size wr (flat (fun j => [(b j, 0, 1)]) k) := fun x hx => by
    obtain ⟨j, hj, hx⟩ := List.mem_flatMap.1 hx
    have hj := List.mem_range.1 hj
    obtain rfl : x = (b j, 0, 1) := by simpa using hx
    have t := ht j (by omega)
    exact ⟨t.lo2, t.row.lt, fun i hi => by
      obtain rfl : i = 0 := by
        have : i < 1 := hi
        omega
      exact ⟨⟨_, t.row.cell (i := 0) (by omega)⟩, t.row.frozen _⟩⟩
  have D3 : ∀ m, m ≤ k → Disj (flat (fun j => [(b j, 0, 1)]) m) := fun m => by
    induction m with
    | zero => intro _; exact List.Pairwise.nil
    | succ m ih =>
      intro hm
      rw [flat_succ]
      refine List.pairwise_append.2 ⟨ih (by omega), List.pairwise_singleton _ _, fun x hx y hy => Or.inl ?_⟩
      obtain ⟨j, hj, hx⟩ := List.mem_flatMap.1 hx
      have hj := List.mem_range.1 hj
      obtain rfl : x = (b j, 0, 1) := by simpa using hx
      obtain rfl : y = (b m, 0, 1) := by simpa using hy
      have := hi j m hj (by omega)
      show b j ≠ b m
      omega
  have Z3 : ∀ m, ivSize (flat (fun j => [(b j, 0, 1)]) m) = m := fun m => by
    induction m with
    | zero => rfl
    | succ m ih => rw [flat_succ, ivSize_append, ih]; simp [ivSize]
  have A3 : ∀ x ∈ [(gd, 0, (lensD k).length)], ∀ y ∈ flat (fun j => [(b j, 0, 1)]) k, Apart x y := fun x hx y hy => by
    obtain rfl : x = (gd, 0, (lensD k).length) := by simpa using hx
    obtain ⟨j, hj, hy⟩ := List.mem_flatMap.1 hy
    have hj := List.mem_range.1 hj
    obtain rfl : y = (b j, 0, 1) := by simpa using hy
    refine Or.inl ?_
    show gd ≠ b j
    intro e
    exact hv j hj (by rw [e]; rfl)
  have S2t : ∀ j (hj : j < k), S2 w1.heap.size wr.heap.size wr (.slice (some ⟨a j, 0, none⟩) 1 1) [(b j, 0, 1)] := fun j hj => by
    have t := ht j (by omega)
    exact ⟨some ⟨a j, 0, none⟩, 1, 1, fun _ => .slice (some ⟨b j, 0, none⟩) 1 1, fun _ => [(b j, 0, 1)], rfl, by omega, by simp [flat], fun i hi => Or.inr ⟨b j, 0, 1, 1, rfl, by omega, by omega, t.lo2, t.row.lt, rfl⟩, fun _ => ⟨a j, 0, rfl, t.lo1, t.top.lt, fun i hi => by
      obtain rfl : i = 0 := by omega
      exact t.top.cell (i := 0) (by omega)⟩⟩
  have hml := lensM_length n k
  rcases ho.2 with ⟨e, e0⟩ | ⟨gm, cm, curm, rfl, hgm, hhm, _, _, _, _⟩
  · subst e e0
    refine ⟨⟨W1d, Or.inl ⟨rfl, _, _, rfl⟩⟩, _, [], S1d, N1d, List.pairwise_singleton _ _, by simp [ivSize]; omega, ⟨none, 0, 0, fun _ => .slice none 0 0, fun _ => [], rfl, by omega, rfl, fun _ h => absurd h (Nat.not_lt_zero _), fun h => absurd h (Nat.lt_irrefl _)⟩, fun _ h => absurd h (by simp), List.Pairwise.nil, by simp [ivSize], fun _ _ _ h => absurd h (by simp)⟩
  · have hgml : gm < wr.heap.size := (Array.getElem?_eq_some_iff.1 hhm).1
    have hcm : ∀ j (hj : j < k), wr.cell? ⟨gm, j, none⟩ = some (.slice (some ⟨a j, 0, none⟩) 1 1) := fun j hj => by
      have := World.ownsRow.cellAt ho j (by omega)
      rw [this, List.getElem?_eq_getElem (by omega), (ht j (by omega)).val]
    have hfm : ∀ i, wr.frozen? ⟨gm, i, none⟩ = false := fun i => World.ownsRow.frozenAt ho i
    refine ⟨⟨W1d, ?_⟩, _, flat (fun j => [(b j, 0, 1)]) k, S1d, N1d, List.pairwise_singleton _ _, by simp [ivSize]; omega, ?_, N3, D3 k (Nat.le_refl _), by rw [Z3]; omega, A3⟩
    · by_cases h0 : k = 0
      · subst h0
        exact Or.inl ⟨rfl, _, _, rfl⟩
      · refine Or.inr ⟨gm, 0, cm, by rw [hml], hgm, hgml, by omega, fun j hj => ?_, fun j _ => hfm _⟩
        rw [hml] at hj
        exact ⟨_, by rw [Nat.zero_add]; exact hcm j hj, by rw [lensM_at]; exact W2t j hj⟩
    · exact ⟨some ⟨gm, 0, none⟩, k, cm, fun j => .slice (some ⟨a j, 0, none⟩) 1 1, fun j => [(b j, 0, 1)], rfl, by omega, rfl, fun j hj => S2t j hj, fun _ => ⟨gm, 0, rfl, hgm, hgml, fun j hj => by rw [Nat.zero_add]; exact hcm j hj⟩⟩
section
variable {ops : Array Oper} {rest : List Oper} {o : Oper} {a : Act} {w : World} {Q : Exit → Act → World → Prop}
/-- append of one table, its own row of tables. -/
theorem wpList_appendLn (hgd : o.guard = none) (dst : Option Tmp) (hdst : o.dst = dst) (s x : Operand) (ho : o.op = .call { callee := .builtin .append, args := #[s, x], argTypes := #[23, 23] }) (base : Nat) (v : Value) (n : Nat) (vs : List Value) (hs : a.eval s = v) (hown : w.ownsRow base 44 1 v n vs)
    (b : Nat) (hx : a.eval x = .slice (some ⟨b, 0, none⟩) 1 1) (ar : Option Addr) (nr cr : Nat) (hc : w.cell? ⟨b, 0, none⟩ = some (.slice ar nr cr)) (hl : n ≤ 2097151) (hb : base ≤ w.heap.size)
    (h : ∀ g cap w', w'.ownsRow base 44 1 (.slice (some ⟨g, 0, none⟩) (n + 1) cap) (n + 1) (vs ++ [.slice ar nr cr]) → w.grownBy w' v.ownBlock → g < w'.heap.size → wpList Try.prog ops Q rest (a.put dst (.slice (some ⟨g, 0, none⟩) (n + 1) cap)) w') : wpList Try.prog ops Q (o :: rest) a w := by
  obtain ⟨i, hi, hz, hs1, hb1⟩ := info_parts Try.infoSS
  subst hdst
  refine wpList_append_lies w hgd s x 23 ho base 44 i _ 1 24 Try.underlying23 hi hz hs1 hb1 rfl (by decide) v n vs hs hown ⟨b, 0, none⟩ 1 1 [.slice ar nr cr] hx rfl ?_ ?_ (by omega) (by unfold maxLen; omega) (by omega) hb _ rfl (fun g cap w' h1 h2 _ h4 => h g cap w' h1 h2 h4)
  · intro j u hj
    match j, hj with
    | 0, hj =>
      simp at hj
      subst hj
      exact hc
  · intro u hu
    simp at hu
    subst hu
    rfl
end
end Go.Proofs.Ytiokagnolbddlaa
