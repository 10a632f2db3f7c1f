/-
  The pairs of a tensor product: their places in their degrees, the map that tells them, the rows that hold them.
-/
import Derived.Test.YtpdkfidmmjlmnaaPky
namespace Go.Proofs.Ytpdkfidmmjlmnaa
open Go.RowKit

abbrev PV := (Int × Int) × (Int × Int)
def dg (q : PV) : Int := q.1.1 + q.2.1
/-- The pairs of the degree n. -/
def prF (S : List PV) (n : Int) : List PV := S.filter fun q => dg q == n
def plc (S : List PV) (q : PV) : Nat := (prF S (dg q)).idxOf q
def keyV (q : PV) : Lit := keyP q.1.1 q.1.2 q.2.1 q.2.2
structure Wf4 (q : PV) : Prop where
  a : (Lit.int .i64 q.1.1).wf = true
  b : (Lit.int .i64 q.1.2).wf = true
  c : (Lit.int .i64 q.2.1).wf = true
  d : (Lit.int .i64 q.2.2).wf = true
theorem keyV_inj {q r : PV} (hq : Wf4 q) (hr : Wf4 r) (h : keyV q = keyV r) : q = r := by
  obtain ⟨e1, e2, e3, e4⟩ := keyP_inj hq.a hq.b hq.c hq.d hr.a hr.b hr.c hr.d h
  obtain ⟨⟨q1, q2⟩, q3, q4⟩ := q
  obtain ⟨⟨r1, r2⟩, r3, r4⟩ := r
  simp only at e1 e2 e3 e4
  rw [e1, e2, e3, e4]
theorem prF_append (S T : List PV) (n : Int) : prF (S ++ T) n = prF S n ++ prF T n := by simp [prF]
theorem prF_one (q : PV) (n : Int) : prF [q] n = if dg q = n then [q] else [] := by
  unfold prF
  by_cases h : dg q = n
  · simp [h]
  · simp [h]
theorem prF_mem {S : List PV} {n : Int} {q : PV} : q ∈ prF S n ↔ q ∈ S ∧ dg q = n := by simp [prF]
/-- What the map tells when the pairs of S have been laid into it. -/
structure MapIs (D : DataW Unit) (S : List PV) : Prop where
  map : Maps.IsMap D
  yes : ∀ q, Wf4 q → q ∈ S → ∀ z, D.atKey (keyV q) z = .lit (.int .i64 (plc S q))
  no : ∀ q, Wf4 q → q ∉ S → ∀ z, D.atKey (keyV q) z = z
theorem MapIs.put {D : DataW Unit} {S : List PV} (h : MapIs D S) {q : PV} (hw : Wf4 q) (hq : q ∉ S) : MapIs (D.put (keyV q) (.lit (.int .i64 ((prF S (dg q)).length : Int)))) (S ++ [q]) := by
  refine ⟨h.map.put _ _, fun r hr hrs z => ?_, fun r hr hrs z => ?_⟩
  · by_cases e : r = q
    · subst e
      rw [Maps.atKey_put_same h.map (show WideAt.IsKeyLit (keyV r) from trivial)]
      have hn : r ∉ prF S (dg r) := fun k => hq (prF_mem.1 k).1
      have e2 : plc (S ++ [r]) r = (prF S (dg r)).length := by
        unfold plc
        rw [prF_append, prF_one, if_pos rfl, List.idxOf_append, if_neg hn]
        simp
      rw [e2]
    · have hrS : r ∈ S := by
        rcases List.mem_append.1 hrs with k | k
        · exact k
        · exact absurd (by simpa using k) e
      rw [Maps.atKey_put_other (fun k => e (keyV_inj hr hw k)), h.yes r hr hrS]
      have e2 : plc (S ++ [q]) r = plc S r := by
        unfold plc
        rw [prF_append, List.idxOf_append, if_pos (prF_mem.2 ⟨hrS, rfl⟩)]
      rw [e2]
  · have e : r ≠ q := fun k => hrs (by rw [k]; simp)
    have hrS : r ∉ S := fun k => hrs (by simp [k])
    rw [Maps.atKey_put_other (fun k => e (keyV_inj hr hw k)), h.no r hr hrS]
/-- .. in memory. -/
def Pl (w : World) (b n : Nat) (S : List PV) : Prop := ∃ D : DataW Unit, w.ownsMap Try.prog 115 (plainElem Try.prog 2) b n D ∧ MapIs D S
theorem Pl.made (w : World) : Pl (w.alloc (.map #[] 0)) w.heap.size 0 [] := ⟨.map [], World.ownsMap_made _ _ _ _, ⟨[], rfl⟩, fun _ _ h => absurd h (by simp), fun _ _ _ _ => rfl⟩
theorem Pl.lt {w : World} {b n : Nat} {S : List PV} (h : Pl w b n S) : b < w.heap.size := by obtain ⟨D, hd, _⟩ := h; exact hd.lt
theorem Pl.kept {w w' : World} {b n : Nat} {S : List PV} {row : Option Nat} (h : Pl w b n S) (hg : w.grownBy w' row) (hne : some b ≠ row) : Pl w' b n S := by
  obtain ⟨D, hd, k⟩ := h
  exact ⟨D, hd.kept hg hne, k⟩
theorem Pl.block {w w' : World} {b n : Nat} {S : List PV} (h : Pl w b n S) (hb : w'.heap[b]? = w.heap[b]?) : Pl w' b n S := by
  obtain ⟨D, ⟨es, clock, h1, F, h2, h3⟩, r⟩ := h
  exact ⟨D, ⟨es, clock, hb.trans h1, F, h2, h3⟩, r⟩
theorem Pl.below {w w' : World} {b n : Nat} {S : List PV} (h : Pl w b n S) (hb : Below w.heap.size w w') : Pl w' b n S := h.block (hb.block b h.lt)
/-- The cells of a list of pairs. -/
def pcs (L : List PV) : List Value := L.flatMap fun q => [.int .i64 q.1.1, .int .i64 q.1.2, .int .i64 q.2.1, .int .i64 q.2.2]
theorem pcs_append (L M : List PV) : pcs (L ++ M) = pcs L ++ pcs M := by simp [pcs]
/-- The rows of pairs, one for each degree, in a row at block G. -/
structure Prs (w : World) (base G N : Nat) (f : Nat → Value) (S : List PV) : Prop where
  row : w.rowIs G 149 N f
  lo : G < base
  own : ∀ n, n < N → w.ownsRow base 115 4 (f n) (prF S (n : Int)).length (pcs (prF S (n : Int)))
  sep : ∀ m n, m < N → n < N → m ≠ n → ∀ k, (f m).ownBlock = some k → (f n).ownBlock ≠ some k
theorem Prs.below {w w' : World} {base G N : Nat} {f : Nat → Value} {S : List PV} (h : Prs w base G N f S) (hb : Below w.heap.size w w') : Prs w' base G N f S :=
  ⟨h.row.of_block (hb.block _ h.row.lt), h.lo, fun n hn => owns_below (h.own n hn) hb, h.sep⟩
theorem Prs.kept {w w' : World} {base G N : Nat} {f : Nat → Value} {S : List PV} {b : Nat} (h : Prs w base G N f S) (hg : w.grownBy w' (some b)) (hne : G ≠ b) (hf : ∀ n, n < N → (f n).ownBlock ≠ some b) : Prs w' base G N f S :=
  ⟨h.row.of_block (hg.block _ h.row.lt (fun e => hne (by injection e))), h.lo, fun n hn => (h.own n hn).kept hg (Or.inr (hf n hn)), h.sep⟩
theorem Prs.step {w w' : World} {base G N : Nat} {f : Nat → Value} {S : List PV} (h : Prs w base G N f S) {n g cap : Nat} (hn : n < N) {q : PV} (hq : dg q = (n : Int))
    (ho : w'.ownsRow base 115 4 (.slice (some ⟨g, 0, none⟩) ((prF S (n : Int)).length + 1) cap) ((prF S (n : Int)).length + 1) (pcs (prF S (n : Int)) ++ pcs [q])) (hg : w.grownBy w' (f n).ownBlock) (hl : (f n).ownBlock = some g ∨ g = w.heap.size) :
    Prs (w'.setCell ⟨G, n, none⟩ (.slice (some ⟨g, 0, none⟩) ((prF S (n : Int)).length + 1) cap)) base G N (fun m => if m = n then .slice (some ⟨g, 0, none⟩) ((prF S (n : Int)).length + 1) cap else f m) (S ++ [q]) := by
  have hG : w'.heap[G]? = w.heap[G]? := hg.block _ h.row.lt (fun e => by
    have := World.ownsRow.lt (h.own n hn) G e.symm
    have := h.lo
    omega)
  have hlo := h.lo
  refine ⟨(h.row.of_block hG).set n _, hlo, fun m hm => ?_, fun m m2 hm hm2 hne k hk => ?_⟩
  · by_cases e : m = n
    · subst e
      simp only [if_true]
      have e2 : prF (S ++ [q]) (m : Int) = prF S (m : Int) ++ [q] := by rw [prF_append, prF_one, if_pos hq]
      rw [e2, List.length_append, pcs_append]
      exact ownsRow_setCell_below ho (by show G < base; exact hlo) _
    · simp only [if_neg e]
      have e2 : prF (S ++ [q]) (m : Int) = prF S (m : Int) := by rw [prF_append, prF_one, if_neg (by omega), List.append_nil]
      rw [e2]
      refine ownsRow_setCell_below ((h.own m hm).kept hg ?_) (by show G < base; exact hlo) _
      by_cases e3 : (f m).ownBlock = none
      · exact Or.inl e3
      · right
        intro e4
        obtain ⟨k, hk⟩ := Option.ne_none_iff_exists'.1 e3
        exact h.sep m n hm hn e k hk (by rw [← e4]; exact hk)
  · by_cases e : m = n
    · subst e
      simp only [if_true] at hk
      have hk' : g = k := by simpa [Value.ownBlock] using hk
      subst hk'
      simp only [if_neg (fun (e : m2 = m) => hne e.symm)]
      intro e5
      rcases hl with e6 | e6
      · exact h.sep m m2 hm hm2 hne g e6 e5
      · have := World.ownsRow.lt (h.own m2 hm2) g e5
        omega
    · simp only [if_neg e] at hk
      by_cases e2 : m2 = n
      · subst e2
        simp only [if_true]
        intro e5
        have e5' : g = k := by simpa [Value.ownBlock] using e5
        subst e5'
        rcases hl with e6 | e6
        · exact h.sep m m2 hm hm2 hne g hk e6
        · have := World.ownsRow.lt (h.own m hm) g hk
          omega
      · simp only [if_neg e2]
        exact h.sep m m2 hm hm2 hne k hk
end Go.Proofs.Ytpdkfidmmjlmnaa
