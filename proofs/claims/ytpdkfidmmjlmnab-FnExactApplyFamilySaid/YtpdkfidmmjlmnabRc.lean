/-
  Complex values as results: in memory of their own, marked, held.
-/
import Derived.Test.YtpdkfidmmjlmnabRw
namespace Go.Proofs.Ytpdkfidmmjlmnab
open Go.RowKit

/-- A table in blocks of its own. -/
theorem Tb.rw2h {lo hi : Nat} {W : World} {g r c : Nat} {Z : Nat → Nat → Int} (h : Tb W g r c Z) (hl : lo ≤ g) (hh : g + 1 + r ≤ hi) (hr : r ≤ 1048576) (hc : c ≤ 1048576) : Rw2 lo hi W (.slice (some ⟨g, 0, none⟩) r r) (tableOf r c Z) := by
  have hlt := hh
  refine ⟨?_, ?_⟩
  · by_cases h0 : r = 0
    · subst h0
      exact Or.inl ⟨rfl, _, _, rfl⟩
    · refine Or.inr ⟨g, 0, r, by simp [tableOf], hl, by omega, by simp [tableOf]; omega, fun k hk => ?_, fun k _ => h.top.frozen _⟩
      have hk' : k < r := by simpa [tableOf] using hk
      refine ⟨_, by rw [Nat.zero_add]; exact h.top.cell hk', ?_⟩
      simp only [tableOf, List.getElem_map, List.getElem_range]
      by_cases hc : c = 0
      · subst hc
        exact Or.inl ⟨rfl, _, _, rfl⟩
      · refine Or.inr ⟨g + 1 + k, 0, c, by simp, by omega, by omega, by simp; omega, fun i hi => ?_, fun i _ => (h.rows k hk').frozen _⟩
        have hi' : i < c := by simpa using hi
        refine ⟨_, by rw [Nat.zero_add]; exact (h.rows k hk').cell hi', ?_⟩
        simp only [IsI, List.getElem_map, List.getElem_range]
  · refine ⟨flat (fun j => if c = 0 then [] else [(g + 1 + j, 0, c)]) r, ⟨some ⟨g, 0, none⟩, r, r, fun j => .slice (some ⟨g + 1 + j, 0, none⟩) c c, fun j => if c = 0 then [] else [(g + 1 + j, 0, c)], rfl, hr, rfl, fun j hj => ?_, fun _ => ⟨g, 0, rfl, hl, by omega, fun j hj => by rw [Nat.zero_add]; exact h.top.cell hj⟩⟩, nums_flat (fun j hj => ?_), ?_, ?_⟩
    · by_cases hc0 : c = 0
      · subst hc0
        exact Or.inl ⟨by simp, _, _, rfl⟩
      · exact Or.inr ⟨g + 1 + j, 0, c, c, if_neg hc0, by omega, hc, by omega, by omega, rfl⟩
    · intro x hx
      by_cases hc0 : c = 0
      · rw [if_pos hc0] at hx; simp at hx
      · rw [if_neg hc0] at hx
        obtain rfl : x = (g + 1 + j, 0, c) := by simpa using hx
        exact ⟨by show lo ≤ g + 1 + j; omega, by show g + 1 + j < _; omega, fun i hi => ⟨⟨Z j i, by rw [Nat.zero_add]; exact (h.rows j hj).cell hi⟩, (h.rows j hj).frozen _⟩⟩
    · refine (disj_spans (b := fun j => g + 1 + j) (fun j _ => by omega) (fun j _ x hx => ?_) (fun j _ => ?_)).1
      · by_cases hc0 : c = 0
        · rw [if_pos hc0] at hx; simp at hx
        · rw [if_neg hc0] at hx
          obtain rfl : x = (g + 1 + j, 0, c) := by simpa using hx
          exact ⟨Nat.le_refl _, by show g + 1 + j < g + 1 + (j + 1); omega⟩
      · by_cases hc0 : c = 0
        · rw [if_pos hc0]; exact List.Pairwise.nil
        · rw [if_neg hc0]; exact List.pairwise_singleton _ _
    · have := size_spans (J := fun j => if c = 0 then [] else [(g + 1 + j, 0, c)]) (n := r) (B := c) (fun j _ => by
        by_cases hc0 : c = 0
        · simp [hc0, ivSize]
        · simp [hc0, ivSize])
      have h2 : c * r ≤ 1048576 * 1048576 := Nat.mul_le_mul hc hr
      omega
theorem Fill3.parts {wr : World} {g n : Nat} {f : Nat → Value} {b : Nat → Nat} {ts : List (List (List Int))} (h : Fill3 wr g n n f b ts) (hn : n = ts.length) (hs : n ≤ 1048576) : W3 g wr.heap.size wr (.slice (some ⟨g, 0, none⟩) n n) ts ∧ ∃ J, S3 g wr.heap.size wr (.slice (some ⟨g, 0, none⟩) n n) J ∧ Nums (b 0) wr.heap.size wr J ∧ Disj J ∧ ivSize J ≤ 1152921504606846976 := by
  have hlt := h.row.lt
  have h1 : ∀ j, j < n → Rw2 g wr.heap.size wr (f j) (ts.getD j []) := fun j hj => by
    rw [getD_of_lt _ (by omega)]
    have a1 := inc_le h.inc (j + 1) hj
    have a2 := inc_le (b := b) (k := j) (fun i hi => h.inc i (by omega)) 0 (Nat.zero_le _)
    have a3 := h.lo
    exact (h.at' j (by omega) hj).wider (by omega) (Nat.le_trans a1 h.hi)
  refine ⟨?_, ?_⟩
  · by_cases h0 : n = 0
    · exact Or.inl ⟨List.eq_nil_of_length_eq_zero (by omega), _, _, by rw [h0]⟩
    · refine Or.inr ⟨g, 0, n, by rw [hn], Nat.le_refl _, hlt, by omega, fun k hk => ?_, fun k _ => h.row.frozen _⟩
      refine ⟨f k, by rw [Nat.zero_add]; exact h.row.cell (by omega), ?_⟩
      have := (h1 k (by omega)).1
      rwa [getD_of_lt _ hk] at this
  · have hex : ∀ j, j < n → ∃ I, S2 (b j) (b (j + 1)) wr (f j) I ∧ Nums (b j) (b (j + 1)) wr I ∧ Disj I ∧ ivSize I ≤ 1099511627776 := fun j hj => (h.at' j (by omega) hj).2
    obtain ⟨J, hJ⟩ := choose2 hex
    have hw : ∀ j, j < n → g ≤ b j ∧ b (j + 1) ≤ wr.heap.size := fun j hj => by
      have a1 := inc_le h.inc (j + 1) hj
      have a2 := inc_le (b := b) (k := j) (fun i hi => h.inc i (by omega)) 0 (Nat.zero_le _)
      have a3 := h.lo
      have a4 := h.hi
      omega
    refine ⟨flat J n, ⟨some ⟨g, 0, none⟩, n, n, f, J, rfl, hs, rfl, fun j hj => (hJ j hj).1.wider (hw j hj).1 (hw j hj).2, fun _ => ⟨g, 0, rfl, Nat.le_refl _, hlt, fun j hj => by rw [Nat.zero_add]; exact h.row.cell hj⟩⟩, nums_flat (fun j hj => (hJ j hj).2.1.wider (inc_le (b := b) (k := j) (fun i hi => h.inc i (by omega)) 0 (Nat.zero_le _)) (hw j hj).2), (disj_spans h.inc (fun j hj x hx => ⟨((hJ j hj).2.1 x hx).1, ((hJ j hj).2.1 x hx).2.1⟩) (fun j hj => (hJ j hj).2.2.1)).1, ?_⟩
    have h2 := size_spans (J := J) (n := n) (B := 1099511627776) (fun j hj => (hJ j hj).2.2.2)
    have h3 : 1099511627776 * n ≤ 1099511627776 * 1048576 := Nat.mul_le_mul (Nat.le_refl _) hs
    omega


/-- A complex that a function answers: numbers in blocks from lo up to hi, apart from each other. -/
def RcW (lo hi : Nat) (W : World) (dv mv : Value) (ds : List Int) (ms : List (List (List Int))) : Prop :=
  CxW lo hi W dv mv ds ms ∧ ∃ I J, S1 lo hi W dv I ∧ S3 lo hi W mv J ∧ Nums lo hi W I ∧ Nums lo hi W J ∧ Disj J ∧ (∀ x ∈ I, ∀ y ∈ J, Apart x y) ∧ ivSize I ≤ 1048576 ∧ ivSize J ≤ 1152921504606846976
theorem RcW.same {lo hi : Nat} {W W' : World} {dv mv : Value} {ds : List Int} {ms : List (List (List Int))} (h : RcW lo hi W dv mv ds ms) (s : Same lo hi W W') : RcW lo hi W' dv mv ds ms := by
  obtain ⟨h0, I, J, h1, h2, h3, h4, h5⟩ := h
  exact ⟨h0.same s, I, J, h1, h2.same s, h3.same s, h4.same s, h5⟩
theorem RcW.cx {lo hi : Nat} {W : World} {dv mv : Value} {ds : List Int} {ms : List (List (List Int))} (h : RcW lo hi W dv mv ds ms) : Cx 0 W dv mv ds ms := h.1.cx.lower (Nat.zero_le _)
theorem RcW.wider {lo hi lo' hi' : Nat} {W : World} {dv mv : Value} {ds : List Int} {ms : List (List (List Int))} (h : RcW lo hi W dv mv ds ms) (h1 : lo' ≤ lo) (h2 : hi ≤ hi') : RcW lo' hi' W dv mv ds ms := by
  obtain ⟨h0, I, J, a, b, c, d, e⟩ := h
  exact ⟨⟨h0.dims.wider h1 h2, h0.maps.wider h1 h2⟩, I, J, a.wider h1 h2, b.wider h1 h2, c.wider h1 h2, d.wider h1 h2, e⟩
theorem RcW.nil (lo hi : Nat) (W : World) : RcW lo hi W (.slice none 0 0) (.slice none 0 0) [] [] :=
  ⟨⟨Or.inl ⟨rfl, _, _, rfl⟩, Or.inl ⟨rfl, _, _, rfl⟩⟩, [], [], Or.inl ⟨rfl, _, _, rfl⟩, ⟨none, 0, 0, fun _ => .slice none 0 0, fun _ => [], rfl, by omega, rfl, fun _ h => absurd h (Nat.not_lt_zero _), fun h => absurd h (Nat.lt_irrefl _)⟩, fun _ h => absurd h (by simp), fun _ h => absurd h (by simp), List.Pairwise.nil, fun _ h => absurd h (by simp), by simp [ivSize], by simp [ivSize]⟩
/-- Prime, dimensions and tables of a complex. -/
abbrev Co := Int × List Int × List (List (List Int))
def RwC (lo hi : Nat) (W : World) (u : Value) (o : Co) : Prop := ∃ ad cd am cm, u = .agg #[.int .i64 o.1, .slice ad o.2.1.length cd, .slice am o.2.2.length cm] ∧ RcW lo hi W (.slice ad o.2.1.length cd) (.slice am o.2.2.length cm) o.2.1 o.2.2
def RsC (W : World) (u : Value) (o : Co) : Prop := ∃ ad cd am cm, u = .agg #[.int .i64 o.1, .slice ad o.2.1.length cd, .slice am o.2.2.length cm] ∧ Cx 0 W (.slice ad o.2.1.length cd) (.slice am o.2.2.length cm) o.2.1 o.2.2
theorem RwC.nil (lo hi : Nat) (W : World) : RwC lo hi W (.agg #[.int .i64 0, .slice none 0 0, .slice none 0 0]) (0, [], []) := ⟨none, 0, none, 0, rfl, RcW.nil _ _ _⟩
theorem RsC.nil (W : World) : RsC W (.agg #[.int .i64 0, .slice none 0 0, .slice none 0 0]) (0, [], []) := ⟨none, 0, none, 0, rfl, ⟨Or.inl ⟨rfl, _, _, rfl⟩, Or.inl ⟨rfl, _, _, rfl⟩⟩⟩
/-- What a law asks of a complex that it compares. -/
def CoB (o : Co) : Prop := o.2.1.length ≤ 1048576 ∧ Bd3 1048576 o.2.2

/-- The same with the marks from 1 on in it. -/
def HcW (lo hi : Nat) (W : World) (dv mv : Value) (m : Int) : Prop :=
  ∃ I J, S1 lo hi W dv I ∧ S3 lo hi W mv J ∧ Marked W I 1 ∧ Marked W J (1 + (ivSize I : Int)) ∧ (∀ x ∈ I, lo ≤ x.1 ∧ x.1 < hi) ∧ (∀ x ∈ J, lo ≤ x.1 ∧ x.1 < hi) ∧ m = 1 + (ivSize I : Int) + (ivSize J : Int) ∧ ivSize I ≤ 1048576 ∧ ivSize J ≤ 1152921504606846976
theorem HcW.same {lo hi : Nat} {W W' : World} {dv mv : Value} {m : Int} (h : HcW lo hi W dv mv m) (s : Same lo hi W W') : HcW lo hi W' dv mv m := by
  obtain ⟨I, J, h1, h2, h3, h4, h5, h6, h7⟩ := h
  exact ⟨I, J, h1, h2.same s, h3.same h5 s, h4.same h6 s, h5, h6, h7⟩
/-- What the mark of a result leaves. -/
def MkRC (lo hi : Nat) (dv mv : Value) (w : World) (e : Ending) (w' : World) : Prop := ∃ (m : Int) (w1 : World), e = .returned (.int .i64 m) ∧ 1 ≤ m ∧ m ≤ 4611686018427387904 ∧ Below w.heap.size w w1 ∧ Only lo hi w1 w' ∧ HcW lo hi w' dv mv m

set_option maxHeartbeats 800000 in
theorem markRC_any {lo hi : Nat} (p : Int) (dv mv : Value) (ds : List Int) (ms : List (List (List Int))) (w : World) (h : RcW lo hi w dv mv ds ms) (hh : hi ≤ w.heap.size) :
    Calls Try.prog 56 #[.agg #[.int .i64 p, dv, mv], .int .i64 1] w (MkRC lo hi dv mv w) := by
  obtain ⟨_, I, J, h1, h2, h3, h4, h5, h6, h7, h8⟩ := h
  have hb0 : Below w.heap.size w (w.alloc (.cells #[.int .i64 p, dv, mv] 31)) := (Below.refl _ _).alloc (Nat.le_refl _) _
  have s : Same lo hi w (w.alloc (.cells #[.int .i64 p, dv, mv] 31)) := Same.of_below hb0 hh
  have HB0 := Lib.hid hb0
  have H1 := Lib.hid (show S1 lo hi (w.alloc (.cells #[.int .i64 p, dv, mv] 31)) dv I from h1)
  have H2 := Lib.hid (h2.same s)
  have H3 := Lib.hid (h3.same s)
  have H4 := Lib.hid (h4.same s)
  clear h1 h2 h3 h4 s hb0
  go_enter Try.func56, Try.ntmps56
  go_wp2_with fail
  refine (mark1s_any dv I 1 _ H1.out H3.out (by omega) (by omega)).mono ?_
  rintro e w1 ⟨rfl, ho, ht, hc, hm⟩
  have c2 : w1.cell? ⟨w.heap.size, 2, none⟩ = some mv := (ho.cell (Or.inr hh)).trans (by simp)
  have HO := Lib.hid (And.intro ho (And.intro ht hm))
  clear ho ht hc hm
  go_wp2_with fail
  refine (mark3s_any mv J (1 + (ivSize I : Int)) _ (H2.out.tame HO.out.2.1) (H4.out.tame HO.out.2.1) h5 (by omega) (by omega)).mono ?_
  rintro e w2 ⟨rfl, ho, ht, hc, hm⟩
  have HO2 := Lib.hid (And.intro (HO.out.1.trans ho) (And.intro ((H2.out.tame HO.out.2.1).tame ht) (And.intro (HO.out.2.2.keep hc h6) hm)))
  clear ho ht hc hm
  go_wp2
  go_ret
  exact ⟨_, _, rfl, by omega, by omega, HB0.out, HO2.out.1, I, J, H1.out, HO2.out.2.1, HO2.out.2.2.1, HO2.out.2.2.2, fun x hx => ⟨(H3.out x hx).1, (H3.out x hx).2.1⟩, fun x hx => ⟨(H4.out x hx).1, (H4.out x hx).2.1⟩, rfl, h7, h8⟩
set_option maxHeartbeats 800000 in
theorem heldRC_any {lo hi : Nat} (p : Int) (dv mv : Value) (m : Int) (w : World) (h : HcW lo hi w dv mv m) (hh : hi ≤ w.heap.size) :
    Calls Try.prog 148 #[.agg #[.int .i64 p, dv, mv], .int .i64 1] w (BR (.int .i64 m) w) := by
  obtain ⟨I, J, h1, h2, h3, h4, h5, h6, rfl, h7, h8⟩ := h
  have hb0 : Below w.heap.size w (w.alloc (.cells #[.int .i64 p, dv, mv] 31)) := (Below.refl _ _).alloc (Nat.le_refl _) _
  have s : Same lo hi w (w.alloc (.cells #[.int .i64 p, dv, mv] 31)) := Same.of_below hb0 hh
  have HB0 := Lib.hid hb0
  have H1 := Lib.hid (show S1 lo hi (w.alloc (.cells #[.int .i64 p, dv, mv] 31)) dv I from h1)
  have H2 := Lib.hid (h2.same s)
  have H3 := Lib.hid (h3.same h5 s)
  have H4 := Lib.hid (h4.same h6 s)
  have hn1 : ¬ (1 + (ivSize I : Int)) < 0 := by omega
  have hn2 : ¬ (1 + (ivSize I : Int) + (ivSize J : Int)) < 0 := by omega
  clear h1 h2 h3 h4 s hb0 h5 h6
  go_enter Try.func148, Try.ntmps148
  go_wp2_with fail
  refine (held1s_any dv I 1 _ H1.out H3.out (by omega) (by omega)).mono ?_
  rintro e w1 ⟨rfl, rfl⟩
  go_wp2_with fail
  refine (held3s_any mv J (1 + (ivSize I : Int)) _ H2.out H4.out (by omega) (by omega)).mono ?_
  rintro e w2 ⟨rfl, rfl⟩
  go_wp2
  go_ret
  exact ⟨rfl, HB0.out⟩

/-- The box of a complex, its three cells alone. -/
structure Bc (wr : World) (b : Nat) (p : Int) (dv mv : Value) : Prop where
  c0 : wr.cell? ⟨b, 0, none⟩ = some (.int .i64 p)
  c1 : wr.cell? ⟨b, 1, none⟩ = some dv
  c2 : wr.cell? ⟨b, 2, none⟩ = some mv
  lt : b < wr.heap.size
theorem Bc.start (w : World) (p : Int) (dv mv : Value) (t : TypeId) : Bc (w.alloc (.cells #[.int .i64 p, dv, mv] t)) w.heap.size p dv mv := ⟨by simp, by simp, by simp, by simp⟩
theorem Bc.next {wr w' : World} {b : Nat} {p : Int} {dv mv : Value} (h : Bc wr b p dv mv) (hb : Below wr.heap.size wr w') : Bc w' b p dv mv :=
  ⟨later hb (Nat.le_refl _) h.c0, later hb (Nat.le_refl _) h.c1, later hb (Nat.le_refl _) h.c2, Nat.lt_of_lt_of_le h.lt hb.size⟩
theorem Bc.only {wr w' : World} {b lo hi : Nat} {p : Int} {dv mv : Value} (h : Bc wr b p dv mv) (ho : Only lo hi wr w') (hb : b < lo ∨ hi ≤ b) : Bc w' b p dv mv :=
  ⟨(ho.cell hb).trans h.c0, (ho.cell hb).trans h.c1, (ho.cell hb).trans h.c2, by have := ho.size; have := h.lt; omega⟩

/-- A row of numbers in a block of its own. -/
theorem row_rc {W : World} {g n lo : Nat} {f : Nat → Value} {xs : List Int} (h : W.rowIs g 2 n f) (hl : xs.length = n) (hf : ∀ i (h : i < xs.length), f i = .int .i64 xs[i]) (hn : n ≤ 1048576) (hb : lo ≤ g) :
    W1 lo W.heap.size W (.slice (some ⟨g, 0, none⟩) n n) xs ∧ ∃ I, S1 lo W.heap.size W (.slice (some ⟨g, 0, none⟩) n n) I ∧ Nums lo W.heap.size W I ∧ (∀ x ∈ I, x.1 = g) ∧ ivSize I ≤ 1048576 := by
  have hlt := h.lt
  by_cases h0 : n = 0
  · subst h0
    exact ⟨Or.inl ⟨List.eq_nil_of_length_eq_zero hl, _, _, rfl⟩, [], Or.inl ⟨rfl, _, _, rfl⟩, fun _ hx => absurd hx (by simp), fun _ hx => absurd hx (by simp), by simp [ivSize]⟩
  · refine ⟨Or.inr ⟨g, 0, n, by rw [hl], hb, hlt, by omega, fun k hk => ⟨f k, by rw [Nat.zero_add]; exact h.cell (by omega), hf k hk⟩, fun k _ => h.frozen _⟩, [(g, 0, n)], Or.inr ⟨g, 0, n, n, rfl, by omega, hn, hb, hlt, rfl⟩, fun x hx => ?_, fun x hx => ?_, by simpa [ivSize] using hn⟩
    · obtain rfl : x = (g, 0, n) := by simpa using hx
      exact ⟨hb, hlt, fun i hi => ⟨⟨xs[i]'(by rw [hl]; exact hi), by rw [Nat.zero_add, ← hf i (by rw [hl]; exact hi)]; exact h.cell hi⟩, h.frozen _⟩⟩
    · obtain rfl : x = (g, 0, n) := by simpa using hx
      rfl
end Go.Proofs.Ytpdkfidmmjlmnab
