/-
  What a function answers in memory of its own: results of one, two, three levels; how three levels are filled; answers with a code.
-/
import Derived.Test.YtpdkfidmmjlmnabRs
import Derived.Test.YtpdkfidmmjlmnabTb
import Derived.Test.YtpdkfidmmjlmnabQc
namespace Go.Proofs.Ytpdkfidmmjlmnab
open Go.RowKit

theorem S1.wider {lo hi lo' hi' : Nat} {W : World} {u : Value} {I : List Iv} (h : S1 lo hi W u I) (h1 : lo' ≤ lo) (h2 : hi ≤ hi') : S1 lo' hi' W u I := by
  rcases h with h | ⟨b, o, n, cap, e, a, b1, c, d, f⟩
  · exact Or.inl h
  · exact Or.inr ⟨b, o, n, cap, e, a, b1, by omega, by omega, f⟩
theorem SS.wider {S S' : World → Value → List Iv → Prop} {lo hi lo' hi' : Nat} {W : World} {u : Value} {I : List Iv} (h : SS S lo hi W u I) (hS : ∀ v I, S W v I → S' W v I) (h1 : lo' ≤ lo) (h2 : hi ≤ hi') : SS S' lo' hi' W u I := by
  obtain ⟨ad, m, cap, f, J, a, b, c, d, e⟩ := h
  refine ⟨ad, m, cap, f, J, a, b, c, fun j hj => hS _ _ (d j hj), fun hm => ?_⟩
  obtain ⟨b, o, x1, x2, x3, x4⟩ := e hm
  exact ⟨b, o, x1, by omega, by omega, x4⟩
theorem S2.wider {lo hi lo' hi' : Nat} {W : World} {u : Value} {I : List Iv} (h : S2 lo hi W u I) (h1 : lo' ≤ lo) (h2 : hi ≤ hi') : S2 lo' hi' W u I := SS.wider h (fun _ _ k => S1.wider k h1 h2) h1 h2
theorem S3.wider {lo hi lo' hi' : Nat} {W : World} {u : Value} {I : List Iv} (h : S3 lo hi W u I) (h1 : lo' ≤ lo) (h2 : hi ≤ hi') : S3 lo' hi' W u I := SS.wider h (fun _ _ k => S2.wider k h1 h2) h1 h2

/-- A result of 1 level(s) in blocks from lo up to hi, its numbers apart from each other. -/
def Rw1 (lo hi : Nat) (W : World) (u : Value) (out : List Int) : Prop := W1 lo hi W u out ∧ ∃ I, S1 lo hi W u I ∧ Nums lo hi W I ∧ Disj I ∧ ivSize I ≤ 1048576
theorem Rw1.same {lo hi : Nat} {W W' : World} {u : Value} {out : List Int} (h : Rw1 lo hi W u out) (s : Same lo hi W W') : Rw1 lo hi W' u out := by
  obtain ⟨h1, I, h2, h3, h4, h5⟩ := h
  exact ⟨h1.same s, I, h2, h3.same s, h4, h5⟩
theorem Rw1.next {lo hi : Nat} {W W' : World} {u : Value} {out : List Int} (h : Rw1 lo hi W u out) (hb : Below W.heap.size W W') (hh : hi ≤ W.heap.size) : Rw1 lo hi W' u out := h.same (Same.of_below hb hh)
theorem Rw1.wider {lo hi lo' hi' : Nat} {W : World} {u : Value} {out : List Int} (h : Rw1 lo hi W u out) (h1 : lo' ≤ lo) (h2 : hi ≤ hi') : Rw1 lo' hi' W u out := by
  obtain ⟨a, I, b, c, d, e⟩ := h
  exact ⟨a.wider h1 h2, I, b.wider h1 h2, c.wider h1 h2, d, e⟩
theorem Rw1.l {lo hi : Nat} {W : World} {u : Value} {out : List Int} (h : Rw1 lo hi W u out) : L1 0 W u out := h.1.l1.lower (Nat.zero_le _)
theorem Rw1.shape {lo hi : Nat} {W : World} {u : Value} {out : List Int} (h : Rw1 lo hi W u out) : ∃ ad cap, u = .slice ad out.length cap := Sw.shape h.1
theorem Rw1.nil (lo hi : Nat) (W : World) : Rw1 lo hi W (.slice none 0 0) [] := ⟨Or.inl ⟨rfl, _, _, rfl⟩, [], Or.inl ⟨rfl, _, _, rfl⟩, fun _ h => absurd h (by simp), List.Pairwise.nil, by simp [ivSize]⟩
/-- The same with the marks from 1 on in it. -/
def Hw1 (lo hi : Nat) (W : World) (u : Value) (m : Int) : Prop := ∃ I, S1 lo hi W u I ∧ Marked W I 1 ∧ (∀ x ∈ I, lo ≤ x.1 ∧ x.1 < hi) ∧ m = 1 + (ivSize I : Int) ∧ ivSize I ≤ 1048576
theorem Hw1.same {lo hi : Nat} {W W' : World} {u : Value} {m : Int} (h : Hw1 lo hi W u m) (s : Same lo hi W W') : Hw1 lo hi W' u m := by
  obtain ⟨I, h2, h3, h4, h5⟩ := h
  exact ⟨I, h2, h3.same h4 s, h4, h5⟩
theorem Hw1.next {lo hi : Nat} {W W' : World} {u : Value} {m : Int} (h : Hw1 lo hi W u m) (hb : Below W.heap.size W W') (hh : hi ≤ W.heap.size) : Hw1 lo hi W' u m := h.same (Same.of_below hb hh)
/-- What the mark of a result leaves. -/
def MkR1 (lo hi : Nat) (u : Value) (w : World) (e : Ending) (w' : World) : Prop := ∃ m : Int, e = .returned (.int .i64 m) ∧ 1 ≤ m ∧ m ≤ 4611686018427387904 ∧ Only lo hi w w' ∧ Hw1 lo hi w' u m
theorem markR1_any {lo hi : Nat} {u : Value} {out : List Int} {w : World} (h : Rw1 lo hi w u out) : Calls Try.prog 58 #[u, .int .i64 1] w (MkR1 lo hi u w) := by
  obtain ⟨_, I, h2, h3, h4, h5⟩ := h
  refine (mark1s_any u I 1 w h2 h3 (by omega) (by omega)).mono fun e w' ⟨he, ho, ht, _, hm⟩ => ⟨_, he, by omega, by omega, ho, I, h2, hm, fun x hx => ⟨(h3 x hx).1, (h3 x hx).2.1⟩, rfl, h5⟩
theorem heldR1_any {lo hi : Nat} {u : Value} {m : Int} {w : World} (h : Hw1 lo hi w u m) : Calls Try.prog 59 #[u, .int .i64 1] w (QW (.int .i64 m) w) := by
  obtain ⟨I, h2, h3, _, rfl, h5⟩ := h
  exact held1s_any u I 1 w h2 h3 (by omega) (by omega)

/-- A result of 2 level(s) in blocks from lo up to hi, its numbers apart from each other. -/
def Rw2 (lo hi : Nat) (W : World) (u : Value) (out : List (List Int)) : Prop := W2 lo hi W u out ∧ ∃ I, S2 lo hi W u I ∧ Nums lo hi W I ∧ Disj I ∧ ivSize I ≤ 1099511627776
theorem Rw2.same {lo hi : Nat} {W W' : World} {u : Value} {out : List (List Int)} (h : Rw2 lo hi W u out) (s : Same lo hi W W') : Rw2 lo hi W' u out := by
  obtain ⟨h1, I, h2, h3, h4, h5⟩ := h
  exact ⟨h1.same s, I, h2.same s, h3.same s, h4, h5⟩
theorem Rw2.next {lo hi : Nat} {W W' : World} {u : Value} {out : List (List Int)} (h : Rw2 lo hi W u out) (hb : Below W.heap.size W W') (hh : hi ≤ W.heap.size) : Rw2 lo hi W' u out := h.same (Same.of_below hb hh)
theorem Rw2.wider {lo hi lo' hi' : Nat} {W : World} {u : Value} {out : List (List Int)} (h : Rw2 lo hi W u out) (h1 : lo' ≤ lo) (h2 : hi ≤ hi') : Rw2 lo' hi' W u out := by
  obtain ⟨a, I, b, c, d, e⟩ := h
  exact ⟨a.wider h1 h2, I, b.wider h1 h2, c.wider h1 h2, d, e⟩
theorem Rw2.l {lo hi : Nat} {W : World} {u : Value} {out : List (List Int)} (h : Rw2 lo hi W u out) : L2 0 W u out := h.1.l2.lower (Nat.zero_le _)
theorem Rw2.shape {lo hi : Nat} {W : World} {u : Value} {out : List (List Int)} (h : Rw2 lo hi W u out) : ∃ ad cap, u = .slice ad out.length cap := Sw.shape h.1
theorem Rw2.nil (lo hi : Nat) (W : World) : Rw2 lo hi W (.slice none 0 0) [] := ⟨Or.inl ⟨rfl, _, _, rfl⟩, [], ⟨none, 0, 0, fun _ => .slice none 0 0, fun _ => [], rfl, by omega, rfl, fun _ h => absurd h (Nat.not_lt_zero _), fun h => absurd h (Nat.lt_irrefl _)⟩, fun _ h => absurd h (by simp), List.Pairwise.nil, by simp [ivSize]⟩
/-- The same with the marks from 1 on in it. -/
def Hw2 (lo hi : Nat) (W : World) (u : Value) (m : Int) : Prop := ∃ I, S2 lo hi W u I ∧ Marked W I 1 ∧ (∀ x ∈ I, lo ≤ x.1 ∧ x.1 < hi) ∧ m = 1 + (ivSize I : Int) ∧ ivSize I ≤ 1099511627776
theorem Hw2.same {lo hi : Nat} {W W' : World} {u : Value} {m : Int} (h : Hw2 lo hi W u m) (s : Same lo hi W W') : Hw2 lo hi W' u m := by
  obtain ⟨I, h2, h3, h4, h5⟩ := h
  exact ⟨I, h2.same s, h3.same h4 s, h4, h5⟩
theorem Hw2.next {lo hi : Nat} {W W' : World} {u : Value} {m : Int} (h : Hw2 lo hi W u m) (hb : Below W.heap.size W W') (hh : hi ≤ W.heap.size) : Hw2 lo hi W' u m := h.same (Same.of_below hb hh)
/-- What the mark of a result leaves. -/
def MkR2 (lo hi : Nat) (u : Value) (w : World) (e : Ending) (w' : World) : Prop := ∃ m : Int, e = .returned (.int .i64 m) ∧ 1 ≤ m ∧ m ≤ 4611686018427387904 ∧ Only lo hi w w' ∧ Hw2 lo hi w' u m
theorem markR2_any {lo hi : Nat} {u : Value} {out : List (List Int)} {w : World} (h : Rw2 lo hi w u out) : Calls Try.prog 30 #[u, .int .i64 1] w (MkR2 lo hi u w) := by
  obtain ⟨_, I, h2, h3, h4, h5⟩ := h
  refine (mark2s_any u I 1 w h2 h3 h4 (by omega) (by omega)).mono fun e w' ⟨he, ho, ht, _, hm⟩ => ⟨_, he, by omega, by omega, ho, I, h2.tame ht, hm, fun x hx => ⟨(h3 x hx).1, (h3 x hx).2.1⟩, rfl, h5⟩
theorem heldR2_any {lo hi : Nat} {u : Value} {m : Int} {w : World} (h : Hw2 lo hi w u m) : Calls Try.prog 31 #[u, .int .i64 1] w (QW (.int .i64 m) w) := by
  obtain ⟨I, h2, h3, _, rfl, h5⟩ := h
  exact held2s_any u I 1 w h2 h3 (by omega) (by omega)

/-- A result of 3 level(s) in blocks from lo up to hi, its numbers apart from each other. -/
def Rw3 (lo hi : Nat) (W : World) (u : Value) (out : List (List (List Int))) : Prop := W3 lo hi W u out ∧ ∃ I, S3 lo hi W u I ∧ Nums lo hi W I ∧ Disj I ∧ ivSize I ≤ 1152921504606846976
theorem Rw3.same {lo hi : Nat} {W W' : World} {u : Value} {out : List (List (List Int))} (h : Rw3 lo hi W u out) (s : Same lo hi W W') : Rw3 lo hi W' u out := by
  obtain ⟨h1, I, h2, h3, h4, h5⟩ := h
  exact ⟨h1.same s, I, h2.same s, h3.same s, h4, h5⟩
theorem Rw3.next {lo hi : Nat} {W W' : World} {u : Value} {out : List (List (List Int))} (h : Rw3 lo hi W u out) (hb : Below W.heap.size W W') (hh : hi ≤ W.heap.size) : Rw3 lo hi W' u out := h.same (Same.of_below hb hh)
theorem Rw3.wider {lo hi lo' hi' : Nat} {W : World} {u : Value} {out : List (List (List Int))} (h : Rw3 lo hi W u out) (h1 : lo' ≤ lo) (h2 : hi ≤ hi') : Rw3 lo' hi' W u out := by
  obtain ⟨a, I, b, c, d, e⟩ := h
  exact ⟨a.wider h1 h2, I, b.wider h1 h2, c.wider h1 h2, d, e⟩
theorem Rw3.l {lo hi : Nat} {W : World} {u : Value} {out : List (List (List Int))} (h : Rw3 lo hi W u out) : L3 0 W u out := h.1.l3.lower (Nat.zero_le _)
theorem Rw3.shape {lo hi : Nat} {W : World} {u : Value} {out : List (List (List Int))} (h : Rw3 lo hi W u out) : ∃ ad cap, u = .slice ad out.length cap := Sw.shape h.1
theorem Rw3.nil (lo hi : Nat) (W : World) : Rw3 lo hi W (.slice none 0 0) [] := ⟨Or.inl ⟨rfl, _, _, rfl⟩, [], ⟨none, 0, 0, fun _ => .slice none 0 0, fun _ => [], rfl, by omega, rfl, fun _ h => absurd h (Nat.not_lt_zero _), fun h => absurd h (Nat.lt_irrefl _)⟩, fun _ h => absurd h (by simp), List.Pairwise.nil, by simp [ivSize]⟩
/-- The same with the marks from 1 on in it. -/
def Hw3 (lo hi : Nat) (W : World) (u : Value) (m : Int) : Prop := ∃ I, S3 lo hi W u I ∧ Marked W I 1 ∧ (∀ x ∈ I, lo ≤ x.1 ∧ x.1 < hi) ∧ m = 1 + (ivSize I : Int) ∧ ivSize I ≤ 1152921504606846976
theorem Hw3.same {lo hi : Nat} {W W' : World} {u : Value} {m : Int} (h : Hw3 lo hi W u m) (s : Same lo hi W W') : Hw3 lo hi W' u m := by
  obtain ⟨I, h2, h3, h4, h5⟩ := h
  exact ⟨I, h2.same s, h3.same h4 s, h4, h5⟩
theorem Hw3.next {lo hi : Nat} {W W' : World} {u : Value} {m : Int} (h : Hw3 lo hi W u m) (hb : Below W.heap.size W W') (hh : hi ≤ W.heap.size) : Hw3 lo hi W' u m := h.same (Same.of_below hb hh)
/-- What the mark of a result leaves. -/
def MkR3 (lo hi : Nat) (u : Value) (w : World) (e : Ending) (w' : World) : Prop := ∃ m : Int, e = .returned (.int .i64 m) ∧ 1 ≤ m ∧ m ≤ 4611686018427387904 ∧ Only lo hi w w' ∧ Hw3 lo hi w' u m
theorem markR3_any {lo hi : Nat} {u : Value} {out : List (List (List Int))} {w : World} (h : Rw3 lo hi w u out) : Calls Try.prog 57 #[u, .int .i64 1] w (MkR3 lo hi u w) := by
  obtain ⟨_, I, h2, h3, h4, h5⟩ := h
  refine (mark3s_any u I 1 w h2 h3 h4 (by omega) (by omega)).mono fun e w' ⟨he, ho, ht, _, hm⟩ => ⟨_, he, by omega, by omega, ho, I, h2.tame ht, hm, fun x hx => ⟨(h3 x hx).1, (h3 x hx).2.1⟩, rfl, h5⟩
theorem heldR3_any {lo hi : Nat} {u : Value} {m : Int} {w : World} (h : Hw3 lo hi w u m) : Calls Try.prog 62 #[u, .int .i64 1] w (QW (.int .i64 m) w) := by
  obtain ⟨I, h2, h3, _, rfl, h5⟩ := h
  exact held3s_any u I 1 w h2 h3 (by omega) (by omega)

/-- Lists of intervals in spans of blocks one behind the other are apart. -/
theorem disj_spans {J : Nat → List Iv} {b : Nat → Nat} {n : Nat} (hi : ∀ j, j < n → b j ≤ b (j + 1)) (hJ : ∀ j, j < n → ∀ x ∈ J j, b j ≤ x.1 ∧ x.1 < b (j + 1)) (hd : ∀ j, j < n → Disj (J j)) : Disj (flat J n) ∧ ∀ x ∈ flat J n, x.1 < b n := by
  induction n with
  | zero => exact ⟨List.Pairwise.nil, fun x hx => absurd hx (by simp [flat])⟩
  | succ n ih =>
    obtain ⟨h1, h2⟩ := ih (fun j hj => hi j (by omega)) (fun j hj => hJ j (by omega)) (fun j hj => hd j (by omega))
    rw [flat_succ]
    refine ⟨List.pairwise_append.2 ⟨h1, hd n (by omega), fun x hx y hy => Or.inl ?_⟩, fun x hx => ?_⟩
    · have a := h2 x hx
      have c := (hJ n (by omega) y hy).1
      omega
    · rcases List.mem_append.1 hx with h | h
      · have a := h2 x h
        have c := hi n (by omega)
        omega
      · exact (hJ n (by omega) x h).2
theorem size_spans {J : Nat → List Iv} {n B : Nat} (h : ∀ j, j < n → ivSize (J j) ≤ B) : ivSize (flat J n) ≤ B * n := by
  induction n with
  | zero => simp [flat, ivSize]
  | succ n ih =>
    have h1 := ih (fun j hj => h j (by omega))
    have h2 := h n (by omega)
    rw [flat_succ, ivSize_append, Nat.mul_succ]
    omega
theorem nums_flat {lo hi : Nat} {W : World} {J : Nat → List Iv} {n : Nat} (h : ∀ j, j < n → Nums lo hi W (J j)) : Nums lo hi W (flat J n) := fun x hx => by
  obtain ⟨j, hj, hx⟩ := List.mem_flatMap.1 hx
  exact h j (List.mem_range.1 hj) x hx
theorem choose2 {α : Type} [Inhabited α] {P : Nat → α → Prop} {n : Nat} (h : ∀ j, j < n → ∃ a, P j a) : ∃ f : Nat → α, ∀ j, j < n → P j (f j) :=
  ⟨fun j => if hj : j < n then Classical.choose (h j hj) else default, fun j hj => by simp only [dif_pos hj]; exact Classical.choose_spec (h j hj)⟩

/-- A table in blocks of its own. -/
theorem Tb.rw2 {lo : Nat} {W : World} {g r c : Nat} {Z : Nat → Nat → Int} (h : Tb W g r c Z) (hl : lo ≤ g) (hr : r ≤ 1048576) (hc : c ≤ 1048576) : Rw2 lo W.heap.size W (.slice (some ⟨g, 0, none⟩) r r) (tableOf r c Z) := by
  have hlt := h.lt
  refine ⟨?_, ?_⟩
  · by_cases h0 : r = 0
    · subst h0
      exact Or.inl ⟨rfl, _, _, rfl⟩
    · refine Or.inr ⟨g, 0, r, by simp [tableOf], hl, by omega, by simp [tableOf]; omega, fun k hk => ?_, fun k _ => h.top.frozen _⟩
      have hk' : k < r := by simpa [tableOf] using hk
      refine ⟨_, by rw [Nat.zero_add]; exact h.top.cell hk', ?_⟩
      simp only [tableOf, List.getElem_map, List.getElem_range]
      by_cases hc : c = 0
      · subst hc
        exact Or.inl ⟨rfl, _, _, rfl⟩
      · refine Or.inr ⟨g + 1 + k, 0, c, by simp, by omega, by omega, by simp; omega, fun i hi => ?_, fun i _ => (h.rows k hk').frozen _⟩
        have hi' : i < c := by simpa using hi
        refine ⟨_, by rw [Nat.zero_add]; exact (h.rows k hk').cell hi', ?_⟩
        simp only [IsI, List.getElem_map, List.getElem_range]
  · refine ⟨flat (fun j => if c = 0 then [] else [(g + 1 + j, 0, c)]) r, ⟨some ⟨g, 0, none⟩, r, r, fun j => .slice (some ⟨g + 1 + j, 0, none⟩) c c, fun j => if c = 0 then [] else [(g + 1 + j, 0, c)], rfl, hr, rfl, fun j hj => ?_, fun _ => ⟨g, 0, rfl, hl, by omega, fun j hj => by rw [Nat.zero_add]; exact h.top.cell hj⟩⟩, nums_flat (fun j hj => ?_), ?_, ?_⟩
    · by_cases hc0 : c = 0
      · subst hc0
        exact Or.inl ⟨by simp, _, _, rfl⟩
      · exact Or.inr ⟨g + 1 + j, 0, c, c, if_neg hc0, by omega, hc, by omega, by omega, rfl⟩
    · intro x hx
      by_cases hc0 : c = 0
      · rw [if_pos hc0] at hx; simp at hx
      · rw [if_neg hc0] at hx
        obtain rfl : x = (g + 1 + j, 0, c) := by simpa using hx
        exact ⟨by show lo ≤ g + 1 + j; omega, by show g + 1 + j < _; omega, fun i hi => ⟨⟨Z j i, by rw [Nat.zero_add]; exact (h.rows j hj).cell hi⟩, (h.rows j hj).frozen _⟩⟩
    · refine (disj_spans (b := fun j => g + 1 + j) (fun j _ => by omega) (fun j _ x hx => ?_) (fun j _ => ?_)).1
      · by_cases hc0 : c = 0
        · rw [if_pos hc0] at hx; simp at hx
        · rw [if_neg hc0] at hx
          obtain rfl : x = (g + 1 + j, 0, c) := by simpa using hx
          exact ⟨Nat.le_refl _, by show g + 1 + j < g + 1 + (j + 1); omega⟩
      · by_cases hc0 : c = 0
        · rw [if_pos hc0]; exact List.Pairwise.nil
        · rw [if_neg hc0]; exact List.pairwise_singleton _ _
    · have := size_spans (J := fun j => if c = 0 then [] else [(g + 1 + j, 0, c)]) (n := r) (B := c) (fun j _ => by
        by_cases hc0 : c = 0
        · simp [hc0, ivSize]
        · simp [hc0, ivSize])
      have h2 : c * r ≤ 1048576 * 1048576 := Nat.mul_le_mul hc hr
      omega
theorem Mat.rw2 {lo : Nat} {w w' : World} {r c : Nat} {Z : Nat → Nat → Int} (h : Mat w w' r c Z) (hl : lo ≤ w.heap.size) (hr : r ≤ 1048576) (hc : c ≤ 1048576) : Rw2 lo w'.heap.size w' (.slice (some ⟨w.heap.size, 0, none⟩) r r) (tableOf r c Z) := h.tb.rw2 hl hr hc

/-- Tables while they are laid into a row of tables at block g: k of them are there. -/
structure Fill3 (wr : World) (g n k : Nat) (f : Nat → Value) (b : Nat → Nat) (ts : List (List (List Int))) : Prop where
  row : wr.rowIs g 26 n f
  lo : g < b 0
  inc : ∀ j, j < k → b j ≤ b (j + 1)
  hi : b k ≤ wr.heap.size
  at' : ∀ j (h : j < ts.length), j < k → Rw2 (b j) (b (j + 1)) wr (f j) ts[j]
theorem Fill3.start {wr : World} {g n : Nat} {f : Nat → Value} (h : wr.rowIs g 26 n f) (hg : g + 1 ≤ wr.heap.size) (ts : List (List (List Int))) : Fill3 wr g n 0 f (fun _ => g + 1) ts :=
  ⟨h, Nat.lt_succ_self _, fun _ h => absurd h (Nat.not_lt_zero _), hg, fun _ _ h => absurd h (Nat.not_lt_zero _)⟩
theorem Fill3.next {wr w' : World} {g n k : Nat} {f : Nat → Value} {b : Nat → Nat} {ts : List (List (List Int))} (h : Fill3 wr g n k f b ts) (hb : Below wr.heap.size wr w') (hm : ∀ j, j < k → b (j + 1) ≤ b k) : Fill3 w' g n k f b ts :=
  ⟨h.row.of_block (hb.block _ h.row.lt), h.lo, h.inc, Nat.le_trans h.hi hb.size, fun j hj hk => (h.at' j hj hk).next hb (Nat.le_trans (hm j hk) h.hi)⟩
theorem inc_le {b : Nat → Nat} {k : Nat} (h : ∀ j, j < k → b j ≤ b (j + 1)) : ∀ j, j ≤ k → b j ≤ b k := by
  intro j hj
  induction k with
  | zero => rw [show j = 0 by omega]; exact Nat.le_refl _
  | succ k ih =>
    by_cases e : j = k + 1
    · rw [e]; exact Nat.le_refl _
    · exact Nat.le_trans (ih (fun i hi => h i (by omega)) (by omega)) (h k (by omega))
theorem Fill3.below {wr w' : World} {g n k : Nat} {f : Nat → Value} {b : Nat → Nat} {ts : List (List (List Int))} (h : Fill3 wr g n k f b ts) (hb : Below wr.heap.size wr w') : Fill3 w' g n k f b ts := h.next hb (fun j hj => inc_le h.inc (j + 1) hj)
theorem Fill3.out {wr : World} {g n k : Nat} {f : Nat → Value} {b : Nat → Nat} {ts : List (List (List Int))} (h : Fill3 wr g n k f b ts) {a : Addr} (ha : a.block < g) (v : Value) : Fill3 (wr.setCell a v) g n k f b ts :=
  ⟨h.row.setOther (by omega) v, h.lo, h.inc, by simpa using h.hi, fun j hj hk => (h.at' j hj hk).same (fun x hx _ => Below.heap_setCell wr a v x (by have := h.lo; have := inc_le (b := b) (k := j) (fun i hi => h.inc i (by omega)) 0 (Nat.zero_le _); omega))⟩
theorem Fill3.step {wr w1 : World} {g n k : Nat} {f : Nat → Value} {b : Nat → Nat} {ts : List (List (List Int))} {u : Value} (h : Fill3 wr g n k f b ts) (hb : Below wr.heap.size wr w1) (hk : k < ts.length) (hu : Rw2 wr.heap.size w1.heap.size w1 u ts[k]) :
    Fill3 (w1.setCell ⟨g, k, none⟩ u) g n (k + 1) (fun j => if j = k then u else f j) (fun j => if j < k then b j else if j = k then wr.heap.size else w1.heap.size) ts := by
  have hlt := h.row.lt
  have hr : w1.rowIs g 26 n f := h.row.of_block (hb.block _ hlt)
  have hsm : ∀ lo hi, g < lo → Same lo hi w1 (w1.setCell ⟨g, k, none⟩ u) := fun lo hi hl => Same.set u (Or.inl hl)
  refine ⟨hr.set k u, ?_, fun j hj => ?_, ?_, fun j hj hjk => ?_⟩
  · by_cases e : 0 < k
    · simp only [if_pos e]; exact h.lo
    · simp only [if_neg e, if_pos (show 0 = k by omega)]; exact hlt
  · by_cases e : j < k
    · simp only [if_pos e]
      by_cases e2 : j + 1 < k
      · simp only [if_pos e2]; exact h.inc j e
      · simp only [if_neg e2, if_pos (show j + 1 = k by omega)]
        have := inc_le h.inc j (by omega)
        have := h.hi
        omega
    · simp only [if_neg e, if_pos (show j = k by omega), if_neg (show ¬ j + 1 < k by omega), if_neg (show ¬ j + 1 = k by omega)]
      exact hb.size
  · simp only [if_neg (show ¬ k + 1 < k by omega), if_neg (show ¬ k + 1 = k by omega)]
    simp
  · by_cases e : j = k
    · subst e
      simp only [if_neg (show ¬ j < j by omega), if_neg (show ¬ j + 1 < j by omega), if_neg (show ¬ j + 1 = j by omega), if_true]
      exact hu.same (hsm _ _ hlt)
    · have hj' : j < k := by omega
      have hh := inc_le h.inc (j + 1) hj'
      have h0 := inc_le (b := b) (k := j) (fun i hi => h.inc i (by omega)) 0 (Nat.zero_le _)
      have hl0 := h.lo
      have ht := ((h.at' j hj hj').next hb (Nat.le_trans hh h.hi)).same (hsm _ _ (by omega))
      simp only [if_neg e, if_pos hj']
      by_cases e2 : j + 1 < k
      · simp only [if_pos e2]; exact ht
      · simp only [if_neg e2, if_pos (show j + 1 = k by omega)]
        exact ht.wider (Nat.le_refl _) (Nat.le_trans hh h.hi)
theorem Fill3.rw3 {wr : World} {g n : Nat} {f : Nat → Value} {b : Nat → Nat} {ts : List (List (List Int))} (h : Fill3 wr g n n f b ts) (hn : n = ts.length) (hs : n ≤ 1048576) : Rw3 g wr.heap.size wr (.slice (some ⟨g, 0, none⟩) n n) ts := by
  have hlt := h.row.lt
  have h1 : ∀ j, j < n → Rw2 g wr.heap.size wr (f j) (ts.getD j []) := fun j hj => by
    rw [getD_of_lt _ (by omega)]
    have a1 := inc_le h.inc (j + 1) hj
    have a2 := inc_le (b := b) (k := j) (fun i hi => h.inc i (by omega)) 0 (Nat.zero_le _)
    have a3 := h.lo
    exact (h.at' j (by omega) hj).wider (by omega) (Nat.le_trans a1 h.hi)
  refine ⟨?_, ?_⟩
  · by_cases h0 : n = 0
    · exact Or.inl ⟨List.eq_nil_of_length_eq_zero (by omega), _, _, by rw [h0]⟩
    · refine Or.inr ⟨g, 0, n, by rw [hn], Nat.le_refl _, hlt, by omega, fun k hk => ?_, fun k _ => h.row.frozen _⟩
      refine ⟨f k, by rw [Nat.zero_add]; exact h.row.cell (by omega), ?_⟩
      have := (h1 k (by omega)).1
      rwa [getD_of_lt _ hk] at this
  · have hex : ∀ j, j < n → ∃ I, S2 (b j) (b (j + 1)) wr (f j) I ∧ Nums (b j) (b (j + 1)) wr I ∧ Disj I ∧ ivSize I ≤ 1099511627776 := fun j hj => (h.at' j (by omega) hj).2
    obtain ⟨J, hJ⟩ := choose2 hex
    have hw : ∀ j, j < n → g ≤ b j ∧ b (j + 1) ≤ wr.heap.size := fun j hj => by
      have a1 := inc_le h.inc (j + 1) hj
      have a2 := inc_le (b := b) (k := j) (fun i hi => h.inc i (by omega)) 0 (Nat.zero_le _)
      have a3 := h.lo
      have a4 := h.hi
      omega
    refine ⟨flat J n, ⟨some ⟨g, 0, none⟩, n, n, f, J, rfl, hs, rfl, fun j hj => (hJ j hj).1.wider (hw j hj).1 (hw j hj).2, fun _ => ⟨g, 0, rfl, Nat.le_refl _, hlt, fun j hj => by rw [Nat.zero_add]; exact h.row.cell hj⟩⟩, nums_flat (fun j hj => (hJ j hj).2.1.wider (hw j hj).1 (hw j hj).2), (disj_spans h.inc (fun j hj x hx => ⟨((hJ j hj).2.1 x hx).1, ((hJ j hj).2.1 x hx).2.1⟩) (fun j hj => (hJ j hj).2.2.1)).1, ?_⟩
    have h2 := size_spans (J := J) (n := n) (B := 1099511627776) (fun j hj => (hJ j hj).2.2.2)
    have h3 : 1099511627776 * n ≤ 1099511627776 * 1048576 := Nat.mul_le_mul (Nat.le_refl _) hs
    omega

/-- Two equal lists of tables compare as equal. -/
theorem eq3_true (va vb : Value) (xs : List (List (List Int))) (w : World) (ha : L3 0 w va xs) (hb : L3 0 w vb xs) (hm : Bd3 1048576 xs) : Calls Try.prog 55 #[va, vb] w (BR (.bool true) w) := by
  have h := eq3_any va vb xs xs w ha hb hm hm
  rw [decide_eq_true rfl] at h
  exact h.mono fun _ _ hh => qr_below hh
/-- What a function answers beside a code. -/
structure RsOut {α : Type} (P : α → Prop) (z : α) (c0 : Int) (out : α) (c : Int) : Prop where
  good : c0 = 0 → P out
  bad : c0 ≠ 0 → out = z
  code : c = c0
theorem RsOut.unique {α : Type} {P : α → Prop} {z : α} {c0 : Int} {o1 o2 : α} {c1 c2 : Int} (hu : c0 = 0 → ∀ a b, P a → P b → a = b) (h1 : RsOut P z c0 o1 c1) (h2 : RsOut P z c0 o2 c2) : o1 = o2 ∧ c1 = c2 := by
  refine ⟨?_, h1.code.trans h2.code.symm⟩
  by_cases h0 : c0 = 0
  · exact hu h0 _ _ (h1.good h0) (h2.good h0)
  · rw [h1.bad h0, h2.bad h0]
theorem RsOut.all {α : Type} {P : α → Prop} {z : α} {c0 : Int} {o : α} {c : Int} (h : RsOut P z c0 o c) {Q : α → Prop} (hz : Q z) (hb : c0 = 0 → ∀ a, P a → Q a) : Q o := by
  by_cases h0 : c0 = 0
  · exact hb h0 _ (h.good h0)
  · rw [h.bad h0]
    exact hz
theorem RsOut.of_no {α : Type} {P : α → Prop} {z : α} {c0 : Int} (h : c0 ≠ 0) : RsOut P z c0 z c0 := ⟨fun h0 => absurd h0 h, fun _ => rfl, rfl⟩
theorem RsOut.of_yes {α : Type} {P : α → Prop} {z : α} {c0 : Int} {o : α} (h : c0 = 0) (hp : P o) : RsOut P z c0 o 0 := ⟨fun _ => hp, fun hh => absurd h hh, h.symm⟩
/-- The answer of the program: a result in memory of its own, and a code; and that of the model. -/
def AnsW {α : Type} (R : Nat → Nat → World → Value → α → Prop) (P : α → Prop) (z : α) (c0 : Int) (w : World) (e : Ending) (w' : World) : Prop :=
  ∃ (u : Value) (out : α) (c : Int), e = .returned (.tuple #[u, .int .i64 c]) ∧ R w.heap.size w'.heap.size w' u out ∧ Below w.heap.size w w' ∧ RsOut P z c0 out c
def AnsS {α : Type} (R : World → Value → α → Prop) (P : α → Prop) (z : α) (c0 : Int) (w : World) (e : Ending) (w' : World) : Prop :=
  ∃ (u : Value) (out : α) (c : Int), e = .returned (.tuple #[u, .int .i64 c]) ∧ R w' u out ∧ Below w.heap.size w w' ∧ RsOut P z c0 out c
end Go.Proofs.Ytpdkfidmmjlmnab
