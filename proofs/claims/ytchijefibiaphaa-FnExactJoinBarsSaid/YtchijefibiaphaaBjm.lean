/-
  Joined bars in plain words: the one list in order; reads of parts of a slice of bars.
-/
import Derived.Test.YtchijefibiaphaaBcc
import Derived.Test.YtchijefibiaphaaBrs
import Derived.Sort.Statements
namespace Go.Proofs.Ytchijefibiaphaa
open Go.RowKit Go.Sort

theorem cmp3_iff (x y : B3) : cmp3 x y < 0 ↔ x.1 < y.1 ∨ x.1 = y.1 ∧ (x.2.1 < y.2.1 ∨ x.2.1 = y.2.1 ∧ bk x < bk y) := by
  unfold cmp3
  repeat' split
  all_goals omega
theorem cmp3_ntrans {x y z : B3} (h : ¬ cmp3 x y < 0) (k : ¬ cmp3 y z < 0) : ¬ cmp3 x z < 0 := by
  rw [cmp3_iff] at *
  omega
theorem cmp3_asymm {x y : B3} (h : cmp3 x y < 0) : ¬ cmp3 y x < 0 := by
  rw [cmp3_iff] at *
  omega
/-- In order. -/
def Srt (L : List B3) : Prop := L.Pairwise (fun x y => ¬ cmp3 y x < 0)
/-- The bars of both lists, in order. -/
def JbS (L out : List B3) : Prop := out.Perm L ∧ Srt out
theorem JbS.unique {L a b : List B3} (hL : ∀ x ∈ L, BarOk x) (h : JbS L a) (k : JbS L b) : a = b :=
  List.Perm.eq_of_pairwise (le := fun x y => ¬ cmp3 y x < 0) (fun x y hx hy h1 h2 => cmp3_eq (hL x (h.1.mem_iff.1 hx)) (hL y (k.1.mem_iff.1 hy)) h2 h1) h.2 k.2 (h.1.trans k.1.symm)
theorem srt_ins {L : List B3} {x : B3} {i : Nat} (h : Srt L) (hi : i ≤ L.length) (hlo : i = 0 ∨ ∃ hl : i - 1 < L.length, ¬ cmp3 x L[i - 1] < 0) (hhi : ∀ j (hj : j < L.length), i ≤ j → cmp3 x L[j] < 0) : Srt (L.take i ++ ([x] ++ L.drop i)) := by
  unfold Srt at *
  have hp := List.pairwise_iff_getElem.1 h
  rw [← List.take_append_drop i L, List.pairwise_append] at h
  refine List.pairwise_append.2 ⟨h.1, ?_, ?_⟩
  · rw [List.singleton_append]
    refine List.pairwise_cons.2 ⟨fun y hy => ?_, h.2.1⟩
    obtain ⟨j, hj, rfl⟩ := List.getElem_of_mem hy
    rw [List.getElem_drop]
    exact cmp3_asymm (hhi (i + j) (by rw [List.length_drop] at hj; omega) (by omega))
  · intro y hy z hz
    rcases List.mem_append.1 hz with hz | hz
    · rw [List.mem_singleton.1 hz]
      obtain ⟨j, hj, rfl⟩ := List.getElem_of_mem hy
      rw [List.length_take] at hj
      rw [List.getElem_take]
      rcases hlo with h0 | ⟨hl, h0⟩
      · omega
      · by_cases e : j = i - 1
        · subst e; exact h0
        · have h1 := hp j (i - 1) (by omega) (by omega) (by omega)
          exact cmp3_ntrans h0 h1
    · exact h.2.2 y hy z hz
theorem perm_ins {L M : List B3} {x : B3} {i : Nat} (h : L.Perm M) : (L.take i ++ ([x] ++ L.drop i)).Perm (M ++ [x]) := by
  have h1 : (L.take i ++ ([x] ++ L.drop i)).Perm ([x] ++ (L.take i ++ L.drop i)) := by
    rw [← List.append_assoc, ← List.append_assoc]
    exact List.Perm.append_right _ List.perm_append_comm
  rw [List.take_append_drop] at h1
  exact (h1.trans (List.Perm.append_left _ h)).trans List.perm_append_comm
theorem srt_pair {L : List B3} (h : ∀ i j, i < j → (hj : j < L.length) → (hi : i < L.length) → ¬ cmp3 L[j] L[i] < 0) : Srt L := List.pairwise_iff_getElem.2 (fun i j hi hj hij => h i j hij hj hi)

/-- Parts of a slice of bars. -/
theorem br_drop {base : Nat} {w : World} {g n cap i : Nat} {L : List B3} (h : Gbr base w (.slice (some ⟨g, 0, none⟩) n cap) L) (hi : i ≤ L.length) : Br 0 w (.slice (some ⟨g, i * 3, none⟩) (L.length - i) (cap - i)) (L.drop i) := by
  have hb := h.br
  rcases hb with ⟨h0, _⟩ | ⟨b, o, cap', hv, _, hpos, hc⟩
  · subst h0
    exact Or.inl ⟨by simp, some ⟨g, i * 3, none⟩, cap - i, by simp⟩
  · injection hv with e1 e2 e3
    injection e1 with e1
    injection e1 with e1 e4
    subst e1 e4
    by_cases hz : i = L.length
    · exact Or.inl ⟨by rw [hz, List.drop_length], _, _, by rw [hz, Nat.sub_self]⟩
    · refine Or.inr ⟨g, i * 3, cap - i, by rw [List.length_drop], Nat.zero_le _, by rw [List.length_drop]; omega, fun k hk => ?_⟩
      rw [List.length_drop] at hk
      have := hc (i + k) (by omega)
      rw [List.getElem_drop]
      rw [show 0 + (i + k) * 3 = i * 3 + k * 3 by omega] at this
      exact this
theorem br_take {base : Nat} {w : World} {g n cap i : Nat} {L : List B3} (h : Gbr base w (.slice (some ⟨g, 0, none⟩) n cap) L) (hi : i ≤ L.length) : Br 0 w (.slice (some ⟨g, 0, none⟩) i cap) (L.take i) := by
  have hb := h.br
  rcases hb with ⟨h0, _⟩ | ⟨b, o, cap', hv, _, hpos, hc⟩
  · subst h0
    have : i = 0 := by simpa using hi
    subst this
    exact Or.inl ⟨by simp, _, _, rfl⟩
  · injection hv with e1 e2 e3
    injection e1 with e1
    injection e1 with e1 e4
    subst e1 e4
    by_cases hz : i = 0
    · subst hz; exact Or.inl ⟨by simp, _, _, rfl⟩
    · have hl : (L.take i).length = i := by rw [List.length_take]; omega
      refine Or.inr ⟨g, 0, cap, by rw [hl], Nat.zero_le _, by omega, fun k hk => ?_⟩
      rw [hl] at hk
      have := hc k (by omega)
      rw [List.getElem_take]
      exact this
theorem Gbr.cap_le {base : Nat} {w : World} {g n cap : Nat} {L : List B3} (h : Gbr base w (.slice (some ⟨g, 0, none⟩) n cap) L) : n = L.length ∧ n ≤ cap := by
  rcases h.2 with ⟨h0, _⟩ | ⟨g', cap', cur, hv, _, _, hnc, _⟩
  · cases h0
  · injection hv with e1 e2 e3
    subst e2 e3
    exact ⟨rfl, hnc⟩
end Go.Proofs.Ytchijefibiaphaa
