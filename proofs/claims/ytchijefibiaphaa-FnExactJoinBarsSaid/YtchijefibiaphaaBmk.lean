/-
  Bars as results of a call: in a block of their own, marked, and the marks found again.
-/
import Derived.Test.YtchijefibiaphaaBrl
import Derived.Test.YtchijefibiaphaaBrn
import Derived.Test.YtchijefibiaphaaRw
namespace Go.Proofs.Ytchijefibiaphaa
open Go.RowKit

/-- Bars in a block of a call's own, which may have more room. -/
def RwB (lo hi : Nat) (W : World) (u : Value) (xs : List B3) : Prop :=
  (xs = [] ∧ ∃ ad cap, u = .slice ad 0 cap) ∨
  ∃ b cap n f, u = .slice (some ⟨b, 0, none⟩) xs.length cap ∧ lo ≤ b ∧ b < hi ∧ 0 < xs.length ∧ xs.length * 3 ≤ n ∧ W.rowIs b 53 n f ∧ ∀ k (h : k < xs.length), f (k * 3) = .int .i64 xs[k].1 ∧ f (k * 3 + 1) = .int .i64 xs[k].2.1 ∧ f (k * 3 + 2) = .int .i64 xs[k].2.2
theorem RwB.br {lo hi : Nat} {w : World} {v : Value} {xs : List B3} (h : RwB lo hi w v xs) : Br lo w v xs := by
  rcases h with h | ⟨b, cap, n, f, hv, hlo, _, hpos, hn, hr, hf⟩
  · exact Or.inl h
  · refine Or.inr ⟨b, 0, cap, hv, hlo, hpos, fun k hk => ?_⟩
    obtain ⟨e0, e1, e2⟩ := hf k hk
    rw [← e0, ← e1, ← e2]
    exact ⟨by simpa using hr.cell (i := k * 3) (by omega), by simpa using hr.cell (i := k * 3 + 1) (by omega), by simpa using hr.cell (i := k * 3 + 2) (by omega)⟩
theorem RwB.l {lo hi : Nat} {w : World} {v : Value} {xs : List B3} (h : RwB lo hi w v xs) : Br 0 w v xs := h.br.lower (Nat.zero_le _)
theorem RwB.shape {lo hi : Nat} {w : World} {v : Value} {xs : List B3} (h : RwB lo hi w v xs) : ∃ ad cap, v = .slice ad xs.length cap := h.br.shape
theorem RwB.same {lo hi : Nat} {w w' : World} {v : Value} {xs : List B3} (h : RwB lo hi w v xs) (hs : Same lo hi w w') : RwB lo hi w' v xs := by
  rcases h with h | ⟨b, cap, n, f, hv, hlo, hhi, hpos, hn, hr, hf⟩
  · exact Or.inl h
  · exact Or.inr ⟨b, cap, n, f, hv, hlo, hhi, hpos, hn, hr.of_block (hs b hlo hhi), hf⟩
theorem RwB.nil (lo hi : Nat) (w : World) : RwB lo hi w (.slice none 0 0) [] := Or.inl ⟨rfl, _, _, rfl⟩
theorem BrW.rwb {lo hi : Nat} {w : World} {v : Value} {xs : List B3} (h : BrW lo hi w v xs) : RwB lo hi w v xs := by
  rcases h with h | ⟨b, cap, f, hv, hlo, hhi, hpos, hr, hf⟩
  · exact Or.inl h
  · exact Or.inr ⟨b, cap, _, f, hv, hlo, hhi, hpos, Nat.le_refl _, hr, hf⟩
/-- The same with marks in it. -/
def MkB (lo hi : Nat) (W : World) (u : Value) (k : Int) (m : Nat) : Prop :=
  (m = 0 ∧ ∃ ad cap, u = .slice ad 0 cap) ∨
  ∃ b cap n f, u = .slice (some ⟨b, 0, none⟩) m cap ∧ lo ≤ b ∧ b < hi ∧ 0 < m ∧ m * 3 ≤ n ∧ W.rowIs b 53 n f ∧ ∀ q, q < m * 3 → f q = .int .i64 (k + (q : Int))
theorem MkB.same {lo hi : Nat} {w w' : World} {v : Value} {k : Int} {m : Nat} (h : MkB lo hi w v k m) (hs : Same lo hi w w') : MkB lo hi w' v k m := by
  rcases h with h | ⟨b, cap, n, f, hv, hlo, hhi, hpos, hn, hr, hf⟩
  · exact Or.inl h
  · exact Or.inr ⟨b, cap, n, f, hv, hlo, hhi, hpos, hn, hr.of_block (hs b hlo hhi), hf⟩
def MkBR (lo hi : Nat) (u : Value) (k : Int) (m : Nat) (w : World) (e : Ending) (w' : World) : Prop := e = .returned (.int .i64 (k + 3 * (m : Int))) ∧ Only lo hi w w' ∧ MkB lo hi w' u k m

set_option maxHeartbeats 1600000 in
theorem markBar_any {lo hi : Nat} (u : Value) (xs : List B3) (k : Int) (w : World) (h : RwB lo hi w u xs) (hm : xs.length ≤ 1048576) (hk0 : 0 ≤ k) (hk1 : k ≤ 4611686018427387904) :
    Calls Try.prog 43 #[u, .int .i64 k] w (MkBR lo hi u k xs.length w) := by
  rcases h with ⟨hx, ad, cap, hv⟩ | ⟨b, cap, n, f, hv, hlo, hhi, hpos, hn, hr, _⟩
  · subst hx hv
    go_enter Try.func43, Try.ntmps43
    go_wp2
    refine wp_loop_rounds 1 ?_
    rw [rounds_succ]
    go_wp2
    go_ret
    exact ⟨ret_int (by simp), Only.refl _ _ _, Or.inl ⟨rfl, _, _, rfl⟩⟩
  · subst hv
    obtain ⟨l, hl⟩ : ∃ l, l = xs.length := ⟨_, rfl⟩
    rw [← hl] at hm hn hpos ⊢
    clear hl
    have HR := Lib.hid hr
    clear hr
    go_enter Try.func43, Try.ntmps43
    go_wp2
    go_loopw [1, 5] (fun kk i wr => ∃ (j : Nat) (g : Nat → Value), j ≤ l ∧ i = .int .i64 j ∧ kk = .int .i64 (k + 3 * (j : Int)) ∧ Hid (Only lo hi w wr) ∧ Hid (wr.rowIs b 53 n g) ∧ Hid (∀ q, q < j * 3 → g q = .int .i64 (k + (q : Int)))) (fun _ i _ => l - (intOf i).toNat)
    case atStart => exact ⟨0, f, Nat.zero_le _, rfl, by simp, Lib.hid (Only.refl _ _ _), HR, Lib.hid (fun q hq => absurd hq (by omega))⟩
    case round =>
      clear HR
      obtain ⟨j, g, hj, rfl, rfl, HO, HR, HG⟩ := hrel
      by_cases hlt : j < l
      · obtain ⟨kk, hkk⟩ : ∃ kk, kk = k + 3 * (j : Int) := ⟨_, rfl⟩
        rw [← hkk]
        have hw1 : IntKind.i64.wrap (kk + 1) = kk + 1 := IntWalk.i64_in _ (by omega)
        have hw2 : IntKind.i64.wrap (kk + 1 + 1) = kk + 1 + 1 := IntWalk.i64_in _ (by omega)
        have hw3 : IntKind.i64.wrap (kk + 1 + 1 + 1) = kk + 1 + 1 + 1 := IntWalk.i64_in _ (by omega)
        have r1 := HR.out.set (j * 3) (.int .i64 kk)
        have r2 := r1.set (j * 3 + 1) (.int .i64 (kk + 1))
        have r3 := r2.set (j * 3 + 2) (.int .i64 (kk + 1 + 1))
        have q0 := HR.out.cell (i := j * 3) (by omega)
        have q1 := r1.cell (i := j * 3 + 1) (by omega)
        have q2 := r2.cell (i := j * 3 + 2) (by omega)
        have z0 := HR.out.frozen (j * 3)
        have z1 := r1.frozen (j * 3 + 1)
        have z2 := r2.frozen (j * 3 + 2)
        have HO3 : Hid (Only lo hi w (((wr.setCell ⟨b, j * 3, none⟩ (.int .i64 kk)).setCell ⟨b, j * 3 + 1, none⟩ (.int .i64 (kk + 1))).setCell ⟨b, j * 3 + 2, none⟩ (.int .i64 (kk + 1 + 1)))) := Lib.hid (((HO.out.trans (Only.set _ hlo hhi)).trans (Only.set _ hlo hhi)).trans (Only.set _ hlo hhi))
        have HR3 := Lib.hid r3
        have HG3 : Hid (∀ q, q < (j + 1) * 3 → (fun i => if i = j * 3 + 2 then Value.int .i64 (kk + 1 + 1) else if i = j * 3 + 1 then .int .i64 (kk + 1) else if i = j * 3 then .int .i64 kk else g i) q = .int .i64 (k + (q : Int))) := Lib.hid (fun q hq => by
          simp only
          by_cases e2 : q = j * 3 + 2
          · rw [if_pos e2]; congr 1; omega
          · rw [if_neg e2]
            by_cases e1 : q = j * 3 + 1
            · rw [if_pos e1]; congr 1; omega
            · rw [if_neg e1]
              by_cases e0 : q = j * 3
              · rw [if_pos e0]; congr 1; omega
              · rw [if_neg e0]; exact HG.out q (by omega))
        have HKK := Lib.hid hkk
        clear r1 r2 r3 hkk
        go_wp2
        go_roundw
        case rel => exact ⟨j + 1, _, by omega, by go_num, by have := HKK.out; congr 1; omega, HO3, Lib.hid (HR3.out.congr (fun i _ => by first | rfl | simp)), HG3⟩
        case measure => simp [intOf]; omega
      · have HE : Hid (j = l) := Lib.hid (by omega)
        go_wp2
        go_ret
        refine ⟨ret_int (by rw [HE.out]), HO.out, Or.inr ⟨b, cap, n, g, rfl, hlo, hhi, hpos, hn, HR.out, fun q hq => HG.out q (by rw [HE.out]; exact hq)⟩⟩

set_option maxHeartbeats 1600000 in
theorem heldBar_any {lo hi : Nat} (u : Value) (m : Nat) (k : Int) (w : World) (h : MkB lo hi w u k m) (hm : m ≤ 1048576) (hk0 : 0 ≤ k) (hk1 : k ≤ 4611686018427387904) :
    Calls Try.prog 44 #[u, .int .i64 k] w (QW (.int .i64 (k + 3 * (m : Int))) w) := by
  rcases h with ⟨hx, ad, cap, hv⟩ | ⟨b, cap, n, f, hv, hlo, hhi, hpos, hn, hr, hf⟩
  · subst hx hv
    go_enter Try.func44, Try.ntmps44
    go_wp2
    refine wp_loop_rounds 1 ?_
    rw [rounds_succ]
    go_wp2
    go_ret
    exact ⟨ret_int (by simp), rfl⟩
  · subst hv
    have HR := Lib.hid hr
    have HF := Lib.hid hf
    clear hr hf
    go_enter Try.func44, Try.ntmps44
    go_wp2
    go_loop [1, 5] (fun kk i => ∃ (j : Nat), j ≤ m ∧ i = .int .i64 j ∧ kk = .int .i64 (k + 3 * (j : Int))) (fun _ i => m - (intOf i).toNat)
    case atStart => exact ⟨0, Nat.zero_le _, rfl, by simp⟩
    case round =>
      obtain ⟨j, hj, rfl, rfl⟩ := hrel
      by_cases hlt : j < m
      · obtain ⟨kk, hkk⟩ : ∃ kk, kk = k + 3 * (j : Int) := ⟨_, rfl⟩
        rw [← hkk]
        have hw1 : IntKind.i64.wrap (kk + 1) = kk + 1 := IntWalk.i64_in _ (by omega)
        have hw2 : IntKind.i64.wrap (kk + 1 + 1) = kk + 1 + 1 := IntWalk.i64_in _ (by omega)
        have hw3 : IntKind.i64.wrap (kk + 1 + 1 + 1) = kk + 1 + 1 + 1 := IntWalk.i64_in _ (by omega)
        have q0 : w.cell? ⟨b, j * 3, none⟩ = some (.int .i64 kk) := by rw [HR.out.cell (i := j * 3) (by omega), HF.out (j * 3) (by omega)]; congr 2; omega
        have q1 : w.cell? ⟨b, j * 3 + 1, none⟩ = some (.int .i64 (kk + 1)) := by rw [HR.out.cell (i := j * 3 + 1) (by omega), HF.out (j * 3 + 1) (by omega)]; congr 2; omega
        have q2 : w.cell? ⟨b, j * 3 + 2, none⟩ = some (.int .i64 (kk + 1 + 1)) := by rw [HR.out.cell (i := j * 3 + 2) (by omega), HF.out (j * 3 + 2) (by omega)]; congr 2; omega
        have n0 : (kk != kk) = false := by simp
        have n1 : ((kk + 1) != (kk + 1)) = false := by simp
        have n2 : ((kk + 1 + 1) != (kk + 1 + 1)) = false := by simp
        have HKK := Lib.hid hkk
        clear hkk
        go_wp2
        go_round
        case rel => exact ⟨j + 1, by omega, by go_num, by have := HKK.out; congr 1; omega⟩
        case measure => simp [intOf]; omega
      · have HE : Hid (j = m) := Lib.hid (by omega)
        go_wp2
        go_ret
        exact ⟨ret_int (by rw [HE.out]), rfl⟩
end Go.Proofs.Ytchijefibiaphaa
