/-
  Homology lists: both sides by their contracts.
-/
import Derived.Test.YtchijefibiaphaaP4
namespace Go.Proofs.Ytchijefibiaphaa
open Go.RowKit

/-- The rests of a list modulo a reduced one. -/
structure RestsOf (p : Int) (n : Nat) (B C tt : List Lin.V) : Prop where
  rest : ∀ i (h : i < tt.length) (h2 : i < C.length), Lin.Rest p B C[i] B.length tt[i]
  wd : ∀ u ∈ tt, Lin.Wd n u
theorem RestsOf.nil (p : Int) (n : Nat) (B C : List Lin.V) : RestsOf p n B C [] := ⟨fun i h => absurd h (Nat.not_lt_zero _), by simp⟩
theorem RestsOf.push {p : Int} {n : Nat} {B C tt : List Lin.V} (h : RestsOf p n B C tt) {r : Lin.V} (hk : tt.length < C.length) (hr : Lin.Rest p B C[tt.length] B.length r) (hw : Lin.Wd n r) : RestsOf p n B C (tt ++ [r]) := by
  refine ⟨fun i h1 h2 => ?_, fun u hu => ?_⟩
  · by_cases e : i < tt.length
    · rw [List.getElem_append_left e]
      exact h.rest i e h2
    · have e2 : i = tt.length := by simp at h1; omega
      subst e2
      rw [List.getElem_append_right (Nat.le_refl _)]
      simpa using hr
  · rcases List.mem_append.1 hu with h1 | h1
    · exact h.wd u h1
    · rw [List.mem_singleton.1 h1]; exact hw
theorem sp_off {p : Int} {tt B : List Lin.V} (h : ∀ u ∈ tt, ∀ w ∈ B, u (Lin.ld w) = 0) {t : Lin.V} (ht : Lin.Sp p tt t) : ∀ w ∈ B, t (Lin.ld w) = 0 := by
  induction ht with
  | zero => intro w _; rfl
  | step c _ hu ih =>
    intro w hw
    simp [Lin.add, ih w hw, h _ hu w hw]
theorem sp_parts {p : Int} (hp : 0 < p) {tt B : List Lin.V} {v : Lin.V} (h : Lin.Sp p (tt ++ B) v) : ∃ t b, Lin.Sp p tt t ∧ Lin.Sp p B b ∧ v = Lin.add p t 1 b := by
  induction h with
  | zero => exact ⟨Lin.zv, Lin.zv, .zero, .zero, (Lin.add_zv (Lin.zv_md hp) 1).symm⟩
  | step c _ hw ih =>
    obtain ⟨t, b, h1, h2, rfl⟩ := ih
    rcases List.mem_append.1 hw with h3 | h3
    · exact ⟨_, b, .step c h1 h3, h2, Lin.add_swap p t b _ 1 c⟩
    · refine ⟨t, _, h1, .step c h2 h3, ?_⟩
      rw [Lin.add_add, Int.one_mul]
theorem rests_sp {p : Int} (hp : 1 < p) {n : Nat} {B C tt : List Lin.V} (hB : Lin.Red p B) (h : RestsOf p n B C tt) (hl : tt.length = C.length) (v : Lin.V) : Lin.Sp p tt v ↔ Lin.Sp p (C ++ B) v ∧ ∀ w ∈ B, v (Lin.ld w) = 0 := by
  have hp0 : 0 < p := by omega
  have hoff : ∀ u ∈ tt, ∀ w ∈ B, u (Lin.ld w) = 0 := fun u hu w hw => by
    obtain ⟨i, hi, rfl⟩ := List.getElem_of_mem hu
    exact (h.rest i hi (by omega)).off w (by rw [List.take_of_length_le (Nat.le_refl _)]; exact hw)
  have hm : ∀ u ∈ tt, Lin.Md p u := fun u hu => by
    obtain ⟨i, hi, rfl⟩ := List.getElem_of_mem hu
    exact (h.rest i hi (by omega)).md
  constructor
  · intro hv
    refine ⟨Lin.Sp.trans hp0 (fun u hu => ?_) hv, sp_off hoff hv⟩
    obtain ⟨i, hi, rfl⟩ := List.getElem_of_mem hu
    have hic : i < C.length := by omega
    refine Lin.Sp.mono (fun x hx => ?_) (h.rest i hi hic).to
    rcases List.mem_cons.1 hx with rfl | h1
    · exact List.mem_append_left _ (List.getElem_mem hic)
    · exact List.mem_append_right _ h1
  · rintro ⟨hv, h0⟩
    have h1 : Lin.Sp p (tt ++ B) v := Lin.Sp.trans hp0 (fun u hu => by
      rcases List.mem_append.1 hu with h2 | h2
      · obtain ⟨i, hi, rfl⟩ := List.getElem_of_mem h2
        have hit : i < tt.length := by omega
        refine Lin.Sp.mono (fun x hx => ?_) (h.rest i hit hi).of
        rcases List.mem_cons.1 hx with rfl | h3
        · exact List.mem_append_left _ (List.getElem_mem hit)
        · exact List.mem_append_right _ h3
      · exact Lin.Sp.mem (List.mem_append_right _ h2) (hB.md u h2)) hv
    obtain ⟨t, b, ht, hb, rfl⟩ := sp_parts hp0 h1
    have htz := sp_off hoff ht
    have hbz : b = Lin.zv := hB.zero_of hp0 hb (fun w hw => by
      have := h0 w hw
      rw [Lin.add, htz w hw, Int.zero_add, Int.one_mul] at this
      have hbm := hb.md hp0 (Lin.ld w)
      rwa [Lin.md_mod hbm.1 hbm.2] at this)
    rw [hbz, Lin.add_zv (ht.md hp0) 1]
    exact ht

/-- The homology space of a degree. -/
def HomS (p : Int) (ds : List Int) (ms : List (List (List Int))) (q : Nat) (v : Lin.V) : Prop :=
  ∃ C B, SpF p (dimN ds (q : Int)) (CycS p (dimN ds (q : Int)) (cycM ds q) (cycT ds ms q)) C ∧ SpF p (dimN ds (q : Int)) (Lin.Sp p ((tabN ms q).map ofL)) B ∧ Lin.Sp p (C ++ B) v ∧ ∀ w ∈ B, v (Lin.ld w) = 0
theorem homS_of {p : Int} (hp : 1 < p) {ds : List Int} {ms : List (List (List Int))} {q : Nat} {C B tt R : List Lin.V} (hC : SpF p (dimN ds (q : Int)) (CycS p (dimN ds (q : Int)) (cycM ds q) (cycT ds ms q)) C) (hB : SpF p (dimN ds (q : Int)) (Lin.Sp p ((tabN ms q).map ofL)) B)
    (hT : RestsOf p (dimN ds (q : Int)) B C tt) (hl : tt.length = C.length) (hR : Lin.Red p R) (he : Lin.Eqv p R tt) : SpF p (dimN ds (q : Int)) (HomS p ds ms q) R := by
  refine ⟨hR, fun u hu => Lin.Sp.wd hT.wd ((he u).1 (Lin.Sp.mem hu (hR.md u hu))), fun v => ?_⟩
  rw [he v, rests_sp hp hB.1 hT hl v]
  constructor
  · exact fun h => ⟨C, B, hC, hB, h⟩
  · rintro ⟨C', B', hC', hB', h⟩
    have e1 : C = C' := Lin.Red.unique hp hC.1 hC'.1 (fun v => (hC.2.2 v).trans (hC'.2.2 v).symm)
    have e2 : B = B' := Lin.Red.unique hp hB.1 hB'.1 (fun v => (hB.2.2 v).trans (hB'.2.2 v).symm)
    subst e1 e2
    exact h

theorem fill_set (tt : List Lin.V) (m : Nat) (r : Lin.V) : (tt ++ List.replicate (m + 1) Lin.zv).set tt.length r = (tt ++ [r]) ++ List.replicate m Lin.zv := by
  rw [List.set_append_right _ _ (Nat.le_refl _), Nat.sub_self, List.replicate_succ, List.set_cons_zero, List.append_assoc]
  rfl

/-- A table that is being gathered: the empty literal yet, or rows of its own. -/
def GsE (base g : Nat) (w : World) (v : Value) (tb : List (List Int)) : Prop := (tb = [] ∧ v = .slice (some ⟨g, 0, none⟩) 0 0) ∨ Gs base w v tb
theorem GsE.below {base g : Nat} {w w' : World} {v : Value} {tb : List (List Int)} (h : GsE base g w v tb) (hb : Below w.heap.size w w') : GsE base g w' v tb := h.imp id (fun h => h.below hb)
theorem GsE.l2 {base g : Nat} {w : World} {v : Value} {tb : List (List Int)} (h : GsE base g w v tb) : L2 0 w v tb := by
  rcases h with ⟨rfl, rfl⟩ | h
  · exact Or.inl ⟨rfl, _, _, rfl⟩
  · exact h.l2
section
variable {md : Region.Mode} {ops : Array Oper} {Q : Exit → Act → World → Prop} {S : World → Prop}
theorem held_appendE {i : Nat} {oi : Oper} {fuel : Nat} {listed : Array Bool} {a : Act} {w : World} (d : Option Tmp) (hr : Region.ready md ops listed = [i]) (hi : ops[i]? = some oi) (hg : oi.guard = none) (hd : oi.dst = d)
    (s x : Operand) (ho : oi.op = .call { callee := .builtin .append, args := #[s, x], argTypes := #[61, 61] }) (base g : Nat) (v : Value) (tb : List (List Int)) (hs : a.eval s = v) (hst : GsE base g w v tb)
    (b : Nat) (ad : Option Addr) (m c : Nat) (hx : a.eval x = .slice (some ⟨b, 0, none⟩) 1 1) (hc : w.cell? ⟨b, 0, none⟩ = some (.slice ad m c)) (y : List Int) (hy : G1 w (.slice ad m c) y) (hn : tb.length ≤ 1048576) (hb : base ≤ w.heap.size)
    (h : ∀ v' w', Gs base w' v' (tb ++ [y]) → Below base w w' → S w' ∧ wpAnyH Try.prog md ops Q S fuel (listed.setIfInBounds i true) (a.put d v') w') : wpAnyH Try.prog md ops Q S (fuel + 1) listed a w := by
  rcases hst with ⟨rfl, rfl⟩ | hG
  · obtain ⟨ie, hie, hz, h1, h2⟩ := info_parts Try.infoS
    subst hd
    have hrun := fun ty => run_append_grow (P := Try.prog) w 61 ty 22 ie _ Try.underlying61 hie hz ⟨g, 0, none⟩ 0 0 [] (by simp) (by simp) ⟨b, 0, none⟩ 1 1 [.slice ad m c] (by rw [h1]; rfl) (fun j u hj => by
      match j, hj with
      | 0, hj =>
        simp at hj
        subst hj
        exact hc) (by omega) (by omega) (by rw [h2]; exact growslice_fits (by omega) (by omega))
    obtain ⟨G, hG⟩ : ∃ G, G = grownCap w (0 + 1) 0 22 := ⟨_, rfl⟩
    rw [← hG] at hrun
    have hGn : 1 ≤ G := by rw [hG]; exact grownCap_ge w _ _ _
    have hGm : G ≤ maxLen := by rw [hG]; exact grownCap_le_maxLen w 1 0 _ (by unfold maxLen; omega)
    obtain ⟨ROW, hROW⟩ : ∃ ROW : Array Value, ROW = ([] : List Value).toArray ++ [Value.slice ad m c].toArray ++ Builtin.zeroCells (Value.slice none 0 0).cells (G - (0 + 1)) := ⟨_, rfl⟩
    rw [← hROW] at hrun
    have hsz : ROW.size = G := by
      rw [hROW]
      simp [Builtin.zeroCells, Value.cells]
      omega
    have hown : (w.drew.alloc (.cells ROW 22)).ownsRow base 22 1 (.slice (some ⟨w.heap.size, 0, none⟩) 1 G) 1 [.slice ad m c] :=
      ⟨rfl, Or.inr ⟨w.heap.size, G, ROW, rfl, hb, heap_alloc_new w.drew _, hGn, hGm, by rw [hsz]; omega, by rw [hROW]; simp⟩⟩
    have hbel : Below w.heap.size w (w.drew.alloc (.cells ROW 22)) := (Below.refl _ _).drew.alloc (Nat.le_refl _) _
    have hgs : Gs base (w.drew.alloc (.cells ROW 22)) (.slice (some ⟨w.heap.size, 0, none⟩) 1 G) ([] ++ [y]) := ⟨[.slice ad m c], hown, fun k h1 h2 => by
      have hk : k = 0 := by simpa using h1
      subst hk
      exact hy.below hbel⟩
    refine held_call hr hi hg (Lib.wp_append_run w s x 61 61 ho _ _ hs hx _ _ (hrun _) (h _ _ hgs (hbel.mono hb)))
  · obtain ⟨vs, hvo, hvr⟩ := hG
    refine held_appendS d hr hi hg hd s x ho base v tb.length vs hs hvo b ad m c hx hc (by omega) hb (fun v' w' hown hgrow => h v' w' (Gs.push hvo hvr hy hown hgrow) ((Below.refl _ _).grown hgrow hb (fun g hg => (World.ownsRow.lt hvo g hg).1)))
end

end Go.Proofs.Ytchijefibiaphaa
