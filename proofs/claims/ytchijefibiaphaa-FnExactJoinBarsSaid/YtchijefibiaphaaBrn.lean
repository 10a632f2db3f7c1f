/-
  Bars of a degree, and those that last, by contract: barsAt, CountLasting of both sides.
-/
import Derived.Test.YtchijefibiaphaaBrq
namespace Go.Proofs.Ytchijefibiaphaa
open Go.RowKit Go.Sort

/-- The cells of a list of bars, one behind the other. -/
def bcl (L : List B3) : List Value := L.flatMap bc
theorem bcl_length (L : List B3) : (bcl L).length = L.length * 3 := by
  induction L with
  | nil => rfl
  | cons v L ih => rw [bcl, List.flatMap_cons, List.length_append]; unfold bcl at ih; rw [ih, List.length_cons]; simp [bc]; omega
theorem bcl_append (L M : List B3) : bcl (L ++ M) = bcl L ++ bcl M := by simp [bcl]
theorem bcl_at {L : List B3} : ∀ {k : Nat} (h : k < L.length), (bcl L)[k * 3]? = some (.int .i64 L[k].1) ∧ (bcl L)[k * 3 + 1]? = some (.int .i64 L[k].2.1) ∧ (bcl L)[k * 3 + 2]? = some (.int .i64 L[k].2.2) := by
  induction L with
  | nil => intro k h; simp at h
  | cons v L ih =>
    intro k h
    cases k with
    | zero => simp [bcl, bc]
    | succ k =>
      have := ih (k := k) (by simpa using h)
      have e : bcl (v :: L) = .int .i64 v.1 :: .int .i64 v.2.1 :: .int .i64 v.2.2 :: bcl L := by simp [bcl, bc]
      rw [e, show (k + 1) * 3 = k * 3 + 1 + 1 + 1 by omega, show k * 3 + 1 + 1 + 1 + 1 = (k * 3 + 1) + 1 + 1 + 1 by omega, show k * 3 + 1 + 1 + 1 + 2 = (k * 3 + 2) + 1 + 1 + 1 by omega]
      simp only [List.getElem?_cons_succ, List.getElem_cons_succ]
      exact this
/-- A slice of bars that the call has made, in blocks from base on. -/
def Gbr (base : Nat) (w : World) (s : Value) (L : List B3) : Prop := w.ownsRow base 53 3 s L.length (bcl L)
theorem Gbr.nil (base : Nat) (w : World) : Gbr base w (.slice none 0 0) [] := ⟨rfl, Or.inl ⟨rfl, rfl⟩⟩
theorem Gbr.below {base : Nat} {w w' : World} {s : Value} {L : List B3} (h : Gbr base w s L) (hb : Below w.heap.size w w') : Gbr base w' s L := owns_below h hb
theorem Gbr.lt {base : Nat} {w : World} {v : Value} {L : List B3} (h : Gbr base w v L) : ∀ k, v.ownBlock = some k → base ≤ k ∧ k < w.heap.size := World.ownsRow.lt h
theorem Gbr.shape {base : Nat} {w : World} {s : Value} {L : List B3} (h : Gbr base w s L) : ∃ ad cap, s = .slice ad L.length cap := by
  rcases h.2 with ⟨hs, h0⟩ | ⟨g, cap, cur, hs, _⟩
  · exact ⟨none, 0, by rw [hs, h0]⟩
  · exact ⟨_, cap, hs⟩
theorem Gbr.br {base : Nat} {w : World} {s : Value} {L : List B3} (h : Gbr base w s L) : Br base w s L := by
  rcases h.2 with ⟨hs, h0⟩ | ⟨g, cap, cur, hs, hg, hb, hn, _, hcur, ht⟩
  · exact Or.inl ⟨List.eq_nil_of_length_eq_zero h0, none, 0, hs⟩
  · by_cases h0 : L.length = 0
    · exact Or.inl ⟨List.eq_nil_of_length_eq_zero h0, _, cap, by rw [hs, h0]⟩
    · refine Or.inr ⟨g, 0, cap, hs, hg, by omega, fun k hk => ?_⟩
      have h1 := bcl_at hk
      rw [← ht, List.getElem?_take, if_pos (by omega), List.getElem?_take, if_pos (by omega), List.getElem?_take, if_pos (by omega)] at h1
      refine ⟨?_, ?_, ?_⟩
      · rw [cell_of_row _ _ _ _ _ _ hb, ← h1.1]; simp
      · rw [cell_of_row _ _ _ _ _ _ hb, ← h1.2.1]; simp
      · rw [cell_of_row _ _ _ _ _ _ hb, ← h1.2.2]; simp
section
variable {ops : Array Oper} {rest : List Oper} {o : Oper} {a : Act} {w : World} {Q : Exit → Act → World → Prop}
theorem wpList_appendBar (hg : o.guard = none) (dst : Option Tmp) (hdst : o.dst = dst) (s x : Operand) (ho : o.op = .call { callee := .builtin .append, args := #[s, x], argTypes := #[42, 42] })
    (base : Nat) (sv : Value) (L : List B3) (hs : a.eval s = sv) (hown : Gbr base w sv L) (b : Nat) (q : B3) (hx : a.eval x = .slice (some ⟨b, 0, none⟩) 1 1) (h0 : w.cell? ⟨b, 0, none⟩ = some (.int .i64 q.1)) (h1 : w.cell? ⟨b, 1, none⟩ = some (.int .i64 q.2.1)) (h2 : w.cell? ⟨b, 2, none⟩ = some (.int .i64 q.2.2)) (hl : L.length ≤ 1048576) (hbase : base ≤ w.heap.size)
    (h : ∀ s' w', Gbr base w' s' (L ++ [q]) → w.grownBy w' sv.ownBlock → wpList Try.prog ops Q rest (a.put dst s') w') : wpList Try.prog ops Q (o :: rest) a w := by
  obtain ⟨i0, hi, hz0, hz1, hz2⟩ := info_parts Try.infoIBar
  subst hdst
  refine wpList_append_own w hg s x 42 ho base 53 i0 (.agg #[.int .i64 0, .int .i64 0, .int .i64 0]) 3 24 (by kernel_rfl) hi hz0 hz1 hz2 rfl (by omega) sv L.length (bcl L) hs hown ⟨b, 0, none⟩ 1 1 [.int .i64 q.1, .int .i64 q.2.1, .int .i64 q.2.2] hx rfl ?_ ?_ (by unfold maxLen; omega) (by omega) hbase (fun s' w' k1 k2 _ => h s' w' ?_ k2)
  · intro j u hu
    match j, hu with
    | 0, hu =>
      simp at hu
      subst hu
      exact h0
    | 1, hu =>
      simp at hu
      subst hu
      exact h1
    | 2, hu =>
      simp at hu
      subst hu
      exact h2
  · intro u hu
    simp at hu
    rcases hu with rfl | rfl | rfl <;> rfl
  · unfold Gbr
    rw [bcl_append, List.length_append]
    exact k1
end
/-- The bars of a degree. -/
def atDeg (n : Int) (L : List B3) : List B3 := L.filter (fun x => decide (x.1 = n))
theorem atDeg_yes {n : Int} {L : List B3} {x : B3} (h : x.1 = n) : atDeg n (L ++ [x]) = atDeg n L ++ [x] := by simp [atDeg, h]
theorem atDeg_no {n : Int} {L : List B3} {x : B3} (h : ¬ x.1 = n) : atDeg n (L ++ [x]) = atDeg n L := by simp [atDeg, h]
theorem atDeg_le (n : Int) (L : List B3) : (atDeg n L).length ≤ L.length := List.length_filter_le _ _
def BaR (L : List B3) (w : World) (e : Ending) (w' : World) : Prop := ∃ u, e = .returned u ∧ Below w.heap.size w w' ∧ Gbr w.heap.size w' u L

set_option maxHeartbeats 3200000 in
set_option maxRecDepth 100000 in
theorem barsAt_any (v : Value) (xs : List B3) (n : Int) (w : World) (h : Br 0 w v xs) (hl : xs.length ≤ 1048576) : Calls Try.prog 80 #[v, .int .i64 n] w (BaR (atDeg n xs) w) := by
  obtain ⟨av, cv, rfl⟩ := h.shape
  have H := Lib.hid h
  clear h
  go_enter Try.func80, Try.ntmps80
  go_wp2
  go_loopw [5, 10] (fun s i wr => ∃ (k : Nat), k ≤ xs.length ∧ i = .int .i64 k ∧ Hid (Below w.heap.size w wr) ∧ Hid (Gbr w.heap.size wr s (atDeg n (xs.take k)))) (fun _ i _ => xs.length - (intOf i).toNat)
  case atStart => exact ⟨0, Nat.zero_le _, rfl, Lib.hid (Below.refl _ _), Lib.hid (Gbr.nil _ _)⟩
  case round =>
    obtain ⟨k, hk, rfl, HG, HS⟩ := hrel
    obtain ⟨wx, hwx⟩ : ∃ wx : World, wx = wr := ⟨_, rfl⟩
    subst hwx
    have hxs : w.heap.size ≤ wx.heap.size := HG.out.size
    obtain ⟨asl, csl, hsl⟩ := HS.out.shape
    obtain ⟨nl, hnl⟩ : ∃ nl, nl = (atDeg n (xs.take k)).length := ⟨_, rfl⟩
    rw [← hnl] at hsl
    subst hsl
    have HNL := Lib.hid hnl
    clear hnl
    by_cases hlt : k < xs.length
    · have hkl : (k : Int) < (xs.length : Int) := by omega
      obtain ⟨bv, ov, hav, _, _, _, p0, p1, p2⟩ := H.out.at' (k := k) hlt
      subst hav
      obtain ⟨x, hx⟩ : ∃ x, x = xs[k] := ⟨_, rfl⟩
      rw [← hx] at p0 p1 p2
      have q0 := later HG.out (Nat.le_refl _) p0
      have q1 := later HG.out (Nat.le_refl _) p1
      have q2 := later HG.out (Nat.le_refl _) p2
      have HTK : Hid (xs.take (k + 1) = xs.take k ++ [x]) := Lib.hid (by rw [take_snoc hlt, hx])
      clear p0 p1 p2 hx
      obtain ⟨a, b, d⟩ := x
      dsimp only at q0 q1 q2
      obtain ⟨wb, hwb⟩ : ∃ wb : World, wb = wx.alloc (.cells #[.int .i64 a, .int .i64 b, .int .i64 d] 53) := ⟨_, rfl⟩
      have hbb : Below wx.heap.size wx wb := by rw [hwb]; exact below_alloc1 _ _
      have HGB := Lib.hid (HG.out.trans (hbb.mono hxs))
      have HSB := Lib.hid (HS.out.below hbb)
      have t0 : wb.cell? ⟨wx.heap.size, 0, none⟩ = some (.int .i64 a) := by rw [hwb]; simp
      have t1 : wb.cell? ⟨wx.heap.size, 1, none⟩ = some (.int .i64 b) := by rw [hwb]; simp
      have t2 : wb.cell? ⟨wx.heap.size, 2, none⟩ = some (.int .i64 d) := by rw [hwb]; simp
      clear hbb
      go_upto_region 5 with fail
      rw [← hwb]
      clear hwb q0 q1 q2 HG HS
      by_cases c1 : a = n
      · have e1 : (a == n) = true := by simp [c1]
        have HDE : Hid (atDeg n (xs.take (k + 1)) = atDeg n (xs.take k) ++ [(a, b, d)]) := Lib.hid (by rw [HTK.out, atDeg_yes c1])
        clear c1
        have hba : Below wb.heap.size wb (wb.alloc (.cells #[.int .i64 a, .int .i64 b, .int .i64 d] 53)) := below_alloc1 _ _
        have HGC := Lib.hid (HGB.out.trans (hba.mono HGB.out.size))
        have HSC := Lib.hid (HSB.out.below hba)
        have k0 : (wb.alloc (.cells #[.int .i64 a, .int .i64 b, .int .i64 d] 53)).cell? ⟨wb.heap.size, 0, none⟩ = some (.int .i64 a) := by simp
        have k1 : (wb.alloc (.cells #[.int .i64 a, .int .i64 b, .int .i64 d] 53)).cell? ⟨wb.heap.size, 1, none⟩ = some (.int .i64 b) := by simp
        have k2 : (wb.alloc (.cells #[.int .i64 a, .int .i64 b, .int .i64 d] 53)).cell? ⟨wb.heap.size, 2, none⟩ = some (.int .i64 d) := by simp
        have K0 := Lib.hid k0
        have K1 := Lib.hid k1
        have K2 := Lib.hid k2
        have HL4 : Hid ((atDeg n (xs.take k)).length ≤ 1048576) := Lib.hid (by have := atDeg_le n (xs.take k); rw [List.length_take] at this; omega)
        have HSZ : Hid (w.heap.size ≤ (wb.alloc (.cells #[.int .i64 a, .int .i64 b, .int .i64 d] 53)).heap.size) := Lib.hid (HGC.out.size)
        clear hba k0 k1 k2 HSB HGB
        go_wp2_with (at_builtin; refine wpList_appendBar rfl (some 21) rfl (.tmp 18) (.tmp 20) rfl w.heap.size _ (atDeg n (xs.take k)) rfl HSC.out wb.heap.size (a, b, d) rfl K0.out K1.out K2.out HL4.out HSZ.out ?_)
        intro s9 w9 hn hgw
        have HS9 : Hid (Gbr w.heap.size w9 s9 (atDeg n (xs.take (k + 1)))) := Lib.hid (by rw [HDE.out]; exact hn)
        have HG9 : Hid (Below w.heap.size w w9) := Lib.hid (HGC.out.grown hgw HGC.out.size (fun g hg => (HSC.out.lt g hg).1))
        clear hn hgw t0 t1 t2
        go_wp2
        go_roundw
        case rel => first | exact ⟨k + 1, by omega, by go_num, HG9, HS9⟩ | ((repeat apply Exists.intro); exact ⟨⟨k + 1, by omega, by go_num, HG9, HS9⟩, rfl⟩)
        case measure => simp [intOf]; omega
      · have e1 : (a == n) = false := by simp [c1]
        have HDE : Hid (atDeg n (xs.take (k + 1)) = atDeg n (xs.take k)) := Lib.hid (by rw [HTK.out, atDeg_no c1])
        have HS9 : Hid (Gbr w.heap.size wb (.slice asl nl csl) (atDeg n (xs.take (k + 1)))) := Lib.hid (by rw [HDE.out]; exact HSB.out)
        clear c1
        go_wp2
        go_roundw
        case rel => exact ⟨k + 1, by omega, by go_num, HGB, HS9⟩
        case measure => simp [intOf]; omega
    · have hkl : ¬ (k : Int) < (xs.length : Int) := by omega
      have HS9 : Hid (Gbr w.heap.size wx (.slice asl nl csl) (atDeg n xs)) := Lib.hid (by have := HS.out; rwa [List.take_of_length_le (by omega)] at this)
      go_wp2
      go_ret
      exact ⟨_, rfl, HG.out, HS9.out⟩
end Go.Proofs.Ytchijefibiaphaa
