/-
  Lists of basis vectors that a call gathers; impl.basisOf by contract.
-/
import Derived.Test.YtpdkfidmmjlmnaaP4
import Derived.Test.YtpdkfidmmjlmnaaQc
namespace Go.Proofs.Ytpdkfidmmjlmnaa
open Go.RowKit

/-- The cells of a list of basis vectors, one behind the other. -/
def bcs (L : List (Int × Int)) : List Value := L.flatMap fun q => [.int .i64 q.1, .int .i64 q.2]
theorem bcs_length (L : List (Int × Int)) : (bcs L).length = L.length * 2 := by
  induction L with
  | nil => rfl
  | cons v L ih => rw [bcs, List.flatMap_cons, List.length_append]; unfold bcs at ih; rw [ih, List.length_cons]; simp; omega
theorem bcs_append (L M : List (Int × Int)) : bcs (L ++ M) = bcs L ++ bcs M := by simp [bcs]
theorem bcs_at {L : List (Int × Int)} : ∀ {k : Nat} (h : k < L.length), (bcs L)[k * 2]? = some (.int .i64 L[k].1) ∧ (bcs L)[k * 2 + 1]? = some (.int .i64 L[k].2) := by
  induction L with
  | nil => intro k h; simp at h
  | cons v L ih =>
    intro k h
    cases k with
    | zero => simp [bcs]
    | succ k =>
      have := ih (k := k) (by simpa using h)
      have e : bcs (v :: L) = .int .i64 v.1 :: .int .i64 v.2 :: bcs L := by simp [bcs]
      rw [e, show (k + 1) * 2 = k * 2 + 1 + 1 by omega, show k * 2 + 1 + 1 + 1 = (k * 2 + 1) + 1 + 1 by omega]
      simp only [List.getElem?_cons_succ, List.getElem_cons_succ]
      exact this
/-- A slice of basis vectors that the call has made, in blocks from base on. -/
def Ob (base : Nat) (w : World) (s : Value) (L : List (Int × Int)) : Prop := w.ownsRow base 113 2 s L.length (bcs L)
theorem Ob.nil (base : Nat) (w : World) : Ob base w (.slice none 0 0) [] := ⟨rfl, Or.inl ⟨rfl, rfl⟩⟩
theorem Ob.below {base : Nat} {w w' : World} {s : Value} {L : List (Int × Int)} (h : Ob base w s L) (hb : Below w.heap.size w w') : Ob base w' s L := owns_below h hb
theorem Ob.lt {base : Nat} {w : World} {v : Value} {L : List (Int × Int)} (h : Ob base w v L) : ∀ k, v.ownBlock = some k → base ≤ k ∧ k < w.heap.size := World.ownsRow.lt h
theorem Ob.shape {base : Nat} {w : World} {s : Value} {L : List (Int × Int)} (h : Ob base w s L) : ∃ ad cap, s = .slice ad L.length cap := by
  rcases h.2 with ⟨hs, h0⟩ | ⟨g, cap, cur, hs, _⟩
  · exact ⟨none, 0, by rw [hs, h0]⟩
  · exact ⟨_, cap, hs⟩
/-- Its basis vector k. -/
theorem Ob.at' {base : Nat} {w : World} {s : Value} {L : List (Int × Int)} (h : Ob base w s L) {k : Nat} (hk : k < L.length) : ∃ g cap, s = .slice (some ⟨g, 0, none⟩) L.length cap ∧ base ≤ g ∧ g < w.heap.size ∧ w.cell? ⟨g, k * 2, none⟩ = some (.int .i64 L[k].1) ∧ w.cell? ⟨g, k * 2 + 1, none⟩ = some (.int .i64 L[k].2) := by
  rcases h.2 with ⟨_, h0⟩ | ⟨g, cap, cur, hs, hg, hb, hn, _, hcur, ht⟩
  · omega
  · have hlt : g < w.heap.size := (Array.getElem?_eq_some_iff.1 hb).1
    have h1 := bcs_at hk
    rw [← ht, List.getElem?_take, if_pos (by omega), List.getElem?_take, if_pos (by omega)] at h1
    refine ⟨g, cap, hs, hg, hlt, ?_, ?_⟩
    · rw [cell_of_row _ _ _ _ _ _ hb, ← h1.1]; simp
    · rw [cell_of_row _ _ _ _ _ _ hb, ← h1.2]; simp
theorem Try.infoBz : (Try.prog.info? 113).map (fun i => (i.zero, i.size, i.bytes)) = some (some (.agg #[.int .i64 0, .int .i64 0]), 2, 16) := by kernel_rfl
theorem Try.underlyingSB : Try.prog.underlying 146 = some (.slice 113) := by kernel_rfl
section
variable {ops : Array Oper} {rest : List Oper} {o : Oper} {a : Act} {w : World} {Q : Exit → Act → World → Prop}
theorem wpList_appendBv (hg : o.guard = none) (dst : Option Tmp) (hdst : o.dst = dst) (s x : Operand) (ho : o.op = .call { callee := .builtin .append, args := #[s, x], argTypes := #[146, 146] })
    (base : Nat) (sv : Value) (L : List (Int × Int)) (hs : a.eval s = sv) (hown : Ob base w sv L) (b : Nat) (q : Int × Int) (hx : a.eval x = .slice (some ⟨b, 0, none⟩) 1 1) (h0 : w.cell? ⟨b, 0, none⟩ = some (.int .i64 q.1)) (h1 : w.cell? ⟨b, 1, none⟩ = some (.int .i64 q.2)) (hl : L.length ≤ 1048576) (hbase : base ≤ w.heap.size)
    (h : ∀ s' w', Ob base w' s' (L ++ [q]) → w.grownBy w' sv.ownBlock → wpList Try.prog ops Q rest (a.put dst s') w') : wpList Try.prog ops Q (o :: rest) a w := by
  obtain ⟨i0, hi, hz0, hz1, hz2⟩ := info_parts Try.infoBz
  subst hdst
  refine wpList_append_own w hg s x 146 ho base 113 i0 (.agg #[.int .i64 0, .int .i64 0]) 2 16 Try.underlyingSB hi hz0 hz1 hz2 rfl (by omega) sv L.length (bcs L) hs hown ⟨b, 0, none⟩ 1 1 [.int .i64 q.1, .int .i64 q.2] hx rfl ?_ ?_ (by unfold maxLen; omega) (by omega) hbase (fun s' w' k1 k2 _ => h s' w' ?_ k2)
  · intro j u hu
    match j, hu with
    | 0, hu =>
      simp at hu
      subst hu
      exact h0
    | 1, hu =>
      simp at hu
      subst hu
      exact h1
  · intro u hu
    simp at hu
    rcases hu with rfl | rfl <;> rfl
  · unfold Ob
    rw [bcs_append, List.length_append]
    exact k1
end
/-- The basis vectors of the first n degrees, in order. -/
def bsL (ds : List Int) (n : Nat) : List (Int × Int) := (List.range n).flatMap fun k => (List.range (ds.getD k 0).toNat).map fun (a : Nat) => ((k : Int), (a : Int))
theorem bsL_succ (ds : List Int) (n : Nat) : bsL ds (n + 1) = bsL ds n ++ (List.range (ds.getD n 0).toNat).map fun (a : Nat) => ((n : Int), (a : Int)) := by simp [bsL, List.range_succ]
theorem bsL_len {p : Int} {ds : List Int} {ms : List (List (List Int))} (h : IsCx p ds ms) (n : Nat) : (bsL ds n).length ≤ 8 * n := by
  induction n with
  | zero => simp [bsL]
  | succ n ih =>
    rw [bsL_succ, List.length_append, List.length_map, List.length_range]
    have := h.1.dim n
    omega
/-- .. and of the degree n the first k. -/
def bsT (ds : List Int) (n k : Nat) : List (Int × Int) := bsL ds n ++ (List.range k).map fun (a : Nat) => ((n : Int), (a : Int))
def BsR (L : List (Int × Int)) (w : World) (e : Ending) (w' : World) : Prop := ∃ s, e = .returned s ∧ Ob w.heap.size w' s L ∧ Below w.heap.size w w'

set_option maxHeartbeats 3200000 in
set_option maxRecDepth 100000 in
theorem basisOf_any (p : Int) (dv mv : Value) (ds : List Int) (ms : List (List (List Int))) (w : World) (h : Cx 0 w dv mv ds ms) (hcx : IsCx p ds ms) :
    Calls Try.prog 172 #[.agg #[.int .i64 p, dv, mv]] w (BsR (bsL ds ds.length) w) := by
  obtain ⟨ad, cap, rfl⟩ := Sl.shape h.dims
  obtain ⟨am, capm, rfl⟩ := Sl.shape h.maps
  have HX0 := Lib.hid (Bx.start (p := p) 28 h)
  obtain ⟨w1, hw1⟩ : ∃ w1, w1 = w.alloc (.cells #[.int .i64 p, .slice ad ds.length cap, .slice am ms.length capm] 28) := ⟨_, rfl⟩
  rw [← hw1] at HX0
  have c1 := HX0.out.c1
  have hl6 := hcx.1.len1
  have HCX := Lib.hid hcx
  have hs1 : w.heap.size ≤ w1.heap.size := HX0.out.below.size
  clear h hcx
  go_enter Try.func172, Try.ntmps172
  go_upto_region 1 with fail
  rw [← hw1]
  clear hw1
  go_wp2
  clear c1
  go_loopw [3, 10] (fun sv i wr => ∃ (n : Nat) (ao : Option Addr) (m co : Nat), n ≤ ds.length ∧ sv = .slice ao m co ∧ i = .int .i64 n ∧ Hid (Below w1.heap.size w1 wr) ∧ Hid (Ob w1.heap.size wr sv (bsL ds n))) (fun _ i _ => ds.length - (intOf i).toNat)
  case atStart => exact ⟨0, _, _, _, Nat.zero_le _, rfl, rfl, Lib.hid (Below.refl _ _), Lib.hid (Ob.nil _ _)⟩
  case round =>
    obtain ⟨n, ao, m, co, hn, rfl, rfl, HB, HO⟩ := hrel
    obtain ⟨wx, hwx⟩ : ∃ wx : World, wx = wr := ⟨_, rfl⟩
    subst hwx
    by_cases hlt : n < ds.length
    · have hX := HX0.out.next HB.out
      obtain ⟨r, hr⟩ : ∃ r, r = (ds.getD n 0).toNat := ⟨_, rfl⟩
      have hdim := HCX.out.1.dim n
      have hr2 : ds.getD n 0 = (r : Int) := by omega
      have hr8 : r ≤ 8 := by omega
      refine Sl.cases hX.cx.dims (fun _ _ hx _ => absurd hlt (by simp [hx])) (fun bd od capd hvd _ _ hcl => ?_)
      injection hvd with e1 e2 e3
      clear e2
      subst e1 e3
      obtain ⟨u, hu, hru⟩ := hcl n hlt
      have hu2 : wx.cell? ⟨bd, od + n, none⟩ = some (.int .i64 (r : Int)) := by rw [hu, hru, ← hr2, getD_of_lt _ hlt]
      have HR := Lib.hid hr
      have HLN := Lib.hid (bsL_len HCX.out n)
      have HO0 : Hid (Ob w1.heap.size wx (.slice ao m co) (bsT ds n 0)) := Lib.hid (by simpa [bsT] using HO.out)
      have hsx : w1.heap.size ≤ wx.heap.size := HB.out.size
      clear hu hru hcl hX hdim hr2 hr
      go_wp2
      clear hu2
      go_loopw [3, 16] (fun sv i wr => ∃ (k : Nat) (a2 : Option Addr) (m2 c2 : Nat), k ≤ r ∧ sv = .slice a2 m2 c2 ∧ i = .int .i64 k ∧ Hid (Below w1.heap.size w1 wr) ∧ Hid (Ob w1.heap.size wr sv (bsT ds n k))) (fun _ i _ => r - (intOf i).toNat)
      case atStart => exact ⟨0, _, _, _, Nat.zero_le _, rfl, rfl, HB, HO0⟩
      case round =>
        obtain ⟨k, a2, m2, c2, hk, rfl, rfl, HBY, HOY⟩ := hrel
        obtain ⟨wy, hwy⟩ : ∃ wy : World, wy = wr := ⟨_, rfl⟩
        subst hwy
        have hsy : w1.heap.size ≤ wy.heap.size := HBY.out.size
        by_cases hltk : k < r
        · obtain ⟨we, hwe⟩ : ∃ we, we = wy.alloc (.cells #[.int .i64 (n : Int), .int .i64 (k : Int)] 113) := ⟨_, rfl⟩
          have hbe : Below wy.heap.size wy we := by rw [hwe]; exact below_alloc1 _ _
          have v0 : we.cell? ⟨wy.heap.size, 0, none⟩ = some (.int .i64 (n : Int)) := by rw [hwe]; simp
          have v1 : we.cell? ⟨wy.heap.size, 1, none⟩ = some (.int .i64 (k : Int)) := by rw [hwe]; simp
          have HOE := Lib.hid (HOY.out.below hbe)
          have HBE := Lib.hid (HBY.out.trans (hbe.mono hsy))
          have HLT : Hid ((bsT ds n k).length ≤ 1048576) := Lib.hid (by simp only [bsT, List.length_append, List.length_map, List.length_range]; have := HLN.out; omega)
          have hse : w1.heap.size ≤ we.heap.size := HBE.out.size
          go_wp2_with (at_builtin; rw [← hwe]; refine wpList_appendBv rfl (some 24) rfl (.tmp 19) (.tmp 23) rfl w1.heap.size _ (bsT ds n k) rfl HOE.out wy.heap.size ((n : Int), (k : Int)) rfl v0 v1 HLT.out hse ?_)
          intro v7 W7 hg7 hgr7
          have HO7 : Hid (Ob w1.heap.size W7 v7 (bsT ds n (k + 1))) := Lib.hid (by
            have e : bsT ds n (k + 1) = bsT ds n k ++ [((n : Int), (k : Int))] := by simp [bsT, List.range_succ]
            rw [e]
            exact hg7)
          have HB7 : Hid (Below w1.heap.size w1 W7) := Lib.hid (HBE.out.grown hgr7 hse (fun g hg => (HOE.out.lt g hg).1))
          obtain ⟨a7, c7, hs7⟩ := HO7.out.shape
          obtain ⟨m7, hm7⟩ : ∃ m7, m7 = (bsT ds n (k + 1)).length := ⟨_, rfl⟩
          rw [← hm7] at hs7
          subst hs7
          clear hg7 hgr7 hbe v0 v1 hwe hm7
          go_wp2
          go_roundw
          case rel => first | exact ⟨k + 1, _, _, _, by omega, rfl, by go_num, HB7, HO7⟩ | ((repeat apply Exists.intro); exact ⟨⟨k + 1, _, _, _, by omega, rfl, by go_num, HB7, HO7⟩, rfl⟩)
          case measure => simp [intOf]; omega
        · have hkr : Hid (k = r) := Lib.hid (by omega)
          have HON : Hid (Ob w1.heap.size wy (.slice a2 m2 c2) (bsL ds (n + 1))) := Lib.hid (by rw [bsL_succ, ← HR.out, ← hkr.out]; exact HOY.out)
          go_wp2
          go_roundw
          case rel => first | exact ⟨n + 1, _, _, _, by omega, rfl, by go_num, HBY, HON⟩ | ((repeat apply Exists.intro); exact ⟨⟨n + 1, _, _, _, by omega, rfl, by go_num, HBY, HON⟩, rfl⟩)
          case measure => simp [intOf]; omega
    · have hne : Hid (n = ds.length) := Lib.hid (by omega)
      have HXX := Lib.hid (HX0.out.next HB.out)
      have HOF : Hid (Ob w.heap.size wx (.slice ao m co) (bsL ds ds.length)) := Lib.hid (by have := HO.out; rw [hne.out] at this; exact owns_mono this hs1)
      go_wp2
      go_ret
      exact ⟨_, rfl, HOF.out, HXX.out.below⟩
end Go.Proofs.Ytpdkfidmmjlmnaa
