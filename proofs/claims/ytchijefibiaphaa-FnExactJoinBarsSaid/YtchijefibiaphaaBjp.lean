/-
  JoinBars of both sides by contract.
-/
import Derived.Test.YtchijefibiaphaaBso
import Derived.Test.YtchijefibiaphaaBjs
namespace Go.Proofs.Ytchijefibiaphaa
open Go.RowKit Go.Sort

open Classical in
/-- The code of JoinBars. -/
noncomputable def jbCode (A B : List B3) : Int := if BarsOk A ∧ BarsOk B then (if 24 < A.length + B.length then 3 else 0) else 2
theorem jbCode_no {A B : List B3} (h : ¬ (BarsOk A ∧ BarsOk B)) : jbCode A B = 2 := if_neg h
theorem jbCode_lim {A B : List B3} (h : BarsOk A ∧ BarsOk B) (k : 24 < A.length + B.length) : jbCode A B = 3 := by unfold jbCode; rw [if_pos h, if_pos k]
theorem jbCode_ok {A B : List B3} (h : BarsOk A ∧ BarsOk B) (k : ¬ 24 < A.length + B.length) : jbCode A B = 0 := by unfold jbCode; rw [if_pos h, if_neg k]
theorem jbCode_zero {A B : List B3} (h : jbCode A B = 0) : BarsOk A ∧ BarsOk B ∧ A.length + B.length ≤ 24 := by
  by_cases a : BarsOk A ∧ BarsOk B
  · by_cases b : 24 < A.length + B.length
    · rw [jbCode_lim a b] at h; omega
    · exact ⟨a.1, a.2, by omega⟩
  · rw [jbCode_no a] at h; omega
theorem bars_all {A B : List B3} (h : BarsOk A) (k : BarsOk B) : ∀ x ∈ A ++ B, BarOk x := fun x hx => by
  rcases List.mem_append.1 hx with hx | hx
  · obtain ⟨j, hj, rfl⟩ := List.getElem_of_mem hx; exact h.2.1 j hj
  · obtain ⟨j, hj, rfl⟩ := List.getElem_of_mem hx; exact k.2.1 j hj
theorem jb_unique {A B a b : List B3} (h0 : jbCode A B = 0) (ha : JbS (A ++ B) a) (hb : JbS (A ++ B) b) : a = b := JbS.unique (bars_all (jbCode_zero h0).1 (jbCode_zero h0).2.1) ha hb
theorem jb_short {A B a : List B3} (h0 : jbCode A B = 0) (ha : JbS (A ++ B) a) : a.length ≤ 1048576 := by
  have := ha.1.length_eq
  have := (jbCode_zero h0).2.2
  rw [List.length_append] at *
  omega

set_option maxHeartbeats 3200000 in
set_option maxRecDepth 100000 in
theorem spJoinBars_any (va vb : Value) (A B : List B3) (w : World) (ha : Br 0 w va A) (hb : Br 0 w vb B) (hla : A.length ≤ 1048576) (hlb : B.length ≤ 1048576) :
    Calls Try.prog 41 #[va, vb] w (AnsS (Br 0) (JbS (A ++ B)) [] (jbCode A B) w) := by
  obtain ⟨aa, ca, rfl⟩ := ha.shape
  obtain ⟨ab, cb, rfl⟩ := hb.shape
  have HA := Lib.hid ha
  have HB := Lib.hid hb
  have HI1 := Lib.hid (l09Are_any _ A w ha hla)
  clear ha hb
  go_enter Try.func41, Try.ntmps41
  go_wp2_with fail
  refine HI1.out.mono ?_
  rintro e w1 ⟨b1, rfl, hg1, hb1⟩
  have HW1 := Lib.hid hg1.below
  have HP1 := Lib.hid hb1
  clear hg1 hb1 HI1
  cases b1 with
  | false =>
    have HC : Hid (jbCode A B = 2) := Lib.hid (jbCode_no (fun h => absurd (HP1.out.2 h.1) (by simp)))
    go_wp2
    go_ret2
    exact ⟨_, [], 2, rfl, Or.inl ⟨rfl, _, _, rfl⟩, HW1.out, by rw [HC.out]; exact RsOut.of_no (by decide)⟩
  | true =>
    have HI2 := Lib.hid (l09Are_any _ B w1 (HB.out.below HW1.out) hlb)
    go_wp2_with fail
    refine HI2.out.mono ?_
    rintro e w2 ⟨b2, rfl, hg2, hb2⟩
    have HW2 := Lib.hid (HW1.out.trans (hg2.below.mono HW1.out.size))
    have HP2 := Lib.hid hb2
    clear hg2 hb2 HI2
    cases b2 with
    | false =>
      have HC : Hid (jbCode A B = 2) := Lib.hid (jbCode_no (fun h => absurd (HP2.out.2 h.2) (by simp)))
      go_wp2
      go_ret2
      exact ⟨_, [], 2, rfl, Or.inl ⟨rfl, _, _, rfl⟩, HW2.out, by rw [HC.out]; exact RsOut.of_no (by decide)⟩
    | true =>
      have HOK : Hid (BarsOk A ∧ BarsOk B) := Lib.hid ⟨HP1.out.1 (by simp), HP2.out.1 (by simp)⟩
      have hw : IntKind.i64.wrap ((A.length : Int) + (B.length : Int)) = (A.length : Int) + (B.length : Int) := IntWalk.i64_in _ (by omega)
      by_cases hlt : (24 : Int) < (A.length : Int) + (B.length : Int)
      · have HC : Hid (jbCode A B = 3) := Lib.hid (jbCode_lim HOK.out (by omega))
        go_wp2
        go_ret2
        exact ⟨_, [], 3, rfl, Or.inl ⟨rfl, _, _, rfl⟩, HW2.out, by rw [HC.out]; exact RsOut.of_no (by decide)⟩
      · have HC : Hid (jbCode A B = 0) := Lib.hid (jbCode_ok HOK.out (by omega))
        have hl24 : A.length + B.length ≤ 24 := by omega
        have HBA : Hid (Below w2.heap.size w2 (w2.alloc (.cells #[] 53))) := Lib.hid (below_alloc1 _ _)
        have HGN : Hid (Gbr w2.heap.size (w2.alloc (.cells #[] 53)) (.slice (some ⟨w2.heap.size, 0, none⟩) 0 0) []) := Lib.hid (by have h := World.ownsRow_made (base := w2.heap.size) (e := 53) (size := 3) w2 #[] 0 (Nat.le_refl _) (by unfold maxLen; omega) (by simp); simpa [Gbr, bcl] using h)
        have HA3 := Lib.hid ((HA.out.below HW2.out).below HBA.out)
        have hs2 : w2.heap.size ≤ (w2.alloc (.cells #[] 53)).heap.size := HBA.out.size
        go_wp2_with (at_builtin; refine wpList_appendBs rfl (some 24) rfl (.tmp 22) (.tmp 23) rfl w2.heap.size _ _ [] A rfl rfl HGN.out HA3.out ?c1 ?c2 ?_)
        case c1 => simp; omega
        case c2 => exact hs2
        intro v4 w4 hg4 hgr4
        have HB4 : Hid (Below w2.heap.size w2 w4) := Lib.hid (HBA.out.grown hgr4 hs2 (fun b hb => (HGN.out.lt b hb).1))
        have HG4 := Lib.hid hg4
        have HB4b := Lib.hid ((HB.out.below HW2.out).below HB4.out)
        have hs4 : w2.heap.size ≤ w4.heap.size := HB4.out.size
        clear hg4 hgr4 HGN HBA HA3
        go_wp2_with (at_builtin; refine wpList_appendBs rfl (some 26) rfl (.tmp 24) (.tmp 25) rfl w2.heap.size _ _ A B rfl rfl HG4.out HB4b.out ?c3 ?c4 ?_)
        case c3 => omega
        case c4 => exact hs4
        intro v5 w5 hg5 hgr5
        have HB5 : Hid (Below w2.heap.size w2 w5) := Lib.hid (HB4.out.grown hgr5 hs4 (fun b hb => (HG4.out.lt b hb).1))
        have HG5 := Lib.hid (hg5.br.lower (Nat.zero_le _))
        clear hg5 hgr5 HG4 HB4b HB4
        have HSO := Lib.hid (l09Sorted_any v5 (A ++ B) w5 HG5.out (bars_all HOK.out.1 HOK.out.2) (by rw [List.length_append]; omega))
        have hs5 : w2.heap.size ≤ w5.heap.size := HB5.out.size
        go_wp2_with fail
        refine HSO.out.mono ?_
        rintro e w6 ⟨u6, out, rfl, hg6, hb6, hj6⟩
        have HB6 := Lib.hid (HW2.out.trans ((HB5.out.trans (hb6.mono hs5)).mono HW2.out.size))
        have HG6 := Lib.hid (hg6.br.lower (Nat.zero_le _))
        have HJ6 := Lib.hid hj6
        clear hg6 hb6 hj6 HSO
        go_wp2
        go_ret2
        exact ⟨u6, out, 0, rfl, HG6.out, HB6.out, RsOut.of_yes HC.out HJ6.out⟩

set_option maxHeartbeats 3200000 in
set_option maxRecDepth 100000 in
theorem joinBars_any (va vb : Value) (A B : List B3) (w : World) (ha : Br 0 w va A) (hb : Br 0 w vb B) (hla : A.length ≤ 1048576) (hlb : B.length ≤ 1048576) :
    Calls Try.prog 42 #[va, vb] w (AnsW RwB (JbS (A ++ B)) [] (jbCode A B) w) := by
  obtain ⟨aa, ca, rfl⟩ := ha.shape
  obtain ⟨ab, cb, rfl⟩ := hb.shape
  have HA := Lib.hid ha
  have HB := Lib.hid hb
  have HI1 := Lib.hid (areBars_any _ A w ha hla)
  clear ha hb
  go_enter Try.func42, Try.ntmps42
  go_wp2_with fail
  refine HI1.out.mono ?_
  rintro e w1 ⟨b1, rfl, hg1, hb1⟩
  have HW1 := Lib.hid hg1.below
  have HP1 := Lib.hid hb1
  clear hg1 hb1 HI1
  cases b1 with
  | false =>
    have HC : Hid (jbCode A B = 2) := Lib.hid (jbCode_no (fun h => absurd (HP1.out.2 h.1) (by simp)))
    go_wp2
    go_ret2
    exact ⟨_, [], 2, rfl, RwB.nil _ _ _, HW1.out, by rw [HC.out]; exact RsOut.of_no (by decide)⟩
  | true =>
    have HI2 := Lib.hid (areBars_any _ B w1 (HB.out.below HW1.out) hlb)
    go_wp2_with fail
    refine HI2.out.mono ?_
    rintro e w2 ⟨b2, rfl, hg2, hb2⟩
    have HW2 := Lib.hid (HW1.out.trans (hg2.below.mono HW1.out.size))
    have HP2 := Lib.hid hb2
    clear hg2 hb2 HI2
    cases b2 with
    | false =>
      have HC : Hid (jbCode A B = 2) := Lib.hid (jbCode_no (fun h => absurd (HP2.out.2 h.2) (by simp)))
      go_wp2
      go_ret2
      exact ⟨_, [], 2, rfl, RwB.nil _ _ _, HW2.out, by rw [HC.out]; exact RsOut.of_no (by decide)⟩
    | true =>
      have HOK : Hid (BarsOk A ∧ BarsOk B) := Lib.hid ⟨HP1.out.1 (by simp), HP2.out.1 (by simp)⟩
      obtain ⟨w3, hw3⟩ : ∃ w3, w3 = w2.alloc (.cells #[.slice aa A.length ca, .slice ab B.length cb] 42) := ⟨_, rfl⟩
      have HB3 : Hid (Below w2.heap.size w2 w3) := Lib.hid (by rw [hw3]; exact below_alloc1 _ _)
      have hs2 : w.heap.size ≤ w2.heap.size := HW2.out.size
      have HW3 := Lib.hid (HW2.out.trans (HB3.out.mono hs2))
      have HCC := Lib.hid (concatBar_any w2.heap.size (.slice aa A.length ca) (.slice ab B.length cb) A B w3 (by rw [hw3]; simp) (by rw [hw3]; simp) (HA.out.below HW3.out) (HB.out.below HW3.out) (by omega))
      go_wp2_with fail
      rw [← hw3]
      clear hw3
      refine HCC.out.mono ?_
      rintro e w4 ⟨u4, rfl, hb4, hg4⟩
      have hs3 : w.heap.size ≤ w3.heap.size := HW3.out.size
      have HW4 := Lib.hid (HW3.out.trans (hb4.mono hs3))
      have HG4 : Hid (Gbr w.heap.size w4 u4 (A ++ B)) := Lib.hid (owns_mono hg4 hs3)
      obtain ⟨a4, c4, hu4⟩ := hg4.shape
      subst hu4
      obtain ⟨l, hl⟩ : ∃ l, l = (A ++ B).length := ⟨_, rfl⟩
      have HLL : Hid (l = A.length + B.length) := Lib.hid (by rw [hl, List.length_append])
      rw [← hl] at HG4 ⊢
      have HL := Lib.hid hl
      clear hb4 hg4 HCC hl
      by_cases hlt : (24 : Int) < (l : Int)
      · have HC : Hid (jbCode A B = 3) := Lib.hid (jbCode_lim HOK.out (by have := HLL.out; omega))
        go_wp2
        go_ret2
        exact ⟨_, [], 3, rfl, RwB.nil _ _ _, HW4.out, by rw [HC.out]; exact RsOut.of_no (by decide)⟩
      · have HC : Hid (jbCode A B = 0) := Lib.hid (jbCode_ok HOK.out (by have := HLL.out; omega))
        by_cases h0 : l = 0
        · have HN := Lib.hid (AnyF.slices_SortFunc_none Try.sortBar a4 c4 (.func (.func 76) #[] #[]) w4)
          have HE : Hid (A ++ B = []) := Lib.hid (List.eq_nil_of_length_eq_zero (by rw [← HL.out]; exact h0))
          subst h0
          go_wp2_with fail
          refine (show Calls Try.prog 83 #[.slice a4 0 c4, .func (.func 76) #[] #[]] w4 _ from HN.out).mono ?_
          rintro e w5 ⟨rfl, rfl⟩
          go_wp2
          go_ret2
          exact ⟨_, [], 0, rfl, Or.inl ⟨rfl, _, _, rfl⟩, HW4.out, RsOut.of_yes HC.out ⟨by rw [HE.out], List.Pairwise.nil⟩⟩
        · obtain ⟨g, cap, hv, _, _⟩ := World.ownsRow.form HG4.out (by rw [← HL.out]; omega)
          injection hv with e1 e2 e3
          subst e1 e3
          clear e2
          have HSO : Hid (Calls Try.prog 83 #[.slice (some ⟨g, 0, none⟩) l c4, .func (.func 76) #[] #[]] w4 (SoR w.heap.size (.slice (some ⟨g, 0, none⟩) l c4) (A ++ B) w4)) := Lib.hid (by
            have h := HG4.out
            rw [HL.out] at h ⊢
            exact sortBars_any h (by rw [← HL.out]; omega) (by rw [← HL.out]; omega))
          go_wp2_with fail
          refine HSO.out.mono ?_
          rintro e w5 ⟨rfl, out, hj, hr, hb5⟩
          have HW5 := Lib.hid (HW4.out.trans hb5)
          have HJ := Lib.hid hj
          have HR := Lib.hid hr
          clear hj hr hb5 HSO
          go_wp2
          go_ret2
          exact ⟨_, out, 0, rfl, HR.out, HW5.out, RsOut.of_yes HC.out HJ.out⟩
end Go.Proofs.Ytchijefibiaphaa
