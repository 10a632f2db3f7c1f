/-
  slices.Concat of two lists of vectors, impl.sumSpace by their contracts.
-/
import Derived.Test.YtlbalcckjokeiaaRow
import Derived.Lib.AppendZeros
import Derived.Laws.AppendOwn
import Derived.Test.YtlbalcckjokeiaaSpIs
namespace Go.Proofs.Ytlbalcckjokeiaa
open Go.RowKit

/-- append of no elements. -/
theorem run_append_none' {P : Program} (w : World) (t ty e : TypeId) (i : TypeInfo) (ht : P.underlying t = some (.slice e)) (hi : P.info? e = some i) {base size n : Nat} {v : Value} {xs : List Value} (hown : w.ownsRow base e size v n xs) (ad : Option Addr) (cap : Nat) :
    (Builtin.append_ #[t, t] ty #[v, .slice ad 0 cap]).run P w = .ok v w := by
  cases ad with
  | none =>
    rcases hown.2 with ⟨rfl, rfl⟩ | ⟨g, cap, cur, rfl, _, _, hnc, _⟩
    · simp [Builtin.append_, run_underlying ht, sizeOf, typeInfo, hi, Builtin.lenOf, Builtin.firstCells]
    · simp [Builtin.append_, run_underlying ht, sizeOf, typeInfo, hi, Builtin.lenOf, Builtin.firstCells, hnc, storeCells]
  | some a =>
    have hl := run_loadCells_list (P := P) w a [] (by simp)
    simp at hl
    rcases hown.2 with ⟨rfl, rfl⟩ | ⟨g, cap, cur, rfl, _, _, hnc, _⟩
    · simp [Builtin.append_, run_underlying ht, sizeOf, typeInfo, hi, Builtin.lenOf, Builtin.firstCells, hl]
    · simp [Builtin.append_, run_underlying ht, sizeOf, typeInfo, hi, Builtin.lenOf, Builtin.firstCells, hnc, storeCells, hl]

/-- append of a list of vectors to one that the call owns. -/
theorem wpList_appendVs {ops : Array Oper} {rest : List Oper} {o : Oper} {a : Act} {w : World} {Q : Exit → Act → World → Prop} (hgd : o.guard = none) (dst : Option Tmp) (hdst : o.dst = dst) (s x : Operand)
    (ho : o.op = .call { callee := .builtin .append, args := #[s, x], argTypes := #[69, 69] }) (base : Nat) (v u : Value) (A B : List Lin.V) (hs : a.eval s = v) (hx : a.eval x = u) (hown : Ow base w v A) (hB : Vs 0 w u B)
    (hl : A.length + B.length ≤ 2097152) (hb : base ≤ w.heap.size)
    (h : ∀ v' w', Ow base w' v' (A ++ B) → w.grownBy w' v.ownBlock → wpList Try.prog ops Q rest (a.put dst v') w') : wpList Try.prog ops Q (o :: rest) a w := by
  obtain ⟨i, hi, hz, hs1, hb1⟩ := info_parts Try.infoVz
  subst hdst
  refine Vs.cases hB (fun ad cap hB0 hu => ?_) (fun b o' cap hu _ hpos hc => ?_)
  · subst hB0 hu
    refine Lib.wpList_append_run _ hgd s x _ _ ho _ _ hs hx _ _ (run_append_none' w _ _ _ i Try.underlyingSV hi hown ad cap) ?_
    rw [List.append_nil] at h
    exact h v w hown ⟨rfl, rfl, rfl, Nat.le_refl _, fun _ _ _ => rfl⟩
  · subst hu
    refine wpList_append_own w hgd s x 69 ho base 107 i _ 40 320 Try.underlyingSV hi hz hs1 hb1 (by simp [Value.cells, zl_length]) (by decide) v A.length (cellsOf A) hs hown ⟨b, o', none⟩ B.length cap (cellsOf B) hx (cellsOf_length _) ?_ ?_ (by unfold maxLen; omega) (by omega) hb (fun v' w' h1 h2 _ => h v' w' ?_ h2)
    · intro j y hj
      rw [Addr.add_mid]
      have hjl : j < B.length * 40 := by rw [← cellsOf_length]; exact (List.getElem?_eq_some_iff.1 hj).1
      have hq : j / 40 < B.length := Nat.div_lt_of_lt_mul (by omega)
      have hm : j % 40 < 40 := Nat.mod_lt _ (by decide)
      have := (hc (j / 40) hq).cell hm
      rw [show o' + j / 40 * 40 + j % 40 = o' + j by omega] at this
      rw [this]
      have e := cellsOf_at (L := B) hq hm
      rw [show j / 40 * 40 + j % 40 = j by omega] at e
      rw [← hj, e]
    · exact cellsOf_one' B
    · unfold Ow
      rw [List.length_append, cellsOf_append]
      exact h1

set_option maxHeartbeats 800000 in
set_option maxRecDepth 100000 in
theorem grow_any (n : Nat) (w : World) (hn : n ≤ 2097152) : Calls Try.prog 134 #[.slice none 0 0, .int .i64 n] w (VsR (fun M => M = []) w) := by
  obtain ⟨i, hi, hz, hs1, hb1⟩ := info_parts Try.infoVz
  by_cases h0 : n = 0
  · subst h0
    go_enter Try.func134, Try.ntmps134
    go_wp2
    go_ret
    exact ⟨_, [], rfl, Below.refl _ _, Ow.nil _ _, rfl⟩
  · have hpos : 0 < n := by omega
    have hpos2 : (0 : Int) < (n : Int) := by omega
    have hrun := fun ty => Lib.run_append_nil_zeros w 69 3 ty 107 i _ .i64 .i64 Try.underlyingSV Try.underlying3 hi hz n hpos (by rw [hs1]; decide) (by omega) (by rw [hb1]; omega)
    obtain ⟨G, hG⟩ : ∃ G, G = grownCap w n 0 107 := ⟨_, rfl⟩
    rw [← hG] at hrun
    have hGn : n ≤ G := by rw [hG]; exact grownCap_ge w _ _ _
    have hGm : G ≤ maxLen := by rw [hG]; exact grownCap_le_maxLen w n 0 _ (by unfold maxLen; omega)
    obtain ⟨ROW, hROW⟩ : ∃ ROW : Array Value, ROW = Builtin.zeroCells (Value.agg zl.toArray).cells n ++ Builtin.zeroCells (Value.agg zl.toArray).cells (G - n) := ⟨_, rfl⟩
    rw [← hROW] at hrun
    have hsz : ROW.size = G * 40 := by
      rw [hROW]
      simp [Builtin.zeroCells, Value.cells, zl_length]
      omega
    have HOW : Hid (Ow w.heap.size (w.drew.alloc (.cells ROW 107)) (.slice (some ⟨w.heap.size, 0, none⟩) 0 G) []) := Lib.hid (World.ownsRow_made (base := w.heap.size) (e := 107) (size := 40) w.drew ROW G (Nat.le_refl _) hGm hsz)
    have HBE : Hid (Below w.heap.size w (w.drew.alloc (.cells ROW 107))) := Lib.hid ((Below.refl _ _).drew.alloc (Nat.le_refl _) _)
    clear hROW hsz hG
    go_enter Try.func134, Try.ntmps134
    go_wp2_with (at_builtin; refine Lib.wpList_append_run _ rfl (.tmp 20) (.tmp 21) 69 3 rfl _ _ rfl rfl _ _ (hrun _) ?_)
    go_wp2
    go_ret
    exact ⟨_, [], rfl, HBE.out, HOW.out, rfl⟩

set_option maxHeartbeats 1600000 in
set_option maxRecDepth 100000 in
theorem concat_any (g : Nat) (sa sb : Value) (A B : List Lin.V) (w : World) (h0 : w.cell? ⟨g, 0, none⟩ = some sa) (h1 : w.cell? ⟨g, 1, none⟩ = some sb) (hA : Vs 0 w sa A) (hB : Vs 0 w sb B) (hl : A.length + B.length ≤ 2097152) :
    Calls Try.prog 122 #[.slice (some ⟨g, 0, none⟩) 2 2] w (VsR (fun M => M = A ++ B) w) := by
  have HA := Lib.hid hA
  have HB := Lib.hid hB
  obtain ⟨aa, ca, rfl⟩ := Vs.shape hA
  obtain ⟨ab, cb, rfl⟩ := Vs.shape hB
  have hgl : g < w.heap.size := cell_lt h0
  have hgr := grow_any (A.length + B.length) w hl
  rw [Int.natCast_add] at hgr
  have HG := Lib.hid hgr
  have n0 : ¬ ((A.length : Int) < 0) := by omega
  have n1 : ¬ ((A.length : Int) + (B.length : Int) < 0) := by omega
  clear hgr
  clear hA hB
  go_enter Try.func122, Try.ntmps122
  go_wp2
  refine wp_loop_rounds 3 ?_
  rw [rounds_succ]
  go_wp2
  rw [rounds_succ]
  go_wp2
  rw [rounds_succ]
  go_wp2_with fail
  refine HG.out.mono ?_
  rintro e w1 ⟨s6, M, rfl, hb1, ho1, rfl⟩
  have HB1 := Lib.hid hb1
  have HO1 := Lib.hid ho1
  have h0' := later hb1 (Nat.le_refl _) h0
  have h1' := later hb1 (Nat.le_refl _) h1
  have HA1 := Lib.hid (HA.out.below hb1)
  clear hb1 ho1 HG h0 h1 n0 n1
  go_wp2
  refine wp_loop_rounds 3 ?_
  rw [rounds_succ]
  go_wp2_with (at_builtin; refine wpList_appendVs rfl (some 33) rfl (.tmp 31) (.tmp 32) rfl w.heap.size _ _ [] A rfl rfl HO1.out HA1.out ?c1 ?c2 ?_)
  case c1 => simp; omega
  case c2 => exact HB1.out.size
  rw [List.nil_append]
  intro v2 w2 ho2 hg2
  have HB2 : Hid (Below w.heap.size w w2) := Lib.hid (HB1.out.grown hg2 HB1.out.size (fun g hg => ((World.ownsRow.lt HO1.out) g hg).1))
  have HO2 := Lib.hid ho2
  have h1'' : w2.cell? ⟨g, 1, none⟩ = some (.slice ab B.length cb) := by rw [World.grownBy.cell hg2 h1' (fun e => by have := ((World.ownsRow.lt HO1.out) g e.symm).1; omega)]
  have HB2b := Lib.hid (HB.out.below HB2.out)
  clear ho2 hg2 h0' h1' HA1 HO1 HB1
  go_wp2
  rw [rounds_succ]
  go_wp2_with (at_builtin; refine wpList_appendVs rfl (some 33) rfl (.tmp 31) (.tmp 32) rfl w.heap.size _ _ A B rfl rfl HO2.out HB2b.out ?c1 ?c2 ?_)
  case c1 => exact hl
  case c2 => exact HB2.out.size
  intro v3 w3 ho3 hg3
  have HB3 : Hid (Below w.heap.size w w3) := Lib.hid (HB2.out.grown hg3 HB2.out.size (fun g hg => ((World.ownsRow.lt HO2.out) g hg).1))
  have HO3 := Lib.hid ho3
  clear ho3 hg3 h1''
  go_wp2
  rw [rounds_succ]
  go_wp2
  go_ret
  exact ⟨_, A ++ B, rfl, HB3.out, HO3.out, rfl⟩

set_option maxHeartbeats 1600000 in
set_option maxRecDepth 100000 in
theorem sumSpace_any (p : Int) (sa sb : Value) (A B : List Lin.V) (w : World) (hp : IsP p) (hA : Vs 0 w sa A) (hB : Vs 0 w sb B) (hm : ∀ u ∈ A ++ B, Lin.Md p u) (hw : ∀ u ∈ A ++ B, Lin.Wd 40 u) (hl : (A ++ B).length ≤ 1048575) :
    Calls Try.prog 66 #[.int .i64 p, sa, sb] w (VsR (fun R => RedOf p R (A ++ B) ∧ R.length ≤ (A ++ B).length) w) := by
  have HP := Lib.hid hp
  have HM := Lib.hid hm
  have HW := Lib.hid hw
  obtain ⟨aa, ca, rfl⟩ := Vs.shape hA
  obtain ⟨ab, cb, rfl⟩ := Vs.shape hB
  have hba : Below w.heap.size w (w.alloc (.cells #[.slice aa A.length ca, .slice ab B.length cb] 69)) := below_alloc1 _ _
  have HBA := Lib.hid hba
  have h0 : (w.alloc (.cells #[.slice aa A.length ca, .slice ab B.length cb] 69)).cell? ⟨w.heap.size, 0, none⟩ = some (.slice aa A.length ca) := by
    unfold World.cell?
    rw [heap_alloc_new w _]
    rfl
  have h1 : (w.alloc (.cells #[.slice aa A.length ca, .slice ab B.length cb] 69)).cell? ⟨w.heap.size, 1, none⟩ = some (.slice ab B.length cb) := by
    unfold World.cell?
    rw [heap_alloc_new w _]
    rfl
  have HC := Lib.hid (concat_any w.heap.size _ _ A B _ h0 h1 (hA.below hba) (hB.below hba) (by rw [List.length_append] at hl; omega))
  clear hp hA hB hm hw hba h0 h1
  go_enter Try.func66, Try.ntmps66
  go_wp2_with fail
  refine HC.out.mono ?_
  rintro e w1 ⟨s1, M, rfl, hb1, ho1, rfl⟩
  have HB1 := Lib.hid (HBA.out.trans (hb1.mono HBA.out.size))
  have HO1 := Lib.hid (ho1.vs.lower (Nat.zero_le _))
  clear hb1 ho1 HC
  go_wp2_with fail
  refine (reducedList_any p s1 (A ++ B) _ HP.out HO1.out HM.out HW.out hl).mono ?_
  rintro e w2 ⟨s2, R, rfl, hb2, ho2, hr⟩
  have HB2 := Lib.hid (HB1.out.trans (hb2.mono HB1.out.size))
  have HO2 : Hid (Ow w.heap.size w2 s2 R) := Lib.hid ⟨ho2.1, ho2.2.imp id (fun ⟨g, cap, cur, h1, h2, h3⟩ => ⟨g, cap, cur, h1, Nat.le_trans HB1.out.size h2, h3⟩)⟩
  have HR := Lib.hid hr
  clear hb2 ho2 hr
  go_wp2
  go_ret
  exact ⟨_, R, rfl, HB2.out, HO2.out, HR.out⟩
end Go.Proofs.Ytlbalcckjokeiaa
