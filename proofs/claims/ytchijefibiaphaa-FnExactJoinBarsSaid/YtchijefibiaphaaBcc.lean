/-
  slices.Concat of two lists of bars by contract.
-/
import Derived.Test.YtchijefibiaphaaBrn
import Derived.Test.YtchijefibiaphaaP3
namespace Go.Proofs.Ytchijefibiaphaa
open Go.RowKit

theorem bcl_one (L : List B3) : ∀ v ∈ bcl L, v.oneCell' = true := by
  intro v hv
  obtain ⟨x, _, hx⟩ := List.mem_flatMap.1 hv
  exact bc_one x v hx
theorem bcl_cell {L : List B3} {q m : Nat} (hq : q < L.length) (hm : m < 3) : (bcl L)[q * 3 + m]? = (bc L[q])[m]? := by
  have h := bcl_at hq
  match m, hm with
  | 0, _ => simpa [bc] using h.1
  | 1, _ => simpa [bc] using h.2.1
  | 2, _ => simpa [bc] using h.2.2
/-- append of a list of bars to one that the call owns. -/
theorem wpList_appendBs {ops : Array Oper} {rest : List Oper} {o : Oper} {a : Act} {w : World} {Q : Exit → Act → World → Prop} (hgd : o.guard = none) (dst : Option Tmp) (hdst : o.dst = dst) (s x : Operand)
    (ho : o.op = .call { callee := .builtin .append, args := #[s, x], argTypes := #[42, 42] }) (base : Nat) (v u : Value) (A B : List B3) (hs : a.eval s = v) (hx : a.eval x = u) (hown : Gbr base w v A) (hB : Br 0 w u B)
    (hl : A.length + B.length ≤ 2097152) (hb : base ≤ w.heap.size)
    (h : ∀ v' w', Gbr base w' v' (A ++ B) → w.grownBy w' v.ownBlock → wpList Try.prog ops Q rest (a.put dst v') w') : wpList Try.prog ops Q (o :: rest) a w := by
  obtain ⟨i, hi, hz, hs1, hb1⟩ := info_parts Try.infoIBar
  subst hdst
  refine Br.cases hB (fun ad cap hB0 hu => ?_) (fun b o' cap hu _ hpos hc => ?_)
  · subst hB0 hu
    refine Lib.wpList_append_run _ hgd s x _ _ ho _ _ hs hx _ _ (run_append_none' w _ _ _ i (by kernel_rfl) hi hown ad cap) ?_
    rw [List.append_nil] at h
    exact h v w hown ⟨rfl, rfl, rfl, Nat.le_refl _, fun _ _ _ => rfl⟩
  · subst hu
    refine wpList_append_own w hgd s x 42 ho base 53 i (.agg #[.int .i64 0, .int .i64 0, .int .i64 0]) 3 24 (by kernel_rfl) hi hz hs1 hb1 rfl (by omega) v A.length (bcl A) hs hown ⟨b, o', none⟩ B.length cap (bcl B) hx (bcl_length _) ?_ ?_ (by unfold maxLen; omega) (by omega) hb (fun v' w' h1 h2 _ => h v' w' ?_ h2)
    · intro j y hj
      rw [Addr.add_mid]
      have hjl : j < B.length * 3 := by rw [← bcl_length]; exact (List.getElem?_eq_some_iff.1 hj).1
      obtain ⟨q, r, hjq, hr, hq⟩ : ∃ q r, j = q * 3 + r ∧ r < 3 ∧ q < B.length := ⟨j / 3, j % 3, by omega, by omega, by omega⟩
      subst hjq
      obtain ⟨k0, k1, k2⟩ := hc q hq
      have e := bcl_at hq
      match r, hr with
      | 0, _ => rw [show o' + (q * 3 + 0) = o' + q * 3 by omega, k0, ← hj]; simpa using e.1.symm
      | 1, _ => rw [show o' + (q * 3 + 1) = o' + q * 3 + 1 by omega, k1, ← hj, e.2.1]
      | 2, _ => rw [show o' + (q * 3 + 2) = o' + q * 3 + 2 by omega, k2, ← hj, e.2.2]
    · exact bcl_one B
    · unfold Gbr
      rw [List.length_append, bcl_append]
      exact h1

set_option maxHeartbeats 800000 in
set_option maxRecDepth 100000 in
theorem growBar_any (n : Nat) (w : World) (hn : n ≤ 2097152) : Calls Try.prog 112 #[.slice none 0 0, .int .i64 n] w (BaR [] w) := by
  obtain ⟨i, hi, hz, hs1, hb1⟩ := info_parts Try.infoIBar
  by_cases h0 : n = 0
  · subst h0
    go_enter Try.func112, Try.ntmps112
    go_wp2
    go_ret
    exact ⟨_, rfl, Below.refl _ _, Gbr.nil _ _⟩
  · have hpos : 0 < n := by omega
    have hpos2 : (0 : Int) < (n : Int) := by omega
    have hrun := fun ty => Lib.run_append_nil_zeros w 42 3 ty 53 i _ .i64 .i64 (by kernel_rfl) Try.underlying3 hi hz n hpos (by rw [hs1]; decide) (by omega) (by rw [hb1]; omega)
    obtain ⟨G, hG⟩ : ∃ G, G = grownCap w n 0 53 := ⟨_, rfl⟩
    rw [← hG] at hrun
    have hGn : n ≤ G := by rw [hG]; exact grownCap_ge w _ _ _
    have hGm : G ≤ maxLen := by rw [hG]; exact grownCap_le_maxLen w n 0 _ (by unfold maxLen; omega)
    obtain ⟨ROW, hROW⟩ : ∃ ROW : Array Value, ROW = Builtin.zeroCells (Value.agg #[.int .i64 0, .int .i64 0, .int .i64 0]).cells n ++ Builtin.zeroCells (Value.agg #[.int .i64 0, .int .i64 0, .int .i64 0]).cells (G - n) := ⟨_, rfl⟩
    rw [← hROW] at hrun
    have hsz : ROW.size = G * 3 := by
      rw [hROW]
      simp [Builtin.zeroCells, Value.cells]
      omega
    have HOW : Hid (Gbr w.heap.size (w.drew.alloc (.cells ROW 53)) (.slice (some ⟨w.heap.size, 0, none⟩) 0 G) []) := Lib.hid (World.ownsRow_made (base := w.heap.size) (e := 53) (size := 3) w.drew ROW G (Nat.le_refl _) hGm hsz)
    have HBE : Hid (Below w.heap.size w (w.drew.alloc (.cells ROW 53))) := Lib.hid ((Below.refl _ _).drew.alloc (Nat.le_refl _) _)
    clear hROW hsz hG
    go_enter Try.func112, Try.ntmps112
    go_wp2_with (at_builtin; refine Lib.wpList_append_run _ rfl (.tmp 20) (.tmp 21) 42 3 rfl _ _ rfl rfl _ _ (hrun _) ?_)
    go_wp2
    go_ret
    exact ⟨_, rfl, HBE.out, HOW.out⟩

set_option maxHeartbeats 1600000 in
set_option maxRecDepth 100000 in
theorem concatBar_any (g : Nat) (sa sb : Value) (A B : List B3) (w : World) (h0 : w.cell? ⟨g, 0, none⟩ = some sa) (h1 : w.cell? ⟨g, 1, none⟩ = some sb) (hA : Br 0 w sa A) (hB : Br 0 w sb B) (hl : A.length + B.length ≤ 2097152) :
    Calls Try.prog 82 #[.slice (some ⟨g, 0, none⟩) 2 2] w (BaR (A ++ B) w) := by
  have HA := Lib.hid hA
  have HB := Lib.hid hB
  obtain ⟨aa, ca, rfl⟩ := Br.shape hA
  obtain ⟨ab, cb, rfl⟩ := Br.shape hB
  have hgl : g < w.heap.size := cell_lt h0
  have hgr := growBar_any (A.length + B.length) w hl
  rw [Int.natCast_add] at hgr
  have HG := Lib.hid hgr
  have n0 : ¬ ((A.length : Int) < 0) := by omega
  have n1 : ¬ ((A.length : Int) + (B.length : Int) < 0) := by omega
  clear hgr
  clear hA hB
  go_enter Try.func82, Try.ntmps82
  go_wp2
  refine wp_loop_rounds 3 ?_
  rw [rounds_succ]
  go_wp2
  rw [rounds_succ]
  go_wp2
  rw [rounds_succ]
  go_wp2_with fail
  refine HG.out.mono ?_
  rintro e w1 ⟨s6, rfl, hb1, ho1⟩
  have HB1 := Lib.hid hb1
  have HO1 := Lib.hid ho1
  have h0' := later hb1 (Nat.le_refl _) h0
  have h1' := later hb1 (Nat.le_refl _) h1
  have HA1 := Lib.hid (HA.out.below hb1)
  clear hb1 ho1 HG h0 h1 n0 n1
  go_wp2
  refine wp_loop_rounds 3 ?_
  rw [rounds_succ]
  go_wp2_with (at_builtin; refine wpList_appendBs rfl (some 33) rfl (.tmp 31) (.tmp 32) rfl w.heap.size _ _ [] A rfl rfl HO1.out HA1.out ?c1 ?c2 ?_)
  case c1 => simp; omega
  case c2 => exact HB1.out.size
  rw [List.nil_append]
  intro v2 w2 ho2 hg2
  have HB2 : Hid (Below w.heap.size w w2) := Lib.hid (HB1.out.grown hg2 HB1.out.size (fun g hg => (HO1.out.lt g hg).1))
  have HO2 := Lib.hid ho2
  have h1'' : w2.cell? ⟨g, 1, none⟩ = some (.slice ab B.length cb) := by rw [World.grownBy.cell hg2 h1' (fun e => by have := (HO1.out.lt g e.symm).1; omega)]
  have HB2b := Lib.hid (HB.out.below HB2.out)
  clear ho2 hg2 h0' h1' HA1 HO1 HB1
  go_wp2
  rw [rounds_succ]
  go_wp2_with (at_builtin; refine wpList_appendBs rfl (some 33) rfl (.tmp 31) (.tmp 32) rfl w.heap.size _ _ A B rfl rfl HO2.out HB2b.out ?c1 ?c2 ?_)
  case c1 => exact hl
  case c2 => exact HB2.out.size
  intro v3 w3 ho3 hg3
  have HB3 : Hid (Below w.heap.size w w3) := Lib.hid (HB2.out.grown hg3 HB2.out.size (fun g hg => (HO2.out.lt g hg).1))
  have HO3 := Lib.hid ho3
  clear ho3 hg3 h1''
  go_wp2
  rw [rounds_succ]
  go_wp2
  go_ret
  exact ⟨_, rfl, HB3.out, HO3.out⟩
end Go.Proofs.Ytchijefibiaphaa
