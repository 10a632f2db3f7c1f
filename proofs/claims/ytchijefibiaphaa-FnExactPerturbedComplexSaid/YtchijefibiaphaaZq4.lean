/-
  Texts that ProofPbl needs, part 4.
-/
import Derived.Test.YtchijefibiaphaaZq3
import Derived.Deep.QuietTactic
import Derived.Deep.RegionHeld3
import Derived.BigRegion
import Derived.Deep.Cut
import Derived.Deep.CutRange
import Derived.StillTailTactics
namespace Go.Proofs.Ytchijefibiaphaa
open Go.RowKit

section
variable {lo : Nat} {w w' : World} {u v vm : Value} {vs : List Value} {t : List (List Int)} {ds : List Int} {n : Nat} {U : Nat → Value} {V : Nat → List Value} {T : Nat → List (List Int)}
theorem Gqv.offC (h : Gqv lo w u vs t) {g k : Nat} {f : Nat → Value} (hr : w.rowIs g 30 k f) (i : Nat) (x : Value) : Gqv lo (w.setCell ⟨g, i, none⟩ x) u vs t :=
  ⟨owns_off h.own hr coT.2.1 _ _, fun k h1 h2 => (h.rows k h1 h2).off hr coT.1 _ _, h.ap⟩
theorem Gtq.offC (h : Gtq lo w u n U V T) {g k : Nat} {f : Nat → Value} (hr : w.rowIs g 30 k f) (i : Nat) (x : Value) : Gtq lo (w.setCell ⟨g, i, none⟩ x) u n U V T :=
  ⟨owns_off h.own hr coT.2.2 _ _, fun k hk => (h.tabs k hk).offC hr _ _, h.ap⟩
theorem Gtq.lower {lo' : Nat} (h : Gtq lo w u n U V T) (hl : lo' ≤ lo) : Gtq lo' w u n U V T := ⟨owns_mono h.own hl, fun k hk => (h.tabs k hk).mono hl, h.ap⟩
theorem Gtq.shape (h : Gtq lo w u n U V T) : ∃ ad cap, u = .slice ad n cap := by
  rcases h.own.2 with ⟨hs, h0⟩ | ⟨g, cap, cur, hs, _⟩
  · exact ⟨none, 0, by rw [hs, h0]⟩
  · exact ⟨_, cap, hs⟩
/-- A copy's dimensions and tables. -/
structure Cyq (lo : Nat) (w : World) (v vm : Value) (ds : List Int) (n : Nat) (U : Nat → Value) (V : Nat → List Value) (T : Nat → List (List Int)) : Prop where
  dims : Gb lo w v ds
  maps : Gtq lo w vm n U V T
  dap : ∀ k, k < n → ∀ i (hi : i < (V k).length) g, (V k)[i].ownBlock = some g → v.ownBlock ≠ some g
theorem Cyq.below (h : Cyq lo w v vm ds n U V T) (hb : Below w.heap.size w w') : Cyq lo w' v vm ds n U V T := ⟨h.dims.below hb, h.maps.below hb, h.dap⟩
theorem Cyq.offC (h : Cyq lo w v vm ds n U V T) {g k : Nat} {f : Nat → Value} (hr : w.rowIs g 30 k f) (i : Nat) (x : Value) : Cyq lo (w.setCell ⟨g, i, none⟩ x) v vm ds n U V T :=
  ⟨h.dims.off hr coT.1 _ _, h.maps.offC hr _ _, h.dap⟩
theorem Cyq.lower {lo' : Nat} (h : Cyq lo w v vm ds n U V T) (hl : lo' ≤ lo) : Cyq lo' w v vm ds n U V T := ⟨h.dims.mono hl, h.maps.lower hl, h.dap⟩
end
/-- The box of a copy while it is gathered. -/
structure Sq (w1 wr : World) (g : Nat) (p : Int) (v vm : Value) (ds : List Int) (n : Nat) (U : Nat → Value) (V : Nat → List Value) (T : Nat → List (List Int)) : Prop where
  below : Below w1.heap.size w1 wr
  lo : w1.heap.size ≤ g
  box : wr.rowIs g 30 3 (sel3 (.int .i64 p) v vm)
  cy : Cyq w1.heap.size wr v vm ds n U V T
section
variable {w1 wr wa w' : World} {g n n' : Nat} {p : Int} {v vm v' : Value} {ds : List Int} {U U' : Nat → Value} {V V' : Nat → List Value} {T T' : Nat → List (List Int)}
theorem Sq.next (h : Sq w1 wr g p v vm ds n U V T) (hb : Below wr.heap.size wr w') : Sq w1 w' g p v vm ds n U V T :=
  ⟨h.below.trans (hb.mono h.below.size), h.lo, h.box.of_block (hb.block _ h.box.lt), h.cy.below hb⟩
theorem Sq.stepM (h : Sq w1 wa g p v vm ds n U V T) (hg : wa.grownBy w' vm.ownBlock) (hn : Gtq w1.heap.size w' v' n' U' V' T') (hd : ∀ k, k < n' → ∀ i (hi : i < (V' k).length) g, (V' k)[i].ownBlock = some g → v.ownBlock ≠ some g) : Sq w1 (w'.setCell ⟨g, 2, none⟩ v') g p v v' ds n' U' V' T' := by
  have hr := row_grown h.box h.cy.maps.own coT.2.2 hg
  have hb := h.below.grown hg h.below.size (fun g hg => (h.cy.maps.own.lt g hg).1)
  have hdm : Gb w1.heap.size w' v ds := owns_grown h.cy.dims h.cy.maps.own (by decide) hg
  refine ⟨hb.setCell h.lo _, h.lo, (hr.set 2 v').congr (fun j hj => ?_), ⟨hdm.off hr coT.1 _ _, hn.offC hr _ _, hd⟩⟩
  match j, hj with
  | 0, _ => rfl
  | 1, _ => rfl
  | 2, _ => rfl
end
theorem gtq_nil {base b : Nat} {W : World} (h : Rz W b 61 #[]) (hb : base ≤ b) (U : Nat → Value) (V : Nat → List Value) (T : Nat → List (List Int)) : Gtq base W (.slice (some ⟨b, 0, none⟩) 0 0) 0 U V T :=
  ⟨⟨rfl, Or.inr ⟨b, 0, #[], rfl, hb, h, by simp, by unfold maxLen; omega, by simp, by simp⟩⟩, fun k h1 => absurd h1 (Nat.not_lt_zero _), fun k _ h1 => absurd h1 (Nat.not_lt_zero _)⟩
theorem gb_offRowC {lo g : Nat} {W : World} {u : Value} {xs : List Int} (h : Gb lo W u xs) {old : Array Value} (hr : Rz W g 30 old) (cs : Array Value) : Gb lo (W.setRow g cs) u xs := by
  refine ⟨h.1, ?_⟩
  rcases h.2 with h2 | ⟨g2, cap, cur, hu, hb, hh, r⟩
  · exact Or.inl h2
  · refine Or.inr ⟨g2, cap, cur, hu, hb, ?_, r⟩
    rw [setRow_other W g g2 cs (by
      intro e
      subst e
      have hr' : W.heap[g2]? = some (.cells old 30 (0, 0)) := hr
      rw [hr'] at hh
      simp at hh)]
    exact hh
def CyR (p : Int) (ds : List Int) (ms : List (List (List Int))) (w : World) (e : Ending) (w' : World) : Prop := ∃ ad cd am cm U V, e = .returned (.agg #[.int .i64 p, .slice ad ds.length cd, .slice am ms.length cm]) ∧ Cyq w.heap.size w' (.slice ad ds.length cd) (.slice am ms.length cm) ds ms.length U V (fun l => ms.getD l []) ∧ Below w.heap.size w w'

set_option maxHeartbeats 6400000 in
set_option maxRecDepth 100000 in
theorem l01Copy_any (p : Int) (dv mv : Value) (ds : List Int) (ms : List (List (List Int))) (w : World) (h : Cx 0 w dv mv ds ms) (hd : ds.length ≤ 1048576) (hm : Bd3 1048576 ms) :
    Calls Try.prog 98 #[.agg #[.int .i64 p, dv, mv]] w (CyR p ds ms w) := by
  have hres : Try.f98.results = #[.cell 2 30] := by kernel_rfl
  have HRES := Lib.hid hres
  obtain ⟨ad0, cd0, rfl⟩ := Sl.shape h.dims
  obtain ⟨am0, cm0, rfl⟩ := Sl.shape h.maps
  obtain ⟨wa, hwa⟩ : ∃ wa : World, wa = w.alloc (.cells #[.int .i64 p, .slice ad0 ds.length cd0, .slice am0 ms.length cm0] 30) := ⟨_, rfl⟩
  obtain ⟨w1, hw1⟩ : ∃ w1 : World, w1 = wa.alloc (.cells #[.int .i64 0, .slice none 0 0, .slice none 0 0] 30) := ⟨_, rfl⟩
  have hsa : wa.heap.size = w.heap.size + 1 := by rw [hwa]; simp
  have hs1 : w1.heap.size = w.heap.size + 2 := by rw [hw1]; simp [hsa]
  have hba : Below wa.heap.size wa w1 := by rw [hw1]; exact below_alloc1 _ _
  have k1 : Bx w wa w.heap.size p (.slice ad0 ds.length cd0) (.slice am0 ms.length cm0) ds ms := by rw [hwa]; exact Bx.start _ h
  have HR1 : Hid (Rz w1 (w.heap.size + 1) 30 #[.int .i64 0, .slice none 0 0, .slice none 0 0]) := Lib.hid (by rw [hw1, ← hsa]; exact Rz.new _ _ _)
  have HN1 : Hid (∀ W, Below w1.heap.size w1 W → Bx w W w.heap.size p (.slice ad0 ds.length cd0) (.slice am0 ms.length cm0) ds ms ∧ Rz W (w.heap.size + 1) 30 #[.int .i64 0, .slice none 0 0, .slice none 0 0]) := Lib.hid (fun W hb => ⟨(k1.next hba).next hb, HR1.out.next hb⟩)
  have HM := Lib.hid hm
  have HS1 := Lib.hid hs1
  have hmb : ms.length ≤ 1048576 := hm.1
  obtain ⟨nd, hnd⟩ : ∃ nd, nd = ds.length := ⟨_, rfl⟩
  have HND := Lib.hid hnd
  rw [← hnd] at hwa k1 HN1
  have hdn : nd ≤ 1048576 := by omega
  clear h hm hres k1 hba hs1 HR1
  go_enter Try.func98, Try.ntmps98
  rw [← hnd]
  clear hnd hd
  go_upto_region 1 with fail
  rw [← hwa, ← hw1]
  clear hwa hw1 hsa
  go_cut [3] from 5 to 11 (fun s3 wz => ∃ (bo bm cq : Nat) (aq : Option Addr), s3 = .pointer (some ⟨bo, 0, none⟩) ∧ Hid (Sq w1 wz bo p (.slice aq nd cq) (.slice (some ⟨bm, 0, none⟩) 0 0) ds 0 (fun _ => undef) (fun _ => []) (fun l => ms.getD l [])))
  case first =>
    refine wp_region_held (S := fun W => Below (w1.heap.size) w1 W) (by kernel_rfl) ?_
    have S0 : Below (w1.heap.size) w1 w1.drew := (Below.refl _ _).drew
    have hB0 : w1.heap.size ≤ w1.heap.size := Nat.le_refl _
    have hsd : w1.heap.size ≤ w1.drew.heap.size := Nat.le_refl _
    have hbd : Below w1.heap.size w1 w1.drew := (Below.refl _ _).drew
    change wpAnyH _ _ _ _ _ _ _ _ w1.drew
    obtain ⟨wd, hwd⟩ : ∃ wd, wd = w1.drew := ⟨_, rfl⟩
    rw [← hwd] at S0 hsd hbd ⊢
    clear hwd
    refine held_take (i := 0) (v := .pointer (some ⟨w.heap.size, 0, none⟩)) (some 5) rfl rfl (by kernel_rfl) (by kernel_rfl) (by kernel_rfl) (fun _ _ _ h => h) (yieldsIf_run (by kernel_rfl) (fun W _ => by kernel_rfl)) S0 ?_
    refine held_take (i := 1) (v := .int .i64 p) (some 6) rfl rfl (by kernel_rfl) (by kernel_rfl) (by kernel_rfl) (fun _ _ _ h => h) (yieldsIf_cell (by kernel_rfl) rfl (by kernel_rfl) (fun W h => hload W ((HN1.out W h).1.c0))) S0 ?_
    refine held_take (i := 2) (v := .pointer (some ⟨w.heap.size, 1, none⟩)) (some 7) rfl rfl (by kernel_rfl) (by kernel_rfl) (by kernel_rfl) (fun _ _ _ h => h) (yieldsIf_run (by kernel_rfl) (fun W _ => by kernel_rfl)) S0 ?_
    refine held_take (i := 3) (v := (.slice ad0 nd cd0)) (some 8) rfl rfl (by kernel_rfl) (by kernel_rfl) (by kernel_rfl) (fun _ _ _ h => h) (yieldsIf_cell (by kernel_rfl) rfl (by kernel_rfl) (fun W h => hloadS W ((HN1.out W h).1.c1))) S0 ?_
    refine held_three (i := 4) (j := 5) (l := 7) (by kernel_rfl) ?_ ?_ ?_
    · refine op_enter (i := 4) (some 9) (f := 131) (args := #[(.slice ad0 nd cd0)]) rfl rfl rfl (by kernel_rfl) (l01Own_any _ ds wd (HN1.out wd S0).1.cx.dims (by have := HND.out; omega)) ?_ (fun c w' h => by obtain ⟨_, h, _⟩ := h; cases h) (fun w' h => by obtain ⟨_, h, _⟩ := h; cases h)
      rintro ee W1 ⟨u1, he, hu1, hb1⟩
      injection he with he
      subst he
      obtain ⟨a1, c1, hv⟩ := Sl.shape hu1.l1
      rw [← HND.out] at hv
      subst hv
      have S1 : Below (w1.heap.size) w1 W1 := S0.trans (hb1.mono (Nat.le_trans hB0 S0.size))
      have hud1 := hu1.mono (Nat.le_trans hB0 S0.size)
      refine ⟨S1, ?_⟩
      refine held_two (i := 5) (j := 7) (by kernel_rfl) ?_ ?_
      · obtain ⟨W2, hW2⟩ : ∃ W', W' = W1.alloc (.cells #[] 61) := ⟨_, rfl⟩
        have hb2 : Below W1.heap.size W1 W2 := by rw [hW2]; exact below_alloc1 _ _
        have hAm2 : Rz W2 W1.heap.size 61 #[] := by rw [hW2]; exact Rz.new _ _ _
        have S2 : Below (w1.heap.size) w1 W2 := S1.trans (hb2.mono (Nat.le_trans hB0 S1.size))
        have hGm : w1.heap.size ≤ W1.heap.size := Nat.le_trans hB0 S1.size
        have hue2 := hud1.below hb2
        refine op_mem (i := 5) (v := .slice (some ⟨W1.heap.size, 0, none⟩) 0 0) (w' := W2) (some 10) rfl rfl rfl (by rw [hW2]; go_simp) ?_
        refine ⟨S2, ?_⟩
        refine held_take (i := 6) (v := .agg #[.int .i64 p, .slice a1 nd c1, .slice (some ⟨W1.heap.size, 0, none⟩) 0 0]) (some 11) rfl rfl (by kernel_rfl) (by kernel_rfl) (by kernel_rfl) (fun _ _ _ h => h) (yieldsIf_run (by kernel_rfl) (fun W _ => by kernel_rfl)) S2 ?_
        refine held_one (i := 7) (by kernel_rfl) ?_
        · obtain ⟨W3, hW3⟩ : ∃ W', W' = W2.alloc (.cells #[.int .i64 0, .slice none 0 0, .slice none 0 0] 30) := ⟨_, rfl⟩
          have hb3 : Below W2.heap.size W2 W3 := by rw [hW3]; exact below_alloc1 _ _
          have hAg3 : Rz W3 W2.heap.size 30 #[.int .i64 0, .slice none 0 0, .slice none 0 0] := by rw [hW3]; exact Rz.new _ _ _
          have S3 : Below (w1.heap.size) w1 W3 := S2.trans (hb3.mono (Nat.le_trans hB0 S2.size))
          have hGg : w1.heap.size ≤ W2.heap.size := Nat.le_trans hB0 S2.size
          have hne : W1.heap.size ≠ W2.heap.size := Nat.ne_of_lt hAm2.lt
          have hAm3 := hAm2.next hb3
          have hue3 := hue2.below hb3
          refine op_mem (i := 7) (v := .pointer (some ⟨W2.heap.size, 0, none⟩)) (w' := W3) (some 3) rfl rfl rfl (by rw [hW3]; go_simp) ?_
          refine ⟨S3, ?_⟩
          have hdF := gb_offRowC hue3 hAg3 #[.int .i64 p, .slice a1 nd c1, .slice (some ⟨W1.heap.size, 0, none⟩) 0 0]
          have S4 : Below (w1.heap.size) w1 (W3.setRow (W2.heap.size) #[.int .i64 p, .slice a1 nd c1, .slice (some ⟨W1.heap.size, 0, none⟩) 0 0]) := below_setRow S3 hGg _
          refine held_one (i := 8) (by kernel_rfl) ?_
          refine op_row (i := 8) rfl rfl rfl 30 (.tmp 3) (.tmp 11) rfl (W2.heap.size) #[.int .i64 p, .slice a1 nd c1, .slice (some ⟨W1.heap.size, 0, none⟩) 0 0] (by kernel_rfl) (by kernel_rfl) 30 _ hAg3 (infoCo _ _ _) (by kernel_rfl) (by kernel_rfl) ?_
          refine ⟨S4, ?_⟩
          have hAm4 := hAm3.off (by first | exact hne | exact hne.symm) #[.int .i64 p, .slice a1 nd c1, .slice (some ⟨W1.heap.size, 0, none⟩) 0 0]
          have hAg4 := hAg3.set #[.int .i64 p, .slice a1 nd c1, .slice (some ⟨W1.heap.size, 0, none⟩) 0 0]
          refine wpAnyH_done (by kernel_rfl) ?_ _
          simp only [Act.put, List.setIfInBounds_toArray, List.set_cons_zero, List.set_cons_succ]
          go_wp2
          go_meet
          exact ⟨W2.heap.size, W1.heap.size, c1, a1, rfl, Lib.hid ⟨S4, hGg, rowIs3 hAg4, ⟨hdF, gtq_nil hAm4 hGm _ _ _, fun k hk => absurd hk (Nat.not_lt_zero _)⟩⟩⟩
      · obtain ⟨W5, hW5⟩ : ∃ W', W' = W1.alloc (.cells #[.int .i64 0, .slice none 0 0, .slice none 0 0] 30) := ⟨_, rfl⟩
        have hb5 : Below W1.heap.size W1 W5 := by rw [hW5]; exact below_alloc1 _ _
        have hAg5 : Rz W5 W1.heap.size 30 #[.int .i64 0, .slice none 0 0, .slice none 0 0] := by rw [hW5]; exact Rz.new _ _ _
        have S5 : Below (w1.heap.size) w1 W5 := S1.trans (hb5.mono (Nat.le_trans hB0 S1.size))
        have hGg : w1.heap.size ≤ W1.heap.size := Nat.le_trans hB0 S1.size
        have hue5 := hud1.below hb5
        refine op_mem (i := 7) (v := .pointer (some ⟨W1.heap.size, 0, none⟩)) (w' := W5) (some 3) rfl rfl rfl (by rw [hW5]; go_simp) ?_
        refine ⟨S5, ?_⟩
        refine held_one (i := 5) (by kernel_rfl) ?_
        · obtain ⟨W6, hW6⟩ : ∃ W', W' = W5.alloc (.cells #[] 61) := ⟨_, rfl⟩
          have hb6 : Below W5.heap.size W5 W6 := by rw [hW6]; exact below_alloc1 _ _
          have hAm6 : Rz W6 W5.heap.size 61 #[] := by rw [hW6]; exact Rz.new _ _ _
          have S6 : Below (w1.heap.size) w1 W6 := S5.trans (hb6.mono (Nat.le_trans hB0 S5.size))
          have hGm : w1.heap.size ≤ W5.heap.size := Nat.le_trans hB0 S5.size
          have hne : W1.heap.size ≠ W5.heap.size := Nat.ne_of_lt hAg5.lt
          have hAg6 := hAg5.next hb6
          have hue6 := hue5.below hb6
          refine op_mem (i := 5) (v := .slice (some ⟨W5.heap.size, 0, none⟩) 0 0) (w' := W6) (some 10) rfl rfl rfl (by rw [hW6]; go_simp) ?_
          refine ⟨S6, ?_⟩
          refine held_take (i := 6) (v := .agg #[.int .i64 p, .slice a1 nd c1, .slice (some ⟨W5.heap.size, 0, none⟩) 0 0]) (some 11) rfl rfl (by kernel_rfl) (by kernel_rfl) (by kernel_rfl) (fun _ _ _ h => h) (yieldsIf_run (by kernel_rfl) (fun W _ => by kernel_rfl)) S6 ?_
          have hdF := gb_offRowC hue6 hAg6 #[.int .i64 p, .slice a1 nd c1, .slice (some ⟨W5.heap.size, 0, none⟩) 0 0]
          have S7 : Below (w1.heap.size) w1 (W6.setRow (W1.heap.size) #[.int .i64 p, .slice a1 nd c1, .slice (some ⟨W5.heap.size, 0, none⟩) 0 0]) := below_setRow S6 hGg _
          refine held_one (i := 8) (by kernel_rfl) ?_
          refine op_row (i := 8) rfl rfl rfl 30 (.tmp 3) (.tmp 11) rfl (W1.heap.size) #[.int .i64 p, .slice a1 nd c1, .slice (some ⟨W5.heap.size, 0, none⟩) 0 0] (by kernel_rfl) (by kernel_rfl) 30 _ hAg6 (infoCo _ _ _) (by kernel_rfl) (by kernel_rfl) ?_
          refine ⟨S7, ?_⟩
          have hAg7 := hAg6.set #[.int .i64 p, .slice a1 nd c1, .slice (some ⟨W5.heap.size, 0, none⟩) 0 0]
          have hAm7 := hAm6.off (by first | exact hne | exact hne.symm) #[.int .i64 p, .slice a1 nd c1, .slice (some ⟨W5.heap.size, 0, none⟩) 0 0]
          refine wpAnyH_done (by kernel_rfl) ?_ _
          simp only [Act.put, List.setIfInBounds_toArray, List.set_cons_zero, List.set_cons_succ]
          go_wp2
          go_meet
          exact ⟨W1.heap.size, W5.heap.size, c1, a1, rfl, Lib.hid ⟨S7, hGg, rowIs3 hAg7, ⟨hdF, gtq_nil hAm7 hGm _ _ _, fun k hk => absurd hk (Nat.not_lt_zero _)⟩⟩⟩
    · obtain ⟨W8, hW8⟩ : ∃ W', W' = wd.alloc (.cells #[] 61) := ⟨_, rfl⟩
      have hb8 : Below wd.heap.size wd W8 := by rw [hW8]; exact below_alloc1 _ _
      have hAm8 : Rz W8 wd.heap.size 61 #[] := by rw [hW8]; exact Rz.new _ _ _
      have S8 : Below (w1.heap.size) w1 W8 := S0.trans (hb8.mono (Nat.le_trans hB0 S0.size))
      have hGm : w1.heap.size ≤ wd.heap.size := Nat.le_trans hB0 S0.size
      refine op_mem (i := 5) (v := .slice (some ⟨wd.heap.size, 0, none⟩) 0 0) (w' := W8) (some 10) rfl rfl rfl (by rw [hW8]; go_simp) ?_
      refine ⟨S8, ?_⟩
      refine held_two (i := 4) (j := 7) (by kernel_rfl) ?_ ?_
      · refine op_enter (i := 4) (some 9) (f := 131) (args := #[(.slice ad0 nd cd0)]) rfl rfl rfl (by kernel_rfl) (l01Own_any _ ds W8 (HN1.out W8 S8).1.cx.dims (by have := HND.out; omega)) ?_ (fun c w' h => by obtain ⟨_, h, _⟩ := h; cases h) (fun w' h => by obtain ⟨_, h, _⟩ := h; cases h)
        rintro ee W9 ⟨u9, he, hu9, hb9⟩
        injection he with he
        subst he
        obtain ⟨a9, c9, hv⟩ := Sl.shape hu9.l1
        rw [← HND.out] at hv
        subst hv
        have S9 : Below (w1.heap.size) w1 W9 := S8.trans (hb9.mono (Nat.le_trans hB0 S8.size))
        have hAm9 := hAm8.next hb9
        have hud9 := hu9.mono (Nat.le_trans hB0 S8.size)
        refine ⟨S9, ?_⟩
        refine held_take (i := 6) (v := .agg #[.int .i64 p, .slice a9 nd c9, .slice (some ⟨wd.heap.size, 0, none⟩) 0 0]) (some 11) rfl rfl (by kernel_rfl) (by kernel_rfl) (by kernel_rfl) (fun _ _ _ h => h) (yieldsIf_run (by kernel_rfl) (fun W _ => by kernel_rfl)) S9 ?_
        refine held_one (i := 7) (by kernel_rfl) ?_
        · obtain ⟨W10, hW10⟩ : ∃ W', W' = W9.alloc (.cells #[.int .i64 0, .slice none 0 0, .slice none 0 0] 30) := ⟨_, rfl⟩
          have hb10 : Below W9.heap.size W9 W10 := by rw [hW10]; exact below_alloc1 _ _
          have hAg10 : Rz W10 W9.heap.size 30 #[.int .i64 0, .slice none 0 0, .slice none 0 0] := by rw [hW10]; exact Rz.new _ _ _
          have S10 : Below (w1.heap.size) w1 W10 := S9.trans (hb10.mono (Nat.le_trans hB0 S9.size))
          have hGg : w1.heap.size ≤ W9.heap.size := Nat.le_trans hB0 S9.size
          have hne : wd.heap.size ≠ W9.heap.size := Nat.ne_of_lt hAm9.lt
          have hAm10 := hAm9.next hb10
          have hue10 := hud9.below hb10
          refine op_mem (i := 7) (v := .pointer (some ⟨W9.heap.size, 0, none⟩)) (w' := W10) (some 3) rfl rfl rfl (by rw [hW10]; go_simp) ?_
          refine ⟨S10, ?_⟩
          have hdF := gb_offRowC hue10 hAg10 #[.int .i64 p, .slice a9 nd c9, .slice (some ⟨wd.heap.size, 0, none⟩) 0 0]
          have S11 : Below (w1.heap.size) w1 (W10.setRow (W9.heap.size) #[.int .i64 p, .slice a9 nd c9, .slice (some ⟨wd.heap.size, 0, none⟩) 0 0]) := below_setRow S10 hGg _
          refine held_one (i := 8) (by kernel_rfl) ?_
          refine op_row (i := 8) rfl rfl rfl 30 (.tmp 3) (.tmp 11) rfl (W9.heap.size) #[.int .i64 p, .slice a9 nd c9, .slice (some ⟨wd.heap.size, 0, none⟩) 0 0] (by kernel_rfl) (by kernel_rfl) 30 _ hAg10 (infoCo _ _ _) (by kernel_rfl) (by kernel_rfl) ?_
          refine ⟨S11, ?_⟩
          have hAm11 := hAm10.off (by first | exact hne | exact hne.symm) #[.int .i64 p, .slice a9 nd c9, .slice (some ⟨wd.heap.size, 0, none⟩) 0 0]
          have hAg11 := hAg10.set #[.int .i64 p, .slice a9 nd c9, .slice (some ⟨wd.heap.size, 0, none⟩) 0 0]
          refine wpAnyH_done (by kernel_rfl) ?_ _
          simp only [Act.put, List.setIfInBounds_toArray, List.set_cons_zero, List.set_cons_succ]
          go_wp2
          go_meet
          exact ⟨W9.heap.size, wd.heap.size, c9, a9, rfl, Lib.hid ⟨S11, hGg, rowIs3 hAg11, ⟨hdF, gtq_nil hAm11 hGm _ _ _, fun k hk => absurd hk (Nat.not_lt_zero _)⟩⟩⟩
      · obtain ⟨W12, hW12⟩ : ∃ W', W' = W8.alloc (.cells #[.int .i64 0, .slice none 0 0, .slice none 0 0] 30) := ⟨_, rfl⟩
        have hb12 : Below W8.heap.size W8 W12 := by rw [hW12]; exact below_alloc1 _ _
        have hAg12 : Rz W12 W8.heap.size 30 #[.int .i64 0, .slice none 0 0, .slice none 0 0] := by rw [hW12]; exact Rz.new _ _ _
        have S12 : Below (w1.heap.size) w1 W12 := S8.trans (hb12.mono (Nat.le_trans hB0 S8.size))
        have hGg : w1.heap.size ≤ W8.heap.size := Nat.le_trans hB0 S8.size
        have hne : wd.heap.size ≠ W8.heap.size := Nat.ne_of_lt hAm8.lt
        have hAm12 := hAm8.next hb12
        refine op_mem (i := 7) (v := .pointer (some ⟨W8.heap.size, 0, none⟩)) (w' := W12) (some 3) rfl rfl rfl (by rw [hW12]; go_simp) ?_
        refine ⟨S12, ?_⟩
        refine held_one (i := 4) (by kernel_rfl) ?_
        · refine op_enter (i := 4) (some 9) (f := 131) (args := #[(.slice ad0 nd cd0)]) rfl rfl rfl (by kernel_rfl) (l01Own_any _ ds W12 (HN1.out W12 S12).1.cx.dims (by have := HND.out; omega)) ?_ (fun c w' h => by obtain ⟨_, h, _⟩ := h; cases h) (fun w' h => by obtain ⟨_, h, _⟩ := h; cases h)
          rintro ee W13 ⟨u13, he, hu13, hb13⟩
          injection he with he
          subst he
          obtain ⟨a13, c13, hv⟩ := Sl.shape hu13.l1
          rw [← HND.out] at hv
          subst hv
          have S13 : Below (w1.heap.size) w1 W13 := S12.trans (hb13.mono (Nat.le_trans hB0 S12.size))
          have hAm13 := hAm12.next hb13
          have hAg13 := hAg12.next hb13
          have hud13 := hu13.mono (Nat.le_trans hB0 S12.size)
          refine ⟨S13, ?_⟩
          refine held_take (i := 6) (v := .agg #[.int .i64 p, .slice a13 nd c13, .slice (some ⟨wd.heap.size, 0, none⟩) 0 0]) (some 11) rfl rfl (by kernel_rfl) (by kernel_rfl) (by kernel_rfl) (fun _ _ _ h => h) (yieldsIf_run (by kernel_rfl) (fun W _ => by kernel_rfl)) S13 ?_
          have hdF := gb_offRowC hud13 hAg13 #[.int .i64 p, .slice a13 nd c13, .slice (some ⟨wd.heap.size, 0, none⟩) 0 0]
          have S14 : Below (w1.heap.size) w1 (W13.setRow (W8.heap.size) #[.int .i64 p, .slice a13 nd c13, .slice (some ⟨wd.heap.size, 0, none⟩) 0 0]) := below_setRow S13 hGg _
          refine held_one (i := 8) (by kernel_rfl) ?_
          refine op_row (i := 8) rfl rfl rfl 30 (.tmp 3) (.tmp 11) rfl (W8.heap.size) #[.int .i64 p, .slice a13 nd c13, .slice (some ⟨wd.heap.size, 0, none⟩) 0 0] (by kernel_rfl) (by kernel_rfl) 30 _ hAg13 (infoCo _ _ _) (by kernel_rfl) (by kernel_rfl) ?_
          refine ⟨S14, ?_⟩
          have hAm14 := hAm13.off (by first | exact hne | exact hne.symm) #[.int .i64 p, .slice a13 nd c13, .slice (some ⟨wd.heap.size, 0, none⟩) 0 0]
          have hAg14 := hAg13.set #[.int .i64 p, .slice a13 nd c13, .slice (some ⟨wd.heap.size, 0, none⟩) 0 0]
          refine wpAnyH_done (by kernel_rfl) ?_ _
          simp only [Act.put, List.setIfInBounds_toArray, List.set_cons_zero, List.set_cons_succ]
          go_wp2
          go_meet
          exact ⟨W8.heap.size, wd.heap.size, c13, a13, rfl, Lib.hid ⟨S14, hGg, rowIs3 hAg14, ⟨hdF, gtq_nil hAm14 hGm _ _ _, fun k hk => absurd hk (Nat.not_lt_zero _)⟩⟩⟩
    · obtain ⟨W15, hW15⟩ : ∃ W', W' = wd.alloc (.cells #[.int .i64 0, .slice none 0 0, .slice none 0 0] 30) := ⟨_, rfl⟩
      have hb15 : Below wd.heap.size wd W15 := by rw [hW15]; exact below_alloc1 _ _
      have hAg15 : Rz W15 wd.heap.size 30 #[.int .i64 0, .slice none 0 0, .slice none 0 0] := by rw [hW15]; exact Rz.new _ _ _
      have S15 : Below (w1.heap.size) w1 W15 := S0.trans (hb15.mono (Nat.le_trans hB0 S0.size))
      have hGg : w1.heap.size ≤ wd.heap.size := Nat.le_trans hB0 S0.size
      refine op_mem (i := 7) (v := .pointer (some ⟨wd.heap.size, 0, none⟩)) (w' := W15) (some 3) rfl rfl rfl (by rw [hW15]; go_simp) ?_
      refine ⟨S15, ?_⟩
      refine held_two (i := 4) (j := 5) (by kernel_rfl) ?_ ?_
      · refine op_enter (i := 4) (some 9) (f := 131) (args := #[(.slice ad0 nd cd0)]) rfl rfl rfl (by kernel_rfl) (l01Own_any _ ds W15 (HN1.out W15 S15).1.cx.dims (by have := HND.out; omega)) ?_ (fun c w' h => by obtain ⟨_, h, _⟩ := h; cases h) (fun w' h => by obtain ⟨_, h, _⟩ := h; cases h)
        rintro ee W16 ⟨u16, he, hu16, hb16⟩
        injection he with he
        subst he
        obtain ⟨a16, c16, hv⟩ := Sl.shape hu16.l1
        rw [← HND.out] at hv
        subst hv
        have S16 : Below (w1.heap.size) w1 W16 := S15.trans (hb16.mono (Nat.le_trans hB0 S15.size))
        have hAg16 := hAg15.next hb16
        have hud16 := hu16.mono (Nat.le_trans hB0 S15.size)
        refine ⟨S16, ?_⟩
        refine held_one (i := 5) (by kernel_rfl) ?_
        · obtain ⟨W17, hW17⟩ : ∃ W', W' = W16.alloc (.cells #[] 61) := ⟨_, rfl⟩
          have hb17 : Below W16.heap.size W16 W17 := by rw [hW17]; exact below_alloc1 _ _
          have hAm17 : Rz W17 W16.heap.size 61 #[] := by rw [hW17]; exact Rz.new _ _ _
          have S17 : Below (w1.heap.size) w1 W17 := S16.trans (hb17.mono (Nat.le_trans hB0 S16.size))
          have hGm : w1.heap.size ≤ W16.heap.size := Nat.le_trans hB0 S16.size
          have hne : wd.heap.size ≠ W16.heap.size := Nat.ne_of_lt hAg16.lt
          have hAg17 := hAg16.next hb17
          have hue17 := hud16.below hb17
          refine op_mem (i := 5) (v := .slice (some ⟨W16.heap.size, 0, none⟩) 0 0) (w' := W17) (some 10) rfl rfl rfl (by rw [hW17]; go_simp) ?_
          refine ⟨S17, ?_⟩
          refine held_take (i := 6) (v := .agg #[.int .i64 p, .slice a16 nd c16, .slice (some ⟨W16.heap.size, 0, none⟩) 0 0]) (some 11) rfl rfl (by kernel_rfl) (by kernel_rfl) (by kernel_rfl) (fun _ _ _ h => h) (yieldsIf_run (by kernel_rfl) (fun W _ => by kernel_rfl)) S17 ?_
          have hdF := gb_offRowC hue17 hAg17 #[.int .i64 p, .slice a16 nd c16, .slice (some ⟨W16.heap.size, 0, none⟩) 0 0]
          have S18 : Below (w1.heap.size) w1 (W17.setRow (wd.heap.size) #[.int .i64 p, .slice a16 nd c16, .slice (some ⟨W16.heap.size, 0, none⟩) 0 0]) := below_setRow S17 hGg _
          refine held_one (i := 8) (by kernel_rfl) ?_
          refine op_row (i := 8) rfl rfl rfl 30 (.tmp 3) (.tmp 11) rfl (wd.heap.size) #[.int .i64 p, .slice a16 nd c16, .slice (some ⟨W16.heap.size, 0, none⟩) 0 0] (by kernel_rfl) (by kernel_rfl) 30 _ hAg17 (infoCo _ _ _) (by kernel_rfl) (by kernel_rfl) ?_
          refine ⟨S18, ?_⟩
          have hAg18 := hAg17.set #[.int .i64 p, .slice a16 nd c16, .slice (some ⟨W16.heap.size, 0, none⟩) 0 0]
          have hAm18 := hAm17.off (by first | exact hne | exact hne.symm) #[.int .i64 p, .slice a16 nd c16, .slice (some ⟨W16.heap.size, 0, none⟩) 0 0]
          refine wpAnyH_done (by kernel_rfl) ?_ _
          simp only [Act.put, List.setIfInBounds_toArray, List.set_cons_zero, List.set_cons_succ]
          go_wp2
          go_meet
          exact ⟨wd.heap.size, W16.heap.size, c16, a16, rfl, Lib.hid ⟨S18, hGg, rowIs3 hAg18, ⟨hdF, gtq_nil hAm18 hGm _ _ _, fun k hk => absurd hk (Nat.not_lt_zero _)⟩⟩⟩
      · obtain ⟨W19, hW19⟩ : ∃ W', W' = W15.alloc (.cells #[] 61) := ⟨_, rfl⟩
        have hb19 : Below W15.heap.size W15 W19 := by rw [hW19]; exact below_alloc1 _ _
        have hAm19 : Rz W19 W15.heap.size 61 #[] := by rw [hW19]; exact Rz.new _ _ _
        have S19 : Below (w1.heap.size) w1 W19 := S15.trans (hb19.mono (Nat.le_trans hB0 S15.size))
        have hGm : w1.heap.size ≤ W15.heap.size := Nat.le_trans hB0 S15.size
        have hne : wd.heap.size ≠ W15.heap.size := Nat.ne_of_lt hAg15.lt
        have hAg19 := hAg15.next hb19
        refine op_mem (i := 5) (v := .slice (some ⟨W15.heap.size, 0, none⟩) 0 0) (w' := W19) (some 10) rfl rfl rfl (by rw [hW19]; go_simp) ?_
        refine ⟨S19, ?_⟩
        refine held_one (i := 4) (by kernel_rfl) ?_
        · refine op_enter (i := 4) (some 9) (f := 131) (args := #[(.slice ad0 nd cd0)]) rfl rfl rfl (by kernel_rfl) (l01Own_any _ ds W19 (HN1.out W19 S19).1.cx.dims (by have := HND.out; omega)) ?_ (fun c w' h => by obtain ⟨_, h, _⟩ := h; cases h) (fun w' h => by obtain ⟨_, h, _⟩ := h; cases h)
          rintro ee W20 ⟨u20, he, hu20, hb20⟩
          injection he with he
          subst he
          obtain ⟨a20, c20, hv⟩ := Sl.shape hu20.l1
          rw [← HND.out] at hv
          subst hv
          have S20 : Below (w1.heap.size) w1 W20 := S19.trans (hb20.mono (Nat.le_trans hB0 S19.size))
          have hAg20 := hAg19.next hb20
          have hAm20 := hAm19.next hb20
          have hud20 := hu20.mono (Nat.le_trans hB0 S19.size)
          refine ⟨S20, ?_⟩
          refine held_take (i := 6) (v := .agg #[.int .i64 p, .slice a20 nd c20, .slice (some ⟨W15.heap.size, 0, none⟩) 0 0]) (some 11) rfl rfl (by kernel_rfl) (by kernel_rfl) (by kernel_rfl) (fun _ _ _ h => h) (yieldsIf_run (by kernel_rfl) (fun W _ => by kernel_rfl)) S20 ?_
          have hdF := gb_offRowC hud20 hAg20 #[.int .i64 p, .slice a20 nd c20, .slice (some ⟨W15.heap.size, 0, none⟩) 0 0]
          have S21 : Below (w1.heap.size) w1 (W20.setRow (wd.heap.size) #[.int .i64 p, .slice a20 nd c20, .slice (some ⟨W15.heap.size, 0, none⟩) 0 0]) := below_setRow S20 hGg _
          refine held_one (i := 8) (by kernel_rfl) ?_
          refine op_row (i := 8) rfl rfl rfl 30 (.tmp 3) (.tmp 11) rfl (wd.heap.size) #[.int .i64 p, .slice a20 nd c20, .slice (some ⟨W15.heap.size, 0, none⟩) 0 0] (by kernel_rfl) (by kernel_rfl) 30 _ hAg20 (infoCo _ _ _) (by kernel_rfl) (by kernel_rfl) ?_
          refine ⟨S21, ?_⟩
          have hAg21 := hAg20.set #[.int .i64 p, .slice a20 nd c20, .slice (some ⟨W15.heap.size, 0, none⟩) 0 0]
          have hAm21 := hAm20.off (by first | exact hne | exact hne.symm) #[.int .i64 p, .slice a20 nd c20, .slice (some ⟨W15.heap.size, 0, none⟩) 0 0]
          refine wpAnyH_done (by kernel_rfl) ?_ _
          simp only [Act.put, List.setIfInBounds_toArray, List.set_cons_zero, List.set_cons_succ]
          go_wp2
          go_meet
          exact ⟨wd.heap.size, W15.heap.size, c20, a20, rfl, Lib.hid ⟨S21, hGg, rowIs3 hAg21, ⟨hdF, gtq_nil hAm21 hGm _ _ _, fun k hk => absurd hk (Nat.not_lt_zero _)⟩⟩⟩
  case rest =>
    obtain ⟨bo, bm, cq, aq, rfl, HS0⟩ := hcut
    obtain ⟨wz, hwz⟩ : ∃ wz : World, wz = wc := ⟨_, rfl⟩
    subst hwz
    have c2z := (HN1.out _ HS0.out.below).1.c2
    have HC2 := HN1
    go_upto_region 3 with fail
    go_loopw [4] (fun i wr => ∃ (k : Nat) (am : Option Addr) (cm : Nat), k ≤ ms.length ∧ i = .int .i64 k ∧ Hid (∃ U V, Sq w1 wr bo p (.slice aq nd cq) (.slice am k cm) ds k U V (fun l => ms.getD l []))) (fun i _ => ms.length - (intOf i).toNat)
    case atStart => exact ⟨0, _, _, Nat.zero_le _, rfl, Lib.hid ⟨_, _, HS0.out⟩⟩
    case round =>
      clear HS0 c2z HC2
      obtain ⟨k, am, cm, hk, rfl, HSE⟩ := hrel
      obtain ⟨wx, hwx⟩ : ∃ wx : World, wx = wr := ⟨_, rfl⟩
      subst hwx
      obtain ⟨U, V, hS⟩ := HSE.out
      have HS := Lib.hid hS
      clear hS HSE
      have c2 := (HN1.out _ HS.out.below).1.c2
      by_cases hlt : k < ms.length
      · have hkl : (k : Int) < (ms.length : Int) := by omega
        have HXC := Lib.hid (HN1.out _ (Below.refl _ _)).1.cx.maps
        refine Sl.cases HXC.out (fun _ _ hx _ => absurd hlt (by simp [hx])) (fun bt ot ct2 hvt _ _ hcl => ?_)
        injection hvt with e1 e2 e3
        clear e2
        subst e1 e3
        obtain ⟨ut, hut0, hrt⟩ := hcl k hlt
        obtain ⟨t, ht⟩ : ∃ t, t = ms[k] := ⟨_, rfl⟩
        rw [← ht] at hrt
        obtain ⟨at', ct, rfl⟩ := Sl.shape hrt
        have HUT := Lib.hid hut0
        have HRT := Lib.hid hrt
        have HTB : Hid (t.length ≤ 1048576 ∧ ∀ x ∈ t, x.length ≤ 1048576) := Lib.hid (by rw [ht]; exact HM.out.2 _ (List.getElem_mem hlt))
        have HTT : Hid (ms.getD k [] = t) := Lib.hid (by rw [ht, getD_of_lt _ hlt])
        have g2 : wx.cell? ⟨bo, 2, none⟩ = some (.slice am k cm) := HS.out.box.cell (i := 2) (by omega)
        have hsx : w1.heap.size ≤ wx.heap.size := HS.out.below.size
        have hgx : bo < wx.heap.size := HS.out.box.lt
        obtain ⟨wd, hwd⟩ : ∃ wd : World, wd = wx.drew := ⟨_, rfl⟩
        have HSD : Hid (Sq w1 wd bo p (.slice aq nd cq) (.slice am k cm) ds k U V (fun l => ms.getD l [])) := Lib.hid (by rw [hwd]; exact HS.out.next (Below.refl _ _).drew)
        have hsd : wd.heap.size = wx.heap.size := by rw [hwd]; rfl
        have S0 : Hid (Below w1.heap.size w1 wd ∧ wd.cell? ⟨bo, 2, none⟩ = some (.slice am k cm)) := Lib.hid ⟨HSD.out.below, HSD.out.box.cell (i := 2) (by omega)⟩
        clear hcl hut0 hrt ht g2
        go_wp2
        refine wp_region_last (fun W => Hid (Below w1.heap.size w1 W ∧ W.cell? ⟨bo, 2, none⟩ = some (.slice am k cm))) 11 (by kernel_rfl) rfl (by kernel_rfl) ?_
        rw [← hwd]
        clear c2 hwd
        refine held_take (i := 0) (v := .pointer (some ⟨bo, 2, none⟩)) (some 19) rfl rfl (by kernel_rfl) (by kernel_rfl) (by kernel_rfl) (fun _ _ _ h => h) (yieldsIf_run (by kernel_rfl) (fun W _ => by kernel_rfl)) S0 ?_
        refine held_take (i := 1) (v := .slice am k cm) (some 20) rfl rfl (by kernel_rfl) (by kernel_rfl) (by kernel_rfl) (fun _ _ _ h => h) (yieldsIf_cell (by kernel_rfl) rfl (by kernel_rfl) (fun W h => hloadSSS W h.out.2)) S0 ?_
        refine held_take (i := 2) (v := .pointer (some ⟨w.heap.size, 2, none⟩)) (some 21) rfl rfl (by kernel_rfl) (by kernel_rfl) (by kernel_rfl) (fun _ _ _ h => h) (yieldsIf_run (by kernel_rfl) (fun W _ => by kernel_rfl)) S0 ?_
        refine held_take (i := 3) (v := .slice (some ⟨bt, ot, none⟩) ms.length cm0) (some 22) rfl rfl (by kernel_rfl) (by kernel_rfl) (by kernel_rfl) (fun _ _ _ h => h) (yieldsIf_cell (by kernel_rfl) rfl (by kernel_rfl) (fun W h => hloadSSS W (HN1.out W h.out.1).1.c2)) S0 ?_
        refine held_take (i := 4) (v := .int .i64 (k : Int)) (some 23) rfl rfl (by kernel_rfl) (by kernel_rfl) (by kernel_rfl) (fun _ _ _ h => h) (yieldsIf_move (by kernel_rfl) rfl (by kernel_rfl)) S0 ?_
        refine held_take (i := 5) (v := .pointer (some ⟨bt, ot + k, none⟩)) (some 24) rfl rfl (by kernel_rfl) (by kernel_rfl) (by kernel_rfl) (fun _ _ _ h => h) (yieldsIf_run (by kernel_rfl) (fun W _ => by go_simp)) S0 ?_
        refine held_take (i := 6) (v := .slice at' t.length ct) (some 25) rfl rfl (by kernel_rfl) (by kernel_rfl) (by kernel_rfl) (fun _ _ _ h => h) (yieldsIf_cell (by kernel_rfl) rfl (by kernel_rfl) (fun W h => hloadSS W (later h.out.1 (Nat.le_refl _) HUT.out))) S0 ?_
        refine held_enter (i := 7) (some 26) (f := 132) (args := #[.slice at' t.length ct]) (by kernel_rfl) rfl rfl rfl (by kernel_rfl) (l01Rows_q _ t wd (HRT.out.below S0.out.1) HTB.out.1 HTB.out.2) ?_ (fun c w' h => by obtain ⟨_, h, _⟩ := h; cases h) (fun w' h => by obtain ⟨_, h, _⟩ := h; cases h)
        rintro v5 w5 ⟨u5, he5, ⟨vs, hq5⟩, hb5⟩
        injection he5 with he5
        subst he5
        obtain ⟨a5, c5, hus⟩ := Sl.shape hq5.gs.l2
        subst hus
        have hs5 : wd.heap.size ≤ w5.heap.size := hb5.size
        have HS5 := Lib.hid (HSD.out.next hb5)
        have S1 : Hid (Below w1.heap.size w1 w5 ∧ w5.cell? ⟨bo, 2, none⟩ = some (.slice am k cm)) := Lib.hid ⟨HS5.out.below, HS5.out.box.cell (i := 2) (by omega)⟩
        refine ⟨S1, ?_⟩
        obtain ⟨we, hwe⟩ : ∃ we : World, we = w5.alloc (.cells #[.slice a5 t.length c5] 61) := ⟨_, rfl⟩
        have hbe : Below w5.heap.size w5 we := by rw [hwe]; exact below_alloc1 _ _
        have hve : we.cell? ⟨w5.heap.size, 0, none⟩ = some (.slice a5 t.length c5) := by rw [hwe]; exact cell_alloc1 w5 _ _
        have HS6 := Lib.hid (HS5.out.next hbe)
        have HQ6 := Lib.hid ((hq5.below hbe).mono (show w1.heap.size ≤ wd.heap.size by omega))
        have HQL : Hid (∀ i (hi : i < vs.length) g, vs[i].ownBlock = some g → wd.heap.size ≤ g) := Lib.hid (fun i hi g hg => (hq5.lt hi hg).1)
        have HVL : Hid (∀ l, l < k → ∀ i (hi : i < (V l).length) g, (V l)[i].ownBlock = some g → g < wd.heap.size) := Lib.hid (fun l hl i hi g hg => ((HSD.out.cy.maps.tabs l hl).lt hi hg).2)
        have HDL : Hid (∀ g, (Value.slice aq nd cq).ownBlock = some g → g < wd.heap.size) := Lib.hid (fun g hg => (HSD.out.cy.dims.lt g hg).2)
        have S2 : Hid (Below w1.heap.size w1 we ∧ we.cell? ⟨bo, 2, none⟩ = some (.slice am k cm)) := Lib.hid ⟨HS6.out.below, HS6.out.box.cell (i := 2) (by omega)⟩
        refine held_mem (i := 8) (v := .slice (some ⟨w5.heap.size, 0, none⟩) 1 1) (w' := we) (some 27) (by kernel_rfl) rfl rfl rfl (by rw [hwe]; go_simp) S2 ?_
        refine held_call (i := 9) (by kernel_rfl) rfl rfl ?_
        obtain ⟨iSS, hiSS, hz, hs1', hb1'⟩ := info_parts Try.infoSS
        refine wp_append_lies we (.tmp 20) (.tmp 27) 23 (by kernel_rfl) w1.heap.size 61 iSS _ 1 24 Try.underlying23 hiSS hz hs1' hb1' rfl (by decide) (.slice am k cm) k ((List.range k).map U) (by kernel_rfl) HS6.out.cy.maps.own ⟨w5.heap.size, 0, none⟩ 1 1 [.slice a5 t.length c5] (by kernel_rfl) rfl ?ap1 ?ap2 (by omega) (by unfold maxLen; omega) (by omega) HS6.out.below.size _ rfl (fun g9 c9 w9 hn hgw _ _ => ?ap3)
        case ap1 =>
          intro j u hj
          match j, hj with
          | 0, hj =>
            simp at hj
            subst hj
            exact hve
        case ap2 =>
          intro u hu
          simp at hu
          subst hu
          rfl
        case ap3 =>
          have hpush := HS6.out.cy.maps.push hn hgw HQ6.out (fun l hl i hi j hj g e1 e2 => by have := HVL.out l hl i hi g e1; have := HQL.out j hj g e2; omega)
          have hTT : (fun l => if l = k then t else ms.getD l []) = (fun l => ms.getD l []) := by
            funext l
            by_cases e : l = k
            · rw [if_pos e, e, HTT.out]
            · rw [if_neg e]
          rw [hTT] at hpush
          have HS9 := Lib.hid (HS6.out.stepM hgw hpush (fun l hl i hi g hg => by
            by_cases e : l = k
            · simp only [e, if_true] at hi hg
              exact fun h2 => by have := HQL.out i hi g hg; have := HDL.out g h2; omega
            · simp only [e, if_false] at hi hg
              exact HS6.out.cy.dap l (by omega) i hi g hg))
          have hrb := row_grown HS6.out.box HS6.out.cy.maps.own coT.2.2 hgw
          have z1 : w9.cell? ⟨bo, 2, none⟩ = some (.slice am k cm) := hrb.cell (i := 2) (by omega)
          have z2 : w9.frozen? ⟨bo, 2, none⟩ = false := hrb.frozen 2
          have S3 : Hid (Below w1.heap.size w1 w9 ∧ w9.cell? ⟨bo, 2, none⟩ = some (.slice am k cm)) := Lib.hid ⟨HS6.out.below.grown hgw HS6.out.below.size (fun g hg => (HS6.out.cy.maps.own.lt g hg).1), z1⟩
          clear hn hgw hrb hpush hTT
          refine ⟨S3, ?_⟩
          refine held_take (i := 10) (v := .pointer (some ⟨bo, 2, none⟩)) (some 29) rfl rfl (by kernel_rfl) (by kernel_rfl) (by kernel_rfl) (fun _ _ _ h => h) (yieldsIf_run (by kernel_rfl) (fun W _ => by kernel_rfl)) S3 ?_
          refine held_none (i := 11) (v := .bool false) rfl rfl (by kernel_rfl) (by kernel_rfl) (by kernel_rfl) (fun _ _ _ h => h) (yieldsIf_move (by kernel_rfl) rfl (by kernel_rfl)) S3 ?_
          refine wpAnyH_done (by kernel_rfl) (lastQ_of rfl (by kernel_rfl) ?_) _
          simp only [Act.put, List.setIfInBounds_toArray, List.set_cons_zero, List.set_cons_succ]
          clear S0 S1 S2 hve hwe hbe
          go_simp
          go_wp2
          go_roundw
          case rel => exact ⟨k + 1, _, _, by omega, by go_num, Lib.hid ⟨_, _, HS9.out⟩⟩
          case measure => simp [intOf]; omega
      · have hkl : ¬ (k : Int) < (ms.length : Int) := by omega
        obtain rfl : k = ms.length := by omega
        have g0 : wx.cell? ⟨bo, 0, none⟩ = some (.int .i64 p) := HS.out.box.cell (i := 0) (by omega)
        have g1 : wx.cell? ⟨bo, 1, none⟩ = some (.slice aq nd cq) := HS.out.box.cell (i := 1) (by omega)
        have g2 : wx.cell? ⟨bo, 2, none⟩ = some (.slice am ms.length cm) := HS.out.box.cell (i := 2) (by omega)
        have hr : wx.heap[w.heap.size + 1]? = some (.cells #[.int .i64 0, .slice none 0 0, .slice none 0 0] 30) := (HN1.out _ HS.out.below).2
        have hrow := rowIs3 hr
        have q0 := hrow.cell (i := 0) (by omega)
        have z0 := hrow.frozen 0
        have r1 := hrow.set 0 (.int .i64 p)
        have q1 := r1.cell (i := 1) (by omega)
        have z1 := r1.frozen 1
        have r2 := r1.set 1 (.slice aq nd cq)
        have q2 := r2.cell (i := 2) (by omega)
        have z2 := r2.frozen 2
        have r3 := r2.set 2 (.slice am ms.length cm)
        obtain ⟨WF, hWF⟩ : ∃ W : World, W = (((wx.setCell ⟨w.heap.size + 1, 0, none⟩ (.int .i64 p)).setCell ⟨w.heap.size + 1, 1, none⟩ (.slice aq nd cq)).setCell ⟨w.heap.size + 1, 2, none⟩ (.slice am ms.length cm)) := ⟨_, rfl⟩
        have HCF : Hid (Cyq w.heap.size WF (.slice aq nd cq) (.slice am ms.length cm) ds ms.length U V (fun l => ms.getD l [])) := Lib.hid (by rw [hWF]; exact (((HS.out.cy.offC hrow _ _).offC r1 _ _).offC r2 _ _).lower (by have := HS1.out; omega))
        have HBF : Hid (Below w.heap.size w WF) := Lib.hid (by rw [hWF]; exact ((((HN1.out _ HS.out.below).1.below.setCell (by show w.heap.size ≤ w.heap.size + 1; omega) _).setCell (by show w.heap.size ≤ w.heap.size + 1; omega) _).setCell (by show w.heap.size ≤ w.heap.size + 1; omega) _))
        rw [← hWF] at r3
        have f0 : WF.cell? ⟨w.heap.size + 1, 0, none⟩ = some (.int .i64 p) := r3.cell (i := 0) (by omega)
        have f1 : WF.cell? ⟨w.heap.size + 1, 1, none⟩ = some (.slice aq nd cq) := r3.cell (i := 1) (by omega)
        have f2 : WF.cell? ⟨w.heap.size + 1, 2, none⟩ = some (.slice am ms.length cm) := r3.cell (i := 2) (by omega)
        have HWF := Lib.hid hWF
        clear hr hrow r1 r2 r3 hWF
        go_wp2
        rw [← HWF.out]
        refine bodyPost_ret (v := .agg #[.int .i64 p, .slice aq nd cq, .slice am ms.length cm]) ?_ rfl ?_
        · simp only [results, HRES.out]
          go_simp
        · exact ⟨aq, cq, am, cm, U, V, by rw [HND.out], by rw [← HND.out]; exact HCF.out, HBF.out⟩
end Go.Proofs.Ytchijefibiaphaa


namespace Go.Proofs.Ytchijefibiaphaa
open Go.RowKit

set_option maxHeartbeats 1600000 in
theorem identityTable_any (n : Nat) (w : World) (hn : n ≤ 1048576) : Calls Try.prog 137 #[.int .i64 n] w (MatR n n (fun j i => if i = j then 1 else 0) w) := by
  go_enter Try.func137, Try.ntmps137
  go_wp2_with fail
  refine (zeroTable_any n n _ hn hn).mono ?_
  rintro e w1 ⟨rfl, hm⟩
  have HM : Hid (Mat w w1 n n (fun j i => if j < 0 ∧ i = j then 1 else 0)) := Lib.hid (hm.congr (fun j _ i _ => by simp))
  clear hm
  go_wp2
  go_loopw [10] (fun i wr => ∃ (k : Nat), k ≤ n ∧ i = .int .i64 k ∧ Hid (Mat w wr n n (fun j i => if j < k ∧ i = j then 1 else 0))) (fun i _ => n - (intOf i).toNat)
  case atStart => exact ⟨0, Nat.zero_le _, rfl, HM⟩
  case round =>
    clear HM
    obtain ⟨k, hk, rfl, HM⟩ := hrel
    by_cases hlt : k < n
    · have htop := HM.out.top.cell hlt
      have hcel := (HM.out.rows k hlt).cell hlt
      have hfz := (HM.out.rows k hlt).frozen k
      have HS : Hid (Mat w (wr.setCell ⟨w.heap.size + 1 + k, k, none⟩ (.int .i64 1)) n n (fun j i => if j < k + 1 ∧ i = j then 1 else 0)) := Lib.hid ((HM.out.set hlt 1).congr (fun j _ i _ => by
        by_cases e : j = k ∧ i = k
        · rw [if_pos e, if_pos (by omega)]
        · rw [if_neg e]
          by_cases e2 : j < k ∧ i = j
          · rw [if_pos e2, if_pos (by omega)]
          · rw [if_neg e2, if_neg (by omega)]))
      clear HM
      go_wp2
      go_roundw
      case rel => exact ⟨k + 1, by omega, by go_num, HS⟩
      case measure => simp [intOf]; omega
    · have HS : Hid (Mat w wr n n (fun j i => if i = j then 1 else 0)) := Lib.hid (HM.out.congr (fun j hj i _ => by
        by_cases e : i = j
        · rw [if_pos ⟨by omega, e⟩, if_pos e]
        · rw [if_neg (fun h => e h.2), if_neg e]))
      clear HM
      go_wp2
      go_ret
      exact ⟨rfl, HS.out⟩

end Go.Proofs.Ytchijefibiaphaa


namespace Go.Proofs.Ytchijefibiaphaa
open Go.RowKit

theorem Ap.doneW {w wr : World} {ty : TypeId} {p : Int} {c : Nat} {v : List Int} {t : List (List Int)} (ok : ApOk p c v t) (h : Ap w wr ty p c v t v.length 0) : W1 w.heap.size wr.heap.size wr (.slice (some ⟨w.heap.size, 0, none⟩) c c) (apT p c v t) := by
  have hl := apTo_length ok (Nat.le_refl _)
  by_cases h0 : c = 0
  · subst h0
    exact Or.inl ⟨List.eq_nil_of_length_eq_zero hl, _, _, rfl⟩
  · refine Or.inr ⟨w.heap.size, 0, c, by rw [apT, hl], Nat.le_refl _, h.row.lt, by rw [apT, hl]; omega, fun j hj => ⟨_, h.row.cell (by rw [apT, hl] at hj; omega), ?_⟩, fun j _ => h.row.frozen _⟩
    have hj' : j < (apTo p c v t v.length).length := hj
    simp only [apCell, IsI, Nat.not_lt_zero, if_false, apT, Nat.zero_add]
    rw [getD_of_lt _ hj']

def ApW (p : Int) (c : Nat) (v : List Int) (t : List (List Int)) (w : World) (e : Ending) (w' : World) : Prop := ∃ u, e = .returned u ∧ W1 w.heap.size w'.heap.size w' u (apT p c v t) ∧ Below w.heap.size w w'

set_option maxHeartbeats 1600000 in
theorem applyTablew_any (p : Int) (c : Nat) (va vt : Value) (v : List Int) (t : List (List Int)) (w : World) (ok : ApOk p c v t) (ha : L1 0 w va v) (ht : L2 0 w vt t) (hv : v.length ≤ 1048576) (hc : c ≤ 1048576) :
    Calls Try.prog 102 #[.int .i64 p, va, vt, .int .i64 c] w (ApW p c v t w) := by
  have hmk := run_make_row' (P := Try.prog) 22 2 (.int .i64 0) 8 Try.underlying22 Try.infoI rfl .i64 .i64 c (by omega) (by omega)
  have hp0 := ok.prime.lo
  have hp1 := ok.prime.hi
  have OK := Lib.hid ok
  clear ok
  refine Sl.cases ha (fun ad cap hx hv' => ?_) (fun b o cap hv' _ hpos hcl => ?_)
  · subst hx hv'
    clear ha ht
    go_enter Try.func102, Try.ntmps102
    go_wp2
    refine wp_loop_rounds 1 ?_
    rw [rounds_succ]
    go_wp2
    go_ret
    exact ⟨_, rfl, Ap.doneW OK.out (Ap.start _ _ _ _ _ _), (Below.refl _ _).alloc (Nat.le_refl _) _⟩
  · refine Sl.cases ht (fun ad2 cap2 hx2 hv2 => absurd OK.out.len (by subst hx2; simp only [List.length_nil]; omega)) (fun b2 o2 cap2 hv2 _ hpos2 hcl2 => ?_)
    subst hv' hv2
    clear ha ht
    have hlen := OK.out.len
    have HC := Lib.hid hcl
    have HC2 := Lib.hid hcl2
    clear hcl hcl2
    go_enter Try.func102, Try.ntmps102
    go_wp2
    clear hmk
    go_loopw [18] (fun i wr => ∃ (k : Nat), k ≤ v.length ∧ i = .int .i64 k ∧ Ap w wr 2 p c v t k 0) (fun i _ => v.length - (intOf i).toNat)
    case atStart => exact ⟨0, Nat.zero_le _, rfl, Ap.start _ _ _ _ _ _⟩
    case round =>
      obtain ⟨k, hk, rfl, HA⟩ := hrel
      by_cases hlt2 : k < v.length
      · have hlt3 : k < t.length := by omega
        obtain ⟨u, hu, hr⟩ := HC.out k hlt2
        obtain ⟨u2, hu2, hr2⟩ := HC2.out k hlt3
        have hnum := OK.out.num hlt2
        have hrow := OK.out.row hlt2
        rw [getD_of_lt _ hlt2] at hnum
        rw [getD_of_lt _ hlt3] at hrow
        obtain ⟨f, hf⟩ : ∃ f, f = v[k] := ⟨_, rfl⟩
        obtain ⟨ys, hy⟩ : ∃ ys, ys = t[k] := ⟨_, rfl⟩
        rw [← hf] at hnum
        rw [← hy] at hrow hr2
        obtain ⟨hf0, hf1⟩ := hnum
        have hu' : wr.cell? ⟨b, o + k, none⟩ = some (.int .i64 f) := by rw [HA.below.cell (p := ⟨b, o + k, none⟩) (cell_lt hu), hu, hr, hf]
        have hu2' : wr.cell? ⟨b2, o2 + k, none⟩ = some u2 := by rw [HA.below.cell (p := ⟨b2, o2 + k, none⟩) (cell_lt hu2), hu2]
        have HF := Lib.hid hf
        have HY := Lib.hid hy
        have HROW := Lib.hid hrow
        have HA' := Lib.hid HA
        clear hf hy hrow HA hu hr hu2
        refine Sl.cases hr2 (fun ad3 cap3 hx3 hv3 => ?_) (fun b3 o3 cap3 hv3 _ hpos3 hcl3 => ?_)
        · subst hv3
          have hc0 : Hid (c = 0) := Lib.hid (by have := HROW.out.1; rw [hx3] at this; simpa using this.symm)
          clear hx3 hr2
          go_wp2
          refine wp_loop_rounds 1 ?_
          rw [rounds_succ]
          go_wp2
          go_roundw
          case rel => exact ⟨k + 1, by omega, by go_num, Ap.next (by rw [hc0.out]; have := HA'.out; rwa [hc0.out] at this)⟩
          case measure => simp [intOf]; omega
        · subst hv3
          have hyc : ys.length = c := by have := HROW.out.1; omega
          have HYC := Lib.hid hyc
          have HC3 := Lib.hid hcl3
          clear hyc hr2 hcl3
          obtain ⟨wo, hwo⟩ : ∃ wo : World, wo = wr := ⟨_, rfl⟩
          have HWO := Lib.hid hwo
          clear hwo
          go_wp2
          go_loopw [28] (fun i wr => ∃ (q : Nat), q ≤ ys.length ∧ i = .int .i64 q ∧ Ap w wr 2 p c v t k q) (fun i _ => ys.length - (intOf i).toNat)
          case atStart => exact ⟨0, Nat.zero_le _, rfl, HA'.out⟩
          case round =>
            obtain ⟨q, hq, rfl, HB⟩ := hrel
            by_cases hlt4 : q < ys.length
            · have hqc : q < c := by have := HYC.out; omega
              obtain ⟨u3, hu3, hr3⟩ := HC3.out q hlt4
              have hx := HROW.out.2 _ (List.getElem_mem hlt4)
              obtain ⟨x, hxx⟩ : ∃ x, x = ys[q] := ⟨_, rfl⟩
              obtain ⟨a, haa⟩ : ∃ a, a = (apTo p c v t k).getD q 0 := ⟨_, rfl⟩
              have hab := apTo_mod OK.out (Nat.le_of_lt hlt2) q
              have hac := HB.cell hqc
              have hfz := HB.row.frozen q
              rw [← haa] at hab hac
              rw [← hxx] at hx
              obtain ⟨hx0, hx1⟩ := hx
              obtain ⟨ha0, ha1⟩ := hab
              have hu3' : wr.cell? ⟨b3, o3 + q, none⟩ = some (.int .i64 x) := by rw [HB.below.cell (p := ⟨b3, o3 + q, none⟩) (cell_lt hu3), hu3, hr3, hxx]
              have m0 : 0 ≤ f * x := Int.mul_nonneg hf0 hx0
              have m1 : f * x ≤ 36 := Int.le_trans (Int.mul_le_mul (show f ≤ 6 by omega) (show x ≤ 6 by omega) hx0 (by omega)) (by omega)
              have HS := Lib.hid (HB.step OK.out hlt2 hqc (x := (a + f * x) % p) (by rw [haa, HF.out, hxx, getD_of_lt _ hlt2, getD_of_lt _ hlt3, ← HY.out, getD_of_lt _ hlt4]))
              clear HB hu3 hr3 haa hxx
              go_wp2
              go_roundw
              case rel => exact ⟨q + 1, by omega, by go_num, HS.out⟩
              case measure => simp [intOf]; omega
            · have HB' := Lib.hid HB
              have hqc : Hid (q = c) := Lib.hid (by have := HYC.out; omega)
              clear HB
              go_wp2
              go_roundw
              case rel => exact ⟨k + 1, by omega, by go_num, Ap.next (by have := HB'.out; rwa [hqc.out] at this)⟩
              case measure => simp [intOf]; omega
      · have hkk : k = v.length := by omega
        subst hkk
        have HA' := Lib.hid HA
        clear HA
        go_wp2
        go_ret
        exact ⟨_, rfl, Ap.doneW OK.out HA'.out, HA'.out.below⟩

/-- The differential of a vector of the degree n. -/
def difOf (p : Int) (ds : List Int) (ms : List (List (List Int))) (n : Int) (vs : List Int) : List Int := if n = 0 then [] else apT p (ds.getD (n.toNat - 1) 0).toNat vs (ms.getD (n.toNat - 1) [])
def InDeg (ds : List Int) (n : Int) : Prop := 0 ≤ n ∧ n ≤ (ds.length : Int) - 1
/-- What DifferentialOf answers: a list and a code. -/
structure DifOut (p : Int) (ds : List Int) (ms : List (List (List Int))) (n : Int) (vs out : List Int) (c : Int) : Prop where
  bad : ¬ IsCx p ds ms → out = [] ∧ c = 1
  far : IsCx p ds ms → ¬ InDeg ds n → out = [] ∧ c = 2
  row : IsCx p ds ms → InDeg ds n → ¬ RowOk p (ds.getD n.toNat 0) vs → out = [] ∧ c = 2
  good : IsCx p ds ms → InDeg ds n → RowOk p (ds.getD n.toNat 0) vs → out = difOf p ds ms n vs ∧ c = 0
theorem DifOut.unique {p : Int} {ds : List Int} {ms : List (List (List Int))} {n : Int} {vs o1 o2 : List Int} {c1 c2 : Int} (h1 : DifOut p ds ms n vs o1 c1) (h2 : DifOut p ds ms n vs o2 c2) : o1 = o2 ∧ c1 = c2 := by
  by_cases a : IsCx p ds ms
  · by_cases b : InDeg ds n
    · by_cases c : RowOk p (ds.getD n.toNat 0) vs
      · have x := h1.good a b c
        have y := h2.good a b c
        exact ⟨x.1.trans y.1.symm, x.2.trans y.2.symm⟩
      · have x := h1.row a b c
        have y := h2.row a b c
        exact ⟨x.1.trans y.1.symm, x.2.trans y.2.symm⟩
    · have x := h1.far a b
      have y := h2.far a b
      exact ⟨x.1.trans y.1.symm, x.2.trans y.2.symm⟩
  · have x := h1.bad a
    have y := h2.bad a
    exact ⟨x.1.trans y.1.symm, x.2.trans y.2.symm⟩
theorem w1_rw1 {lo hi : Nat} {w : World} {v : Value} {xs : List Int} (h : W1 lo hi w v xs) (hl : xs.length ≤ 1048576) : Rw1 lo hi w v xs := by
  refine ⟨h, ?_⟩
  rcases h with ⟨hx, ad, cap, hv⟩ | ⟨b, o, cap, hv, hlo, hhi, hpos, hc, hf⟩
  · exact ⟨[], Or.inl ⟨rfl, ad, cap, hv⟩, fun _ hx => absurd hx (by simp), List.Pairwise.nil, by simp [ivSize]⟩
  · refine ⟨[(b, o, xs.length)], Or.inr ⟨b, o, xs.length, cap, rfl, hpos, hl, hlo, hhi, hv⟩, fun x hx => ?_, List.pairwise_singleton _ _, by simpa [ivSize] using hl⟩
    obtain rfl : x = (b, o, xs.length) := by simpa using hx
    refine ⟨hlo, hhi, fun i hi => ?_⟩
    obtain ⟨u, hu, hr⟩ := hc i hi
    exact ⟨⟨xs[i]'hi, by rw [hu, hr]⟩, hf i hi⟩
theorem apT_length' {p : Int} {c : Nat} {v : List Int} {t : List (List Int)} (ok : ApOk p c v t) : (apT p c v t).length = c := apTo_length ok (Nat.le_refl _)
end Go.Proofs.Ytchijefibiaphaa


namespace Go.Proofs.Ytchijefibiaphaa
open Go.RowKit

/-- Tables are a family of the shift s. -/
def FamOk (p : Int) (ds ds2 : List Int) (s : Int) (fs : List (List (List Int))) : Prop := fs.length = ds.length ∧ ∀ n, n < fs.length → TabOk p (ds.getD n 0) (dimZ ds2 ((n : Int) + s)) (fs.getD n [])

end Go.Proofs.Ytchijefibiaphaa


namespace Go.Proofs.Ytchijefibiaphaa
open Go.RowKit

section
variable {P : Program} {ops : Array Oper} {Q : Exit → Act → World → Prop} {md : Region.Mode} {S : World → Prop}
end
def LeadR (x : Int) (xs : List Int) (w : World) (e : Ending) (w' : World) : Prop := ∃ u, e = .returned (.agg #[.int .i64 x, u]) ∧ W1 w.heap.size w'.heap.size w' u xs ∧ Below w.heap.size w w'

end Go.Proofs.Ytchijefibiaphaa


namespace Go.Proofs.Ytchijefibiaphaa
open Go.RowKit

/-- Nothing that was there has changed, but the block b. -/
structure But (b : Nat) (w w' : World) : Prop where
  os : w'.os = w.os
  tape : w'.tape = w.tape
  output : w'.output = w.output
  size : w.heap.size ≤ w'.heap.size
  block : ∀ k, k < w.heap.size → k ≠ b → w'.heap[k]? = w.heap[k]?
theorem But.refl (b : Nat) (w : World) : But b w w := ⟨rfl, rfl, rfl, Nat.le_refl _, fun _ _ _ => rfl⟩
theorem But.trans {b : Nat} {x y z : World} (h : But b x y) (k : But b y z) : But b x z :=
  ⟨k.os.trans h.os, k.tape.trans h.tape, k.output.trans h.output, Nat.le_trans h.size k.size, fun i hi hb => (k.block i (Nat.lt_of_lt_of_le hi h.size) hb).trans (h.block i hi hb)⟩
theorem But.of_below {b : Nat} {w w' : World} (h : Below w.heap.size w w') : But b w w' := ⟨h.os, h.tape, h.output, h.size, fun k hk _ => h.block k hk⟩
theorem But.set {b : Nat} (w : World) (i : Nat) (v : Value) : But b w (w.setCell ⟨b, i, none⟩ v) :=
  ⟨rfl, rfl, rfl, by simp, fun k _ hb => Below.heap_setCell w ⟨b, i, none⟩ v k hb⟩
theorem But.drew {b : Nat} {w w' : World} (h : But b w w') : But b w w'.drew := ⟨h.os, (Below.refl 0 w').drew.tape.trans h.tape, h.output, h.size, h.block⟩
theorem But.below {b B : Nat} {w w' : World} (h : But b w w') (hB : B ≤ w.heap.size) (hb : B ≤ b) : Below B w w' := ⟨h.os, h.tape, h.output, h.size, fun k hk => h.block k (by omega) (by omega)⟩

theorem But.cell {b : Nat} {w w' : World} (h : But b w w') {k o : Nat} (hk : k < w.heap.size) (hb : k ≠ b) : w'.cell? ⟨k, o, none⟩ = w.cell? ⟨k, o, none⟩ := World.cell?_of_block (w := w) (h.block k hk hb)

/-- The map with the graded g leads the element (x, us) to (y, vs), in all worlds that hold what w holds. -/
def Led (w : World) (g : Value) (x : Int) (us : List Int) (y : Int) (vs : List Int) : Prop :=
  ∀ W vv, Below w.heap.size w W → L1 0 W vv us → Calls Try.prog 105 #[g, .agg #[.int .i64 x, vv]] W (LeadR y vs W)
inductive Chain (w : World) : List Value → Int → List Int → Int → List Int → Prop
  | nil (x : Int) (us : List Int) : Chain w [] x us x us
  | cons {g : Value} {gs : List Value} {x y z : Int} {us vs ts : List Int} : Led w g x us y vs → Chain w gs y vs z ts → Chain w (g :: gs) x us z ts

/-- A path's list of maps, read in w. -/
def MapsAt (w : World) (v : Value) (gs : List Value) : Prop := ∃ b o c, v = .slice (some ⟨b, o, none⟩) gs.length c ∧ ∀ k (h : k < gs.length), w.cell? ⟨b, o + k, none⟩ = some (.func (.func 105) #[gs[k]] #[])

/-- A number of a row with a factor's share of another one. -/
def addMod (p f a x : Int) : Int := (a + f * x) % p

theorem chain_cons {w : World} {gs : List Value} {x z : Int} {us ts : List Int} {k : Nat} (h : Chain w (gs.drop k) x us z ts) (hk : k < gs.length) : ∃ y vs, Led w gs[k] x us y vs ∧ Chain w (gs.drop (k + 1)) y vs z ts := by
  rw [List.drop_eq_getElem_cons hk] at h
  cases h with
  | cons h1 h2 => exact ⟨_, _, h1, h2⟩
theorem chain_end {w : World} {gs : List Value} {x z : Int} {us ts : List Int} {k : Nat} (h : Chain w (gs.drop k) x us z ts) (hk : ¬ k < gs.length) : us = ts := by
  rw [List.drop_eq_nil_of_le (Nat.le_of_not_lt hk)] at h
  cases h with
  | nil => rfl
/-- The path's box at block S, the element's box behind it. -/
structure ElB (W : World) (S : Nat) (f : Int) (mv : Value) (x : Int) (uv : Value) (us : List Int) : Prop where
  a0 : W.cell? ⟨S, 0, none⟩ = some (.int .i64 f)
  a1 : W.cell? ⟨S, 1, none⟩ = some mv
  c0 : W.cell? ⟨S + 1, 0, none⟩ = some (.int .i64 x)
  c1 : W.cell? ⟨S + 1, 1, none⟩ = some uv
  th : W.there (S + 1) 0 2
  l : L1 0 W uv us
theorem ElB.lt {W : World} {S : Nat} {f : Int} {mv : Value} {x : Int} {uv : Value} {us : List Int} (h : ElB W S f mv x uv us) : S + 1 < W.heap.size := cell_lt h.c0
theorem ElB.step {W W' : World} {S : Nat} {f : Int} {mv : Value} {x : Int} {uv : Value} {us : List Int} (h : ElB W S f mv x uv us) (hb : Below W.heap.size W W') {x2 : Int} {u2 : Value} {vs : List Int} (hu : W1 W.heap.size W'.heap.size W' u2 vs) :
    ElB ((W'.setCell ⟨S + 1, 0, none⟩ (.int .i64 x2)).setCell ⟨S + 1, 1, none⟩ u2) S f mv x2 u2 vs := by
  have hl := h.lt
  have d0 := later hb (Nat.le_refl _) h.c0
  have d1 := later hb (Nat.le_refl _) h.c1
  refine ⟨?_, ?_, ?_, ?_, there_set (there_set (there_below h.th hb hl) _ _) _ _, ?_⟩
  · rw [World.cell?_setCell_other _ _ _ _ (by simp), World.cell?_setCell_other _ _ _ _ (by simp)]
    exact later hb (Nat.le_refl _) h.a0
  · rw [World.cell?_setCell_other _ _ _ _ (by simp), World.cell?_setCell_other _ _ _ _ (by simp)]
    exact later hb (Nat.le_refl _) h.a1
  · rw [World.cell?_setCell_other _ _ _ _ (by simp)]
    exact World.cell?_setCell_same _ _ _ d0
  · exact World.cell?_setCell_same _ _ _ (by rw [World.cell?_setCell_other _ _ _ _ (by simp)]; exact d1)
  · exact (stable1 W.heap.size _ _ _ _ ((Keep.set _ hl).trans (Keep.set _ hl)) hu.l1).lower (Nat.zero_le _)
theorem ElB.step1 {W W' : World} {S : Nat} {f : Int} {mv : Value} {x : Int} {uv : Value} {us : List Int} (h : ElB W S f mv x uv us) {x2 : Int} {u2 : Value} {vs : List Int} (hu : W1 W.heap.size W'.heap.size W' u2 vs) :
    L1 S ((W'.setCell ⟨S + 1, 0, none⟩ (.int .i64 x2)).setCell ⟨S + 1, 1, none⟩ u2) u2 vs := by
  have hl := h.lt
  exact (stable1 W.heap.size _ _ _ _ ((Keep.set _ hl).trans (Keep.set _ hl)) hu.l1).lower (by omega)

def AddR (b c : Nat) (Z : Nat → Int) (w : World) (e : Ending) (w' : World) : Prop := e = .returned (.tuple #[]) ∧ But b w w' ∧ w'.rowIs b 2 c (fun i => .int .i64 (Z i))

set_option maxHeartbeats 3200000 in
set_option maxRecDepth 100000 in
theorem addTo_any (p f x z : Int) (b c : Nat) (Z : Nat → Int) (us ts : List Int) (gs : List Value) (mv uv : Value) (w0 w : World) (hB : Below w0.heap.size w0 w) (hr : w.rowIs b 2 c (fun i => .int .i64 (Z i)))
    (hmv : MapsAt w0 mv gs) (hgl : 0 < gs.length ∧ gs.length ≤ 1048576) (hu : L1 0 w uv us) (hch : Chain w0 gs x us z ts) (hp : 0 < p ∧ p ≤ 7) (hf : 0 ≤ f ∧ f ≤ 6) (hZ : ∀ i, i < c → 0 ≤ Z i ∧ Z i ≤ 6) (ht : ts.length = c) (htn : ∀ y ∈ ts, 0 ≤ y ∧ y ≤ 6) (hc : c ≤ 1048576) :
    Calls Try.prog 138 #[.agg #[.int .i64 f, mv], .int .i64 p, .slice (some ⟨b, 0, none⟩) c c, .agg #[.int .i64 x, uv]] w (AddR b c (fun i => addMod p f (Z i) (ts.getD i 0)) w) := by
  obtain ⟨bm, om, cm, rfl, hcl⟩ := hmv
  obtain ⟨au, cu, rfl⟩ := Sl.shape hu
  have hbl : b < w.heap.size := hr.lt
  obtain ⟨hgl0, hgl1⟩ := hgl
  obtain ⟨w1, hw1⟩ : ∃ w1, w1 = ((w.alloc (.cells #[.int .i64 f, .slice (some ⟨bm, om, none⟩) gs.length cm] 123)).alloc (.cells #[.int .i64 x, .slice au us.length cu] 151)) := ⟨_, rfl⟩
  have hb01 : Below w.heap.size w w1 := by rw [hw1]; exact ((Below.refl _ _).alloc (Nat.le_refl _) _).alloc (by simp) _
  have hs1 : w1.heap.size = w.heap.size + 2 := by rw [hw1]; simp
  have a0 : w1.cell? ⟨w.heap.size, 0, none⟩ = some (.int .i64 f) := by rw [hw1]; simp
  have a1 : w1.cell? ⟨w.heap.size, 1, none⟩ = some (.slice (some ⟨bm, om, none⟩) gs.length cm) := by rw [hw1]; simp
  have e0 : w1.cell? ⟨w.heap.size + 1, 0, none⟩ = some (.int .i64 x) := by rw [hw1]; simp
  have e1 : w1.cell? ⟨w.heap.size + 1, 1, none⟩ = some (.slice au us.length cu) := by rw [hw1]; simp
  have HB0 := Lib.hid hB
  have HR0 := Lib.hid hr
  have HB1 : Hid (Below w0.heap.size w0 w1) := Lib.hid (hB.trans (hb01.mono hB.size))
  have HR1 : Hid (w1.rowIs b 2 c (fun i => .int .i64 (Z i))) := Lib.hid (hr.of_block (hb01.block _ hbl))
  have HU1 := Lib.hid (hu.below hb01)
  have HTH1 : Hid (w1.there (w.heap.size + 1) 0 2) := Lib.hid (by rw [hw1]; have := there_new (w.alloc (.cells #[.int .i64 f, .slice (some ⟨bm, om, none⟩) gs.length cm] 123)) #[.int .i64 x, .slice au us.length cu] 151 (n := 2) (by simp); simpa using this)
  have HB01 := Lib.hid hb01
  have HBT : Hid (But b w w1) := Lib.hid (But.of_below hb01)
  have hi1 : w0.heap.size ≤ w.heap.size := hB.size
  obtain ⟨hp0, hp1⟩ := hp
  obtain ⟨hf0, hf1⟩ := hf
  have HCL := Lib.hid hcl
  have HCH := Lib.hid hch
  have HTN := Lib.hid htn
  have HZ := Lib.hid hZ
  have HRES : Hid (Try.f138.results = #[]) := Lib.hid (by kernel_rfl)
  have HIE : Hid ((Try.prog.info? 151).map (·.size) = some 2) := Lib.hid (by kernel_rfl)
  clear hr hu hB hcl hch htn hZ
  go_enter Try.func138, Try.ntmps138
  go_upto_region 1 with fail
  rw [← hw1]
  clear hw1 hb01
  go_wp2
  have th1 : w1.there (w.heap.size + 1) 0 2 := HTH1.out
  obtain ⟨S, hS⟩ : ∃ S, S = w.heap.size := ⟨_, rfl⟩
  have HBW : Hid (Below S w w1) := Lib.hid (by rw [hS]; exact HB01.out)
  rw [← hS] at a0 a1 e0 e1 th1 hbl hs1 hi1
  have HSE := Lib.hid hS
  rw [← hS]
  clear hS HTH1
  have HST : Hid (ElB w1 S f (.slice (some ⟨bm, om, none⟩) gs.length cm) x (.slice au us.length cu) us) := Lib.hid ⟨a0, a1, e0, e1, th1, HU1.out⟩
  clear a0 a1 e0 e1 th1
  go_loopw [15] (fun i wr => ∃ (k : Nat) (y : Int) (vs : List Int) (uw : Value), k ≤ gs.length ∧ i = .int .i64 k ∧ Hid (Below S w wr) ∧ Hid (w1.heap.size ≤ wr.heap.size) ∧ Hid (ElB wr S f (.slice (some ⟨bm, om, none⟩) gs.length cm) y uw vs) ∧ Hid (Chain w0 (gs.drop k) y vs z ts) ∧ Hid (0 < k → L1 S wr uw vs)) (fun i _ => gs.length - (intOf i).toNat)
  case atStart => exact ⟨0, x, us, _, Nat.zero_le _, rfl, HBW, Lib.hid (Nat.le_refl _), HST, Lib.hid (by rw [List.drop_zero]; exact HCH.out), Lib.hid (fun h => absurd h (Nat.lt_irrefl _))⟩
  case round =>
    obtain ⟨k, y, vs, uw, hk, rfl, HB, HSZ, HE, HC, HLL⟩ := hrel
    obtain ⟨wx, hwx⟩ : ∃ wx : World, wx = wr := ⟨_, rfl⟩
    subst hwx
    have e0 := HE.out.c0
    have e1 := HE.out.c1
    have hsz := HSZ.out
    by_cases hlt : k < gs.length
    · obtain ⟨y2, vs2, hled, hch2⟩ := chain_cons HC.out hlt
      have HCH2 := Lib.hid hch2
      have hcell : wx.cell? ⟨bm, om + k, none⟩ = some (.func (.func 105) #[gs[k]] #[]) := by
        have h0 := HCL.out k hlt
        exact later (HB0.out.trans (HB.out.mono hi1)) (Nat.le_refl _) h0
      have HLD := Lib.hid (hled wx uw (HB0.out.trans (HB.out.mono hi1)) HE.out.l)
      obtain ⟨g, hg⟩ : ∃ g, g = gs[k] := ⟨_, rfl⟩
      rw [← hg] at hcell HLD
      have hkl : (k : Int) < (gs.length : Int) := by omega
      clear hg hled hch2
      go_wp2_with fail
      refine HLD.out.mono ?_
      rintro e w4 ⟨u4, rfl, hw4, hb4⟩
      obtain ⟨au4, cu4, hus4⟩ := Sl.shape hw4.l1
      subst hus4
      have HL4 : Hid (0 < k + 1 → L1 S ((w4.setCell ⟨S + 1, 0, none⟩ (.int .i64 y2)).setCell ⟨S + 1, 1, none⟩ (.slice au4 vs2.length cu4)) (.slice au4 vs2.length cu4) vs2) := Lib.hid (fun _ => HE.out.step1 hw4)
      have HE4 := Lib.hid (HE.out.step hb4 (x2 := y2) hw4)
      have hth : w4.there (S + 1) 0 2 := there_below HE.out.th hb4 HE.out.lt
      have d0 := later hb4 (Nat.le_refl _) e0
      have d1 := later hb4 (Nat.le_refl _) e1
      have x0 := hth 0 (by omega)
      have x1 := hth 1 (by omega)
      have HB4 : Hid (Below S w ((w4.setCell ⟨S + 1, 0, none⟩ (.int .i64 y2)).setCell ⟨S + 1, 1, none⟩ (.slice au4 vs2.length cu4))) := Lib.hid (((HB.out.trans (hb4.mono (Nat.le_trans (by rw [HSE.out]; exact HB.out.size) (Nat.le_refl _)))).setCell (by show S ≤ S + 1; omega) _).setCell (by show S ≤ S + 1; omega) _)
      have HS4 : Hid (w1.heap.size ≤ ((w4.setCell ⟨S + 1, 0, none⟩ (.int .i64 y2)).setCell ⟨S + 1, 1, none⟩ (.slice au4 vs2.length cu4)).heap.size) := Lib.hid (by simpa using Nat.le_trans HSZ.out hb4.size)
      clear e0 e1 hcell hw4 hb4 HLD
      go_wp2
      go_roundw
      case rel => exact ⟨k + 1, y2, vs2, _, by omega, by go_num, HB4, HS4, HE4, HCH2, HL4⟩
      case measure => simp [intOf]; omega
    · have hke : k = gs.length := by omega
      have hts := chain_end HC.out hlt
      subst hts
      have hl := HLL.out (by omega)
      obtain ⟨auw, cuw, hus⟩ := Sl.shape hl
      rw [ht] at hus
      subst hus
      have HL := Lib.hid hl
      have a0 := HE.out.a0
      have HROW : Hid (wx.rowIs b 2 c (fun i => .int .i64 (if i < 0 then addMod p f (Z i) (vs.getD i 0) else Z i))) := Lib.hid ((HR0.out.of_block (HB.out.block _ hbl)).congr (fun i _ => by simp))
      obtain ⟨wo, hwo⟩ : ∃ wo : World, wo = wx := ⟨_, rfl⟩
      rw [← hwo] at HROW HL a0 HB HSZ HE hsz e0 e1
      have HWO := Lib.hid hwo.symm
      have hbS : b ≠ S := by omega
      have hSo : S + 1 < wo.heap.size := HE.out.lt
      have A0 : Hid (∀ W, But b wo W → W.cell? ⟨S, 0, none⟩ = some (.int .i64 f)) := Lib.hid (fun W h => by rw [h.cell (by omega) (by omega)]; exact HE.out.a0)
      subst hwo
      clear hl hlt
      go_wp2
      go_loopw [26] (fun i wr => ∃ (q : Nat), q ≤ c ∧ i = .int .i64 q ∧ Hid (But b wo wr) ∧ Hid (wr.rowIs b 2 c (fun i => .int .i64 (if i < q then addMod p f (Z i) (vs.getD i 0) else Z i)))) (fun i _ => c - (intOf i).toNat)
      case atStart => exact ⟨0, Nat.zero_le _, rfl, Lib.hid (But.refl _ _), HROW⟩
      case round =>
        obtain ⟨q, hq, rfl, HBO, HRW⟩ := hrel
        obtain ⟨wy, hwy⟩ : ∃ wy : World, wy = wr := ⟨_, rfl⟩
        subst hwy
        by_cases hlt : q < c
        · have hltv : q < vs.length := by omega
          refine Sl.cases HL.out (fun _ _ hx _ => absurd hltv (by simp [hx])) (fun bu ou capu hvu hbu _ hcl => ?_)
          injection hvu with k1 k2 k3
          clear k2
          subst k1 k3
          obtain ⟨u, hu, hru⟩ := hcl q hltv
          have hbu2 := cell_lt hu
          obtain ⟨n, hn⟩ : ∃ n, n = vs[q] := ⟨_, rfl⟩
          have hnb := HTN.out _ (List.getElem_mem hltv)
          rw [← hn] at hnb
          obtain ⟨hn0, hn1⟩ := hnb
          have hun : wy.cell? ⟨bu, ou + q, none⟩ = some (.int .i64 n) := by rw [HBO.out.cell hbu2 (by omega), hu, hru, hn]
          have hfa := A0.out _ HBO.out
          obtain ⟨a, ha⟩ : ∃ a, a = Z q := ⟨_, rfl⟩
          have hab := HZ.out q hlt
          rw [← ha] at hab
          obtain ⟨ha0, ha1⟩ := hab
          have HACC : Hid (∀ W : World, W.rowIs b 2 c (fun i => .int .i64 (if i < q then addMod p f (Z i) (vs.getD i 0) else Z i)) → W.cell? ⟨b, 0 + q, none⟩ = some (.int .i64 a)) := Lib.hid (fun W h => by have := h.cell hlt; rw [if_neg (Nat.lt_irrefl _), ← ha] at this; rwa [Nat.zero_add])
          have m0 : 0 ≤ f * n := Int.mul_nonneg hf0 hn0
          have m1 : f * n ≤ 36 := Int.le_trans (Int.mul_le_mul hf1 hn1 hn0 (by omega)) (by omega)
          have HST2 : Hid (∀ W : World, W.rowIs b 2 c (fun i => .int .i64 (if i < q then addMod p f (Z i) (vs.getD i 0) else Z i)) → (W.setCell ⟨b, 0 + q, none⟩ (.int .i64 ((a + f * n) % p))).rowIs b 2 c (fun i => .int .i64 (if i < q + 1 then addMod p f (Z i) (vs.getD i 0) else Z i))) := Lib.hid (fun W h => by
            rw [Nat.zero_add]
            refine (h.set q _).congr (fun i _ => ?_)
            by_cases e : i = q
            · subst e
              rw [if_pos rfl, if_pos (Nat.lt_succ_self _), addMod, ← ha, getD_of_lt _ hltv, ← hn]
            · rw [if_neg e]
              by_cases e2 : i < q
              · rw [if_pos e2, if_pos (by omega)]
              · rw [if_neg e2, if_neg (by omega)])
          clear hu hru hcl ha hn
          go_upto_region 9 with fail
          have S0 : Hid (But b wo wy.drew ∧ wy.drew.rowIs b 2 c (fun i => .int .i64 (if i < q then addMod p f (Z i) (vs.getD i 0) else Z i))) := Lib.hid ⟨HBO.out.drew, HRW.out.drew⟩
          refine wp_region_last (fun W => Hid (But b wo W ∧ W.rowIs b 2 c (fun i => .int .i64 (if i < q then addMod p f (Z i) (vs.getD i 0) else Z i)))) 14 (by kernel_rfl) rfl (by kernel_rfl) ?_
          refine held_take (i := 0) (v := .slice (some ⟨b, 0, none⟩) c c) (some 31) rfl rfl (by kernel_rfl) (by kernel_rfl) (by kernel_rfl) (fun _ _ _ h => h) (yieldsIf_move (by kernel_rfl) rfl (by kernel_rfl)) S0 ?_
          refine held_take (i := 1) (v := .int .i64 (q : Int)) (some 32) rfl rfl (by kernel_rfl) (by kernel_rfl) (by kernel_rfl) (fun _ _ _ h => h) (yieldsIf_move (by kernel_rfl) rfl (by kernel_rfl)) S0 ?_
          refine held_take (i := 2) (v := .slice (some ⟨b, 0, none⟩) c c) (some 33) rfl rfl (by kernel_rfl) (by kernel_rfl) (by kernel_rfl) (fun _ _ _ h => h) (yieldsIf_move (by kernel_rfl) rfl (by kernel_rfl)) S0 ?_
          refine held_take (i := 3) (v := .int .i64 (q : Int)) (some 34) rfl rfl (by kernel_rfl) (by kernel_rfl) (by kernel_rfl) (fun _ _ _ h => h) (yieldsIf_move (by kernel_rfl) rfl (by kernel_rfl)) S0 ?_
          refine held_take (i := 4) (v := .pointer (some ⟨b, 0 + q, none⟩)) (some 35) rfl rfl (by kernel_rfl) (by kernel_rfl) (by kernel_rfl) (fun _ _ _ h => h) (yieldsIf_index (by kernel_rfl) rfl (by kernel_rfl) (by kernel_rfl) (hidxI b 0 c hlt)) S0 ?_
          refine held_take (i := 5) (v := .int .i64 a) (some 36) rfl rfl (by kernel_rfl) (by kernel_rfl) (by kernel_rfl) (fun _ _ _ h => h) (yieldsIf_cell (by kernel_rfl) rfl (by kernel_rfl) (fun W h => hload W (HACC.out W h.out.2))) S0 ?_
          refine held_take (i := 6) (v := .pointer (some ⟨S, 0, none⟩)) (some 37) rfl rfl (by kernel_rfl) (by kernel_rfl) (by kernel_rfl) (fun _ _ _ h => h) (yieldsIf_run (by kernel_rfl) (fun W _ => by kernel_rfl)) S0 ?_
          refine held_take (i := 7) (v := .int .i64 f) (some 38) rfl rfl (by kernel_rfl) (by kernel_rfl) (by kernel_rfl) (fun _ _ _ h => h) (yieldsIf_cell (by kernel_rfl) rfl (by kernel_rfl) (fun W h => hload W (A0.out _ h.out.1))) S0 ?_
          refine held_take (i := 8) (v := .int .i64 n) (some 39) rfl rfl (by kernel_rfl) (by kernel_rfl) (by kernel_rfl) (fun _ _ _ h => h) (yieldsIf_move (by kernel_rfl) rfl (by kernel_rfl)) S0 ?_
          refine held_take (i := 9) (v := .int .i64 (f * n)) (some 40) rfl rfl (by kernel_rfl) (by kernel_rfl) (by kernel_rfl) (fun _ _ _ h => h) (yieldsIf_bin (by kernel_rfl) rfl (by kernel_rfl) (by kernel_rfl) (fun _ => rfl) (hmulA (IntWalk.i64_in _ (by omega)))) S0 ?_
          refine held_take (i := 10) (v := .int .i64 (a + f * n)) (some 41) rfl rfl (by kernel_rfl) (by kernel_rfl) (by kernel_rfl) (fun _ _ _ h => h) (yieldsIf_bin (by kernel_rfl) rfl (by kernel_rfl) (by kernel_rfl) (fun _ => rfl) (haddA (IntWalk.i64_in _ (by omega)))) S0 ?_
          refine held_take (i := 11) (v := .int .i64 p) (some 42) rfl rfl (by kernel_rfl) (by kernel_rfl) (by kernel_rfl) (fun _ _ _ h => h) (yieldsIf_move (by kernel_rfl) rfl (by kernel_rfl)) S0 ?_
          refine held_take (i := 12) (v := .int .i64 ((a + f * n) % p)) (some 43) rfl rfl (by kernel_rfl) (by kernel_rfl) (by kernel_rfl) (fun _ _ _ h => h) (yieldsIf_bin (by kernel_rfl) rfl (by kernel_rfl) (by kernel_rfl) (fun _ => rfl) (hremI (by omega) (by omega) (by omega))) S0 ?_
          refine held_take (i := 13) (v := .pointer (some ⟨b, 0 + q, none⟩)) (some 44) rfl rfl (by kernel_rfl) (by kernel_rfl) (by kernel_rfl) (fun _ _ _ h => h) (yieldsIf_index (by kernel_rfl) rfl (by kernel_rfl) (by kernel_rfl) (hidxI b 0 c hlt)) S0 ?_
          refine held_none (i := 14) (v := .bool false) rfl rfl (by kernel_rfl) (by kernel_rfl) (by kernel_rfl) (fun _ _ _ h => h) (yieldsIf_move (by kernel_rfl) rfl (by kernel_rfl)) S0 ?_
          have hac2 : wy.drew.cell? ⟨b, 0 + q, none⟩ = some (.int .i64 a) := HACC.out _ S0.out.2
          have hfz2 : wy.drew.frozen? ⟨b, 0 + q, none⟩ = false := S0.out.2.frozen _
          have hBN := S0.out.1.trans (But.set wy.drew (0 + q) (.int .i64 ((a + f * n) % p)) (b := b))
          have HRN := Lib.hid (HST2.out _ S0.out.2)
          refine wpAnyH_done (by kernel_rfl) (lastQ_storeI rfl (by kernel_rfl) (by kernel_rfl) (.tmp 44) (.tmp 43) (by kernel_rfl) b (0 + q) ((a + f * n) % p) _ (by kernel_rfl) (by kernel_rfl) hac2 hfz2 ?_) _
          simp only [Act.put, List.setIfInBounds_toArray, List.set_cons_zero, List.set_cons_succ]
          obtain ⟨WN, hWN⟩ : ∃ WN, WN = wy.drew.setCell ⟨b, 0 + q, none⟩ (.int .i64 ((a + f * n) % p)) := ⟨_, rfl⟩
          rw [← hWN] at hBN HRN ⊢
          have HBN := Lib.hid hBN
          clear hBN S0 hWN hac2 hfz2
          go_wp2
          go_roundw
          case rel => exact ⟨q + 1, by omega, by go_num, HBN, HRN⟩
          case measure => simp [intOf]; omega
        · have hqc : q = c := by omega
          have HBF : Hid (But b w wy) := Lib.hid ((But.of_below (HB.out.mono (Nat.le_of_eq HSE.out.symm))).trans HBO.out)
          have HRF : Hid (wy.rowIs b 2 c (fun i => .int .i64 (addMod p f (Z i) (vs.getD i 0)))) := Lib.hid (HRW.out.congr (fun i hi => by rw [hqc, if_pos hi]))
          clear hqc
          go_wp2
          refine bodyPost_ret (v := .tuple #[]) ?_ rfl ⟨rfl, HBF.out, HRF.out⟩
          simp only [results, HRES.out]
          go_simp
end Go.Proofs.Ytchijefibiaphaa


namespace Go.Proofs.Ytchijefibiaphaa
open Go.RowKit

section
variable {ops : Array Oper} {Q : Exit → Act → World → Prop}
end
theorem Rz.grown {W W' : World} {g : Nat} {t : TypeId} {cs : Array Value} {row : Option Nat} (h : Rz W g t cs) (hg : W.grownBy W' row) (hne : some g ≠ row) : Rz W' g t cs := (hg.block g h.lt hne).trans h
theorem rz_frozen {w : World} {g : Nat} {t : TypeId} {cs : Array Value} (h : Rz w g t cs) (k : Nat) : w.frozen? ⟨g, k, none⟩ = false := by
  have h' : w.heap[g]? = some (.cells cs t (0, 0)) := h
  simp [World.frozen?, h']
end Go.Proofs.Ytchijefibiaphaa


namespace Go.Proofs.Ytchijefibiaphaa
open Go.RowKit

/-- Nothing has changed below a and from b on, of what was there. -/
structure Kp (a b : Nat) (w w' : World) : Prop where
  os : w'.os = w.os
  tape : w'.tape = w.tape
  output : w'.output = w.output
  size : w.heap.size ≤ w'.heap.size
  block : ∀ k, k < w.heap.size → k < a ∨ b ≤ k → w'.heap[k]? = w.heap[k]?
theorem Kp.refl (a b : Nat) (w : World) : Kp a b w w := ⟨rfl, rfl, rfl, Nat.le_refl _, fun _ _ _ => rfl⟩
theorem Kp.trans {a b : Nat} {x y z : World} (h : Kp a b x y) (k : Kp a b y z) : Kp a b x z :=
  ⟨k.os.trans h.os, k.tape.trans h.tape, k.output.trans h.output, Nat.le_trans h.size k.size, fun i hi hb => (k.block i (Nat.lt_of_lt_of_le hi h.size) hb).trans (h.block i hi hb)⟩
theorem Kp.of_below {a b : Nat} {w w' : World} (h : Below w.heap.size w w') : Kp a b w w' := ⟨h.os, h.tape, h.output, h.size, fun k hk _ => h.block k hk⟩
theorem Kp.of_but {a b g : Nat} {w w' : World} (h : But g w w') (h1 : a ≤ g) (h2 : g < b) : Kp a b w w' := ⟨h.os, h.tape, h.output, h.size, fun k hk hb => h.block k hk (by omega)⟩
theorem Kp.mono {a b b' : Nat} {w w' : World} (h : Kp a b w w') (hb : b ≤ b') : Kp a b' w w' := ⟨h.os, h.tape, h.output, h.size, fun k hk hh => h.block k hk (by omega)⟩
theorem Kp.below {a b : Nat} {w w' : World} (h : Kp a b w w') (ha : a ≤ w.heap.size) : Below a w w' := ⟨h.os, h.tape, h.output, h.size, fun k hk => h.block k (by omega) (Or.inl hk)⟩
/-- As differentialTable_any; the table is read in all worlds that hold what stood ahead of a base and behind the call's start. -/
def DtB (b0 : Nat) (t : List (List Int)) (w : World) (e : Ending) (w' : World) : Prop := ∃ v, e = .returned v ∧ Below w.heap.size w w' ∧ ∀ (b : Nat) (W : World), b ≤ w.heap.size → Kp b0 b w' W → L2 0 W v t

set_option maxHeartbeats 3200000 in
set_option maxRecDepth 100000 in
theorem differentialTableB_any (p : Int) (q : Nat) (dv mv : Value) (ds : List Int) (ms : List (List (List Int))) (w0 w : World) (h0 : Cx 0 w0 dv mv ds ms) (hb0 : Below w0.heap.size w0 w) (hcx : IsCx p ds ms) (hq : q < ds.length) :
    Calls Try.prog 135 #[.agg #[.int .i64 p, dv, mv], .int .i64 q] w (DtB w0.heap.size (cycT ds ms q) w) := by
  have h := h0.below hb0
  have HB0 := Lib.hid hb0
  have HX0 := Lib.hid (Bx.start (p := p) 30 h)
  have hml := hcx.1.mlen
  have hl6 := hcx.1.len1
  refine Sl.cases HX0.out.cx.dims (fun _ _ hx _ => absurd hq (by simp [hx])) (fun bd od capd hvd _ _ hcld => ?_)
  subst hvd
  have c0 := HX0.out.c0
  have c1 := HX0.out.c1
  have c2 := HX0.out.c2
  by_cases hq0 : q = 0
  · subst hq0
    obtain ⟨ud, hud, hrd⟩ := hcld 0 hq
    obtain ⟨d, hd⟩ : ∃ d, d = dimN ds ((0 : Nat) : Int) := ⟨_, rfl⟩
    have hd8 : d ≤ 8 := by rw [hd]; exact (dimN_le8 hcx 0).1
    have hcel : (w.alloc (.cells #[.int .i64 p, .slice (some ⟨bd, od, none⟩) ds.length capd, mv] 30)).cell? ⟨bd, od, none⟩ = some (.int .i64 (d : Int)) := by
      rw [Nat.add_zero] at hud
      rw [hud, hrd, ← getD_of_lt 0 hq, (dimN_le8 hcx 0).2, hd]
    have HDT : Hid (tableOf d 0 (fun _ _ => 0) = cycT ds ms 0) := Lib.hid (by rw [cycT_zero ds ms hq, tableOf_none, hd])
    have hlen : (0 : Int) < (ds.length : Int) := by omega
    clear h h0 hb0 hcx hcld hud hrd hd
    go_enter Try.func135, Try.ntmps135
    go_wp2_with fail
    refine (zeroTable_any d 0 _ (by omega) (by omega)).mono ?_
    rintro e w1 ⟨rfl, hm1⟩
    have HM1 := Lib.hid hm1
    clear hm1 hcel c0 c1 c2
    go_wp2
    go_ret
    have htb := HM1.out.tb
    have hz : (w.alloc (.cells #[.int .i64 p, .slice (some ⟨bd, od, none⟩) ds.length capd, mv] 30)).heap.size = w.heap.size + 1 := by simp
    rw [hz] at htb
    refine ⟨.slice (some ⟨w.heap.size + 1, 0, none⟩) d d, rfl, HX0.out.below.trans (HM1.out.below.mono HX0.out.below.size), fun b W hG2 hbut => ?_⟩
    have htW : Tb W (w.heap.size + 1) d 0 (fun _ _ => 0) := ⟨htb.top.of_block (hbut.block _ htb.top.lt (Or.inr (by omega))), fun j hj => (htb.rows j hj).of_block (hbut.block _ (htb.rows j hj).lt (Or.inr (by omega))), Nat.le_trans htb.lt hbut.size⟩
    have hh := (htW.tw (lo := 0) (Nat.zero_le _) (by omega) (by omega)).l2
    rw [HDT.out] at hh
    exact hh
  · obtain ⟨k, rfl⟩ : ∃ k, q = k + 1 := ⟨q - 1, by omega⟩
    have hkm : k < ms.length := by omega
    refine Sl.cases h0.maps (fun _ _ hx _ => absurd hkm (by simp [hx])) (fun bm om capm hvm _ _ hclm => ?_)
    subst hvm
    obtain ⟨um, hum, hrm⟩ := hclm k hkm
    have HTE : Hid (cycT ds ms (k + 1) = tabN ms k) := Lib.hid (cycT_succ hcx hq)
    have HRM : Hid (L2 0 w0 um (tabN ms k)) := Lib.hid (by unfold tabN; rw [getD_of_lt _ hkm]; exact hrm)
    have hum1 : (w.alloc (.cells #[.int .i64 p, .slice (some ⟨bd, od, none⟩) ds.length capd, .slice (some ⟨bm, om, none⟩) ms.length capm] 30)).cell? ⟨bm, om + k, none⟩ = some um := later (hb0.trans (HX0.out.below.mono hb0.size)) (Nat.le_refl _) hum
    have hne : (((k + 1 : Nat) : Int) == 0) = false := by
      have : ¬ ((k + 1 : Nat) : Int) = 0 := by omega
      simpa using this
    have hne2 : ¬ ((k : Int) + 1 = 0) := by omega
    have hwr : IntKind.i64.wrap (((k + 1 : Nat) : Int) - 1) = (k : Int) := by rw [show ((k + 1 : Nat) : Int) - 1 = (k : Int) by omega]; exact IntWalk.i64_in _ (by omega)
    have hsub : ((k : Int) + 1) - 1 = (k : Int) := by omega
    have hlt : (k : Int) < (ms.length : Int) := by omega
    clear h h0 hb0 hcx hclm hcld hrm hq0 hum
    go_enter Try.func135, Try.ntmps135
    go_wp2
    go_ret
    refine ⟨_, rfl, HX0.out.below, fun b W _ hbut => ?_⟩
    rw [HTE.out]
    refine HRM.out.below ((HB0.out.trans (HX0.out.below.mono HB0.out.size)).trans (hbut.below ?_))
    exact Nat.le_trans HB0.out.size HX0.out.below.size

/-- The tables of the differential, degree by degree. -/
def dfL (ds : List Int) (ms : List (List (List Int))) : List (List (List Int)) := (List.range ds.length).map fun (n : Nat) => cycT ds ms n
def DmR (p : Int) (dv mv : Value) (ds : List Int) (ms : List (List (List Int))) (w : World) (e : Ending) (w' : World) : Prop := ∃ u, e = .returned (.agg #[.int .i64 p, dv, mv, .int .i64 (-1), u]) ∧ L3 0 w' u (dfL ds ms) ∧ Below w.heap.size w w'
/-- .. and where they are read from then on. -/
def DmB (p : Int) (dv mv : Value) (ds : List Int) (ms : List (List (List Int))) (a : Nat) (w : World) (e : Ending) (w' : World) : Prop := ∃ u, e = .returned (.agg #[.int .i64 p, dv, mv, .int .i64 (-1), u]) ∧ Below w.heap.size w w' ∧ ∀ (b : Nat) (W : World), b ≤ w.heap.size → Kp a b w' W → L3 0 W u (dfL ds ms)
/-- A row of tables, k of which are there. -/
structure DmT (W : World) (a G N k : Nat) (f : Nat → Value) (ds : List Int) (ms : List (List (List Int))) : Prop where
  row : W.rowIs G 61 N f
  tab : ∀ n, n < k → ∀ W', Kp a (G + 1) W W' → L2 0 W' (f n) (cycT ds ms n)
theorem DmT.below {W W' : World} {a G N k : Nat} {f : Nat → Value} {ds : List Int} {ms : List (List (List Int))} (h : DmT W a G N k f ds ms) (hb : Below W.heap.size W W') : DmT W' a G N k f ds ms := ⟨h.row.of_block (hb.block _ h.row.lt), fun n hn W2 h2 => h.tab n hn W2 ((Kp.of_below hb).trans h2)⟩

theorem dm_l3 {W : World} {G : Nat} {f : Nat → Value} {ds : List Int} {ms : List (List (List Int))} (h : W.rowIs G 61 ds.length f) (ht : ∀ n, n < ds.length → L2 0 W (f n) (cycT ds ms n)) (h0 : 1 ≤ ds.length) : L3 0 W (.slice (some ⟨G, 0, none⟩) ds.length ds.length) (dfL ds ms) := by
  have hl : (dfL ds ms).length = ds.length := by simp [dfL]
  refine Or.inr ⟨G, 0, ds.length, by rw [hl], Nat.zero_le _, by rw [hl]; omega, fun n hn => ?_⟩
  have hn' : n < ds.length := by rw [hl] at hn; exact hn
  refine ⟨f n, by rw [Nat.zero_add]; exact h.cell hn', ?_⟩
  simp only [dfL, List.getElem_map, List.getElem_range]
  exact ht n hn'

set_option maxHeartbeats 3200000 in
set_option maxRecDepth 100000 in
theorem differentialMapB_any (p : Int) (dv mv : Value) (ds : List Int) (ms : List (List (List Int))) (w0 w : World) (h0 : Cx 0 w0 dv mv ds ms) (hb0 : Below w0.heap.size w0 w) (hcx : IsCx p ds ms) :
    Calls Try.prog 104 #[.agg #[.int .i64 p, dv, mv]] w (DmB p dv mv ds ms w0.heap.size w) := by
  have h := h0.below hb0
  have HB0 := Lib.hid hb0
  have hs0 := hb0.size
  obtain ⟨ad, cap, rfl⟩ := Sl.shape h.dims
  obtain ⟨am, capm, rfl⟩ := Sl.shape h.maps
  have hres : Try.f104.results = #[.cell 2 118] := by kernel_rfl
  have HRES := Lib.hid hres
  have hl6 := hcx.1.len1
  obtain ⟨w1, hw1⟩ : ∃ w1, w1 = (w.alloc (.cells #[.int .i64 p, .slice ad ds.length cap, .slice am ms.length capm] 30)).alloc (.cells #[.int .i64 0, .slice none 0 0, .slice none 0 0, .int .i64 0, .slice none 0 0] 118) := ⟨_, rfl⟩
  have HX1 : Hid (Bx w w1 w.heap.size p (.slice ad ds.length cap) (.slice am ms.length capm) ds ms) := Lib.hid (by rw [hw1]; exact (Bx.start 30 h).next (below_alloc1 _ _))
  have HS1 : Hid (w1.heap.size = w.heap.size + 2) := Lib.hid (by rw [hw1]; simp)
  have HZ1 : Hid (Rz w1 (w.heap.size + 1) 118 #[.int .i64 0, .slice none 0 0, .slice none 0 0, .int .i64 0, .slice none 0 0]) := Lib.hid (by rw [hw1]; have := Rz.new (w.alloc (.cells #[.int .i64 p, .slice ad ds.length cap, .slice am ms.length capm] 30)) 118 #[.int .i64 0, .slice none 0 0, .slice none 0 0, .int .i64 0, .slice none 0 0]; simpa using this)
  have HX0 := Lib.hid h0
  have HCX := Lib.hid hcx
  have c0 := HX1.out.c0
  have c1 := HX1.out.c1
  have c2 := HX1.out.c2
  have hmk := run_make_row' (P := Try.prog) 23 61 (.slice none 0 0) 24 Try.underlying23 Try.infoSS rfl .i64 .i64 ds.length (by omega) (by omega)
  clear h h0 hb0 hcx hres
  go_enter Try.func104, Try.ntmps104
  go_upto_region 1 with fail
  rw [← hw1]
  clear hw1
  go_wp2
  clear hmk c0 c1 c2
  go_loopw [4, 11] (fun _ i wr => ∃ (k : Nat) (f : Nat → Value), k ≤ ds.length ∧ i = .int .i64 (k : Int) ∧ Hid (Below w1.heap.size w1 wr) ∧ Hid (DmT wr w0.heap.size w1.heap.size ds.length k f ds ms)) (fun _ i _ => ds.length - (intOf i).toNat)
  case atStart => exact ⟨0, _, Nat.zero_le _, rfl, Lib.hid (below_alloc1 _ _), Lib.hid ⟨World.rowIs_made w1 _ _ _, fun n hn => absurd hn (Nat.not_lt_zero _)⟩⟩
  case round =>
    obtain ⟨k, f, hk, rfl, HB, HF⟩ := hrel
    obtain ⟨wx, hwx⟩ : ∃ wx : World, wx = wr := ⟨_, rfl⟩
    subst hwx
    have HX := Lib.hid (HX1.out.next HB.out)
    have c0 := HX.out.c0
    have c1 := HX.out.c1
    have c2 := HX.out.c2
    by_cases hlt : k < ds.length
    · have hki : (k : Int) < (ds.length : Int) := by omega
      go_wp2_with fail
      refine (differentialTableB_any p k _ _ ds ms w0 wx HX0.out (HB0.out.trans (HX.out.below.mono hs0)) HCX.out hlt).mono ?_
      rintro ee w2 ⟨v, rfl, hb2, hvr⟩
      have hGx : w1.heap.size < wx.heap.size := HF.out.row.lt
      have hG0 : w0.heap.size ≤ w1.heap.size := by have := HS1.out; omega
      have hv := hvr (w1.heap.size + 1) w2 (by omega) (Kp.refl _ _ _)
      have HVR := Lib.hid (hvr (w1.heap.size + 1))
      obtain ⟨av, cv, rfl⟩ := Sl.shape hv
      have HF2 := Lib.hid (HF.out.below hb2)
      have hrow := HF2.out.row.cell hlt
      have hfro := HF2.out.row.frozen k
      have HV := Lib.hid hv
      have HB2 := Lib.hid (HB.out.trans (hb2.mono HB.out.size))
      have HB3 : Hid (Below w1.heap.size w1 (w2.setCell ⟨w1.heap.size, k, none⟩ (.slice av (cycT ds ms k).length cv))) := Lib.hid (HB2.out.setCell (Nat.le_refl _) _)
      have HF3 : Hid (DmT (w2.setCell ⟨w1.heap.size, k, none⟩ (.slice av (cycT ds ms k).length cv)) w0.heap.size w1.heap.size ds.length (k + 1) (fun j => if j = k then .slice av (cycT ds ms k).length cv else f j) ds ms) := Lib.hid ⟨HF2.out.row.set k _, fun n hn W2 h2 => by
        have h3 : Kp w0.heap.size (w1.heap.size + 1) w2 W2 := (Kp.of_but (But.set w2 k _) hG0 (by omega)).trans h2
        by_cases e : n = k
        · subst e
          simp only [if_true]
          exact HVR.out W2 (by omega) h3
        · simp only [if_neg e]
          exact HF2.out.tab n (by omega) W2 h3⟩
      clear hb2 hv hvr c0 c1 c2
      go_wp2
      go_roundw
      case rel => exact ⟨k + 1, _, by omega, by go_num, HB3, HF3⟩
      case measure => simp [intOf]; omega
    · have hki : ¬ (k : Int) < (ds.length : Int) := by omega
      have HKE : Hid (k = ds.length) := Lib.hid (by omega)
      have hz := HZ1.out.next HB.out
      have q0 := hz.cell (i := 0) rfl
      have q1 := hz.cell (i := 1) rfl
      have q2 := hz.cell (i := 2) rfl
      have q3 := hz.cell (i := 3) rfl
      have q4 := hz.cell (i := 4) rfl
      have f0 := rz_frozen hz 0
      have f1 := rz_frozen hz 1
      have f2 := rz_frozen hz 2
      have f3 := rz_frozen hz 3
      have f4 := rz_frozen hz 4
      clear hz
      go_wp2
      obtain ⟨W6, h6⟩ : ∃ W6, W6 = ((((wx.setCell ⟨w.heap.size + 1, 0, none⟩ (.int .i64 p)).setCell ⟨w.heap.size + 1, 1, none⟩ (.slice ad ds.length cap)).setCell ⟨w.heap.size + 1, 2, none⟩ (.slice am ms.length capm)).setCell ⟨w.heap.size + 1, 3, none⟩ (.int .i64 (-1))).setCell ⟨w.heap.size + 1, 4, none⟩ (.slice (some ⟨w1.heap.size, 0, none⟩) ds.length ds.length) := ⟨_, rfl⟩
      have e0 : W6.cell? ⟨w.heap.size + 1, 0, none⟩ = some (.int .i64 p) := by
        rw [h6]
        rw [World.cell?_setCell_other _ _ _ _ (by simp)]
        rw [World.cell?_setCell_other _ _ _ _ (by simp)]
        rw [World.cell?_setCell_other _ _ _ _ (by simp)]
        rw [World.cell?_setCell_other _ _ _ _ (by simp)]
        refine World.cell?_setCell_same _ _ _ (u := .int .i64 0) ?_
        exact q0
      have e1 : W6.cell? ⟨w.heap.size + 1, 1, none⟩ = some (.slice ad ds.length cap) := by
        rw [h6]
        rw [World.cell?_setCell_other _ _ _ _ (by simp)]
        rw [World.cell?_setCell_other _ _ _ _ (by simp)]
        rw [World.cell?_setCell_other _ _ _ _ (by simp)]
        refine World.cell?_setCell_same _ _ _ (u := .slice none 0 0) ?_
        rw [World.cell?_setCell_other _ _ _ _ (by simp)]
        exact q1
      have e2 : W6.cell? ⟨w.heap.size + 1, 2, none⟩ = some (.slice am ms.length capm) := by
        rw [h6]
        rw [World.cell?_setCell_other _ _ _ _ (by simp)]
        rw [World.cell?_setCell_other _ _ _ _ (by simp)]
        refine World.cell?_setCell_same _ _ _ (u := .slice none 0 0) ?_
        rw [World.cell?_setCell_other _ _ _ _ (by simp)]
        rw [World.cell?_setCell_other _ _ _ _ (by simp)]
        exact q2
      have e3 : W6.cell? ⟨w.heap.size + 1, 3, none⟩ = some (.int .i64 (-1)) := by
        rw [h6]
        rw [World.cell?_setCell_other _ _ _ _ (by simp)]
        refine World.cell?_setCell_same _ _ _ (u := .int .i64 0) ?_
        rw [World.cell?_setCell_other _ _ _ _ (by simp)]
        rw [World.cell?_setCell_other _ _ _ _ (by simp)]
        rw [World.cell?_setCell_other _ _ _ _ (by simp)]
        exact q3
      have e4 : W6.cell? ⟨w.heap.size + 1, 4, none⟩ = some (.slice (some ⟨w1.heap.size, 0, none⟩) ds.length ds.length) := by
        rw [h6]
        refine World.cell?_setCell_same _ _ _ (u := .slice none 0 0) ?_
        rw [World.cell?_setCell_other _ _ _ _ (by simp)]
        rw [World.cell?_setCell_other _ _ _ _ (by simp)]
        rw [World.cell?_setCell_other _ _ _ _ (by simp)]
        rw [World.cell?_setCell_other _ _ _ _ (by simp)]
        exact q4
      have hbut : But (w.heap.size + 1) wx W6 := by
        rw [h6]
        exact (((((But.set wx 0 (.int .i64 p)).trans (But.set (wx.setCell ⟨w.heap.size + 1, 0, none⟩ (.int .i64 p)) 1 (.slice ad ds.length cap))).trans (But.set ((wx.setCell ⟨w.heap.size + 1, 0, none⟩ (.int .i64 p)).setCell ⟨w.heap.size + 1, 1, none⟩ (.slice ad ds.length cap)) 2 (.slice am ms.length capm))).trans (But.set (((wx.setCell ⟨w.heap.size + 1, 0, none⟩ (.int .i64 p)).setCell ⟨w.heap.size + 1, 1, none⟩ (.slice ad ds.length cap)).setCell ⟨w.heap.size + 1, 2, none⟩ (.slice am ms.length capm)) 3 (.int .i64 (-1)))).trans (But.set ((((wx.setCell ⟨w.heap.size + 1, 0, none⟩ (.int .i64 p)).setCell ⟨w.heap.size + 1, 1, none⟩ (.slice ad ds.length cap)).setCell ⟨w.heap.size + 1, 2, none⟩ (.slice am ms.length capm)).setCell ⟨w.heap.size + 1, 3, none⟩ (.int .i64 (-1))) 4 (.slice (some ⟨w1.heap.size, 0, none⟩) ds.length ds.length)))
      have hs1 := HS1.out
      have hB6 : Below w.heap.size w W6 := HX.out.below.trans (hbut.below HX.out.below.size (by omega))
      have hF := HF.out
      rw [HKE.out] at hF
      have hrow6 := hF.row.of_block (hbut.block _ hF.row.lt (by omega))
      have hg6 := hrow6.lt
      have HL3 : Hid (∀ (b : Nat) (W : World), b ≤ w.heap.size → Kp w0.heap.size b W6 W → L3 0 W (.slice (some ⟨w1.heap.size, 0, none⟩) ds.length ds.length) (dfL ds ms)) := Lib.hid (fun b W hb hK => dm_l3 (hrow6.of_block (hK.block _ hg6 (Or.inr (by omega)))) (fun n hn => hF.tab n hn W ((Kp.of_but hbut (by omega) (by omega)).trans (hK.mono (by omega)))) HCX.out.1.len0)
      have HB6 := Lib.hid hB6
      rw [← h6]
      clear h6 hbut hB6 hF hrow6 hs1 hg6 q0 f0 q1 f1 q2 f2 q3 f3 q4 f4
      refine bodyPost_ret (v := .agg #[.int .i64 p, .slice ad ds.length cap, .slice am ms.length capm, .int .i64 (-1), .slice (some ⟨w1.heap.size, 0, none⟩) ds.length ds.length]) ?_ rfl ⟨_, rfl, HB6.out, HL3.out⟩
      simp only [results, HRES.out]
      go_simp
theorem differentialMap_any (p : Int) (dv mv : Value) (ds : List Int) (ms : List (List (List Int))) (w : World) (h : Cx 0 w dv mv ds ms) (hcx : IsCx p ds ms) :
    Calls Try.prog 104 #[.agg #[.int .i64 p, dv, mv]] w (DmR p dv mv ds ms w) :=
  (differentialMapB_any p dv mv ds ms w w h (Below.refl _ _) hcx).mono fun _ _ ⟨u, he, hb, hl⟩ => ⟨u, he, hl _ _ (Nat.le_refl _) (Kp.refl _ _ _), hb⟩
end Go.Proofs.Ytchijefibiaphaa


namespace Go.Proofs.Ytchijefibiaphaa
open Go.RowKit

theorem dimN_leP {p : Int} {ds : List Int} {ms : List (List (List Int))} (h : PreOk p ds ms) (q : Nat) : dimN ds (q : Int) ≤ 8 ∧ ds.getD q 0 = (dimN ds (q : Int) : Int) := by
  have := h.dim q
  unfold dimN
  rw [Int.toNat_natCast]
  omega
theorem cycT_succP {p : Int} {ds : List Int} {ms : List (List (List Int))} (h : PreOk p ds ms) {k : Nat} (hq : k + 1 < ds.length) : cycT ds ms (k + 1) = tabN ms k := by
  have hml := h.mlen
  unfold cycT mapZ tabN
  rw [if_pos (by omega), show (((k + 1 : Nat) : Int)).toNat - 1 = k by omega]

set_option maxHeartbeats 3200000 in
set_option maxRecDepth 100000 in
theorem differentialTableP_any (p : Int) (q : Nat) (dv mv : Value) (ds : List Int) (ms : List (List (List Int))) (w0 w : World) (h0 : Cx 0 w0 dv mv ds ms) (hb0 : Below w0.heap.size w0 w) (hcx : PreOk p ds ms) (hq : q < ds.length) :
    Calls Try.prog 135 #[.agg #[.int .i64 p, dv, mv], .int .i64 q] w (DtB w0.heap.size (cycT ds ms q) w) := by
  have h := h0.below hb0
  have HB0 := Lib.hid hb0
  have HX0 := Lib.hid (Bx.start (p := p) 30 h)
  have hml := hcx.mlen
  have hl6 := hcx.len1
  refine Sl.cases HX0.out.cx.dims (fun _ _ hx _ => absurd hq (by simp [hx])) (fun bd od capd hvd _ _ hcld => ?_)
  subst hvd
  have c0 := HX0.out.c0
  have c1 := HX0.out.c1
  have c2 := HX0.out.c2
  by_cases hq0 : q = 0
  · subst hq0
    obtain ⟨ud, hud, hrd⟩ := hcld 0 hq
    obtain ⟨d, hd⟩ : ∃ d, d = dimN ds ((0 : Nat) : Int) := ⟨_, rfl⟩
    have hd8 : d ≤ 8 := by rw [hd]; exact (dimN_leP hcx 0).1
    have hcel : (w.alloc (.cells #[.int .i64 p, .slice (some ⟨bd, od, none⟩) ds.length capd, mv] 30)).cell? ⟨bd, od, none⟩ = some (.int .i64 (d : Int)) := by
      rw [Nat.add_zero] at hud
      rw [hud, hrd, ← getD_of_lt 0 hq, (dimN_leP hcx 0).2, hd]
    have HDT : Hid (tableOf d 0 (fun _ _ => 0) = cycT ds ms 0) := Lib.hid (by rw [cycT_zero ds ms hq, tableOf_none, hd])
    have hlen : (0 : Int) < (ds.length : Int) := by omega
    clear h h0 hb0 hcx hcld hud hrd hd
    go_enter Try.func135, Try.ntmps135
    go_wp2_with fail
    refine (zeroTable_any d 0 _ (by omega) (by omega)).mono ?_
    rintro e w1 ⟨rfl, hm1⟩
    have HM1 := Lib.hid hm1
    clear hm1 hcel c0 c1 c2
    go_wp2
    go_ret
    have htb := HM1.out.tb
    have hz : (w.alloc (.cells #[.int .i64 p, .slice (some ⟨bd, od, none⟩) ds.length capd, mv] 30)).heap.size = w.heap.size + 1 := by simp
    rw [hz] at htb
    refine ⟨.slice (some ⟨w.heap.size + 1, 0, none⟩) d d, rfl, HX0.out.below.trans (HM1.out.below.mono HX0.out.below.size), fun b W hG2 hbut => ?_⟩
    have htW : Tb W (w.heap.size + 1) d 0 (fun _ _ => 0) := ⟨htb.top.of_block (hbut.block _ htb.top.lt (Or.inr (by omega))), fun j hj => (htb.rows j hj).of_block (hbut.block _ (htb.rows j hj).lt (Or.inr (by omega))), Nat.le_trans htb.lt hbut.size⟩
    have hh := (htW.tw (lo := 0) (Nat.zero_le _) (by omega) (by omega)).l2
    rw [HDT.out] at hh
    exact hh
  · obtain ⟨k, rfl⟩ : ∃ k, q = k + 1 := ⟨q - 1, by omega⟩
    have hkm : k < ms.length := by omega
    refine Sl.cases h0.maps (fun _ _ hx _ => absurd hkm (by simp [hx])) (fun bm om capm hvm _ _ hclm => ?_)
    subst hvm
    obtain ⟨um, hum, hrm⟩ := hclm k hkm
    have HTE : Hid (cycT ds ms (k + 1) = tabN ms k) := Lib.hid (cycT_succP hcx hq)
    have HRM : Hid (L2 0 w0 um (tabN ms k)) := Lib.hid (by unfold tabN; rw [getD_of_lt _ hkm]; exact hrm)
    have hum1 : (w.alloc (.cells #[.int .i64 p, .slice (some ⟨bd, od, none⟩) ds.length capd, .slice (some ⟨bm, om, none⟩) ms.length capm] 30)).cell? ⟨bm, om + k, none⟩ = some um := later (hb0.trans (HX0.out.below.mono hb0.size)) (Nat.le_refl _) hum
    have hne : (((k + 1 : Nat) : Int) == 0) = false := by
      have : ¬ ((k + 1 : Nat) : Int) = 0 := by omega
      simpa using this
    have hne2 : ¬ ((k : Int) + 1 = 0) := by omega
    have hwr : IntKind.i64.wrap (((k + 1 : Nat) : Int) - 1) = (k : Int) := by rw [show ((k + 1 : Nat) : Int) - 1 = (k : Int) by omega]; exact IntWalk.i64_in _ (by omega)
    have hsub : ((k : Int) + 1) - 1 = (k : Int) := by omega
    have hlt : (k : Int) < (ms.length : Int) := by omega
    clear h h0 hb0 hcx hclm hcld hrm hq0 hum
    go_enter Try.func135, Try.ntmps135
    go_wp2
    go_ret
    refine ⟨_, rfl, HX0.out.below, fun b W _ hbut => ?_⟩
    rw [HTE.out]
    refine HRM.out.below ((HB0.out.trans (HX0.out.below.mono HB0.out.size)).trans (hbut.below ?_))
    exact Nat.le_trans HB0.out.size HX0.out.below.size

set_option maxHeartbeats 3200000 in
set_option maxRecDepth 100000 in
theorem differentialMapP_any (p : Int) (dv mv : Value) (ds : List Int) (ms : List (List (List Int))) (w0 w : World) (h0 : Cx 0 w0 dv mv ds ms) (hb0 : Below w0.heap.size w0 w) (hcx : PreOk p ds ms) :
    Calls Try.prog 104 #[.agg #[.int .i64 p, dv, mv]] w (DmB p dv mv ds ms w0.heap.size w) := by
  have h := h0.below hb0
  have HB0 := Lib.hid hb0
  have hs0 := hb0.size
  obtain ⟨ad, cap, rfl⟩ := Sl.shape h.dims
  obtain ⟨am, capm, rfl⟩ := Sl.shape h.maps
  have hres : Try.f104.results = #[.cell 2 118] := by kernel_rfl
  have HRES := Lib.hid hres
  have hl6 := hcx.len1
  obtain ⟨w1, hw1⟩ : ∃ w1, w1 = (w.alloc (.cells #[.int .i64 p, .slice ad ds.length cap, .slice am ms.length capm] 30)).alloc (.cells #[.int .i64 0, .slice none 0 0, .slice none 0 0, .int .i64 0, .slice none 0 0] 118) := ⟨_, rfl⟩
  have HX1 : Hid (Bx w w1 w.heap.size p (.slice ad ds.length cap) (.slice am ms.length capm) ds ms) := Lib.hid (by rw [hw1]; exact (Bx.start 30 h).next (below_alloc1 _ _))
  have HS1 : Hid (w1.heap.size = w.heap.size + 2) := Lib.hid (by rw [hw1]; simp)
  have HZ1 : Hid (Rz w1 (w.heap.size + 1) 118 #[.int .i64 0, .slice none 0 0, .slice none 0 0, .int .i64 0, .slice none 0 0]) := Lib.hid (by rw [hw1]; have := Rz.new (w.alloc (.cells #[.int .i64 p, .slice ad ds.length cap, .slice am ms.length capm] 30)) 118 #[.int .i64 0, .slice none 0 0, .slice none 0 0, .int .i64 0, .slice none 0 0]; simpa using this)
  have HX0 := Lib.hid h0
  have HCX := Lib.hid hcx
  have c0 := HX1.out.c0
  have c1 := HX1.out.c1
  have c2 := HX1.out.c2
  have hmk := run_make_row' (P := Try.prog) 23 61 (.slice none 0 0) 24 Try.underlying23 Try.infoSS rfl .i64 .i64 ds.length (by omega) (by omega)
  clear h h0 hb0 hcx hres
  go_enter Try.func104, Try.ntmps104
  go_upto_region 1 with fail
  rw [← hw1]
  clear hw1
  go_wp2
  clear hmk c0 c1 c2
  go_loopw [4, 11] (fun _ i wr => ∃ (k : Nat) (f : Nat → Value), k ≤ ds.length ∧ i = .int .i64 (k : Int) ∧ Hid (Below w1.heap.size w1 wr) ∧ Hid (DmT wr w0.heap.size w1.heap.size ds.length k f ds ms)) (fun _ i _ => ds.length - (intOf i).toNat)
  case atStart => exact ⟨0, _, Nat.zero_le _, rfl, Lib.hid (below_alloc1 _ _), Lib.hid ⟨World.rowIs_made w1 _ _ _, fun n hn => absurd hn (Nat.not_lt_zero _)⟩⟩
  case round =>
    obtain ⟨k, f, hk, rfl, HB, HF⟩ := hrel
    obtain ⟨wx, hwx⟩ : ∃ wx : World, wx = wr := ⟨_, rfl⟩
    subst hwx
    have HX := Lib.hid (HX1.out.next HB.out)
    have c0 := HX.out.c0
    have c1 := HX.out.c1
    have c2 := HX.out.c2
    by_cases hlt : k < ds.length
    · have hki : (k : Int) < (ds.length : Int) := by omega
      go_wp2_with fail
      refine (differentialTableP_any p k _ _ ds ms w0 wx HX0.out (HB0.out.trans (HX.out.below.mono hs0)) HCX.out hlt).mono ?_
      rintro ee w2 ⟨v, rfl, hb2, hvr⟩
      have hGx : w1.heap.size < wx.heap.size := HF.out.row.lt
      have hG0 : w0.heap.size ≤ w1.heap.size := by have := HS1.out; omega
      have hv := hvr (w1.heap.size + 1) w2 (by omega) (Kp.refl _ _ _)
      have HVR := Lib.hid (hvr (w1.heap.size + 1))
      obtain ⟨av, cv, rfl⟩ := Sl.shape hv
      have HF2 := Lib.hid (HF.out.below hb2)
      have hrow := HF2.out.row.cell hlt
      have hfro := HF2.out.row.frozen k
      have HV := Lib.hid hv
      have HB2 := Lib.hid (HB.out.trans (hb2.mono HB.out.size))
      have HB3 : Hid (Below w1.heap.size w1 (w2.setCell ⟨w1.heap.size, k, none⟩ (.slice av (cycT ds ms k).length cv))) := Lib.hid (HB2.out.setCell (Nat.le_refl _) _)
      have HF3 : Hid (DmT (w2.setCell ⟨w1.heap.size, k, none⟩ (.slice av (cycT ds ms k).length cv)) w0.heap.size w1.heap.size ds.length (k + 1) (fun j => if j = k then .slice av (cycT ds ms k).length cv else f j) ds ms) := Lib.hid ⟨HF2.out.row.set k _, fun n hn W2 h2 => by
        have h3 : Kp w0.heap.size (w1.heap.size + 1) w2 W2 := (Kp.of_but (But.set w2 k _) hG0 (by omega)).trans h2
        by_cases e : n = k
        · subst e
          simp only [if_true]
          exact HVR.out W2 (by omega) h3
        · simp only [if_neg e]
          exact HF2.out.tab n (by omega) W2 h3⟩
      clear hb2 hv hvr c0 c1 c2
      go_wp2
      go_roundw
      case rel => exact ⟨k + 1, _, by omega, by go_num, HB3, HF3⟩
      case measure => simp [intOf]; omega
    · have hki : ¬ (k : Int) < (ds.length : Int) := by omega
      have HKE : Hid (k = ds.length) := Lib.hid (by omega)
      have hz := HZ1.out.next HB.out
      have q0 := hz.cell (i := 0) rfl
      have q1 := hz.cell (i := 1) rfl
      have q2 := hz.cell (i := 2) rfl
      have q3 := hz.cell (i := 3) rfl
      have q4 := hz.cell (i := 4) rfl
      have f0 := rz_frozen hz 0
      have f1 := rz_frozen hz 1
      have f2 := rz_frozen hz 2
      have f3 := rz_frozen hz 3
      have f4 := rz_frozen hz 4
      clear hz
      go_wp2
      obtain ⟨W6, h6⟩ : ∃ W6, W6 = ((((wx.setCell ⟨w.heap.size + 1, 0, none⟩ (.int .i64 p)).setCell ⟨w.heap.size + 1, 1, none⟩ (.slice ad ds.length cap)).setCell ⟨w.heap.size + 1, 2, none⟩ (.slice am ms.length capm)).setCell ⟨w.heap.size + 1, 3, none⟩ (.int .i64 (-1))).setCell ⟨w.heap.size + 1, 4, none⟩ (.slice (some ⟨w1.heap.size, 0, none⟩) ds.length ds.length) := ⟨_, rfl⟩
      have e0 : W6.cell? ⟨w.heap.size + 1, 0, none⟩ = some (.int .i64 p) := by
        rw [h6]
        rw [World.cell?_setCell_other _ _ _ _ (by simp)]
        rw [World.cell?_setCell_other _ _ _ _ (by simp)]
        rw [World.cell?_setCell_other _ _ _ _ (by simp)]
        rw [World.cell?_setCell_other _ _ _ _ (by simp)]
        refine World.cell?_setCell_same _ _ _ (u := .int .i64 0) ?_
        exact q0
      have e1 : W6.cell? ⟨w.heap.size + 1, 1, none⟩ = some (.slice ad ds.length cap) := by
        rw [h6]
        rw [World.cell?_setCell_other _ _ _ _ (by simp)]
        rw [World.cell?_setCell_other _ _ _ _ (by simp)]
        rw [World.cell?_setCell_other _ _ _ _ (by simp)]
        refine World.cell?_setCell_same _ _ _ (u := .slice none 0 0) ?_
        rw [World.cell?_setCell_other _ _ _ _ (by simp)]
        exact q1
      have e2 : W6.cell? ⟨w.heap.size + 1, 2, none⟩ = some (.slice am ms.length capm) := by
        rw [h6]
        rw [World.cell?_setCell_other _ _ _ _ (by simp)]
        rw [World.cell?_setCell_other _ _ _ _ (by simp)]
        refine World.cell?_setCell_same _ _ _ (u := .slice none 0 0) ?_
        rw [World.cell?_setCell_other _ _ _ _ (by simp)]
        rw [World.cell?_setCell_other _ _ _ _ (by simp)]
        exact q2
      have e3 : W6.cell? ⟨w.heap.size + 1, 3, none⟩ = some (.int .i64 (-1)) := by
        rw [h6]
        rw [World.cell?_setCell_other _ _ _ _ (by simp)]
        refine World.cell?_setCell_same _ _ _ (u := .int .i64 0) ?_
        rw [World.cell?_setCell_other _ _ _ _ (by simp)]
        rw [World.cell?_setCell_other _ _ _ _ (by simp)]
        rw [World.cell?_setCell_other _ _ _ _ (by simp)]
        exact q3
      have e4 : W6.cell? ⟨w.heap.size + 1, 4, none⟩ = some (.slice (some ⟨w1.heap.size, 0, none⟩) ds.length ds.length) := by
        rw [h6]
        refine World.cell?_setCell_same _ _ _ (u := .slice none 0 0) ?_
        rw [World.cell?_setCell_other _ _ _ _ (by simp)]
        rw [World.cell?_setCell_other _ _ _ _ (by simp)]
        rw [World.cell?_setCell_other _ _ _ _ (by simp)]
        rw [World.cell?_setCell_other _ _ _ _ (by simp)]
        exact q4
      have hbut : But (w.heap.size + 1) wx W6 := by
        rw [h6]
        exact (((((But.set wx 0 (.int .i64 p)).trans (But.set (wx.setCell ⟨w.heap.size + 1, 0, none⟩ (.int .i64 p)) 1 (.slice ad ds.length cap))).trans (But.set ((wx.setCell ⟨w.heap.size + 1, 0, none⟩ (.int .i64 p)).setCell ⟨w.heap.size + 1, 1, none⟩ (.slice ad ds.length cap)) 2 (.slice am ms.length capm))).trans (But.set (((wx.setCell ⟨w.heap.size + 1, 0, none⟩ (.int .i64 p)).setCell ⟨w.heap.size + 1, 1, none⟩ (.slice ad ds.length cap)).setCell ⟨w.heap.size + 1, 2, none⟩ (.slice am ms.length capm)) 3 (.int .i64 (-1)))).trans (But.set ((((wx.setCell ⟨w.heap.size + 1, 0, none⟩ (.int .i64 p)).setCell ⟨w.heap.size + 1, 1, none⟩ (.slice ad ds.length cap)).setCell ⟨w.heap.size + 1, 2, none⟩ (.slice am ms.length capm)).setCell ⟨w.heap.size + 1, 3, none⟩ (.int .i64 (-1))) 4 (.slice (some ⟨w1.heap.size, 0, none⟩) ds.length ds.length)))
      have hs1 := HS1.out
      have hB6 : Below w.heap.size w W6 := HX.out.below.trans (hbut.below HX.out.below.size (by omega))
      have hF := HF.out
      rw [HKE.out] at hF
      have hrow6 := hF.row.of_block (hbut.block _ hF.row.lt (by omega))
      have hg6 := hrow6.lt
      have HL3 : Hid (∀ (b : Nat) (W : World), b ≤ w.heap.size → Kp w0.heap.size b W6 W → L3 0 W (.slice (some ⟨w1.heap.size, 0, none⟩) ds.length ds.length) (dfL ds ms)) := Lib.hid (fun b W hb hK => dm_l3 (hrow6.of_block (hK.block _ hg6 (Or.inr (by omega)))) (fun n hn => hF.tab n hn W ((Kp.of_but hbut (by omega) (by omega)).trans (hK.mono (by omega)))) HCX.out.len0)
      have HB6 := Lib.hid hB6
      rw [← h6]
      clear h6 hbut hB6 hF hrow6 hs1 hg6 q0 f0 q1 f1 q2 f2 q3 f3 q4 f4
      refine bodyPost_ret (v := .agg #[.int .i64 p, .slice ad ds.length cap, .slice am ms.length capm, .int .i64 (-1), .slice (some ⟨w1.heap.size, 0, none⟩) ds.length ds.length]) ?_ rfl ⟨_, rfl, HB6.out, HL3.out⟩
      simp only [results, HRES.out]
      go_simp
theorem differentialMapP (p : Int) (dv mv : Value) (ds : List Int) (ms : List (List (List Int))) (w : World) (h : Cx 0 w dv mv ds ms) (hcx : PreOk p ds ms) :
    Calls Try.prog 104 #[.agg #[.int .i64 p, dv, mv]] w (DmR p dv mv ds ms w) :=
  (differentialMapP_any p dv mv ds ms w w h (Below.refl _ _) hcx).mono fun _ _ ⟨u, he, hb, hl⟩ => ⟨u, he, hl _ _ (Nat.le_refl _) (Kp.refl _ _ _), hb⟩
end Go.Proofs.Ytchijefibiaphaa


namespace Go.Proofs.Ytchijefibiaphaa
open Go.RowKit

theorem dimZ_8 {p : Int} {ds : List Int} {ms : List (List (List Int))} (h : IsCx p ds ms) (n : Int) : 0 ≤ dimZ ds n ∧ dimZ ds n ≤ 8 := by
  unfold dimZ
  by_cases hr : 0 ≤ n ∧ n ≤ (ds.length : Int) - 1
  · rw [if_pos hr]
    exact h.1.dim _
  · rw [if_neg hr]
    omega
def Fam3R (out : List (List (List Int))) (w : World) (e : Ending) (w' : World) : Prop := ∃ u, e = .returned u ∧ Rw3 w.heap.size w'.heap.size w' u out ∧ Below w.heap.size w w'
def Fam3D (n : Nat) (out : List (List (List Int))) (w : World) (e : Ending) (w' : World) : Prop := ∃ g, e = .returned (.slice (some ⟨g, 0, none⟩) n n) ∧ w.heap.size ≤ g ∧ Rw3 w.heap.size w'.heap.size w' (.slice (some ⟨g, 0, none⟩) n n) out ∧ Below w.heap.size w w'
theorem Fam3D.r {n : Nat} {out : List (List (List Int))} {w : World} {e : Ending} {w' : World} (h : Fam3D n out w e w') : Fam3R out w e w' := by
  obtain ⟨g, he, _, hr, hb⟩ := h
  exact ⟨_, he, hr, hb⟩
/-- Dimensions of at most six degrees, each at most 8. -/
structure DsOk (ds : List Int) : Prop where
  len1 : ds.length ≤ 6
  dims : ∀ d ∈ ds, 0 ≤ d ∧ d ≤ 8
theorem DsOk.dim {ds : List Int} (h : DsOk ds) (k : Nat) : 0 ≤ ds.getD k 0 ∧ ds.getD k 0 ≤ 8 := by
  by_cases e : k < ds.length
  · rw [getD_of_lt _ e]
    exact h.dims _ (List.getElem_mem e)
  · rw [List.getD_eq_getElem?_getD, List.getElem?_eq_none (by omega)]
    simp
theorem DsOk.dimZ {ds : List Int} (h : DsOk ds) (n : Int) : 0 ≤ dimZ ds n ∧ dimZ ds n ≤ 8 := by
  unfold Go.Proofs.Ytchijefibiaphaa.dimZ
  by_cases hr : 0 ≤ n ∧ n ≤ (ds.length : Int) - 1
  · rw [if_pos hr]
    exact h.dim _
  · rw [if_neg hr]
    omega
theorem IsCx.dsOk {p : Int} {ds : List Int} {ms : List (List (List Int))} (h : IsCx p ds ms) : DsOk ds := ⟨h.1.len1, h.1.dims⟩

end Go.Proofs.Ytchijefibiaphaa


namespace Go.Proofs.Ytchijefibiaphaa
open Go.RowKit

set_option maxHeartbeats 3200000 in
set_option maxRecDepth 100000 in
theorem leadD_any (p2 s : Int) (n c2 : Nat) (dv2 mv2 fv vv : Value) (ds2 : List Int) (ms2 fs : List (List (List Int))) (vs : List Int) (w : World) (h2 : Cx 0 w dv2 mv2 ds2 ms2) (hf : L3 0 w fv fs) (hv : L1 0 w vv vs) (hcy : DsOk ds2) (hn : n < fs.length) (hnb : n ≤ 100) (hs : -1 ≤ s ∧ s ≤ 1) (hc2 : dimZ ds2 ((n : Int) + s) = (c2 : Int)) (ok : ApOk p2 c2 vs (fs.getD n [])) (hmf : fs.length ≤ 1048576) (hmv : vs.length ≤ 1048576) :
    Calls Try.prog 105 #[.agg #[.int .i64 p2, dv2, mv2, .int .i64 s, fv], .agg #[.int .i64 (n : Int), vv]] w (LeadR ((n : Int) + s) (apT p2 c2 vs (fs.getD n [])) w) := by
  obtain ⟨ad2, cap2, rfl⟩ := Sl.shape h2.dims
  obtain ⟨am2, capm2, rfl⟩ := Sl.shape h2.maps
  obtain ⟨af, cf, rfl⟩ := Sl.shape hf
  obtain ⟨av, cv, rfl⟩ := Sl.shape hv
  obtain ⟨t, ht⟩ : ∃ t, t = fs.getD n [] := ⟨_, rfl⟩
  rw [← ht] at ok ⊢
  obtain ⟨tn, htn⟩ : ∃ tn, tn = t.length := ⟨_, rfl⟩
  obtain ⟨wa, hwa⟩ : ∃ wa, wa = w.alloc (.cells #[.int .i64 p2, .slice ad2 ds2.length cap2, .slice am2 ms2.length capm2, .int .i64 s, .slice af fs.length cf] 118) := ⟨_, rfl⟩
  have hba : Below w.heap.size w wa := by rw [hwa]; exact below_alloc1 _ _
  have hsa : wa.heap.size = w.heap.size + 1 := by rw [hwa]; simp
  have a0 : wa.cell? ⟨w.heap.size, 0, none⟩ = some (.int .i64 p2) := by rw [hwa]; simp
  have a1 : wa.cell? ⟨w.heap.size, 1, none⟩ = some (.slice ad2 ds2.length cap2) := by rw [hwa]; simp
  have a2 : wa.cell? ⟨w.heap.size, 2, none⟩ = some (.slice am2 ms2.length capm2) := by rw [hwa]; simp
  have a3 : wa.cell? ⟨w.heap.size, 3, none⟩ = some (.int .i64 s) := by rw [hwa]; simp
  have a4 : wa.cell? ⟨w.heap.size, 4, none⟩ = some (.slice af fs.length cf) := by rw [hwa]; simp
  obtain ⟨wb, hwb⟩ : ∃ wb, wb = wa.alloc (.cells #[.int .i64 (n : Int), .slice av vs.length cv] 151) := ⟨_, rfl⟩
  have hbb : Below wa.heap.size wa wb := by rw [hwb]; exact below_alloc1 _ _
  have hsb : wb.heap.size = w.heap.size + 2 := by rw [hwb]; simp [hsa]
  have b0 : wb.cell? ⟨wa.heap.size, 0, none⟩ = some (.int .i64 (n : Int)) := by rw [hwb]; simp
  have b1 : wb.cell? ⟨wa.heap.size, 1, none⟩ = some (.slice av vs.length cv) := by rw [hwb]; simp
  obtain ⟨w1, hw1a⟩ : ∃ w1, w1 = wb.alloc (.cells #[.int .i64 0, .slice none 0 0] 151) := ⟨_, rfl⟩
  have hbc : Below wb.heap.size wb w1 := by rw [hw1a]; exact below_alloc1 _ _
  have hsz : w.heap.size + 3 = w1.heap.size := by rw [hw1a]; simp [hsb]
  have ht1 : w1.there (w.heap.size + 2) 0 2 := by
    rw [← hsb, hw1a]
    exact there_new wb #[.int .i64 0, .slice none 0 0] 151 (n := 2) (by simp)
  have hw1 : w1 = (((w.alloc (.cells #[.int .i64 p2, .slice ad2 ds2.length cap2, .slice am2 ms2.length capm2, .int .i64 s, .slice af fs.length cf] 118)).alloc (.cells #[.int .i64 (n : Int), .slice av vs.length cv] 151)).alloc (.cells #[.int .i64 0, .slice none 0 0] 151)) := by rw [hw1a, hwb, hwa]
  have hb1 : Below w.heap.size w w1 := (hba.trans (hbb.mono (by omega))).trans (hbc.mono (by omega))
  have hab : Below wa.heap.size wa w1 := hbb.trans (hbc.mono (by omega))
  have g0 := later hab (Nat.le_refl _) a0
  have g1 := later hab (Nat.le_refl _) a1
  have g2 := later hab (Nat.le_refl _) a2
  have g3 := later hab (Nat.le_refl _) a3
  have g4 := later hab (Nat.le_refl _) a4
  have e0 := later hbc (Nat.le_refl _) b0
  have e1 := later hbc (Nat.le_refl _) b1
  rw [hsa] at e0 e1
  clear a0 a1 a2 a3 a4 b0 b1 hbb hbc hab hba hsa hsb hwa hwb hw1a
  have HB1 := Lib.hid hb1
  have HY1 := Lib.hid (h2.below hb1)
  have HF1 := Lib.hid (hf.below hb1)
  have HV1 := Lib.hid (hv.below hb1)
  have HOK := Lib.hid ok
  have HT1 := Lib.hid ht1
  have hl7 := hcy.len1
  have hc28 : c2 ≤ 8 := by have := hcy.dimZ ((n : Int) + s); omega
  obtain ⟨hs0, hs1⟩ := hs
  refine Sl.cases HF1.out (fun _ _ hx _ => absurd hn (by simp [hx])) (fun bf of cf2 hvf _ _ hcf => ?_)
  injection hvf with k1 k2 k3
  clear k2
  subst k1 k3
  obtain ⟨ut, hut, hrt⟩ := hcf n hn
  rw [← getD_of_lt [] hn, ← ht] at hrt
  obtain ⟨at', ct, hus⟩ := Sl.shape hrt
  rw [← htn] at hus
  subst hus
  have HRT := Lib.hid hrt
  have HDA : Hid (∀ W, Below w1.heap.size w1 W → Calls Try.prog 128 #[.agg #[.int .i64 p2, .slice ad2 ds2.length cap2, .slice am2 ms2.length capm2], .int .i64 ((n : Int) + s)] W (BR (.int .i64 (c2 : Int)) W)) := Lib.hid (fun W h => by
    have := dimAt_any p2 ((n : Int) + s) _ _ ds2 ms2 W (HY1.out.below h) (by omega)
    rwa [hc2] at this)
  have HAP : Hid (∀ W, Below w1.heap.size w1 W → Calls Try.prog 102 #[.int .i64 p2, .slice av vs.length cv, .slice at' tn ct, .int .i64 (c2 : Int)] W (ApW p2 c2 vs t W)) := Lib.hid (fun W h => applyTablew_any p2 c2 _ _ vs _ W HOK.out (HV1.out.below h) (HRT.out.below h) hmv (by omega))
  have HIN : Hid (∀ W, Calls Try.prog 78 #[.int .i64 (n : Int), .int .i64 0, .int .i64 ((fs.length : Int) - 1)] W (QW (.bool true) W)) := Lib.hid (fun W => in_yes (by omega) W)
  have hwk : IntKind.i64.wrap ((n : Int) + s) = (n : Int) + s := IntWalk.i64_in _ (by omega)
  have HRES : Hid (Try.f105.results = #[.cell 4 151]) := Lib.hid (by kernel_rfl)
  have HIE : Hid ((Try.prog.info? 151).map (·.size) = some 2) := Lib.hid (by kernel_rfl)
  clear h2 hf hv hcy hc2 ok hcf hrt hb1 ht1 ht htn
  go_enter Try.func105, Try.ntmps105
  go_upto_region 1 with fail
  rw [← hw1]
  clear hw1
  go_wp2_with fail
  refine (HIN.out _).mono ?_
  rintro e w' ⟨rfl, rfl⟩
  clear HIN
  go_upto_region 5 with fail
  have S0 : Hid (Below w1.heap.size w1 w1.drew) := Lib.hid (Below.refl _ _).drew
  refine wp_region_last (fun W => Hid (Below w1.heap.size w1 W)) 13 (by kernel_rfl) rfl (by kernel_rfl) ?_
  refine held_take (i := 0) (v := .int .i64 ((n : Int) + s)) (some 25) rfl rfl (by kernel_rfl) (by kernel_rfl) (by kernel_rfl) (fun _ _ _ h => h) (yieldsIf_move (by kernel_rfl) rfl (by kernel_rfl)) S0 ?_
  refine held_take (i := 1) (v := .pointer (some ⟨w.heap.size, 0, none⟩)) (some 26) rfl rfl (by kernel_rfl) (by kernel_rfl) (by kernel_rfl) (fun _ _ _ h => h) (yieldsIf_run (by kernel_rfl) (fun W _ => by kernel_rfl)) S0 ?_
  refine held_take (i := 2) (v := .pointer (some ⟨w.heap.size, 0, none⟩)) (some 27) rfl rfl (by kernel_rfl) (by kernel_rfl) (by kernel_rfl) (fun _ _ _ h => h) (yieldsIf_run (by kernel_rfl) (fun W _ => by kernel_rfl)) S0 ?_
  refine held_take (i := 3) (v := .int .i64 p2) (some 28) rfl rfl (by kernel_rfl) (by kernel_rfl) (by kernel_rfl) (fun _ _ _ h => h) (yieldsIf_cell (by kernel_rfl) rfl (by kernel_rfl) (fun W h => hload W (later h.out (Nat.le_refl _) g0))) S0 ?_
  refine held_take (i := 4) (v := .pointer (some ⟨w.heap.size + 1, 1, none⟩)) (some 29) rfl rfl (by kernel_rfl) (by kernel_rfl) (by kernel_rfl) (fun _ _ _ h => h) (yieldsIf_run (by kernel_rfl) (fun W _ => by kernel_rfl)) S0 ?_
  refine held_take (i := 5) (v := .slice av vs.length cv) (some 30) rfl rfl (by kernel_rfl) (by kernel_rfl) (by kernel_rfl) (fun _ _ _ h => h) (yieldsIf_cell (by kernel_rfl) rfl (by kernel_rfl) (fun W h => hloadS W (later h.out (Nat.le_refl _) e1))) S0 ?_
  refine held_take (i := 6) (v := .slice at' tn ct) (some 31) rfl rfl (by kernel_rfl) (by kernel_rfl) (by kernel_rfl) (fun _ _ _ h => h) (yieldsIf_move (by kernel_rfl) rfl (by kernel_rfl)) S0 ?_
  refine held_take (i := 7) (v := .pointer (some ⟨w.heap.size, 0, none⟩)) (some 32) rfl rfl (by kernel_rfl) (by kernel_rfl) (by kernel_rfl) (fun _ _ _ h => h) (yieldsIf_run (by kernel_rfl) (fun W _ => by kernel_rfl)) S0 ?_
  refine held_take (i := 8) (v := .agg #[.int .i64 p2, .slice ad2 ds2.length cap2, .slice am2 ms2.length capm2]) (some 33) rfl rfl (by kernel_rfl) (by kernel_rfl) (by kernel_rfl) (fun _ _ _ h => h) (yieldsIf_cell (by kernel_rfl) rfl (by kernel_rfl) (fun W h => hloadC W (later h.out (Nat.le_refl _) g0) (later h.out (Nat.le_refl _) g1) (later h.out (Nat.le_refl _) g2))) S0 ?_
  refine held_take (i := 9) (v := .int .i64 ((n : Int) + s)) (some 34) rfl rfl (by kernel_rfl) (by kernel_rfl) (by kernel_rfl) (fun _ _ _ h => h) (yieldsIf_move (by kernel_rfl) rfl (by kernel_rfl)) S0 ?_
  refine held_enter (i := 10) (some 35) (f := 128) (args := #[.agg #[.int .i64 p2, .slice ad2 ds2.length cap2, .slice am2 ms2.length capm2], .int .i64 ((n : Int) + s)]) (by kernel_rfl) rfl rfl rfl (by kernel_rfl) (HDA.out _ S0.out) ?_ (fun c w' h => by cases h.1) (fun w' h => by cases h.1)
  rintro e4 W4 ⟨he4, hb4⟩
  injection he4 with he4
  subst he4
  have S1 : Hid (Below w1.heap.size w1 W4) := Lib.hid (S0.out.trans hb4)
  refine ⟨S1, ?_⟩
  clear hb4
  refine held_enter (i := 11) (some 36) (f := 102) (args := #[.int .i64 p2, .slice av vs.length cv, .slice at' tn ct, .int .i64 (c2 : Int)]) (by kernel_rfl) rfl rfl rfl (by kernel_rfl) (HAP.out _ S1.out) ?_ (fun c w' h => by obtain ⟨_, h, _⟩ := h; cases h) (fun w' h => by obtain ⟨_, h, _⟩ := h; cases h)
  rintro e5 W5 ⟨u5, he5, hw5, hb5⟩
  injection he5 with he5
  subst he5
  have S2 : Hid (Below w1.heap.size w1 W5) := Lib.hid (S1.out.trans (hb5.mono S1.out.size))
  have HW5 := Lib.hid hw5
  have hs4 : w1.heap.size ≤ W4.heap.size := S1.out.size
  obtain ⟨au, cu, hus⟩ := Sl.shape hw5.l1
  rw [apT_length' HOK.out] at hus
  subst hus
  refine ⟨S2, ?_⟩
  clear hb5 hw5
  refine held_take (i := 12) (v := .agg #[.int .i64 ((n : Int) + s), .slice au c2 cu]) (some 37) rfl rfl (by kernel_rfl) (by kernel_rfl) (by kernel_rfl) (fun _ _ _ h => h) (yieldsIf_run (by kernel_rfl) (fun W _ => by kernel_rfl)) S2 ?_
  refine held_none (i := 13) (v := .bool false) rfl rfl (by kernel_rfl) (by kernel_rfl) (by kernel_rfl) (fun _ _ _ h => h) (yieldsIf_move (by kernel_rfl) rfl (by kernel_rfl)) S2 ?_
  have hth : W5.there (w.heap.size + 2) 0 (#[.int .i64 ((n : Int) + s), .slice au c2 cu] : Array Value).size := there_below HT1.out S2.out (by omega)
  have x0 := hth 0 (by simp)
  have x1 := hth 1 (by simp)
  refine wpAnyH_done (by kernel_rfl) (lastQ_store rfl (by kernel_rfl) (by kernel_rfl) 151 (.tmp 4) (.tmp 37) (by kernel_rfl) (w.heap.size + 2) 0 #[.int .i64 ((n : Int) + s), .slice au c2 cu] (by kernel_rfl) (by kernel_rfl) hth HIE.out (by kernel_rfl) ?_) _
  simp only [Act.put, List.setIfInBounds_toArray, List.set_cons_zero, List.set_cons_succ]
  obtain ⟨W6, hW6⟩ : ∃ W6, W6 = W5.setCells (w.heap.size + 2) 0 [.int .i64 ((n : Int) + s), .slice au c2 cu] := ⟨_, rfl⟩
  have h6 : W6 = (W5.setCell ⟨w.heap.size + 2, 0, none⟩ (.int .i64 ((n : Int) + s))).setCell ⟨w.heap.size + 2, 1, none⟩ (.slice au c2 cu) := by rw [hW6]; rfl
  have HB6 : Hid (Below w.heap.size w W6) := Lib.hid (by
    rw [h6]
    exact (((HB1.out.trans (S2.out.mono HB1.out.size))).setCell (by show w.heap.size ≤ w.heap.size + 2; omega) _).setCell (by show w.heap.size ≤ w.heap.size + 2; omega) _)
  have HW6 : Hid (W1 w.heap.size W6.heap.size W6 (.slice au c2 cu) (apT p2 c2 vs t)) := Lib.hid (by
    have hs6 : W6.heap.size = W5.heap.size := by rw [h6]; simp
    rw [hs6]
    refine (HW5.out.same ?_).wider (by omega) (Nat.le_refl _)
    rw [h6]
    exact (Same.set _ (Or.inl (by omega))).trans (Same.set _ (Or.inl (by omega))))
  obtain ⟨y0, hy0⟩ := Option.isSome_iff_exists.1 x0.1
  obtain ⟨y1, hy1⟩ := Option.isSome_iff_exists.1 x1.1
  have f0 : W6.cell? ⟨w.heap.size + 2, 0, none⟩ = some (.int .i64 ((n : Int) + s)) := by
    rw [h6, World.cell?_setCell_other _ _ _ _ (by simp)]
    exact World.cell?_setCell_same _ _ _ hy0
  have f1 : W6.cell? ⟨w.heap.size + 2, 1, none⟩ = some (.slice au c2 cu) := by
    rw [h6]
    exact World.cell?_setCell_same _ _ _ (by rw [World.cell?_setCell_other _ _ _ _ (by simp)]; exact hy1)
  rw [← hW6]
  clear hW6 h6 hy0 hy1 x0 x1 hth S0 S1 S2 g0 g1 g2 g3 g4 e0 e1 hwk
  go_wp2
  refine bodyPost_ret (v := .agg #[.int .i64 ((n : Int) + s), .slice au c2 cu]) ?_ rfl ⟨.slice au c2 cu, rfl, HW6.out, HB6.out⟩
  simp only [results, HRES.out]
  go_simp
end Go.Proofs.Ytchijefibiaphaa


namespace Go.Proofs.Ytchijefibiaphaa
open Go.RowKit

/-- The first k tables of m, in order, each in blocks of its own. -/
structure FamT (W : World) (G m k : Nat) (f : Nat → Value) (gs rs cs : Nat → Nat) (Z : Nat → Nat → Nat → Int) : Prop where
  row : W.rowIs G 61 m f
  val : ∀ j, j < k → f j = .slice (some ⟨gs j, 0, none⟩) (rs j) (rs j)
  lo : ∀ j, j < k → G < gs j
  inc : ∀ j, j + 1 < k → gs j + 1 + rs j ≤ gs (j + 1)
  tb : ∀ j, j < k → Tb W (gs j) (rs j) (cs j) (Z j)
theorem FamT.start {W : World} {G m : Nat} {f : Nat → Value} {gs rs cs : Nat → Nat} {Z : Nat → Nat → Nat → Int} (h : W.rowIs G 61 m f) : FamT W G m 0 f gs rs cs Z :=
  ⟨h, fun _ h => absurd h (Nat.not_lt_zero _), fun _ h => absurd h (Nat.not_lt_zero _), fun _ h => absurd h (Nat.not_lt_zero _), fun _ h => absurd h (Nat.not_lt_zero _)⟩
theorem FamT.below {W W' : World} {G m k : Nat} {f : Nat → Value} {gs rs cs : Nat → Nat} {Z : Nat → Nat → Nat → Int} (h : FamT W G m k f gs rs cs Z) (hb : Below W.heap.size W W') : FamT W' G m k f gs rs cs Z :=
  ⟨h.row.of_block (hb.block _ h.row.lt), h.val, h.lo, h.inc, fun j hj => (h.tb j hj).below hb⟩
theorem FamT.step {W w1 : World} {G m k r c : Nat} {f : Nat → Value} {gs rs cs : Nat → Nat} {Z : Nat → Nat → Nat → Int} (h : FamT W G m k f gs rs cs Z) (_hk : k < m) (hr : r = rs k) (hc : c = cs k) (hm : Mat W w1 r c (Z k)) :
    FamT (w1.setCell ⟨G, k, none⟩ (.slice (some ⟨W.heap.size, 0, none⟩) r r)) G m (k + 1) (fun j => if j = k then .slice (some ⟨W.heap.size, 0, none⟩) r r else f j) (fun j => if j = k then W.heap.size else gs j) rs cs Z := by
  subst hr hc
  have hlt := h.row.lt
  have hb := hm.below
  refine ⟨(h.row.of_block (hb.block _ hlt)).set k _, fun j hj => ?_, fun j hj => ?_, fun j hj => ?_, fun j hj => ?_⟩
  · by_cases e : j = k
    · subst e; simp
    · simp only [if_neg e]; exact h.val j (by omega)
  · by_cases e : j = k
    · simp only [if_pos e]; exact hlt
    · simp only [if_neg e]; exact h.lo j (by omega)
  · have hjk : ¬ j = k := by omega
    simp only [if_neg hjk]
    by_cases e : j + 1 = k
    · simp only [if_pos e]; exact (h.tb j (by omega)).lt
    · simp only [if_neg e]; exact h.inc j (by omega)
  · by_cases e : j = k
    · subst e
      simp only [if_true]
      exact hm.tb.out (Or.inl hlt) _
    · simp only [if_neg e]
      exact ((h.tb j (by omega)).below hb).out (Or.inl (h.lo j (by omega))) _
theorem FamT.ord {W : World} {G m k : Nat} {f : Nat → Value} {gs rs cs : Nat → Nat} {Z : Nat → Nat → Nat → Int} (h : FamT W G m k f gs rs cs Z) {i j : Nat} (hij : i < j) (hj : j < k) : gs i + 1 + rs i ≤ gs j := by
  induction j with
  | zero => exact absurd hij (Nat.not_lt_zero _)
  | succ j ih =>
    have h1 := h.inc j hj
    by_cases e : i = j
    · subst e; exact h1
    · have := ih (by omega) (by omega)
      omega
theorem FamT.congr {W : World} {G m k : Nat} {f : Nat → Value} {gs rs cs : Nat → Nat} {Z Z' : Nat → Nat → Nat → Int} (h : FamT W G m k f gs rs cs Z) (e : ∀ n, n < k → ∀ j, j < rs n → ∀ i, i < cs n → Z n j i = Z' n j i) : FamT W G m k f gs rs cs Z' :=
  ⟨h.row, h.val, h.lo, h.inc, fun j hj => (h.tb j hj).congr (e j hj)⟩
/-- One row is laid anew. -/
theorem FamT.put {W W' : World} {G m k : Nat} {f : Nat → Value} {gs rs cs : Nat → Nat} {Z : Nat → Nat → Nat → Int} (h : FamT W G m k f gs rs cs Z) {n i : Nat} (hn : n < k) (hi : i < rs n) {y : Nat → Int} (hb : But (gs n + 1 + i) W W') (hr : W'.rowIs (gs n + 1 + i) 2 (cs n) (fun q => .int .i64 (y q))) :
    FamT W' G m k f gs rs cs (fun n2 i2 q => if n2 = n ∧ i2 = i then y q else Z n2 i2 q) := by
  have hl := h.lo n hn
  refine ⟨h.row.of_block (hb.block _ h.row.lt (by omega)), h.val, h.lo, h.inc, fun j hj => ?_⟩
  have hT := h.tb j hj
  by_cases e : j = n
  · subst e
    refine ⟨hT.top.of_block (hb.block _ hT.top.lt (by omega)), fun i2 hi2 => ?_, Nat.le_trans hT.lt hb.size⟩
    by_cases e2 : i2 = i
    · subst e2
      exact hr.congr (fun q _ => by simp)
    · exact ((hT.rows i2 hi2).of_block (hb.block _ (hT.rows i2 hi2).lt (by omega))).congr (fun q _ => by simp [e2])
  · have hd : gs j + 1 + rs j ≤ gs n ∨ gs n + 1 + rs n ≤ gs j := by
      by_cases e3 : j < n
      · exact Or.inl (h.ord e3 hn)
      · exact Or.inr (h.ord (by omega) hj)
    refine ⟨hT.top.of_block (hb.block _ hT.top.lt (by omega)), fun i2 hi2 => ?_, Nat.le_trans hT.lt hb.size⟩
    exact ((hT.rows i2 hi2).of_block (hb.block _ (hT.rows i2 hi2).lt (by omega))).congr (fun q _ => by simp [e])
/-- The tables as lists. -/
def famL (m : Nat) (rs cs : Nat → Nat) (Z : Nat → Nat → Nat → Int) : List (List (List Int)) := (List.range m).map fun n => tableOf (rs n) (cs n) (Z n)
theorem famL_length (m : Nat) (rs cs : Nat → Nat) (Z : Nat → Nat → Nat → Int) : (famL m rs cs Z).length = m := by simp [famL]
theorem FamT.rw3 {lo : Nat} {W : World} {G m : Nat} {f : Nat → Value} {gs rs cs : Nat → Nat} {Z : Nat → Nat → Nat → Int} (h : FamT W G m m f gs rs cs Z) (hl : lo ≤ G) (hm : m ≤ 1048576) (hrs : ∀ j, j < m → rs j ≤ 1048576 ∧ cs j ≤ 1048576) :
    Rw3 lo W.heap.size W (.slice (some ⟨G, 0, none⟩) m m) (famL m rs cs Z) := by
  have hF : Fill3 W G m m f (fun j => if j < m then gs j else W.heap.size) (famL m rs cs Z) := by
    refine ⟨h.row, ?_, fun j hj => ?_, ?_, fun j hj hjm => ?_⟩
    · by_cases e : 0 < m
      · simp only [if_pos e]; exact h.lo 0 e
      · simp only [if_neg e]; exact h.row.lt
    · simp only [if_pos hj]
      by_cases e : j + 1 < m
      · simp only [if_pos e]; have := h.inc j e; omega
      · simp only [if_neg e]; have := (h.tb j hj).lt; omega
    · simp only [if_neg (Nat.lt_irrefl _)]; exact Nat.le_refl _
    · simp only [if_pos hjm]
      rw [h.val j hjm]
      have e1 : (famL m rs cs Z)[j] = tableOf (rs j) (cs j) (Z j) := by simp [famL]
      rw [e1]
      refine (h.tb j hjm).rw2h (Nat.le_refl _) ?_ (hrs j hjm).1 (hrs j hjm).2
      by_cases e : j + 1 < m
      · simp only [if_pos e]; exact h.inc j e
      · simp only [if_neg e]; exact (h.tb j hjm).lt
  exact (hF.rw3 (by rw [famL_length]) hm).wider hl (Nat.le_refl _)

def rsF (ds : List Int) (n : Nat) : Nat := (ds.getD n 0).toNat
def csF (ds2 : List Int) (s : Int) (n : Nat) : Nat := (dimZ ds2 ((n : Int) + s)).toNat
def FamTR (m : Nat) (rs cs : Nat → Nat) (Z : Nat → Nat → Nat → Int) (w : World) (e : Ending) (w' : World) : Prop :=
  ∃ G f gs, e = .returned (.slice (some ⟨G, 0, none⟩) m m) ∧ w.heap.size ≤ G ∧ FamT w' G m m f gs rs cs Z ∧ Below w.heap.size w w'

set_option maxHeartbeats 3200000 in
set_option maxRecDepth 100000 in
theorem zeroFamT_any (p p2 s : Int) (dv mv dv2 mv2 : Value) (ds : List Int) (ms : List (List (List Int))) (ds2 : List Int) (ms2 : List (List (List Int))) (w : World) (h : Cx 0 w dv mv ds ms) (h2 : Cx 0 w dv2 mv2 ds2 ms2) (hcx : IsCx p ds ms) (hcy : IsCx p2 ds2 ms2) (hs : -1 ≤ s ∧ s ≤ 1) :
    Calls Try.prog 136 #[.agg #[.int .i64 p, dv, mv], .agg #[.int .i64 p2, dv2, mv2], .int .i64 s] w (FamTR ds.length (rsF ds) (csF ds2 s) (fun _ _ _ => 0) w) := by
  obtain ⟨ad, cap, rfl⟩ := Sl.shape h.dims
  obtain ⟨am, capm, rfl⟩ := Sl.shape h.maps
  obtain ⟨ad2, cap2, rfl⟩ := Sl.shape h2.dims
  obtain ⟨am2, capm2, rfl⟩ := Sl.shape h2.maps
  obtain ⟨k1, k2⟩ := bx_two (p := p) (p2 := p2) 30 h h2
  have HX0 := Lib.hid k1
  have HY0 := Lib.hid k2
  have HCX := Lib.hid hcx
  have HCY := Lib.hid hcy
  have hl6 := hcx.1.len1
  have hl7 := hcy.1.len1
  obtain ⟨hs0, hs1⟩ := hs
  have hmk := run_make_row' (P := Try.prog) 23 61 (.slice none 0 0) 24 Try.underlying23 Try.infoSS rfl .i64 .i64 ds.length (by omega) (by omega)
  obtain ⟨w1, hw1⟩ : ∃ w1, w1 = ((w.alloc (.cells #[.int .i64 p, .slice ad ds.length cap, .slice am ms.length capm] 30)).alloc (.cells #[.int .i64 p2, .slice ad2 ds2.length cap2, .slice am2 ms2.length capm2] 30)) := ⟨_, rfl⟩
  rw [← hw1] at HX0 HY0
  have c0 := HX0.out.c0
  have c1 := HX0.out.c1
  have c2 := HX0.out.c2
  have hs1w : w.heap.size < w1.heap.size := HX0.out.lt
  clear h h2 k1 k2 hcx hcy
  go_enter Try.func136, Try.ntmps136
  go_upto_region 1 with fail
  rw [← hw1]
  clear hw1
  go_wp2
  clear hmk c0 c1 c2
  go_loopw [17] (fun i wr => ∃ (k : Nat) (f : Nat → Value) (b : Nat → Nat), k ≤ ds.length ∧ i = .int .i64 k ∧ Hid (Below w1.heap.size w1 wr) ∧ Hid (FamT wr w1.heap.size ds.length k f b (rsF ds) (csF ds2 s) (fun _ _ _ => 0))) (fun i _ => ds.length - (intOf i).toNat)
  case atStart => exact ⟨0, _, fun _ => 0, Nat.zero_le _, rfl, Lib.hid (below_alloc1 _ _), Lib.hid (FamT.start (World.rowIs_made w1 _ _ _))⟩
  case round =>
    obtain ⟨k, f, b, hk, rfl, HB, HF⟩ := hrel
    obtain ⟨wx, hwx⟩ : ∃ wx : World, wx = wr := ⟨_, rfl⟩
    subst hwx
    by_cases hlt : k < ds.length
    · have hX := HX0.out.next HB.out
      have hY := HY0.out.next HB.out
      have HYY := Lib.hid hY
      have hcx0 := hX.cx
      have d0 := hY.c0
      have d1 := hY.c1
      have d2 := hY.c2
      have hdim := HCX.out.1.dim k
      obtain ⟨c, hc⟩ := Int.eq_ofNat_of_zero_le hdim.1
      have hc8 : c ≤ 8 := by omega
      have hz := dimZ_8 HCY.out ((k : Int) + s)
      obtain ⟨c2, hc2⟩ := Int.eq_ofNat_of_zero_le hz.1
      have hc28 : c2 ≤ 8 := by omega
      refine Sl.cases hcx0.dims (fun _ _ hx _ => absurd hlt (by simp [hx])) (fun bd od capd hvd _ _ hcl => ?_)
      injection hvd with e1 e2 e3
      clear e2
      subst e1 e3
      obtain ⟨u, hu, hru⟩ := hcl k hlt
      have hu2 : wx.cell? ⟨bd, od + k, none⟩ = some (.int .i64 (c : Int)) := by rw [hu, hru, ← hc, getD_of_lt _ hlt]
      have HRS : Hid (rsF ds k = c) := Lib.hid (by simp only [rsF]; rw [hc]; simp)
      have HCS : Hid (csF ds2 s k = c2) := Lib.hid (by simp only [csF]; rw [hc2]; simp)
      have HDA : Hid (∀ W, Below wx.heap.size wx W → Calls Try.prog 128 #[.agg #[.int .i64 p2, .slice ad2 ds2.length cap2, .slice am2 ms2.length capm2], .int .i64 ((k : Int) + s)] W (BR (.int .i64 (c2 : Int)) W)) := Lib.hid (fun W h => by
        have := dimAt_any p2 ((k : Int) + s) _ _ ds2 ms2 W (HYY.out.next h).cx (by omega)
        rwa [hc2] at this)
      have hrow := HF.out.row.cell hlt
      have hfro := HF.out.row.frozen k
      have hlr := HF.out.row.lt
      clear hu hru hcl hcx0 hX hY hdim hc hz hc2
      go_wp2_with fail
      refine (HDA.out _ (Below.refl _ _)).mono ?_
      rintro e w2 ⟨rfl, hb2⟩
      have HB2 := Lib.hid (HB.out.trans (hb2.mono HB.out.size))
      have HF2 := Lib.hid (HF.out.below hb2)
      have hrow2 := HF2.out.row.cell hlt
      have hfro2 := HF2.out.row.frozen k
      have hlr2 := HF2.out.row.lt
      clear hb2 hrow hfro hu2 HDA d0 d1 d2 hlr
      go_wp2_with fail
      refine (zeroTable_any c c2 _ (by omega) (by omega)).mono ?_
      rintro e w3 ⟨rfl, hm3⟩
      have HB3 := Lib.hid (HB2.out.trans (hm3.below.mono HB2.out.size))
      have HS3 := Lib.hid (HF2.out.step hlt HRS.out.symm HCS.out.symm hm3)
      have hrow3 := later hm3.below (Nat.le_refl _) hrow2
      have hfro3 : w3.frozen? ⟨w1.heap.size, k, none⟩ = false := (HF2.out.row.of_block (hm3.below.block _ hlr2)).frozen k
      have HB4 : Hid (Below w1.heap.size w1 (w3.setCell ⟨w1.heap.size, k, none⟩ (.slice (some ⟨w2.heap.size, 0, none⟩) c c))) := Lib.hid (HB3.out.setCell (Nat.le_refl _) _)
      clear hm3 hrow2 hfro2
      go_wp2
      go_roundw
      case rel => exact ⟨k + 1, _, _, by omega, by go_num, HB4, HS3⟩
      case measure => simp [intOf]; omega
    · have HKE : Hid (k = ds.length) := Lib.hid (by omega)
      have HXX := Lib.hid (HX0.out.next HB.out)
      go_wp2
      go_ret
      have hf := HF.out
      rw [HKE.out] at hf
      exact ⟨w1.heap.size, f, b, rfl, Nat.le_of_lt hs1w, hf, HXX.out.below⟩
end Go.Proofs.Ytchijefibiaphaa


namespace Go.Proofs.Ytchijefibiaphaa
open Go.RowKit

/-- Number q of what the first k paths make together. -/
def pS (p : Int) (fc : Nat → Int) (v : Nat → List Int) (q : Nat) : Nat → Int
  | 0 => 0
  | k + 1 => addMod p (fc k) (pS p fc v q k) ((v k).getD q 0)
theorem pS_bd {p : Int} (hp : 0 < p ∧ p ≤ 7) (fc : Nat → Int) (v : Nat → List Int) (q k : Nat) : 0 ≤ pS p fc v q k ∧ pS p fc v q k ≤ 6 := by
  cases k with
  | zero => simp [pS]
  | succ k =>
    simp only [pS, addMod]
    have h1 := Int.emod_nonneg (pS p fc v q k + fc k * (v k).getD q 0) (show p ≠ 0 by omega)
    have h2 := Int.emod_lt_of_pos (pS p fc v q k + fc k * (v k).getD q 0) hp.1
    omega
/-- The numbers when the tables ahead of n are done, of table n the rows ahead of i, of row i the paths ahead of k. -/
def spZ (p : Int) (fc : Nat → Int) (V : Nat → Nat → Nat → List Int) (np n i k : Nat) (n2 i2 q : Nat) : Int :=
  if n2 < n ∨ (n2 = n ∧ i2 < i) then pS p fc (V n2 i2) q np else if n2 = n ∧ i2 = i then pS p fc (V n2 i2) q k else 0
theorem spZ_zero (p : Int) (fc : Nat → Int) (V : Nat → Nat → Nat → List Int) (np n2 i2 q : Nat) : spZ p fc V np 0 0 0 n2 i2 q = 0 := by
  simp only [spZ, pS]
  rw [if_neg (by omega)]
  split <;> rfl
theorem spZ_row (p : Int) (fc : Nat → Int) (V : Nat → Nat → Nat → List Int) (np n i n2 i2 q : Nat) : spZ p fc V np n i np n2 i2 q = spZ p fc V np n (i + 1) 0 n2 i2 q := by
  simp only [spZ, pS]
  by_cases h : n2 < n ∨ (n2 = n ∧ i2 < i)
  · rw [if_pos h, if_pos (by omega)]
  · rw [if_neg h]
    by_cases h2 : n2 = n ∧ i2 = i
    · rw [if_pos h2, if_pos (by omega)]
    · rw [if_neg h2, if_neg (by omega)]
      split <;> rfl
theorem spZ_tab (p : Int) (fc : Nat → Int) (V : Nat → Nat → Nat → List Int) (np n r n2 i2 q : Nat) (h2 : n2 = n → i2 < r) : spZ p fc V np n r 0 n2 i2 q = spZ p fc V np (n + 1) 0 0 n2 i2 q := by
  simp only [spZ, pS]
  by_cases h : n2 < n ∨ (n2 = n ∧ i2 < r)
  · rw [if_pos h, if_pos (by omega)]
  · have e1 : ¬ (n2 < n + 1 ∨ (n2 = n + 1 ∧ i2 < 0)) := by omega
    rw [if_neg h, if_neg e1]
    split <;> split <;> rfl
theorem spZ_all (p : Int) (fc : Nat → Int) (V : Nat → Nat → Nat → List Int) (np n n2 i2 q : Nat) (h : n2 < n) : spZ p fc V np n 0 0 n2 i2 q = pS p fc (V n2 i2) q np := by
  simp only [spZ]
  rw [if_pos (Or.inl h)]
theorem spZ_at (p : Int) (fc : Nat → Int) (V : Nat → Nat → Nat → List Int) (np n i k q : Nat) : spZ p fc V np n i k n i q = pS p fc (V n i) q k := by
  simp [spZ]
theorem spZ_put (p : Int) (fc : Nat → Int) (V : Nat → Nat → Nat → List Int) (np n i k n2 i2 q : Nat) : (if n2 = n ∧ i2 = i then addMod p (fc k) (spZ p fc V np n i k n i q) ((V n i k).getD q 0) else spZ p fc V np n i k n2 i2 q) = spZ p fc V np n i (k + 1) n2 i2 q := by
  by_cases h : n2 = n ∧ i2 = i
  · rw [if_pos h, h.1, h.2, spZ_at, spZ_at, pS]
  · rw [if_neg h]
    simp only [spZ]
    by_cases h1 : n2 < n ∨ (n2 = n ∧ i2 < i)
    · rw [if_pos h1, if_pos h1]
    · rw [if_neg h1, if_neg h1, if_neg h, if_neg h]

def unitL (d i : Nat) : List Int := (List.range d).map fun q => if q = i then 1 else 0
theorem Tb.row1 {W : World} {g r c : Nat} {Z : Nat → Nat → Int} (h : Tb W g r c Z) {j : Nat} (hj : j < r) : L1 0 W (.slice (some ⟨g + 1 + j, 0, none⟩) c c) ((List.range c).map (Z j)) := by
  by_cases h0 : c = 0
  · subst h0
    exact Or.inl ⟨rfl, _, _, rfl⟩
  · refine Or.inr ⟨g + 1 + j, 0, c, by simp, Nat.zero_le _, by simp; omega, fun i hi => ?_⟩
    have hi' : i < c := by simpa using hi
    exact ⟨_, by rw [Nat.zero_add]; exact (h.rows j hj).cell hi', by simp [IsI]⟩
theorem Tb.but {W W' : World} {g r c b : Nat} {Z : Nat → Nat → Int} (h : Tb W g r c Z) (hb : But b W W') (ho : b < g ∨ g + 1 + r ≤ b) : Tb W' g r c Z :=
  ⟨h.top.of_block (hb.block _ h.top.lt (by omega)), fun j hj => (h.rows j hj).of_block (hb.block _ (h.rows j hj).lt (by omega)), Nat.le_trans h.lt hb.size⟩

/-- Paths with their factors and maps, in a row at block b. -/
def PathsAt (w : World) (b np : Nat) (fc : Nat → Int) (gl : Nat → List Value) : Prop :=
  ∀ j, j < np → ∃ mv, w.cell? ⟨b, j * 2, none⟩ = some (.int .i64 (fc j)) ∧ w.cell? ⟨b, j * 2 + 1, none⟩ = some mv ∧ MapsAt w mv (gl j) ∧ 0 < (gl j).length ∧ (gl j).length ≤ 1048576

theorem hloadP (w : World) {b : Nat} {x y : Value} (c0 : w.cell? ⟨b, 0, none⟩ = some x) (c1 : w.cell? ⟨b, 1, none⟩ = some y) : (Instr.loadAt 123 (.pointer (some ⟨b, 0, none⟩))).run Try.prog w = .ok (.agg #[x, y]) w := by go_simp

end Go.Proofs.Ytchijefibiaphaa


namespace Go.Proofs.Ytchijefibiaphaa
open Go.RowKit

set_option maxHeartbeats 6400000 in
set_option maxRecDepth 100000 in
theorem sumOfPathsD_any (p p2 s : Int) (np bp cp : Nat) (fc : Nat → Int) (gl : Nat → List Value) (V : Nat → Nat → Nat → List Int) (dv mv dv2 mv2 : Value) (ds : List Int) (ms : List (List (List Int))) (ds2 : List Int) (ms2 : List (List (List Int))) (w : World) (h : Cx 0 w dv mv ds ms) (h2 : Cx 0 w dv2 mv2 ds2 ms2) (hcx : IsCx p ds ms) (hcy : IsCx p2 ds2 ms2) (hs : -1 ≤ s ∧ s ≤ 1)
    (hP : PathsAt w bp np fc gl) (hfc : ∀ j, j < np → 0 ≤ fc j ∧ fc j ≤ 6) (hnp : np ≤ 100) (hch : ∀ n, n < ds.length → ∀ i, i < rsF ds n → ∀ j, j < np → ∃ z, Chain w (gl j) (n : Int) (unitL (rsF ds n) i) z (V n i j)) (hV : ∀ n, n < ds.length → ∀ i, i < rsF ds n → ∀ j, j < np → (V n i j).length = csF ds2 s n ∧ ∀ y ∈ V n i j, 0 ≤ y ∧ y ≤ 6) :
    Calls Try.prog 107 #[.agg #[.int .i64 p, dv, mv], .agg #[.int .i64 p2, dv2, mv2], .int .i64 s, .slice (some ⟨bp, 0, none⟩) np cp] w (Fam3D ds.length (famL ds.length (rsF ds) (csF ds2 s) fun n i q => pS p fc (V n i) q np) w) := by
  obtain ⟨ad, cap, rfl⟩ := Sl.shape h.dims
  obtain ⟨am, capm, rfl⟩ := Sl.shape h.maps
  obtain ⟨ad2, cap2, rfl⟩ := Sl.shape h2.dims
  obtain ⟨am2, capm2, rfl⟩ := Sl.shape h2.maps
  obtain ⟨k1, k2⟩ := bx_two (p := p) (p2 := p2) 30 h h2
  have HX0 := Lib.hid k1
  have HY0 := Lib.hid k2
  have HCX := Lib.hid hcx
  have HCY := Lib.hid hcy
  have HS := Lib.hid hs
  have HP := Lib.hid hP
  have HFC := Lib.hid hfc
  have HCH := Lib.hid hch
  have HV := Lib.hid hV
  have hl6 := hcx.1.len1
  have hp27 : 2 ≤ p ∧ p ≤ 7 := ⟨hcx.1.prime.lo, hcx.1.prime.hi⟩
  obtain ⟨hp2, hp7⟩ := hp27
  obtain ⟨w1, hw1⟩ : ∃ w1, w1 = ((w.alloc (.cells #[.int .i64 p, .slice ad ds.length cap, .slice am ms.length capm] 30)).alloc (.cells #[.int .i64 p2, .slice ad2 ds2.length cap2, .slice am2 ms2.length capm2] 30)) := ⟨_, rfl⟩
  rw [← hw1] at HX0 HY0
  have c0 := HX0.out.c0
  have c1 := HX0.out.c1
  have c2 := HX0.out.c2
  have d0 := HY0.out.c0
  have d1 := HY0.out.c1
  have d2 := HY0.out.c2
  have hs1w : w.heap.size < w1.heap.size := HX0.out.lt
  have HB01 := Lib.hid HX0.out.below
  have HZF := Lib.hid (zeroFamT_any p p2 s _ _ _ _ ds ms ds2 ms2 w1 HX0.out.cx HY0.out.cx hcx hcy hs)
  clear h h2 k1 k2 hcx hcy hP hfc hch hV hs
  go_enter Try.func107, Try.ntmps107
  go_upto_region 1 with fail
  rw [← hw1]
  clear hw1
  go_wp2_with fail
  refine HZF.out.mono ?_
  rintro e w2 ⟨G, f, gs, rfl, hG, hF, hb2⟩
  have HF := Lib.hid (hF.congr (Z' := spZ p fc V np 0 0 0) (fun n _ j _ q _ => (spZ_zero p fc V np n j q).symm))
  have HB2 := Lib.hid hb2
  clear hF hb2 HZF c0 c1 c2 d0 d1 d2
  go_wp2
  go_loopw [22] (fun i wr => ∃ (n : Nat), n ≤ ds.length ∧ i = .int .i64 n ∧ Hid (Below w1.heap.size w1 wr) ∧ Hid (FamT wr G ds.length ds.length f gs (rsF ds) (csF ds2 s) (spZ p fc V np n 0 0))) (fun i _ => ds.length - (intOf i).toNat)
  case atStart => exact ⟨0, Nat.zero_le _, rfl, HB2, HF⟩
  case round =>
    obtain ⟨n, hn, rfl, HB, HFR⟩ := hrel
    obtain ⟨wx, hwx⟩ : ∃ wx : World, wx = wr := ⟨_, rfl⟩
    subst hwx
    by_cases hlt : n < ds.length
    · have hX := HX0.out.next HB.out
      have c1 := hX.c1
      obtain ⟨r, hr⟩ : ∃ r, r = rsF ds n := ⟨_, rfl⟩
      have hdim := HCX.out.1.dim n
      have hr2 : ds.getD n 0 = (r : Int) := by rw [hr]; simp only [rsF]; omega
      have hr8 : r ≤ 8 := by omega
      obtain ⟨c, hc⟩ : ∃ c, c = csF ds2 s n := ⟨_, rfl⟩
      have hc8 : c ≤ 8 := by rw [hc]; simp only [csF]; have := dimZ_8 HCY.out ((n : Int) + s); omega
      refine Sl.cases hX.cx.dims (fun _ _ hx _ => absurd hlt (by simp [hx])) (fun bd od capd hvd _ _ hcl => ?_)
      injection hvd with e1 e2 e3
      clear e2
      subst e1 e3
      obtain ⟨u, hu, hru⟩ := hcl n hlt
      have hu2 : wx.cell? ⟨bd, od + n, none⟩ = some (.int .i64 (r : Int)) := by rw [hu, hru, ← hr2, getD_of_lt _ hlt]
      obtain ⟨g, hg⟩ : ∃ g, g = gs n := ⟨_, rfl⟩
      have hrow : wx.cell? ⟨G, n, none⟩ = some (.slice (some ⟨g, 0, none⟩) r r) := by have := HFR.out.row.cell hlt; rwa [HFR.out.val n hlt, ← hr, ← hg] at this
      have HR := Lib.hid hr
      have HC := Lib.hid hc
      have HG := Lib.hid hg
      clear hu hru hcl hX hdim hr2 hr hc hg
      go_wp2_with fail
      refine (identityTable_any r _ (by omega)).mono ?_
      rintro e w3 ⟨rfl, hm3⟩
      have HB3 := Lib.hid (HB.out.trans (hm3.below.mono HB.out.size))
      have HF3 := Lib.hid (HFR.out.below hm3.below)
      have HU3 : Hid (Tb w3 wx.heap.size r r (fun j i => if i = j then 1 else 0)) := Lib.hid hm3.tb
      obtain ⟨gi, hgi⟩ : ∃ gi, gi = wx.heap.size := ⟨_, rfl⟩
      have hgg : g + 1 + r ≤ gi := by have := (HFR.out.tb n hlt).lt; rw [← HR.out, ← HG.out, ← hgi] at this; exact this
      have hg1 : w1.heap.size < g := by have := HFR.out.lo n hlt; rw [← HG.out] at this; omega
      rw [← hgi] at HU3 ⊢
      have HF0 := Lib.hid HFR.out
      clear hm3 hrow hu2 c1 hgi
      go_wp2
      go_loopw [34] (fun i wr => ∃ (i0 : Nat), i0 ≤ r ∧ i = .int .i64 i0 ∧ Hid (Below w1.heap.size w1 wr) ∧ Hid (FamT wr G ds.length ds.length f gs (rsF ds) (csF ds2 s) (spZ p fc V np n i0 0)) ∧ Hid (Tb wr gi r r (fun j i => if i = j then 1 else 0))) (fun i _ => r - (intOf i).toNat)
      case atStart => exact ⟨0, Nat.zero_le _, rfl, HB3, HF3, HU3⟩
      case round =>
        obtain ⟨i0, hi0, rfl, HB4, HF4, HU4⟩ := hrel
        obtain ⟨wy, hwy⟩ : ∃ wy : World, wy = wr := ⟨_, rfl⟩
        subst hwy
        by_cases hlt2 : i0 < r
        · have hurow := HU4.out.top.cell hlt2
          go_wp2
          clear hurow
          go_loopw [41] (fun i wr => ∃ (k : Nat), k ≤ np ∧ i = .int .i64 k ∧ Hid (Below w1.heap.size w1 wr) ∧ Hid (FamT wr G ds.length ds.length f gs (rsF ds) (csF ds2 s) (spZ p fc V np n i0 k)) ∧ Hid (Tb wr gi r r (fun j i => if i = j then 1 else 0))) (fun i _ => np - (intOf i).toNat)
          case atStart => exact ⟨0, Nat.zero_le _, rfl, HB4, HF4, HU4⟩
          case round =>
            obtain ⟨k, hk, rfl, HB5, HF5, HU5⟩ := hrel
            obtain ⟨wz, hwz⟩ : ∃ wz : World, wz = wr := ⟨_, rfl⟩
            subst hwz
            by_cases hlt3 : k < np
            · obtain ⟨mvv, hq0, hq1, hma, hgl0, hgl1⟩ := HP.out k hlt3
              have HBW : Hid (Below w.heap.size w wz) := Lib.hid (HB01.out.trans (HB5.out.mono HB01.out.size))
              have q0 := later HBW.out (Nat.le_refl _) hq0
              have q1 := later HBW.out (Nat.le_refl _) hq1
              have HMA := Lib.hid hma
              obtain ⟨bm, om, cm, hmv, _⟩ := hma
              subst hmv
              obtain ⟨wq, hwq⟩ : ∃ wq, wq = wz.alloc (.cells #[.int .i64 (fc k), .slice (some ⟨bm, om, none⟩) (gl k).length cm] 123) := ⟨_, rfl⟩
              have hbq : Below wz.heap.size wz wq := by rw [hwq]; exact below_alloc1 _ _
              have pa0 : wq.cell? ⟨wz.heap.size, 0, none⟩ = some (.int .i64 (fc k)) := by rw [hwq]; simp
              have pa1 : wq.cell? ⟨wz.heap.size, 1, none⟩ = some (.slice (some ⟨bm, om, none⟩) (gl k).length cm) := by rw [hwq]; simp
              have hsq : wq.heap.size = wz.heap.size + 1 := by rw [hwq]; simp
              have HFQ := Lib.hid (HF5.out.below hbq)
              have HUQ := Lib.hid (HU5.out.below hbq)
              have HTQ : Hid (Tb wq g r c (spZ p fc V np n i0 k n)) := Lib.hid (by have := HFQ.out.tb n hlt; rwa [← HG.out, ← HR.out, ← HC.out] at this)
              have HBQ : Hid (Below w1.heap.size w1 wq) := Lib.hid (HB5.out.trans (hbq.mono HB5.out.size))
              have HBWQ : Hid (Below w.heap.size w wq) := Lib.hid (HBW.out.trans (hbq.mono HBW.out.size))
              have hgz : gi + 1 + r ≤ wz.heap.size := HU5.out.lt
              have hxq := HX0.out.next HBQ.out
              have x0 := hxq.c0
              have hgw : w.heap.size < w1.heap.size := hs1w
              obtain ⟨b, hb⟩ : ∃ b, b = g + 1 + i0 := ⟨_, rfl⟩
              have HROW : Hid (wq.rowIs b 2 c (fun q => .int .i64 (spZ p fc V np n i0 k n i0 q))) := Lib.hid (by rw [hb]; exact HTQ.out.rows i0 hlt2)
              have hbb : g < b ∧ b < gi ∧ b < wz.heap.size := by omega
              have htop : wq.cell? ⟨g, 0 + i0, none⟩ = some (.slice (some ⟨b, 0, none⟩) c c) := by rw [hb, Nat.zero_add]; exact HTQ.out.top.cell hlt2
              obtain ⟨hbb1, hbb2, hbb3⟩ := hbb
              have HADD : Hid (Calls Try.prog 138 #[.agg #[.int .i64 (fc k), .slice (some ⟨bm, om, none⟩) (gl k).length cm], .int .i64 p, .slice (some ⟨b, 0, none⟩) c c, .agg #[.int .i64 (n : Int), .slice (some ⟨gi + 1 + i0, 0, none⟩) r r]] wq.drew (AddR b c (fun q => addMod p (fc k) (spZ p fc V np n i0 k n i0 q) ((V n i0 k).getD q 0)) wq.drew)) := Lib.hid (by
                obtain ⟨z, hz⟩ := HCH.out n hlt i0 (by rw [← HR.out]; exact hlt2) k hlt3
                obtain ⟨hv1, hv2⟩ := HV.out n hlt i0 (by rw [← HR.out]; exact hlt2) k hlt3
                rw [← HR.out] at hz
                rw [← HC.out] at hv1
                exact addTo_any p (fc k) n z b c _ (unitL r i0) (V n i0 k) (gl k) _ _ w wq.drew HBWQ.out.drew HROW.out.drew HMA.out ⟨hgl0, hgl1⟩ ((HUQ.out.below (Below.refl _ _).drew).row1 hlt2) hz (by omega) (HFC.out k hlt3) (fun q _ => by rw [spZ_at]; exact pS_bd (by omega) fc (V n i0) q k) hv1 hv2 (by omega))
              have S0 : Hid (But b wq wq.drew) := Lib.hid (But.refl _ _).drew
              have HSQ : Hid (∀ W, But b wq W → W.cell? ⟨wz.heap.size, 0, none⟩ = some (.int .i64 (fc k)) ∧ W.cell? ⟨wz.heap.size, 1, none⟩ = some (.slice (some ⟨bm, om, none⟩) (gl k).length cm) ∧ W.cell? ⟨w.heap.size, 0, none⟩ = some (.int .i64 p) ∧ W.cell? ⟨g, 0 + i0, none⟩ = some (.slice (some ⟨b, 0, none⟩) c c)) := Lib.hid (fun W h => ⟨by rw [h.cell (by omega) (by omega)]; exact pa0, by rw [h.cell (by omega) (by omega)]; exact pa1, by rw [h.cell (cell_lt x0) (by omega)]; exact x0, by rw [h.cell (cell_lt htop) (by omega)]; exact htop⟩)
              clear hq0 hq1 hxq x0 htop pa0 pa1 hbq
              go_upto_region 11 with fail
              rw [← hwq]
              refine wp_region_held_drew (S := fun W => Hid (But b wq W)) (by kernel_rfl) S0 (fun _ => ?_)
              refine held_take (i := 0) (v := .agg #[.int .i64 (fc k), .slice (some ⟨bm, om, none⟩) (gl k).length cm]) (some 45) rfl rfl (by kernel_rfl) (by kernel_rfl) (by kernel_rfl) (fun _ _ _ h => h) (yieldsIf_cell (by kernel_rfl) rfl (by kernel_rfl) (fun W h => hloadP W (HSQ.out W h.out).1 (HSQ.out W h.out).2.1)) S0 ?_
              refine held_take (i := 1) (v := .pointer (some ⟨w.heap.size, 0, none⟩)) (some 46) rfl rfl (by kernel_rfl) (by kernel_rfl) (by kernel_rfl) (fun _ _ _ h => h) (yieldsIf_run (by kernel_rfl) (fun W _ => by kernel_rfl)) S0 ?_
              refine held_take (i := 2) (v := .int .i64 p) (some 47) rfl rfl (by kernel_rfl) (by kernel_rfl) (by kernel_rfl) (fun _ _ _ h => h) (yieldsIf_cell (by kernel_rfl) rfl (by kernel_rfl) (fun W h => hload W (HSQ.out W h.out).2.2.1)) S0 ?_
              refine held_take (i := 3) (v := .slice (some ⟨g, 0, none⟩) r r) (some 48) rfl rfl (by kernel_rfl) (by kernel_rfl) (by kernel_rfl) (fun _ _ _ h => h) (yieldsIf_move (by kernel_rfl) rfl (by kernel_rfl)) S0 ?_
              refine held_take (i := 4) (v := .int .i64 (i0 : Int)) (some 49) rfl rfl (by kernel_rfl) (by kernel_rfl) (by kernel_rfl) (fun _ _ _ h => h) (yieldsIf_move (by kernel_rfl) rfl (by kernel_rfl)) S0 ?_
              refine held_take (i := 5) (v := .pointer (some ⟨g, 0 + i0, none⟩)) (some 50) rfl rfl (by kernel_rfl) (by kernel_rfl) (by kernel_rfl) (fun _ _ _ h => h) (yieldsIf_index (by kernel_rfl) rfl (by kernel_rfl) (by kernel_rfl) (hidxS g 0 r hlt2)) S0 ?_
              refine held_take (i := 6) (v := .slice (some ⟨b, 0, none⟩) c c) (some 51) rfl rfl (by kernel_rfl) (by kernel_rfl) (by kernel_rfl) (fun _ _ _ h => h) (yieldsIf_cell (by kernel_rfl) rfl (by kernel_rfl) (fun W h => hloadS W (HSQ.out W h.out).2.2.2)) S0 ?_
              refine held_take (i := 7) (v := .int .i64 (n : Int)) (some 52) rfl rfl (by kernel_rfl) (by kernel_rfl) (by kernel_rfl) (fun _ _ _ h => h) (yieldsIf_move (by kernel_rfl) rfl (by kernel_rfl)) S0 ?_
              refine held_take (i := 8) (v := .slice (some ⟨gi + 1 + i0, 0, none⟩) r r) (some 53) rfl rfl (by kernel_rfl) (by kernel_rfl) (by kernel_rfl) (fun _ _ _ h => h) (yieldsIf_move (by kernel_rfl) rfl (by kernel_rfl)) S0 ?_
              refine held_take (i := 9) (v := .agg #[.int .i64 (n : Int), .slice (some ⟨gi + 1 + i0, 0, none⟩) r r]) (some 54) rfl rfl (by kernel_rfl) (by kernel_rfl) (by kernel_rfl) (fun _ _ _ h => h) (yieldsIf_run (by kernel_rfl) (fun W _ => by kernel_rfl)) S0 ?_
              refine held_enter (i := 10) (some 55) (f := 138) (args := #[.agg #[.int .i64 (fc k), .slice (some ⟨bm, om, none⟩) (gl k).length cm], .int .i64 p, .slice (some ⟨b, 0, none⟩) c c, .agg #[.int .i64 (n : Int), .slice (some ⟨gi + 1 + i0, 0, none⟩) r r]]) (by kernel_rfl) rfl rfl rfl (by kernel_rfl) HADD.out ?_ (fun c w' h => by cases h.1) (fun w' h => by cases h.1)
              rintro e5 w5 ⟨he5, hb5, hr5⟩
              injection he5 with he5
              subst he5
              have HBU5 : Hid (But b wq w5) := Lib.hid (S0.out.trans hb5)
              have HFN : Hid (FamT w5 G ds.length ds.length f gs (rsF ds) (csF ds2 s) (spZ p fc V np n i0 (k + 1))) := Lib.hid ((HFQ.out.put (n := n) (i := i0) hlt (by rw [← HR.out]; exact hlt2) (y := fun q => addMod p (fc k) (spZ p fc V np n i0 k n i0 q) ((V n i0 k).getD q 0)) (by rw [← HG.out, ← hb]; exact HBU5.out) (by rw [← HG.out, ← hb, ← HC.out]; exact hr5)).congr (fun n2 _ j _ q _ => spZ_put p fc V np n i0 k n2 j q))
              have HUN : Hid (Tb w5 gi r r (fun j i => if i = j then 1 else 0)) := Lib.hid (HUQ.out.but HBU5.out (Or.inl hbb2))
              have HBN : Hid (Below w1.heap.size w1 w5) := Lib.hid (HBQ.out.trans (HBU5.out.below HBQ.out.size (by omega)))
              refine ⟨HBU5, ?_⟩
              refine wpAnyH_done (by kernel_rfl) ?_ _
              simp only [Act.put, List.setIfInBounds_toArray, List.set_cons_zero, List.set_cons_succ]
              clear hb5 hr5 S0 HSQ HADD hwq hb hbb1 hbb2 hbb3 hgz q0 q1
              go_wp2
              go_roundw
              case rel => exact ⟨k + 1, by omega, by go_num, HBN, HFN, HUN⟩
              case measure => simp [intOf]; omega
            · have hke : k = np := by omega
              have HFN : Hid (FamT wz G ds.length ds.length f gs (rsF ds) (csF ds2 s) (spZ p fc V np n (i0 + 1) 0)) := Lib.hid (HF5.out.congr (fun n2 _ j _ q _ => by rw [hke]; exact spZ_row p fc V np n i0 n2 j q))
              clear hke
              go_wp2
              go_roundw
              case rel => exact ⟨i0 + 1, by omega, by go_num, HB5, HFN, HU5⟩
              case measure => simp [intOf]; omega
        · have hie : i0 = r := by omega
          have HFN : Hid (FamT wy G ds.length ds.length f gs (rsF ds) (csF ds2 s) (spZ p fc V np (n + 1) 0 0)) := Lib.hid (HF4.out.congr (fun n2 _ j hj q _ => by rw [hie]; exact spZ_tab p fc V np n r n2 j q (fun e => by rw [HR.out, ← e]; exact hj)))
          clear hie
          go_wp2
          go_roundw
          case rel => exact ⟨n + 1, by omega, by go_num, HB4, HFN⟩
          case measure => simp [intOf]; omega
    · have hne : n = ds.length := by omega
      have HXX := Lib.hid (HX0.out.next HB.out)
      have HRW : Hid (Rw3 w.heap.size wx.heap.size wx (.slice (some ⟨G, 0, none⟩) ds.length ds.length) (famL ds.length (rsF ds) (csF ds2 s) fun n i q => pS p fc (V n i) q np)) := Lib.hid (by
        have h1 := HFR.out.congr (Z' := fun n i q => pS p fc (V n i) q np) (fun n2 hn2 j _ q _ => spZ_all p fc V np n n2 j q (by omega))
        refine h1.rw3 (by omega) (by omega) (fun j hj => ⟨?_, ?_⟩)
        · simp only [rsF]; have := HCX.out.1.dim j; omega
        · simp only [csF]; have := dimZ_8 HCY.out ((j : Int) + s); omega)
      clear hne
      go_wp2
      go_ret
      exact ⟨G, rfl, by omega, HRW.out, HXX.out.below⟩
end Go.Proofs.Ytchijefibiaphaa


namespace Go.Proofs.Ytchijefibiaphaa
open Go.RowKit

theorem unitL_length (d i : Nat) : (unitL d i).length = d := by simp [unitL]
theorem unitL_getD {d i k : Nat} (hk : k < d) : (unitL d i).getD k 0 = if k = i then 1 else 0 := by
  rw [getD_of_lt _ (by rw [unitL_length]; exact hk)]
  simp [unitL]
theorem unitL_ok {p : Int} (hp : 2 ≤ p) (d i : Nat) : ∀ x ∈ unitL d i, 0 ≤ x ∧ x ≤ p - 1 := fun x hx => by
  obtain ⟨q, _, rfl⟩ := List.mem_map.1 hx
  split <;> omega
theorem unit_apOk {p c : Int} {cn d i : Nat} {t : List (List Int)} (hp : IsP p) (hc : c = (cn : Int)) (ht : TabOk p (d : Int) c t) : ApOk p cn (unitL d i) t := by
  refine ⟨hp, ?_, unitL_ok hp.lo d i, fun r hr => by have := ht.2 r hr; rwa [hc] at this⟩
  rw [unitL_length]
  have := ht.1
  omega
theorem unit_apTo {p : Int} {c d i : Nat} {t : List (List Int)} (ok : ApOk p c (unitL d i) t) (hi : i < d) : ∀ k, k ≤ d → ∀ q, q < c → (apTo p c (unitL d i) t k).getD q 0 = if k ≤ i then 0 else (t.getD i []).getD q 0 := by
  intro k
  induction k with
  | zero => intro _ q hq; simp [apTo, hq]
  | succ k ih =>
    intro hk q hq
    have hkl : k < (unitL d i).length := by rw [unitL_length]; omega
    rw [apTo_at ok hkl hq, ih (by omega) q hq, unitL_getD (by omega)]
    have hp := ok.prime.lo
    have hrow := ok.row hkl
    have hil : i < (unitL d i).length := by rw [unitL_length]; omega
    have hri := ok.row hil
    have hb : 0 ≤ (t.getD i []).getD q 0 ∧ (t.getD i []).getD q 0 ≤ p - 1 := by
      have hl : q < (t.getD i []).length := by have := hri.1; omega
      rw [getD_of_lt _ hl]
      exact hri.2 _ (List.getElem_mem hl)
    by_cases e : k = i
    · subst e
      rw [if_pos (Nat.le_refl _), if_pos rfl, if_neg (by omega), Int.zero_add, Int.one_mul]
      exact Int.emod_eq_of_lt hb.1 (by omega)
    · rw [if_neg e, Int.zero_mul, Int.add_zero]
      by_cases e2 : k < i
      · rw [if_pos (by omega), if_pos (by omega), Int.zero_emod]
      · rw [if_neg (by omega), if_neg (by omega)]
        exact Int.emod_eq_of_lt hb.1 (by omega)
theorem unit_apT {p : Int} {c d i : Nat} {t : List (List Int)} (ok : ApOk p c (unitL d i) t) (hi : i < d) : apT p c (unitL d i) t = t.getD i [] := by
  have hil : i < (unitL d i).length := by rw [unitL_length]; omega
  have hri := ok.row hil
  have hl : (apT p c (unitL d i) t).length = c := apTo_length ok (Nat.le_refl _)
  refine List.ext_getElem (by rw [hl]; have := hri.1; omega) fun q h1 h2 => ?_
  have hq : q < c := by omega
  have := unit_apTo ok hi d (Nat.le_refl _) q hq
  rw [if_neg (by omega)] at this
  rw [← getD_of_lt 0 h1, ← getD_of_lt 0 h2, ← this]
  simp only [apT, unitL_length]

theorem along_any (f : Int) (ad : Option Addr) (n c : Nat) (w : World) : Calls Try.prog 108 #[.int .i64 f, .slice ad n c] w (BR (.agg #[.int .i64 f, .slice ad n c]) w) := by
  have HRES : Hid (Try.f108.results = #[.cell 4 123]) := Lib.hid (by kernel_rfl)
  go_enter Try.func108, Try.ntmps108
  go_wp2
  refine bodyPost_ret (v := .agg #[.int .i64 f, .slice ad n c]) ?_ rfl ⟨rfl, ?_⟩
  · simp only [results, HRES.out]
    go_simp
  · first | exact below_alloc1 _ _ | exact (((Below.refl _ _).alloc (Nat.le_refl _) _).setCell (Nat.le_refl _) _).setCell (Nat.le_refl _) _

theorem famL_congr {m : Nat} {rs cs : Nat → Nat} {Z Z' : Nat → Nat → Nat → Int} (h : ∀ n, n < m → ∀ i, i < rs n → ∀ q, q < cs n → Z n i q = Z' n i q) : famL m rs cs Z = famL m rs cs Z' := by
  unfold famL
  refine List.map_congr_left fun n hn => ?_
  unfold tableOf
  refine List.map_congr_left fun i hi => List.map_congr_left fun q hq => ?_
  exact h n (List.mem_range.1 hn) i (List.mem_range.1 hi) q (List.mem_range.1 hq)
theorem fam_row {p s : Int} {ds ds2 : List Int} {fs : List (List (List Int))} (hF : FamOk p ds ds2 s fs) {n i : Nat} (hn : n < ds.length) (hi : i < rsF ds n) (hds : 0 ≤ ds.getD n 0) (hc0 : 0 ≤ dimZ ds2 ((n : Int) + s)) :
    n < fs.length ∧ TabOk p (rsF ds n : Int) (csF ds2 s n : Int) (fs.getD n []) ∧ i < (fs.getD n []).length ∧ RowOk p (csF ds2 s n : Int) ((fs.getD n []).getD i []) := by
  have hl : n < fs.length := by have := hF.1; omega
  have e1 : (rsF ds n : Int) = ds.getD n 0 := by simp only [rsF]; omega
  have e2 : (csF ds2 s n : Int) = dimZ ds2 ((n : Int) + s) := by simp only [csF]; omega
  have ht := hF.2 n hl
  rw [← e1, ← e2] at ht
  have hil : i < (fs.getD n []).length := by have := ht.1; omega
  refine ⟨hl, ht, hil, ?_⟩
  rw [getD_of_lt _ hil]
  exact ht.2 _ (List.getElem_mem hil)
end Go.Proofs.Ytchijefibiaphaa


namespace Go.Proofs.Ytchijefibiaphaa
open Go.RowKit

theorem dimZ_neg {ds : List Int} {n : Int} (h : n < 0) : dimZ ds n = 0 := by
  unfold dimZ
  rw [if_neg (by omega)]
theorem dimZ_in {ds : List Int} {n : Int} {k : Nat} (e : n = (k : Int)) (h : k < ds.length) : dimZ ds n = ds[k] := by
  unfold dimZ
  rw [if_pos (by omega), e, Int.toNat_natCast, getD_of_lt _ h]
end Go.Proofs.Ytchijefibiaphaa


namespace Go.Proofs.Ytchijefibiaphaa
open Go.RowKit

section
variable {p : Int} {ds : List Int} {ms fs : List (List (List Int))}
theorem PreOk.dsOk (h : PreOk p ds ms) : DsOk ds := ⟨h.len1, h.dims⟩
theorem cyc_tabP (h : PreOk p ds ms) {i : Nat} (hi : i < ds.length) : TabOk p (ds.getD i 0) (dimZ ds ((i : Int) + (-1))) (cycT ds ms i) := by
  have hd := h.dim i
  cases i with
  | zero =>
    have e : dimZ ds (((0 : Nat) : Int) + (-1)) = 0 := dimZ_neg (by omega)
    rw [e, cycT_zero ds ms hi]
    refine ⟨?_, fun r hr => ?_⟩
    · rw [List.length_replicate]
      unfold dimN
      simp only [Int.toNat_natCast]
      omega
    · rw [(List.mem_replicate.1 hr).2]
      exact ⟨rfl, fun x hx => absurd hx (by simp)⟩
  | succ k =>
    have hk : k < ms.length := by have := h.mlen; omega
    rw [cycT_succP h hi, show (((k + 1 : Nat) : Int) + (-1)) = (k : Int) by omega, dimZ_in rfl (show k < ds.length by omega), ← getD_of_lt 0 (show k < ds.length by omega)]
    exact h.tabs k hk
theorem dfL_len (ds : List Int) (ms : List (List (List Int))) : (dfL ds ms).length = ds.length := by simp [dfL]
theorem dfL_get {i : Nat} (hi : i < ds.length) : (dfL ds ms).getD i [] = cycT ds ms i := by
  rw [getD_of_lt _ (by rw [dfL_len]; exact hi)]
  simp [dfL]
theorem dfL_fam (h : PreOk p ds ms) : FamOk p ds ds (-1) (dfL ds ms) := by
  refine ⟨dfL_len _ _, fun n hn => ?_⟩
  rw [dfL_len] at hn
  rw [dfL_get hn]
  exact cyc_tabP h hn
/-- What the sum is asked of its two lists: the numbers of the sum of both. -/
def ptZ (p : Int) (ms fs : List (List (List Int))) (k i q : Nat) : Int := (((ms.getD k []).getD i []).getD q 0 + ((fs.getD k []).getD i []).getD q 0) % p
/-- The sums of Maps and of a list like them. -/
def ptF (p : Int) (ds : List Int) (ms fs : List (List (List Int))) (m : Nat) : List (List (List Int)) := (List.range m).map fun k => tableOf (ds.getD (k + 1) 0).toNat (ds.getD k 0).toNat (ptZ p ms fs k)
theorem ptF_length (p : Int) (ds : List Int) (ms fs : List (List (List Int))) (m : Nat) : (ptF p ds ms fs m).length = m := by simp [ptF]
theorem ptF_pre (h : PreOk p ds ms) : PreOk p ds (ptF p ds ms fs ms.length) := by
  have hp := h.prime.lo
  refine ⟨h.prime, h.len0, h.len1, by rw [ptF_length]; exact h.mlen, h.dims, fun k hk => ?_⟩
  rw [ptF_length] at hk
  have hd1 := h.dim (k + 1)
  have hd0 := h.dim k
  have ek : (ptF p ds ms fs ms.length).getD k [] = tableOf (ds.getD (k + 1) 0).toNat (ds.getD k 0).toNat (ptZ p ms fs k) := by
    have hl : k < (ptF p ds ms fs ms.length).length := by rw [ptF_length]; exact hk
    rw [List.getD_eq_getElem?_getD, List.getElem?_eq_getElem hl]
    simp [ptF]
  rw [ek]
  refine ⟨by simp only [tableOf, List.length_map, List.length_range]; omega, fun r hr => ?_⟩
  obtain ⟨i, _, rfl⟩ := List.mem_map.1 hr
  refine ⟨by simp only [List.length_map, List.length_range]; omega, fun x hx => ?_⟩
  obtain ⟨q, _, rfl⟩ := List.mem_map.1 hx
  unfold ptZ
  have h1 := Int.emod_nonneg (((ms.getD k []).getD i []).getD q 0 + ((fs.getD k []).getD i []).getD q 0) (show p ≠ 0 by omega)
  have h2 := Int.emod_lt_of_pos (((ms.getD k []).getD i []).getD q 0 + ((fs.getD k []).getD i []).getD q 0) (show 0 < p by omega)
  omega
/-- The family that the paths make. -/
def ptG (p : Int) (ds : List Int) (ms fs : List (List (List Int))) : List (List (List Int)) := famL ds.length (rsF ds) (csF ds (-1)) fun n i q => ((((dfL ds ms).getD n []).getD i []).getD q 0 + (((dfL ds fs).getD n []).getD i []).getD q 0) % p
theorem ptG_tail (h : PreOk p ds ms) (h2 : PreOk p ds fs) : ∃ t, ptG p ds ms fs = t :: ptF p ds ms fs ms.length := by
  have hml := h.mlen
  have hml2 := h2.mlen
  unfold ptG famL ptF
  rw [← hml, List.range_succ_eq_map, List.map_cons, List.map_map]
  refine ⟨tableOf (rsF ds 0) (csF ds (-1) 0) fun i q => ((((dfL ds ms).getD 0 []).getD i []).getD q 0 + (((dfL ds fs).getD 0 []).getD i []).getD q 0) % p, ?_⟩
  congr 1
  refine List.map_congr_left fun k hk => ?_
  have hk : k < ms.length := List.mem_range.1 hk
  show tableOf (rsF ds (k + 1)) (csF ds (-1) (k + 1)) _ = _
  have e : csF ds (-1) (k + 1) = (ds.getD k 0).toNat := by
    unfold csF
    rw [show (((k + 1 : Nat) : Int) + (-1)) = (k : Int) by omega, dimZ_in rfl (show k < ds.length by omega), ← getD_of_lt 0 (show k < ds.length by omega)]
  rw [e]
  unfold rsF
  congr 1
  funext i q
  show ((((dfL ds ms).getD (k + 1) []).getD i []).getD q 0 + (((dfL ds fs).getD (k + 1) []).getD i []).getD q 0) % p = _
  rw [dfL_get (show k + 1 < ds.length by omega), dfL_get (show k + 1 < ds.length by omega), cycT_succP h (by omega), cycT_succP h2 (by omega)]
  rfl
end

theorem led_df {p : Int} {n i : Nat} {dv2 mv2 fv : Value} {ds : List Int} {ms : List (List (List Int))} {w : World} (h2 : Cx 0 w dv2 mv2 ds ms) (hf : L3 0 w fv (dfL ds ms)) (hcx : PreOk p ds ms) (hn : n < ds.length) (hi : i < rsF ds n) :
    Led w (.agg #[.int .i64 p, dv2, mv2, .int .i64 (-1), fv]) (n : Int) (unitL (rsF ds n) i) ((n : Int) + (-1)) (((dfL ds ms).getD n []).getD i []) := fun W vv hb hv => by
  have hz := hcx.dsOk.dimZ ((n : Int) + (-1))
  obtain ⟨h1, h3, h4, h5⟩ := fam_row (dfL_fam hcx) hn hi (hcx.dim n).1 hz.1
  have ok := unit_apOk (i := i) hcx.prime (cn := csF ds (-1) n) rfl h3
  have hd := hcx.dim n
  have hl6 := hcx.len1
  have := leadD_any p (-1) n (csF ds (-1) n) dv2 mv2 fv vv ds ms (dfL ds ms) (unitL (rsF ds n) i) W (h2.below hb) (hf.below hb) hv hcx.dsOk h1 (by omega) (by omega) (by simp only [csF]; omega) ok (by rw [dfL_len]; omega) (by rw [unitL_length]; simp only [rsF]; omega)
  rwa [unit_apT ok hi] at this
theorem df_vec {p : Int} {n i : Nat} {ds : List Int} {ms : List (List (List Int))} (hcx : PreOk p ds ms) (hn : n < ds.length) (hi : i < rsF ds n) :
    (((dfL ds ms).getD n []).getD i []).length = csF ds (-1) n ∧ ∀ y ∈ ((dfL ds ms).getD n []).getD i [], 0 ≤ y ∧ y ≤ 6 := by
  obtain ⟨_, _, _, h5⟩ := fam_row (dfL_fam hcx) hn hi (hcx.dim n).1 (hcx.dsOk.dimZ ((n : Int) + (-1))).1
  have hp := hcx.prime.hi
  refine ⟨by have := h5.1; omega, fun y hy => ?_⟩
  have := h5.2 y hy
  omega

theorem ptSum_any (p : Int) (bp ba bb : Nat) (dv mv gv fv uv : Value) (ds : List Int) (ms fs : List (List (List Int))) (w : World) (h : Cx 0 w dv mv ds ms) (h2 : Cx 0 w dv gv ds fs) (hf : L3 0 w fv (dfL ds ms)) (hg : L3 0 w uv (dfL ds fs)) (hcx : IsCx p ds ms) (hcy : PreOk p ds fs)
    (c0 : w.cell? ⟨bp, 0, none⟩ = some (.int .i64 1)) (c1 : w.cell? ⟨bp, 1, none⟩ = some (.slice (some ⟨ba, 0, none⟩) 1 1)) (c2 : w.cell? ⟨bp, 2, none⟩ = some (.int .i64 1)) (c3 : w.cell? ⟨bp, 3, none⟩ = some (.slice (some ⟨bb, 0, none⟩) 1 1))
    (ha : w.cell? ⟨ba, 0, none⟩ = some (.func (.func 105) #[.agg #[.int .i64 p, dv, mv, .int .i64 (-1), fv]] #[])) (hb : w.cell? ⟨bb, 0, none⟩ = some (.func (.func 105) #[.agg #[.int .i64 p, dv, gv, .int .i64 (-1), uv]] #[])) :
    Calls Try.prog 107 #[.agg #[.int .i64 p, dv, mv], .agg #[.int .i64 p, dv, mv], .int .i64 (-1), .slice (some ⟨bp, 0, none⟩) 2 2] w (Fam3D ds.length (ptG p ds ms fs) w) := by
  have hp7 := hcx.1.prime.hi
  have := sumOfPathsD_any p p (-1) 2 bp 2 (fun j => 1) (fun j => if j = 0 then [.agg #[.int .i64 p, dv, mv, .int .i64 (-1), fv]] else [.agg #[.int .i64 p, dv, gv, .int .i64 (-1), uv]]) (fun n i j => if j = 0 then ((dfL ds ms).getD n []).getD i [] else ((dfL ds fs).getD n []).getD i []) dv mv dv mv ds ms ds ms w h h hcx hcx (by omega) ?_ ?_ (by omega) ?_ ?_
  · refine this.mono ?_
    rintro e w' ⟨g, rfl, hg', hu, hb'⟩
    refine ⟨g, rfl, hg', ?_, hb'⟩
    unfold ptG
    rwa [famL_congr (Z' := fun n i q => ((((dfL ds ms).getD n []).getD i []).getD q 0 + (((dfL ds fs).getD n []).getD i []).getD q 0) % p)] at hu
    intro n _ i _ q _
    simp [pS, addMod]
  · intro j hj
    by_cases e : j = 0
    · subst e
      refine ⟨_, c0, c1, ⟨ba, 0, 1, rfl, fun q hq => ?_⟩, by simp, by simp⟩
      obtain rfl : q = 0 := by simpa using hq
      exact ha
    · obtain rfl : j = 1 := by omega
      refine ⟨_, c2, c3, ⟨bb, 0, 1, rfl, fun q hq => ?_⟩, by simp, by simp⟩
      obtain rfl : q = 0 := by simpa using hq
      exact hb
  · intro j _
    show 0 ≤ (1 : Int) ∧ (1 : Int) ≤ 6
    omega
  · intro n hn i hi j _
    by_cases e : j = 0
    · subst e
      exact ⟨_, Chain.cons (led_df h hf hcx.1 hn hi) (Chain.nil _ _)⟩
    · simp only [if_neg e]
      exact ⟨_, Chain.cons (led_df h2 hg hcy hn hi) (Chain.nil _ _)⟩
  · intro n hn i hi j _
    by_cases e : j = 0
    · subst e
      exact df_vec hcx.1 hn hi
    · simp only [if_neg e]
      exact df_vec hcy hn hi
end Go.Proofs.Ytchijefibiaphaa


namespace Go.Proofs.Ytchijefibiaphaa
open Go.RowKit

/-- The table while its sums are being taken: rows below i are done, of row i the first q numbers. -/
def ptK (p : Int) (t f : List (List Int)) (i q : Nat) : List (List Int) := (List.range t.length).map fun a => (List.range (t.getD a []).length).map fun b => if a < i ∨ (a = i ∧ b < q) then ((t.getD a []).getD b 0 + (f.getD a []).getD b 0) % p else (t.getD a []).getD b 0
theorem ptK_length (p : Int) (t f : List (List Int)) (i q : Nat) : (ptK p t f i q).length = t.length := by simp [ptK]
theorem ptK_row {p : Int} {t f : List (List Int)} {i q a : Nat} (h : a < (ptK p t f i q).length) (ha : a < t.length) : ((ptK p t f i q)[a]).length = (t[a]).length := by simp [ptK, ha]
theorem ptK_num {p : Int} {t f : List (List Int)} {i q a b : Nat} (h : a < (ptK p t f i q).length) (ha : a < t.length) (h2 : b < ((ptK p t f i q)[a]).length) (hb : b < (t[a]).length) : ((ptK p t f i q)[a])[b] = if a < i ∨ (a = i ∧ b < q) then ((t[a])[b] + (f.getD a []).getD b 0) % p else (t[a])[b] := by
  simp only [ptK, List.getElem_map, List.getElem_range]
  rw [getD_of_lt _ ha, getD_of_lt _ hb]
theorem ptK_ext {p : Int} {t s f : List (List Int)} {i q : Nat} (hl : s.length = t.length) (hr : ∀ a (h1 : a < s.length) (h2 : a < t.length), (s[a]).length = (t[a]).length)
    (hn : ∀ a b (h1 : a < s.length) (h2 : a < t.length) (h3 : b < (s[a]).length) (h4 : b < (t[a]).length), (s[a])[b] = if a < i ∨ (a = i ∧ b < q) then ((t[a])[b] + (f.getD a []).getD b 0) % p else (t[a])[b]) : s = ptK p t f i q := by
  refine List.ext_getElem (by rw [ptK_length, hl]) fun a h1 h2 => ?_
  have ha : a < t.length := by omega
  refine List.ext_getElem (by rw [ptK_row h2 ha, hr a h1 ha]) fun b h3 h4 => ?_
  have hb : b < (t[a]).length := by rw [← hr a h1 ha]; exact h3
  rw [hn a b h1 ha h3 hb, ptK_num h2 ha h4 hb]
theorem ptK_start (p : Int) (t f : List (List Int)) : t = ptK p t f 0 0 := ptK_ext rfl (fun _ _ _ => rfl) (fun a b _ _ _ _ => by rw [if_neg (by omega)])
theorem ptK_next {p : Int} {t f : List (List Int)} {i : Nat} (hi : i < t.length) : ptK p t f i (t[i]).length = ptK p t f (i + 1) 0 :=
  ptK_ext (ptK_length ..) (fun a h1 h2 => ptK_row h1 h2) (fun a b h1 h2 h3 h4 => by
    rw [ptK_num h1 h2 h3 h4]
    by_cases e : a < i
    · rw [if_pos (Or.inl e), if_pos (Or.inl (by omega))]
    · by_cases e2 : a = i
      · subst e2
        rw [if_pos (Or.inr ⟨rfl, h4⟩), if_pos (Or.inl (by omega))]
      · rw [if_neg (by omega), if_neg (by omega)])
theorem ptK_done {p : Int} {t f : List (List Int)} {r c : Nat} (hl : t.length = r) (hc : ∀ x ∈ t, x.length = c) (z : Nat → Nat → Int) (hz : ∀ a b, z a b = ((t.getD a []).getD b 0 + (f.getD a []).getD b 0) % p) : ptK p t f t.length 0 = tableOf r c z := by
  refine List.ext_getElem (by simp [ptK, tableOf, hl]) fun a h1 h2 => ?_
  have ha : a < t.length := by rw [ptK_length] at h1; exact h1
  have hla := hc _ (List.getElem_mem ha)
  refine List.ext_getElem (by rw [ptK_row h1 ha, hla]; simp [tableOf]) fun b h3 h4 => ?_
  have hb : b < (t[a]).length := by rw [ptK_row h1 ha] at h3; exact h3
  rw [ptK_num h1 ha h3 hb, if_pos (Or.inl ha)]
  simp only [tableOf, List.getElem_map, List.getElem_range]
  rw [hz, getD_of_lt _ ha, getD_of_lt _ hb]
theorem ptK_put {p : Int} {t f : List (List Int)} {i q : Nat} (hi : i < t.length) (hq : q < (t[i]).length) (h1 : i < (ptK p t f i q).length) : (ptK p t f i q).set i (((ptK p t f i q)[i]).set q (((t[i])[q] + (f.getD i []).getD q 0) % p)) = ptK p t f i (q + 1) :=
  ptK_ext (by rw [List.length_set, ptK_length]) (fun a h2 h3 => by
    rw [List.getElem_set]
    by_cases e : i = a
    · subst e
      rw [if_pos rfl, List.length_set, ptK_row h1 h3]
    · rw [if_neg e, ptK_row _ h3]) (fun a b h2 h3 h4 h5 => by
    by_cases e : i = a
    · subst e
      have h6 : b < ((ptK p t f i q)[i]).length := by rw [ptK_row h1 h3]; exact h5
      have : (((ptK p t f i q).set i (((ptK p t f i q)[i]).set q (((t[i])[q] + (f.getD i []).getD q 0) % p)))[i])[b] = (((ptK p t f i q)[i]).set q (((t[i])[q] + (f.getD i []).getD q 0) % p))[b]'(by rw [List.length_set]; exact h6) := by simp
      rw [this, List.getElem_set]
      by_cases e2 : q = b
      · subst e2
        rw [if_pos rfl, if_pos (Or.inr ⟨rfl, by omega⟩)]
      · rw [if_neg e2, ptK_num h1 h3 h6 h5]
        by_cases e3 : b < q
        · rw [if_pos (Or.inr ⟨rfl, e3⟩), if_pos (Or.inr ⟨rfl, by omega⟩)]
        · rw [if_neg (by omega), if_neg (by omega)]
    · have h7 : a < (ptK p t f i q).length := by rw [ptK_length]; exact h3
      have h6 : b < ((ptK p t f i q)[a]).length := by rw [ptK_row h7 h3]; exact h5
      have : (((ptK p t f i q).set i (((ptK p t f i q)[i]).set q (((t[i])[q] + (f.getD i []).getD q 0) % p)))[a])[b] = ((ptK p t f i q)[a])[b] := by simp [e]
      rw [this, ptK_num h7 h3 h6 h5]
      by_cases e3 : a < i
      · rw [if_pos (Or.inl e3), if_pos (Or.inl e3)]
      · rw [if_neg (by omega), if_neg (by omega)])
theorem ptK_now {p : Int} {t f : List (List Int)} {i q : Nat} (hi : i < t.length) (hq : q < (t[i]).length) (h1 : i < (ptK p t f i q).length) (h2 : q < ((ptK p t f i q)[i]).length) : ((ptK p t f i q)[i])[q] = (t[i])[q] := by
  rw [ptK_num h1 hi h2 hq, if_neg (by omega)]

/-- The sizes of the tables. -/
def SzOkD (ds : List Int) (ms : List (List (List Int))) : Prop := ∀ k, k < ms.length → ((ms.getD k []).length : Int) = ds.getD (k + 1) 0 ∧ ∀ x ∈ ms.getD k [], (x.length : Int) = ds.getD k 0
theorem PreOk.szd {p : Int} {ds : List Int} {ms : List (List (List Int))} (h : PreOk p ds ms) : SzOkD ds ms := fun k hk => ⟨(h.tabs k hk).1, fun x hx => ((h.tabs k hk).2 x hx).1⟩
/-- The tables while the sums are being taken: those below k are done, of table k the rows below i, of row i the first q numbers. -/
def ptS (p : Int) (ms fs : List (List (List Int))) (k i q : Nat) (l : Nat) : List (List Int) := if l < k then ptK p (ms.getD l []) (fs.getD l []) (ms.getD l []).length 0 else if l = k then ptK p (ms.getD l []) (fs.getD l []) i q else ms.getD l []
theorem ptS_now (p : Int) (ms fs : List (List (List Int))) (k i q : Nat) : ptS p ms fs k i q k = ptK p (ms.getD k []) (fs.getD k []) i q := by unfold ptS; rw [if_neg (Nat.lt_irrefl _), if_pos rfl]
theorem ptS_start (p : Int) (ms fs : List (List (List Int))) : (fun l => ms.getD l []) = ptS p ms fs 0 0 0 := by
  funext l
  unfold ptS
  rw [if_neg (Nat.not_lt_zero _)]
  by_cases e : l = 0
  · rw [if_pos e]
    exact ptK_start _ _ _
  · rw [if_neg e]
theorem ptS_len (p : Int) (ms fs : List (List (List Int))) (k i q l : Nat) : (ptS p ms fs k i q l).length = (ms.getD l []).length := by
  unfold ptS
  split
  · exact ptK_length ..
  · split
    · exact ptK_length ..
    · rfl
theorem ptS_row {p : Int} {ms fs : List (List (List Int))} {k i : Nat} (hi : i < (ms.getD k []).length) : ptS p ms fs k i ((ms.getD k [])[i]).length = ptS p ms fs k (i + 1) 0 := by
  funext l
  unfold ptS
  by_cases h1 : l < k
  · rw [if_pos h1, if_pos h1]
  · rw [if_neg h1, if_neg h1]
    by_cases h2 : l = k
    · subst h2
      rw [if_pos rfl, if_pos rfl, ptK_next hi]
    · rw [if_neg h2, if_neg h2]
theorem ptS_tab (p : Int) (ms fs : List (List (List Int))) (k : Nat) : ptS p ms fs k (ms.getD k []).length 0 = ptS p ms fs (k + 1) 0 0 := by
  funext l
  unfold ptS
  by_cases h1 : l < k
  · rw [if_pos h1, if_pos (by omega)]
  · rw [if_neg h1]
    by_cases h2 : l = k
    · subst h2
      rw [if_pos rfl, if_pos (by omega)]
    · rw [if_neg h2, if_neg (by omega)]
      by_cases h3 : l = k + 1
      · rw [if_pos h3]
        exact ptK_start _ _ _
      · rw [if_neg h3]
theorem ptS_put {p : Int} {ms fs : List (List (List Int))} {k i q : Nat} (hi : i < (ms.getD k []).length) (hq : q < ((ms.getD k [])[i]).length) (h1 : i < (ptS p ms fs k i q k).length) (x : Int) (hx : x = (((ms.getD k [])[i])[q] + ((fs.getD k []).getD i []).getD q 0) % p) :
    (fun l => if l = k then (ptS p ms fs k i q k).set i (((ptS p ms fs k i q k)[i]).set q x) else ptS p ms fs k i q l) = ptS p ms fs k i (q + 1) := by
  funext l
  by_cases h2 : l = k
  · subst h2
    rw [if_pos rfl, ptS_now p ms fs l i (q + 1)]
    have key : ∀ A : List (List Int), A = ptK p (ms.getD l []) (fs.getD l []) i q → ∀ (h : i < A.length), A.set i ((A[i]).set q x) = ptK p (ms.getD l []) (fs.getD l []) i (q + 1) := by
      rintro A rfl h
      rw [hx]
      exact ptK_put hi hq h
    exact key _ (ptS_now p ms fs l i q) h1
  · rw [if_neg h2]
    unfold ptS
    by_cases h3 : l < k
    · rw [if_pos h3, if_pos h3]
    · rw [if_neg h3, if_neg h3, if_neg h2, if_neg h2]
theorem ptS_done {p : Int} {ds : List Int} {ms fs : List (List (List Int))} (h : SzOkD ds ms) : (List.range ms.length).map (ptS p ms fs ms.length 0 0) = ptF p ds ms fs ms.length := by
  unfold ptF
  refine List.map_congr_left fun k hk => ?_
  have hk : k < ms.length := List.mem_range.1 hk
  unfold ptS
  rw [if_pos hk]
  obtain ⟨h1, h2⟩ := h k hk
  exact ptK_done (by omega) (fun x hx => by have := h2 x hx; omega) _ (fun a b => rfl)
theorem ptS_rowlen {p : Int} {ms fs : List (List (List Int))} {k i q : Nat} {t : List (List Int)} (ht : t = ms.getD k []) (hi : i < t.length) (h : i < (ptS p ms fs k i q k).length) : ((ptS p ms fs k i q k)[i]).length = (t[i]).length := by
  subst ht
  have e := ptS_now p ms fs k i q
  have key : ∀ A : List (List Int), A = ptK p (ms.getD k []) (fs.getD k []) i q → ∀ (h : i < A.length), (A[i]).length = ((ms.getD k [])[i]).length := by
    rintro A rfl h
    exact ptK_row h hi
  exact key _ e h
theorem ptS_num {p : Int} {ms fs : List (List (List Int))} {k i q : Nat} {t : List (List Int)} (ht : t = ms.getD k []) (hi : i < t.length) (hq : q < (t[i]).length) (h : i < (ptS p ms fs k i q k).length) (h2 : q < ((ptS p ms fs k i q k)[i]).length) : ((ptS p ms fs k i q k)[i])[q] = (t[i])[q] := by
  subst ht
  have e := ptS_now p ms fs k i q
  have key : ∀ A : List (List Int), A = ptK p (ms.getD k []) (fs.getD k []) i q → ∀ (h : i < A.length) (h2 : q < (A[i]).length), (A[i])[q] = ((ms.getD k [])[i])[q] := by
    rintro A rfl h h2
    exact ptK_now hi hq h h2
  exact key _ e h h2
theorem preOk_bd {p : Int} {ds : List Int} {ms : List (List (List Int))} (h : PreOk p ds ms) : Bd3 1048576 ms := by
  have := h.len1
  have := h.mlen
  refine ⟨by omega, fun t ht => ?_⟩
  obtain ⟨k, hk, rfl⟩ := List.getElem_of_mem ht
  have h1 := h.tabs k hk
  rw [getD_of_lt _ hk] at h1
  have d0 := h.dim k
  have d1 := h.dim (k + 1)
  refine ⟨by have := h1.1; omega, fun r hr => ?_⟩
  have := (h1.2 r hr).1
  show r.length ≤ _
  omega
end Go.Proofs.Ytchijefibiaphaa


namespace Go.Proofs.Ytchijefibiaphaa
open Go.RowKit

open Classical in
/-- The code of a complex and a list like its Maps. -/
noncomputable def mpCode (p : Int) (ds : List Int) (ms fs : List (List (List Int))) : Int := if IsCx p ds ms then (if SizesOk 8 0 (p - 1) ds fs then 0 else 2) else 1
section
variable {p : Int} {ds : List Int} {ms fs : List (List (List Int))}
theorem mpCode_one (h : ¬ IsCx p ds ms) : mpCode p ds ms fs = 1 := if_neg h
theorem mpCode_two (h : IsCx p ds ms) (h2 : ¬ SizesOk 8 0 (p - 1) ds fs) : mpCode p ds ms fs = 2 := by
  unfold mpCode
  rw [if_pos h, if_neg h2]
theorem mpCode_ok (h : IsCx p ds ms) (h2 : SizesOk 8 0 (p - 1) ds fs) : mpCode p ds ms fs = 0 := by
  unfold mpCode
  rw [if_pos h, if_pos h2]
theorem mpCode_zero (h : mpCode p ds ms fs = 0) : IsCx p ds ms ∧ SizesOk 8 0 (p - 1) ds fs := by
  unfold mpCode at h
  by_cases h1 : IsCx p ds ms
  · rw [if_pos h1] at h
    by_cases h2 : SizesOk 8 0 (p - 1) ds fs
    · exact ⟨h1, h2⟩
    · rw [if_neg h2] at h
      cases h
  · rw [if_neg h1] at h
    cases h
end

set_option maxHeartbeats 1600000 in
set_option maxRecDepth 100000 in
theorem withMaps_any (p : Int) (dv mv fv : Value) (ds : List Int) (ms fs : List (List (List Int))) (w : World) (h : Cx 0 w dv mv ds ms) (hf : L3 0 w fv fs) : Calls Try.prog 101 #[.agg #[.int .i64 p, dv, mv], fv] w (BR (.agg #[.int .i64 p, dv, fv]) w) := by
  have hres : Try.f101.results = #[.cell 4 30] := by kernel_rfl
  have HRES := Lib.hid hres
  obtain ⟨ad, cap, rfl⟩ := Sl.shape h.dims
  obtain ⟨am, capm, rfl⟩ := Sl.shape h.maps
  obtain ⟨af, cf, rfl⟩ := Sl.shape hf
  obtain ⟨wa, hwa⟩ : ∃ wa : World, wa = w.alloc (.cells #[.int .i64 p, .slice ad ds.length cap, .slice am ms.length capm] 30) := ⟨_, rfl⟩
  obtain ⟨w1, hw1⟩ : ∃ w1 : World, w1 = wa.alloc (.cells #[.int .i64 0, .slice none 0 0, .slice none 0 0] 30) := ⟨_, rfl⟩
  have hsa : wa.heap.size = w.heap.size + 1 := by rw [hwa]; simp
  have HX1 : Hid (Bx w w1 w.heap.size p (.slice ad ds.length cap) (.slice am ms.length capm) ds ms) := Lib.hid (by rw [hw1]; exact (show Bx w wa w.heap.size p (.slice ad ds.length cap) (.slice am ms.length capm) ds ms by rw [hwa]; exact Bx.start _ h).next (below_alloc1 _ _))
  have HR1 : Hid (Rz w1 (w.heap.size + 1) 30 #[.int .i64 0, .slice none 0 0, .slice none 0 0]) := Lib.hid (by rw [hw1, ← hsa]; exact Rz.new _ _ _)
  have c0 := HX1.out.c0
  have c1 := HX1.out.c1
  clear h hf hres
  go_enter Try.func101, Try.ntmps101
  go_upto_region 1 with fail
  rw [← hwa, ← hw1]
  clear hwa hw1 hsa
  have HR1 : ∃ x0 x1 x2, w1.heap[w.heap.size + 1]? = some (.cells #[x0, x1, x2] 30) := ⟨_, _, _, HR1.out⟩
  obtain ⟨x0, x1, x2, hr⟩ := HR1
  have r0 : w1.rowIs (w.heap.size + 1) 30 3 (sel3 x0 x1 x2) := rowIs3 hr
  have q0 : w1.cell? ⟨w.heap.size + 1, 0, none⟩ = some x0 := r0.cell (i := 0) (by omega)
  have z0 : w1.frozen? ⟨w.heap.size + 1, 0, none⟩ = false := r0.frozen 0
  have r1 := r0.set 0 (.int .i64 p)
  have q1 : (w1.setCell ⟨w.heap.size + 1, 0, none⟩ (.int .i64 p)).cell? ⟨w.heap.size + 1, 1, none⟩ = some x1 := r1.cell (i := 1) (by omega)
  have z1 : (w1.setCell ⟨w.heap.size + 1, 0, none⟩ (.int .i64 p)).frozen? ⟨w.heap.size + 1, 1, none⟩ = false := r1.frozen 1
  have r2 := r1.set 1 (.slice ad ds.length cap)
  have q2 : ((w1.setCell ⟨w.heap.size + 1, 0, none⟩ (.int .i64 p)).setCell ⟨w.heap.size + 1, 1, none⟩ (.slice ad ds.length cap)).cell? ⟨w.heap.size + 1, 2, none⟩ = some x2 := r2.cell (i := 2) (by omega)
  have z2 : ((w1.setCell ⟨w.heap.size + 1, 0, none⟩ (.int .i64 p)).setCell ⟨w.heap.size + 1, 1, none⟩ (.slice ad ds.length cap)).frozen? ⟨w.heap.size + 1, 2, none⟩ = false := r2.frozen 2
  have r3 := r2.set 2 (.slice af fs.length cf)
  obtain ⟨WF, hWF⟩ : ∃ W : World, W = (((w1.setCell ⟨w.heap.size + 1, 0, none⟩ (.int .i64 p)).setCell ⟨w.heap.size + 1, 1, none⟩ (.slice ad ds.length cap)).setCell ⟨w.heap.size + 1, 2, none⟩ (.slice af fs.length cf)) := ⟨_, rfl⟩
  have hbWF : ∀ B (w0 : World), B ≤ w.heap.size + 1 → Below B w0 w1 → Below B w0 WF := fun B w0 hl hb => by rw [hWF]; exact (((hb.setCell (by show B ≤ w.heap.size + 1; exact hl) _).setCell (by show B ≤ w.heap.size + 1; exact hl) _).setCell (by show B ≤ w.heap.size + 1; exact hl) _)
  have hsWF : ∀ lo hi, w.heap.size + 1 < lo ∨ hi ≤ w.heap.size + 1 → Same lo hi w1 WF := fun lo hi hl => by rw [hWF]; exact (((Same.set _ hl).trans (Same.set _ hl)).trans (Same.set _ hl))
  have hzWF : WF.heap.size = w1.heap.size := by rw [hWF]; simp
  rw [← hWF] at r3
  have f0 : WF.cell? ⟨w.heap.size + 1, 0, none⟩ = some (.int .i64 p) := r3.cell (i := 0) (by omega)
  have f1 : WF.cell? ⟨w.heap.size + 1, 1, none⟩ = some (.slice ad ds.length cap) := r3.cell (i := 1) (by omega)
  have f2 : WF.cell? ⟨w.heap.size + 1, 2, none⟩ = some (.slice af fs.length cf) := r3.cell (i := 2) (by omega)
  have HWWF := Lib.hid hWF
  clear hr r0 r1 r2 r3 hWF
  have HBF := Lib.hid (hbWF w.heap.size w (by omega) HX1.out.below)
  clear hsWF hbWF hzWF
  go_wp2
  rw [← HWWF.out]
  refine bodyPost_ret (v := .agg #[.int .i64 p, .slice ad ds.length cap, .slice af fs.length cf]) ?_ rfl ⟨rfl, HBF.out⟩
  simp only [results, HRES.out]
  go_simp

set_option maxHeartbeats 1600000 in
set_option maxRecDepth 100000 in
theorem checkMaps_any (p : Int) (dv mv fv : Value) (ds : List Int) (ms fs : List (List (List Int))) (w : World) (h : Cx 0 w dv mv ds ms) (hf : L3 0 w fv fs) (hd : ds.length ≤ 1048576) (hm : Bd3 1048576 ms) (hmf : Bd3 1048576 fs) :
    Calls Try.prog 66 #[.agg #[.int .i64 p, dv, mv], fv] w (BR (.int .i64 (mpCode p ds ms fs)) w) := by
  obtain ⟨ad, cap, rfl⟩ := Sl.shape h.dims
  obtain ⟨am, capm, rfl⟩ := Sl.shape h.maps
  obtain ⟨af, cf, rfl⟩ := Sl.shape hf
  obtain ⟨w1, hw1⟩ : ∃ w1 : World, w1 = w.alloc (.cells #[.int .i64 p, .slice ad ds.length cap, .slice am ms.length capm] 30) := ⟨_, rfl⟩
  have HX1 : Hid (Bx w w1 w.heap.size p (.slice ad ds.length cap) (.slice am ms.length capm) ds ms) := Lib.hid (by rw [hw1]; exact Bx.start _ h)
  have HF1 := Lib.hid (hf.below HX1.out.below)
  have HMF := Lib.hid hmf
  have HIS := Lib.hid (isComplex_any p _ _ ds ms w1 HX1.out.cx hd hm)
  have c0 := HX1.out.c0
  have c1 := HX1.out.c1
  have c2 := HX1.out.c2
  clear h hf hm hmf
  go_enter Try.func66, Try.ntmps66
  go_upto_region 1 with fail
  rw [← hw1]
  clear hw1
  go_wp2_with fail
  refine HIS.out.mono ?_
  rintro e w2 ⟨bb, rfl, hb2, hbb⟩
  have HN2 : Hid (∀ W, Below w2.heap.size w2 W → Bx w W w.heap.size p (.slice ad ds.length cap) (.slice am ms.length capm) ds ms ∧ L3 0 W (.slice af fs.length cf) fs) := Lib.hid (fun W hb => ⟨(HX1.out.next hb2).next hb, (HF1.out.below hb2).below hb⟩)
  have HBB := Lib.hid hbb
  have HX2 := Lib.hid (HX1.out.next hb2)
  clear hb2 hbb c0 c1 c2 HIS
  cases bb with
  | false =>
    have HC0 : Hid (mpCode p ds ms fs = 1) := Lib.hid (mpCode_one (fun hh => absurd (HBB.out.2 hh) (by simp)))
    go_wp2
    go_ret
    exact ⟨by rw [HC0.out]; first | rfl | simp, HX2.out.below⟩
  | true =>
    have HCX : Hid (IsCx p ds ms) := Lib.hid (HBB.out.1 (by simp))
    have hp7 := HCX.out.1.prime.hi
    have hp2 := HCX.out.1.prime.lo
    have hwk : IntKind.i64.wrap (p - 1) = p - 1 := IntWalk.i64_in _ (by omega)
    go_wp2
    refine wp_region_held (S := fun W => Below w2.heap.size w2 W) (by kernel_rfl) ?_
    have S0 : Below w2.heap.size w2 w2.drew := (Below.refl _ _).drew
    refine held_take (i := 0) (v := .agg #[.int .i64 p, .slice ad ds.length cap, .slice am ms.length capm]) (some 8) rfl rfl (by kernel_rfl) (by kernel_rfl) (by kernel_rfl) (fun _ _ _ h => h) (yieldsIf_cell (by kernel_rfl) rfl (by kernel_rfl) (fun W h => hload3x (HN2.out W h).1)) S0 ?_
    refine held_take (i := 1) (v := .slice af fs.length cf) (some 9) rfl rfl (by kernel_rfl) (by kernel_rfl) (by kernel_rfl) (fun _ _ _ h => h) (yieldsIf_move (by kernel_rfl) rfl (by kernel_rfl)) S0 ?_
    refine held_take (i := 3) (v := .pointer (some ⟨w.heap.size, 0, none⟩)) (some 11) rfl rfl (by kernel_rfl) (by kernel_rfl) (by kernel_rfl) (fun _ _ _ h => h) (yieldsIf_run (by kernel_rfl) (fun W _ => by kernel_rfl)) S0 ?_
    refine held_take (i := 4) (v := .int .i64 p) (some 12) rfl rfl (by kernel_rfl) (by kernel_rfl) (by kernel_rfl) (fun _ _ _ h => h) (yieldsIf_cell (by kernel_rfl) rfl (by kernel_rfl) (fun W h => hload W (HN2.out W h).1.c0)) S0 ?_
    refine held_take (i := 5) (v := .int .i64 (p - 1)) (some 13) rfl rfl (by kernel_rfl) (by kernel_rfl) (by kernel_rfl) (fun _ _ _ h => h) (yieldsIf_bin (by kernel_rfl) rfl (by kernel_rfl) (by kernel_rfl) (fun _ => rfl) (hsubA hwk)) S0 ?_
    refine held_enter (i := 2) (some 10) (f := 101) (args := #[.agg #[.int .i64 p, .slice ad ds.length cap, .slice am ms.length capm], .slice af fs.length cf]) (by kernel_rfl) rfl rfl rfl (by kernel_rfl) (withMaps_any p _ _ _ ds ms fs _ (HN2.out _ S0).1.cx (HN2.out _ S0).2) ?_ (fun c w' h => by cases h.1) (fun w' h => by cases h.1)
    rintro ee w3 ⟨he, hb3⟩
    injection he with he
    subst he
    have S1 : Below w2.heap.size w2 w3 := S0.trans (hb3.mono S0.size)
    refine ⟨S1, ?_⟩
    refine held_enter (i := 6) (some 14) (f := 100) (args := #[.agg #[.int .i64 p, .slice ad ds.length cap, .slice af fs.length cf], .int .i64 8, .int .i64 0, .int .i64 (p - 1)]) (by kernel_rfl) rfl rfl rfl (by kernel_rfl) (hasSizes_any p 8 0 (p - 1) _ _ ds fs _ ⟨(HN2.out _ S1).1.cx.dims, (HN2.out _ S1).2⟩ hd HMF.out) ?_ (fun c w' h => by obtain ⟨_, h, _⟩ := h; cases h) (fun w' h => by obtain ⟨_, h, _⟩ := h; cases h)
    rintro ee w4 ⟨b4, he, hb4, hb4'⟩
    injection he with he
    subst he
    have S2 : Below w2.heap.size w2 w4 := S1.trans (hb4.mono S1.size)
    have HBW := Lib.hid (HN2.out _ S2).1.below
    have HB4 := Lib.hid hb4'
    refine ⟨S2, ?_⟩
    refine held_take (i := 7) (v := .bool (!b4)) (some 15) rfl rfl (by kernel_rfl) (by kernel_rfl) (by kernel_rfl) (fun _ _ _ h => h) (yieldsIf_run (by kernel_rfl) (fun W _ => by cases b4 <;> kernel_rfl)) S2 ?_
    refine wpAnyH_done (by kernel_rfl) ?_ _
    simp only [Act.put, List.setIfInBounds_toArray, List.set_cons_zero, List.set_cons_succ]
    clear S0 S1 S2 hb3 hb4 hb4'
    cases b4
    · have HC0 : Hid (mpCode p ds ms fs = 2) := Lib.hid (mpCode_two HCX.out (fun hh => absurd (HB4.out.2 hh) (by simp)))
      go_wp2
      go_ret
      exact ⟨by rw [HC0.out]; first | rfl | simp, HBW.out⟩
    · have HC0 : Hid (mpCode p ds ms fs = 0) := Lib.hid (mpCode_ok HCX.out (HB4.out.1 (by simp)))
      go_wp2
      go_ret
      exact ⟨by rw [HC0.out]; first | rfl | simp, HBW.out⟩

set_option maxHeartbeats 1600000 in
set_option maxRecDepth 100000 in
theorem clone_any (v : Value) (xs : List Int) (w : World) (h : L1 0 w v xs) (hm : xs.length ≤ 1048576) (hpos0 : 0 < xs.length) :
    Calls Try.prog 106 #[v] w (GbR xs w) := by
  have HOWN := Lib.hid (World.ownsRow_made (base := w.heap.size) (e := 2) (size := 1) w #[] 0 (Nat.le_refl _) (by unfold maxLen; omega) (by simp))
  obtain ⟨i1, hj, hy0, hy1, hy2⟩ := info_parts Try.infoI
  refine Sl.cases h (fun ad cap hx hv => absurd hpos0 (by simp [hx])) (fun b o cap hv _ hpos hc => ?_)
  subst hv
  clear h
  have HC := Lib.hid hc
  clear hc
  have hnil : ∀ W : World, (binOp .eql 22 (.slice (some ⟨b, o, none⟩) xs.length cap) (.slice none 0 0)).run Try.prog W = .ok (.bool false) W := fun W => by first | kernel_rfl | (simp [binOp, Try.underlying22]) | go_simp
  go_enter Try.func106, Try.ntmps106
  go_wp2_with (at_builtin; refine wpList_append_own _ rfl (.tmp 5) (.tmp 6) 22 rfl w.heap.size 2 i1 (.int .i64 0) 1 8 Try.underlying22 hj hy0 hy1 hy2 rfl (by decide) _ _ _ rfl HOWN.out ⟨b, o, none⟩ xs.length cap (xs.map (Value.int .i64)) rfl ?c0 ?c1 ?c2 ?c3 ?c4 ?c5 ?_)
  case c0 => simp
  case c1 =>
    intro j u hju
    have hj' : j < xs.length := by
      have := (List.getElem?_eq_some_iff.1 hju).1
      simpa using this
    obtain ⟨u2, h2, h3⟩ := HC.out j hj'
    rw [Addr.add_lit]
    have h4 := cell_lt h2
    rw [((Below.refl w.heap.size w).alloc (Nat.le_refl _) _).cell (p := ⟨b, o + j, none⟩) h4, h2, h3]
    simp [hj'] at hju
    rw [hju]
  case c2 => intro u hu; obtain ⟨x, _, rfl⟩ := List.mem_map.1 hu; rfl
  case c3 => unfold maxLen; omega
  case c4 => omega
  case c5 => simp
  intro v' w3 hown' hgrow _
  have HB3 : Hid (Below w.heap.size w w3) := Lib.hid (((Below.refl _ _).alloc (Nat.le_refl _) _).grown hgrow (by simp) (fun g hg => ((HOWN.out.lt) g hg).1))
  have HO3 := Lib.hid hown'
  clear hown' hgrow
  go_wp2
  go_ret
  exact ⟨_, rfl, by simpa [Gb] using HO3.out, HB3.out⟩
end Go.Proofs.Ytchijefibiaphaa


namespace Go.Proofs.Ytchijefibiaphaa
open Go.RowKit

set_option maxHeartbeats 1600000 in
theorem l08Table_any (p r c : Int) (v : Value) (xs : List (List Int)) (w : World) (hp : IsP p) (h : L2 0 w v xs) (hm : Bd2 1048576 xs) :
    Calls Try.prog 94 #[.int .i64 p, v, .int .i64 r, .int .i64 c] w (BW (TabOk p r c xs) w) := by
  have hm0 : xs.length ≤ 1048576 := hm.1
  have HM := Lib.hid hm
  have hp0 := hp.lo
  have hp1 := hp.hi
  clear hm hp
  by_cases hl : (xs.length : Int) = r
  · refine Sl.cases h (fun ad cap hx hv => ?_) (fun b o cap hv _ hpos hc => ?_)
    · subst hx hv
      subst hl
      go_enter Try.func94, Try.ntmps94
      go_wp2
      refine wp_loop_rounds 1 ?_
      rw [rounds_succ]
      go_wp2
      go_ret
      exact bw_true ⟨rfl, by simp⟩
    · subst hv
      subst hl
      clear h
      have HC := Lib.hid hc
      clear hc
      go_enter Try.func94, Try.ntmps94
      go_wp2
      go_loop [9, 10] (fun i _ => ∃ (k : Nat), k ≤ xs.length ∧ i = .int .i64 k ∧ Hid (∀ j (h1 : j < xs.length), j < k → RowOk p c xs[j])) (fun i _ => xs.length - (intOf i).toNat)
      case atStart => exact ⟨0, Nat.zero_le _, rfl, Lib.hid (fun _ _ h => absurd h (Nat.not_lt_zero _))⟩
      case round =>
        obtain ⟨k, hk, rfl, HD⟩ := hrel
        by_cases hlt2 : k < xs.length
        · obtain ⟨u, hu, hr⟩ := HC.out k hlt2
          have hml : (xs[k]).length ≤ 1048576 := HM.out.2 _ (List.getElem_mem hlt2)
          obtain ⟨ys, hy⟩ : ∃ ys, ys = xs[k] := ⟨_, rfl⟩
          rw [← hy] at hr hml
          have HY := Lib.hid hy
          clear hy
          by_cases hlc : (ys.length : Int) = c
          · refine Sl.cases hr (fun ad2 cap2 hx hv => ?_) (fun b2 o2 cap2 hv _ hpos2 hc2 => ?_)
            · subst hv
              have hc0 : ((0 : Int) != c) = false := by rw [← hlc, hx]; rfl
              have hc1 : ((0 : Int) == c) = true := by rw [← hlc, hx]; rfl
              have HX := Lib.hid hx
              have HLC := Lib.hid hlc
              clear hx hlc hr
              go_wp2
              refine wp_loop_rounds 1 ?_
              rw [rounds_succ]
              go_wp2
              go_round
              case rel => exact ⟨k + 1, by omega, by go_num, Lib.hid (fun j h1 hjk => by
                by_cases e : j = k
                · subst e; rw [← HY.out]; exact ⟨HLC.out, by simp [HX.out]⟩
                · exact HD.out j h1 (by omega))⟩
              case measure => simp [intOf]; omega
            · subst hv
              have hc0 : ((ys.length : Int) != c) = false := by rw [hlc]; simp
              have hc1 : ((ys.length : Int) == c) = true := by rw [hlc]; simp
              have HLC := Lib.hid hlc
              have HC2 := Lib.hid hc2
              clear hlc hr hc2
              go_wp2
              go_loop [10] (fun i => ∃ (q : Nat), q ≤ ys.length ∧ i = .int .i64 q ∧ Hid (∀ j (h1 : j < ys.length), j < q → 0 ≤ ys[j] ∧ ys[j] ≤ p - 1)) (fun i => ys.length - (intOf i).toNat)
              case atStart => exact ⟨0, Nat.zero_le _, rfl, Lib.hid (fun _ _ h => absurd h (Nat.not_lt_zero _))⟩
              case round =>
                obtain ⟨q, hq, rfl, HD2⟩ := hrel
                by_cases hlt3 : q < ys.length
                · obtain ⟨u2, hu2, hr2⟩ := HC2.out q hlt3
                  obtain ⟨x, hx⟩ : ∃ x, x = ys[q] := ⟨_, rfl⟩
                  rw [hr2, ← hx] at hu2
                  have HX := Lib.hid hx
                  clear hx hr2
                  by_cases hxy : 0 ≤ x ∧ x ≤ p - 1
                  · have HXY := Lib.hid hxy
                    clear hxy
                    go_wp2_with fail
                    refine (spin_yes HXY.out _).mono ?_
                    rintro e w' ⟨rfl, rfl⟩
                    go_wp2
                    go_round
                    case rel => exact ⟨q + 1, by omega, by go_num, Lib.hid (fun j h1 hjk => by
                      by_cases e : j = q
                      · subst e; rw [← HX.out]; exact HXY.out
                      · exact HD2.out j h1 (by omega))⟩
                    case measure => simp [intOf]; omega
                  · have HXY := Lib.hid hxy
                    clear hxy
                    go_wp2_with fail
                    refine (spin_no HXY.out _).mono ?_
                    rintro e w' ⟨rfl, rfl⟩
                    go_wp2
                    go_ret
                    exact bw_false (fun h => HXY.out (by
                      rw [HX.out]
                      exact (h.2 ys (by rw [HY.out]; exact List.getElem_mem hlt2)).2 _ (List.getElem_mem hlt3)))
                · go_wp2
                  go_round
                  case rel => exact ⟨k + 1, by omega, by go_num, Lib.hid (fun j h1 hjk => by
                    by_cases e : j = k
                    · subst e; rw [← HY.out]; exact ⟨HLC.out, all_of_lt (fun j2 hj2 => HD2.out j2 hj2 (by omega))⟩
                    · exact HD.out j h1 (by omega))⟩
                  case measure => simp [intOf]; omega
          · obtain ⟨ad2, cap2, rfl⟩ := Sl.shape hr
            have hc0 : ((ys.length : Int) != c) = true := by simp [hlc]
            have hc1 : ((ys.length : Int) == c) = false := by simp [hlc]
            have HLC := Lib.hid hlc
            clear hlc hr
            go_wp2
            go_ret
            exact bw_false (fun h => HLC.out (h.2 ys (by rw [HY.out]; exact List.getElem_mem hlt2)).1)
        · go_wp2
          go_ret
          exact bw_true ⟨rfl, all_of_lt (fun j hj => HD.out j hj (by omega))⟩
  · obtain ⟨ad, cap, rfl⟩ := Sl.shape h
    clear h
    have hq : ((xs.length : Int) != r) = true := by simp [hl]
    have hq2 : ((xs.length : Int) == r) = false := by simp [hl]
    have HL := Lib.hid hl
    clear hl
    go_enter Try.func94, Try.ntmps94
    go_wp2
    go_ret
    exact bw_false (fun h => HL.out h.1)
end Go.Proofs.Ytchijefibiaphaa


namespace Go.Proofs.Ytchijefibiaphaa
open Go.RowKit

set_option maxHeartbeats 3200000 in
set_option maxRecDepth 100000 in
theorem l08Maps_any (p : Int) (dv mv fv : Value) (ds : List Int) (ms fs : List (List (List Int))) (w : World) (h : Cx 0 w dv mv ds ms) (hf : L3 0 w fv fs) (hd : ds.length ≤ 1048576) (hm : Bd3 1048576 ms) (hmf : Bd3 1048576 fs) :
    Calls Try.prog 61 #[.agg #[.int .i64 p, dv, mv], fv] w (BR (.int .i64 (mpCode p ds ms fs)) w) := by
  obtain ⟨ad, cap, rfl⟩ := Sl.shape h.dims
  obtain ⟨am, capm, rfl⟩ := Sl.shape h.maps
  obtain ⟨af, cf, rfl⟩ := Sl.shape hf
  obtain ⟨w1, hw1⟩ : ∃ w1 : World, w1 = w.alloc (.cells #[.int .i64 p, .slice ad ds.length cap, .slice am ms.length capm] 30) := ⟨_, rfl⟩
  have HX1 : Hid (Bx w w1 w.heap.size p (.slice ad ds.length cap) (.slice am ms.length capm) ds ms) := Lib.hid (by rw [hw1]; exact Bx.start _ h)
  have HF1 := Lib.hid (hf.below HX1.out.below)
  have HMF := Lib.hid hmf
  have hml8 : ms.length ≤ 1048576 := hm.1
  have hfl8 : fs.length ≤ 1048576 := hmf.1
  have HIS := Lib.hid (l01Is_any p _ _ ds ms w1 HX1.out.cx hd hm)
  have c0 := HX1.out.c0
  have c1 := HX1.out.c1
  have c2 := HX1.out.c2
  clear h hf hm hmf
  go_enter Try.func61, Try.ntmps61
  go_upto_region 1 with fail
  rw [← hw1]
  clear hw1
  go_wp2_with fail
  refine HIS.out.mono ?_
  rintro e w2 ⟨bb, rfl, hb2, hbb⟩
  have HN2 : Hid (∀ W, Below w2.heap.size w2 W → Bx w W w.heap.size p (.slice ad ds.length cap) (.slice am ms.length capm) ds ms ∧ L3 0 W (.slice af fs.length cf) fs) := Lib.hid (fun W hb => ⟨(HX1.out.next hb2).next hb, (HF1.out.below hb2).below hb⟩)
  have HBB := Lib.hid hbb
  have HX2 := Lib.hid (HX1.out.next hb2)
  clear hb2 hbb c0 c1 c2 HIS HX1 HF1
  have c0 := HX2.out.c0
  have c1 := HX2.out.c1
  have c2 := HX2.out.c2
  cases bb with
  | false =>
    have HC0 : Hid (mpCode p ds ms fs = 1) := Lib.hid (mpCode_one (fun hh => absurd (HBB.out.2 hh) (by simp)))
    go_wp2
    go_ret
    exact ⟨by rw [HC0.out]; first | rfl | simp, HX2.out.below⟩
  | true =>
    have HCX : Hid (IsCx p ds ms) := Lib.hid (HBB.out.1 (by simp))
    have hp7 := HCX.out.1.prime.hi
    have hp2 := HCX.out.1.prime.lo
    have hl6 := HCX.out.1.len1
    have hmlen := HCX.out.1.mlen
    by_cases hl : fs.length = ms.length
    · have hq1 : ((fs.length : Int) != (ms.length : Int)) = false := by simp [hl]
      have hq2 : ((fs.length : Int) == (ms.length : Int)) = true := by simp [hl]
      have HL := Lib.hid hl
      clear hl
      go_wp2
      clear c0 c1 c2 hq1 hq2
      go_loopw [5] (fun i wr => ∃ (k : Nat), k ≤ fs.length ∧ i = .int .i64 k ∧ Hid (Below w2.heap.size w2 wr) ∧ Hid (∀ j, j < k → TabOk p (ds.getD (j + 1) 0) (ds.getD j 0) (fs.getD j []))) (fun i _ => fs.length - (intOf i).toNat)
      case atStart => exact ⟨0, Nat.zero_le _, rfl, Lib.hid (Below.refl _ _), Lib.hid (fun _ h => absurd h (Nat.not_lt_zero _))⟩
      case round =>
        obtain ⟨k, hk, rfl, HB, HD⟩ := hrel
        obtain ⟨wx, hwx⟩ : ∃ wx : World, wx = wr := ⟨_, rfl⟩
        subst hwx
        have HXR := Lib.hid (HN2.out _ HB.out).1
        have c0 := HXR.out.c0
        have c1 := HXR.out.c1
        have c2 := HXR.out.c2
        by_cases hlt : k < fs.length
        · refine Sl.cases HXR.out.cx.dims (fun _ _ hx _ => absurd HCX.out.1.len0 (by simp [hx])) (fun bd od capd hv _ hposd hcld => ?_)
          injection hv with e1 _ e3
          subst e1 e3
          refine Sl.cases (HN2.out _ HB.out).2 (fun _ _ hx _ => absurd hlt (by simp [hx])) (fun bm om capm2 hv _ hposm hclm => ?_)
          injection hv with e1 _ e3
          subst e1 e3
          have hd1 : k + 1 < ds.length := by have := HL.out; omega
          obtain ⟨u, hu, hr⟩ := hclm k hlt
          obtain ⟨v0, hv0, hr0⟩ := hcld k (by omega)
          obtain ⟨v1, hv1, hr1⟩ := hcld (k + 1) hd1
          rw [hr0] at hv0
          rw [hr1] at hv1
          obtain ⟨d0, hd0⟩ : ∃ d, d = ds[k] := ⟨_, rfl⟩
          obtain ⟨d1, hd1'⟩ : ∃ d, d = ds[k + 1] := ⟨_, rfl⟩
          rw [← hd0] at hv0
          rw [← hd1'] at hv1
          have HE := Lib.hid (fun (m2 : Nat) => l08Table_any p d1 d0 u fs[k] (wx.drewN m2) HCX.out.1.prime (hr.below (drewN_below wx m2)) (HMF.out.2 _ (List.getElem_mem hlt)))
          have HT : Hid (TabOk p (ds.getD (k + 1) 0) (ds.getD k 0) (fs.getD k []) ↔ TabOk p d1 d0 fs[k]) := Lib.hid (by rw [getD_of_lt _ hd1, getD_of_lt _ (by omega : k < ds.length), getD_of_lt _ hlt, hd0, hd1'])
          clear hr hr0 hr1 hcld hclm hd0 hd1'
          have hw1 : IntKind.i64.wrap ((k : Int) + 1) = (k : Int) + 1 := IntWalk.i64_in _ (by omega)
          have hq3 : (0 : Int) ≤ (k : Int) + 1 := by omega
          have hq4 : (k : Int) + 1 < (ds.length : Int) := by omega
          have hq5 : ((k : Int) + 1).toNat = k + 1 := by omega
          have hq6 : (k : Int) < (ds.length : Int) := by omega
          have hdec1 : decide ((k : Int) < (fs.length : Int)) = true := by simp; omega
          by_cases ht : TabOk p d1 d0 fs[k]
          · have HEY : Hid (∀ m2, Calls Try.prog 94 #[.int .i64 p, u, .int .i64 d1, .int .i64 d0] (wx.drewN m2) (QW (.bool true) (wx.drewN m2))) := Lib.hid (fun m2 => bw_yes (HE.out m2) ht)
            have HTY := Lib.hid ht
            have HDN : Hid (∀ j, j < k + 1 → TabOk p (ds.getD (j + 1) 0) (ds.getD j 0) (fs.getD j [])) := Lib.hid (fun j hj => by
              by_cases e : j = k
              · subst e; exact HT.out.2 ht
              · exact HD.out j (by omega))
            clear ht HE
            go_wp2
            go_quiet ((go_at_call 94; exact qw_quiet (HEY.out _)))
            clear hw1 hq3 hq4 hq5 hq6
            go_wp2
            have HBN : Hid (Below w2.heap.size w2 (wx.drewN nq)) := Lib.hid (HB.out.trans ((drewN_below wx nq).mono HB.out.size))
            go_roundw
            case rel => exact ⟨k + 1, by omega, by go_num, HBN, HDN⟩
            case measure => simp [intOf]; omega
          · have HEY : Hid (∀ m2, Calls Try.prog 94 #[.int .i64 p, u, .int .i64 d1, .int .i64 d0] (wx.drewN m2) (QW (.bool false) (wx.drewN m2))) := Lib.hid (fun m2 => bw_no (HE.out m2) ht)
            have HC0 : Hid (mpCode p ds ms fs = 2) := Lib.hid (mpCode_two HCX.out (fun hh => ht (HT.out.1 (hh.tabs k hlt))))
            clear ht HE
            go_wp2
            go_quiet ((go_at_call 94; exact qw_quiet (HEY.out _)))
            go_wp2
            go_ret
            exact ⟨by rw [HC0.out]; first | rfl | simp, HXR.out.below.trans ((drewN_below wx nq).mono HXR.out.below.size)⟩
        · have HC0 : Hid (mpCode p ds ms fs = 0) := Lib.hid (mpCode_ok HCX.out ⟨HCX.out.1.len0, HCX.out.1.len1, by have := HL.out; omega, HCX.out.1.dims, fun j hj => HD.out j (by omega)⟩)
          go_wp2
          go_ret
          exact ⟨by rw [HC0.out]; first | rfl | simp, HXR.out.below⟩
    · have hne : ¬ (fs.length : Int) = (ms.length : Int) := by omega
      have hq1 : ((fs.length : Int) != (ms.length : Int)) = true := by simp [hne]
      have hq2 : ((fs.length : Int) == (ms.length : Int)) = false := by simp [hne]
      have HC0 : Hid (mpCode p ds ms fs = 2) := Lib.hid (mpCode_two HCX.out (fun hh => hl (by have := hh.mlen; omega)))
      go_wp2
      go_ret
      exact ⟨by rw [HC0.out]; first | rfl | simp, HX2.out.below⟩
end Go.Proofs.Ytchijefibiaphaa


namespace Go.Proofs.Ytchijefibiaphaa
open Go.RowKit

theorem flat_shift (J : Nat → List Iv) (m : Nat) : flat J (m + 1) = J 0 ++ flat (fun j => J (j + 1)) m := by
  induction m with
  | zero => simp [flat]
  | succ m ih => rw [flat_succ, ih, flat_succ (fun j => J (j + 1)), List.append_assoc]
/-- A result of three levels without its first table. -/
theorem Rw3.tail {lo hi : Nat} {W : World} {u : Value} {t : List (List Int)} {ts : List (List (List Int))} (h : Rw3 lo hi W u (t :: ts)) : ∃ b o cap, u = .slice (some ⟨b, o, none⟩) (ts.length + 1) cap ∧ ∀ o' cap', (ts = [] ∨ o' = o + 1) → Rw3 lo hi W (.slice (some ⟨b, o', none⟩) ts.length cap') ts := by
  obtain ⟨h1, I, h2, h3, h4, h5⟩ := h
  rcases h1 with ⟨hx, _⟩ | ⟨b, o, cap, hv, hlo, hhi, _, hc, hf⟩
  · cases hx
  · subst hv
    refine ⟨b, o, cap, rfl, fun o' cap' hoo => ?_⟩
    by_cases he : ts = []
    · subst he
      exact ⟨Or.inl ⟨rfl, _, _, rfl⟩, [], ⟨_, 0, _, fun _ => .slice none 0 0, fun _ => [], rfl, by omega, rfl, fun _ h => absurd h (Nat.not_lt_zero _), fun h => absurd h (Nat.lt_irrefl _)⟩, fun _ h => absurd h (by simp), List.Pairwise.nil, by simp [ivSize]⟩
    · obtain rfl : o' = o + 1 := hoo.resolve_left he
      have hpos : 0 < ts.length := List.length_pos_iff.2 he
      refine ⟨Or.inr ⟨b, o + 1, cap', rfl, hlo, hhi, hpos, fun k hk => ?_, fun k hk => ?_⟩, ?_⟩
      · obtain ⟨u, hu, hr⟩ := hc (k + 1) (by simpa using hk)
        exact ⟨u, by rw [show o + 1 + k = o + (k + 1) by omega]; exact hu, by simpa using hr⟩
      · rw [show o + 1 + k = o + (k + 1) by omega]
        exact hf (k + 1) (by simpa using hk)
      · obtain ⟨ad, m, cp, f, J, e1, e2, e3, e4, e5⟩ := h2
        injection e1 with a1 a2 a3
        subst a1
        have hm : m = ts.length + 1 := a2.symm
        subst hm e3
        obtain ⟨b2, o2, q1, q2, q3, q4⟩ := e5 (by omega)
        injection q1 with q1
        injection q1 with q5 q6
        subst q5 q6
        rw [flat_shift] at h3 h4 h5
        refine ⟨flat (fun j => J (j + 1)) ts.length, ⟨_, ts.length, cap', fun j => f (j + 1), fun j => J (j + 1), rfl, by omega, rfl, fun j hj => e4 (j + 1) (by omega), fun _ => ⟨b, o + 1, rfl, q2, q3, fun j hj => by rw [show o + 1 + j = o + (j + 1) by omega]; exact q4 (j + 1) (by omega)⟩⟩, h3.sub (fun x hx => List.mem_append_right _ hx), (List.pairwise_append.1 h4).2.1, ?_⟩
        rw [ivSize_append] at h5
        omega

end Go.Proofs.Ytchijefibiaphaa


namespace Go.Proofs.Ytchijefibiaphaa
open Go.RowKit
theorem Same.setRow {lo hi g : Nat} {w : World} (x : Array Value) (h : g < lo ∨ hi ≤ g) : Same lo hi w (w.setRow g x) := fun b hl hb => setRow_other w g b x (by omega)
end Go.Proofs.Ytchijefibiaphaa

