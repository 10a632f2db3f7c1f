/-
  Texts that ProofPbl needs, part 5.
-/
import Derived.Test.YtchijefibiaphaaZq4
import Derived.Laws.EntriesVeiled
import Derived.Deep.RegionWith
import Derived.Deep.RegionHeld3
import Derived.BigRegion
import Derived.BigQuiet
import Derived.Deep.QuietTactic
namespace Go.Proofs.Ytchijefibiaphaa
open Go.RowKit

theorem rwC_apart {lo hi a b c d : Nat} {W : World} {p : Int} {u v : Value} {xs : List Int} {ts : List (List (List Int))} (hd : Rw1 a b W u xs) (hm : Rw3 c d W v ts) (h1 : lo ≤ a) (h2 : b ≤ c ∨ d ≤ a) (h3 : lo ≤ c) (h4 : b ≤ hi) (h5 : d ≤ hi) : RwC lo hi W (.agg #[.int .i64 p, u, v]) (p, xs, ts) := by
  obtain ⟨ad, cd, hu⟩ := hd.shape
  obtain ⟨am, cm, hv⟩ := hm.shape
  obtain ⟨q1, I, s1, n1, d1, z1⟩ := hd
  obtain ⟨q3, J, s3, n3, d3, z3⟩ := hm
  subst hu hv
  refine ⟨ad, cd, am, cm, rfl, ⟨q1.wider h1 h4, q3.wider h3 h5⟩, I, J, s1.wider h1 h4, s3.wider h3 h5, n1.wider h1 h4, n3.wider h3 h5, d3, fun x hx y hy => Or.inl ?_, z1, z3⟩
  have e1 := (n1 x hx).2.1
  have e2 := (n3 y hy).1
  have e3 := (n1 x hx).1
  have e4 := (n3 y hy).2.1
  omega
/-- Where the tail of a slice of a block begins. -/
def tlO (m : Nat) : Nat := if m = 0 then 0 else 1
theorem Rw3.tail1 {lo hi g n m : Nat} {W : World} {t : List (List Int)} {ts : List (List (List Int))} (h : Rw3 lo hi W (.slice (some ⟨g, 0, none⟩) n n) (t :: ts)) (hm : ts.length = m) : Rw3 lo hi W (.slice (some ⟨g, tlO m, none⟩) m m) ts := by
  obtain ⟨b, o, cap, hv, hr⟩ := h.tail
  injection hv with e1
  injection e1 with e1
  injection e1 with e1 e2
  subst e1 e2 hm
  unfold tlO
  by_cases h0 : ts.length = 0
  · rw [if_pos h0]
    exact hr 0 _ (Or.inl (List.eq_nil_of_length_eq_zero h0))
  · rw [if_neg h0]
    exact hr 1 _ (Or.inr rfl)
theorem cell_newF (W : World) (v : Value) (t : TypeId) : (W.alloc (.cells #[v] t)).cell? ⟨W.heap.size, 0, none⟩ = some v := by simp
theorem but_of {b : Nat} {w w' : World} (h : Below w.heap.size w w') : But b w w' := ⟨h.os, h.tape, h.output, h.size, fun k hk _ => h.block k hk⟩
theorem but_row (w : World) (b : Nat) (x : Array Value) : But b w (w.setRow b x) := ⟨rfl, rfl, rfl, by simp, fun k _ hk => setRow_other w b k x hk⟩
/-- A row that the call gathered, as a result. -/
theorem gbRw1 {lo : Nat} {W : World} {u : Value} {xs : List Int} (h : Gb lo W u xs) (hl : xs.length ≤ 1048576) : Rw1 lo W.heap.size W u xs := by
  have h1 := h.g1.l1
  obtain ⟨_, h2 | ⟨g, cap, cur, rfl, hg, hh, hc, hm, hs, ht⟩⟩ := h
  · obtain ⟨rfl, h0⟩ := h2
    rw [List.eq_nil_of_length_eq_zero h0]
    exact Rw1.nil _ _ _
  · have hlt : g < W.heap.size := (Array.getElem?_eq_some_iff.1 hh).1
    refine w1_rw1 ?_ hl
    by_cases h0 : xs.length = 0
    · exact Or.inl ⟨List.eq_nil_of_length_eq_zero h0, _, _, by rw [h0]⟩
    · refine Or.inr ⟨g, 0, cap, rfl, hg, hlt, by omega, fun k hk => ?_, fun k hk => ?_⟩
      · rcases h1 with ⟨hx, _⟩ | ⟨b, o, c2, hv, _, _, hcl⟩
        · rw [hx] at h0; exact absurd rfl h0
        · injection hv with e1 e2 e3
          injection e1 with e1
          injection e1 with e1 e4
          subst e1 e4
          exact hcl k hk
      · simp [World.frozen?, hh]
theorem tail_run (g n m : Nat) (h : m + 1 = n) (W : World) : (Instr.sliceAt 23 (.slice (some ⟨g, 0, none⟩) n n) (some (.int .i64 1)) none none).run Try.prog W = .ok (.slice (some ⟨g, tlO m, none⟩) m m) W := by
  subst h
  have hU : Try.prog.underlying 23 = some (.slice (Try.prog.elem 23)) := by kernel_rfl
  have hz : (sizeOf (Try.prog.elem 23)).run Try.prog W = .ok 1 W := by kernel_rfl
  rw [run_sliceAt_slice _ _ _ _ _ _ hU, run_slice_l _ _ _ _ _ hU _ _ (by decide) (by omega), hz]
  by_cases h0 : m = 0
  · subst h0
    rfl
  · have h2 : ¬ (m + 1 = Int.toNat 1) := by show ¬ (m + 1 = 1); omega
    have h3 : tlO m = 1 := if_neg h0
    rw [h3]
    show Result.ok (sliced (some ⟨g, 0, none⟩) (Int.toNat 1) (m + 1) (m + 1) 1) W = _
    unfold sliced
    rw [if_neg h2]
    rfl
section
variable {P : Program} {ops : Array Oper} {S : World → Prop}
theorem yieldsIf_sliceL {o : Oper} {a : Act} {x y : Operand} {v u i : Value} {t : TypeId} (hg : o.guard = none) (ho : o.op = .slice t x (some y) none none) (hx : a.eval x = u) (hy : a.eval y = i) (hrun : ∀ w, (Instr.sliceAt t u (some i) none none).run P w = .ok v w) : YieldsIf P ops S o v a :=
  Or.inl ⟨by unfold Region.wanted; rw [hg], fun w _ => by
    unfold execOp
    simp only [ho, hx, hy, Option.map, Sem.run_bind, hrun w, Result.andThen_ok]
    rfl⟩
end
def PcR (p : Int) (ds : List Int) (ms fs : List (List (List Int))) (w : World) (e : Ending) (w' : World) : Prop := ∃ u, e = .returned u ∧ RwC w.heap.size w'.heap.size w' u (p, ds, ptF p ds ms fs ms.length) ∧ Below w.heap.size w w'

set_option maxHeartbeats 12800000 in
set_option maxRecDepth 100000 in
theorem perturbedComplex_any (p : Int) (dv mv fv : Value) (ds : List Int) (ms fs : List (List (List Int))) (w : World) (h : Cx 0 w dv mv ds ms) (hf : L3 0 w fv fs) (hcx : IsCx p ds ms) (hpf : PreOk p ds fs) :
    Calls Try.prog 68 #[.agg #[.int .i64 p, dv, mv], fv] w (PcR p ds ms fs w) := by
  have hres : Try.f68.results = #[.cell 4 30] := by kernel_rfl
  have HRES := Lib.hid hres
  obtain ⟨ad, cap, rfl⟩ := Sl.shape h.dims
  obtain ⟨am, capm, rfl⟩ := Sl.shape h.maps
  obtain ⟨af, cf, rfl⟩ := Sl.shape hf
  have HCX := Lib.hid hcx
  have HPF := Lib.hid hpf
  have hl6 := hcx.1.len1
  have hpos := hcx.1.len0
  have hml := hcx.1.mlen
  obtain ⟨wa, hwa⟩ : ∃ wa : World, wa = w.alloc (.cells #[.int .i64 p, .slice ad ds.length cap, .slice am ms.length capm] 30) := ⟨_, rfl⟩
  obtain ⟨w1, hw1⟩ : ∃ w1 : World, w1 = wa.alloc (.cells #[.int .i64 0, .slice none 0 0, .slice none 0 0] 30) := ⟨_, rfl⟩
  have hsa : wa.heap.size = w.heap.size + 1 := by rw [hwa]; simp
  have hs1 : w1.heap.size = w.heap.size + 2 := by rw [hw1]; simp [hsa]
  have HX1 : Hid (Bx w w1 w.heap.size p (.slice ad ds.length cap) (.slice am ms.length capm) ds ms) := Lib.hid (by rw [hw1]; exact (show Bx w wa w.heap.size p (.slice ad ds.length cap) (.slice am ms.length capm) ds ms by rw [hwa]; exact Bx.start _ h).next (below_alloc1 _ _))
  have HR0 : Hid (Rz w1 (w.heap.size + 1) 30 #[.int .i64 0, .slice none 0 0, .slice none 0 0]) := Lib.hid (by rw [hw1, ← hsa]; exact Rz.new _ _ _)
  have HF1 := Lib.hid (hf.below HX1.out.below)
  have HNX : Hid (∀ W, Below w1.heap.size w1 W → Bx w W w.heap.size p (.slice ad ds.length cap) (.slice am ms.length capm) ds ms ∧ L3 0 W (.slice af fs.length cf) fs) := Lib.hid (fun W hb => ⟨HX1.out.next hb, HF1.out.below hb⟩)
  clear h hf hcx hpf hres
  go_enter Try.func68, Try.ntmps68
  go_upto_region 1 with fail
  rw [← hwa, ← hw1]
  clear hwa hw1 hsa
  go_cut [5, 6] from 7 to 14 (fun s5 s6 wz => ∃ (u0 u1 : Value), s5 = .func (.func 105) #[.agg #[.int .i64 p, .slice ad ds.length cap, .slice am ms.length capm, .int .i64 (-1), u0]] #[] ∧ s6 = .func (.func 105) #[.agg #[.int .i64 p, .slice ad ds.length cap, .slice af fs.length cf, .int .i64 (-1), u1]] #[] ∧ Hid (Below w1.heap.size w1 wz) ∧ Hid (L3 0 wz u0 (dfL ds ms)) ∧ Hid (L3 0 wz u1 (dfL ds fs)))
  case first =>
    go_wp2
    refine wp_region_held (S := fun W => Below w1.heap.size w1 W) (by kernel_rfl) ?_
    have S0 : Below w1.heap.size w1 w1.drew := (Below.refl _ _).drew
    change wpAnyH _ _ _ _ _ _ _ _ w1.drew
    obtain ⟨wd, hwd⟩ : ∃ wd, wd = w1.drew := ⟨_, rfl⟩
    rw [← hwd] at S0 ⊢
    clear hwd
    refine held_take (i := 0) (v := .agg #[.int .i64 p, .slice ad ds.length cap, .slice am ms.length capm]) (some 7) rfl rfl (by kernel_rfl) (by kernel_rfl) (by kernel_rfl) (fun _ _ _ h => h) (yieldsIf_cell (by kernel_rfl) rfl (by kernel_rfl) (fun W h => hload3x (HNX.out W h).1)) S0 ?_
    refine held_take (i := 3) (v := .agg #[.int .i64 p, .slice ad ds.length cap, .slice am ms.length capm]) (some 10) rfl rfl (by kernel_rfl) (by kernel_rfl) (by kernel_rfl) (fun _ _ _ h => h) (yieldsIf_cell (by kernel_rfl) rfl (by kernel_rfl) (fun W h => hload3x (HNX.out W h).1)) S0 ?_
    refine held_take (i := 4) (v := .slice af fs.length cf) (some 11) rfl rfl (by kernel_rfl) (by kernel_rfl) (by kernel_rfl) (fun _ _ _ h => h) (yieldsIf_move (by kernel_rfl) rfl (by kernel_rfl)) S0 ?_
    refine held_one (i := 1) (by kernel_rfl) ?_
    · refine op_enter (i := 1) (some 8) (f := 104) (args := #[.agg #[.int .i64 p, .slice ad ds.length cap, .slice am ms.length capm]]) rfl rfl rfl (by kernel_rfl) (differentialMap_any p _ _ ds ms wd (HNX.out wd S0).1.cx HCX.out) ?_ (fun c w' h => by obtain ⟨_, h, _⟩ := h; cases h) (fun w' h => by obtain ⟨_, h, _⟩ := h; cases h)
      rintro e1 W1 ⟨u1, he1, hl1, hb1⟩
      injection he1 with he1
      subst he1
      obtain ⟨au1, cu1, rfl⟩ := Sl.shape hl1
      have S1 : Below w1.heap.size w1 W1 := S0.trans (hb1.mono S0.size)
      refine ⟨S1, ?_⟩
      refine held_take (i := 2) (v := .func (.func 105) #[.agg #[.int .i64 p, .slice ad ds.length cap, .slice am ms.length capm, .int .i64 (-1), (.slice au1 (dfL ds ms).length cu1)]] #[]) (some 9) rfl rfl (by kernel_rfl) (by kernel_rfl) (by kernel_rfl) (fun _ _ _ h => h) (yieldsIf_run (by kernel_rfl) (fun W _ => by kernel_rfl)) S1 ?_
      refine held_one (i := 5) (by kernel_rfl) ?_
      · refine op_enter (i := 5) (some 12) (f := 101) (args := #[.agg #[.int .i64 p, .slice ad ds.length cap, .slice am ms.length capm], .slice af fs.length cf]) rfl rfl rfl (by kernel_rfl) (withMaps_any p _ _ _ ds ms fs W1 (HNX.out W1 S1).1.cx (HNX.out W1 S1).2) ?_ (fun c w' h => by cases h.1) (fun w' h => by cases h.1)
        rintro e2 W2 ⟨he2, hb2⟩
        injection he2 with he2
        subst he2
        have S2 : Below w1.heap.size w1 W2 := S1.trans (hb2.mono S1.size)
        have hA2 := hl1.below hb2
        refine ⟨S2, ?_⟩
        refine held_one (i := 6) (by kernel_rfl) ?_
        · refine op_enter (i := 6) (some 13) (f := 104) (args := #[.agg #[.int .i64 p, .slice ad ds.length cap, .slice af fs.length cf]]) rfl rfl rfl (by kernel_rfl) (differentialMapP p _ _ ds fs W2 ⟨(HNX.out W2 S2).1.cx.dims, (HNX.out W2 S2).2⟩ HPF.out) ?_ (fun c w' h => by obtain ⟨_, h, _⟩ := h; cases h) (fun w' h => by obtain ⟨_, h, _⟩ := h; cases h)
          rintro e3 W3 ⟨u3, he3, hl3, hb3⟩
          injection he3 with he3
          subst he3
          obtain ⟨au3, cu3, rfl⟩ := Sl.shape hl3
          have S3 : Below w1.heap.size w1 W3 := S2.trans (hb3.mono S2.size)
          have hA3 := hA2.below hb3
          refine ⟨S3, ?_⟩
          refine held_take (i := 7) (v := .func (.func 105) #[.agg #[.int .i64 p, .slice ad ds.length cap, .slice af fs.length cf, .int .i64 (-1), (.slice au3 (dfL ds fs).length cu3)]] #[]) (some 14) rfl rfl (by kernel_rfl) (by kernel_rfl) (by kernel_rfl) (fun _ _ _ h => h) (yieldsIf_run (by kernel_rfl) (fun W _ => by kernel_rfl)) S3 ?_
          refine held_take (i := 8) (v := .func (.func 105) #[.agg #[.int .i64 p, .slice ad ds.length cap, .slice am ms.length capm, .int .i64 (-1), (.slice au1 (dfL ds ms).length cu1)]] #[]) (some 5) rfl rfl (by kernel_rfl) (by kernel_rfl) (by kernel_rfl) (fun _ _ _ h => h) (yieldsIf_assign (by kernel_rfl) rfl (by kernel_rfl)) S3 ?_
          refine held_take (i := 9) (v := .func (.func 105) #[.agg #[.int .i64 p, .slice ad ds.length cap, .slice af fs.length cf, .int .i64 (-1), (.slice au3 (dfL ds fs).length cu3)]] #[]) (some 6) rfl rfl (by kernel_rfl) (by kernel_rfl) (by kernel_rfl) (fun _ _ _ h => h) (yieldsIf_assign (by kernel_rfl) rfl (by kernel_rfl)) S3 ?_
          refine wpAnyH_done (by kernel_rfl) ?_ _
          simp only [Act.put, List.setIfInBounds_toArray, List.set_cons_zero, List.set_cons_succ]
          go_wp2
          go_meet
          exact ⟨_, _, rfl, rfl, Lib.hid S3, Lib.hid hA3, Lib.hid hl3⟩
  case rest =>
    obtain ⟨u0, u1, rfl, rfl, HB, HU0, HU1⟩ := hcut
    obtain ⟨wz, hwz⟩ : ∃ wz : World, wz = wc := ⟨_, rfl⟩
    subst hwz
    have HZZ : Hid (∀ W, Below wz.heap.size wz W → Bx w W w.heap.size p (.slice ad ds.length cap) (.slice am ms.length capm) ds ms ∧ Cx 0 W (.slice ad ds.length cap) (.slice af fs.length cf) ds fs ∧ L3 0 W u0 (dfL ds ms) ∧ L3 0 W u1 (dfL ds fs) ∧ Rz W (w.heap.size + 1) 30 #[.int .i64 0, .slice none 0 0, .slice none 0 0] ∧ Below w.heap.size w W) := Lib.hid (fun W hW => by
      have h1 := HB.out.trans (hW.mono HB.out.size)
      have h2 := HNX.out W h1
      exact ⟨h2.1, ⟨h2.1.cx.dims, h2.2⟩, HU0.out.below hW, HU1.out.below hW, HR0.out.next h1, h2.1.below⟩)
    have hsz := HB.out.size
    have HZB : Hid (∀ W, But (w.heap.size + 1) wz W → W.cell? ⟨w.heap.size, 0, none⟩ = some (.int .i64 p) ∧ W.cell? ⟨w.heap.size, 1, none⟩ = some (.slice ad ds.length cap) ∧ W.cell? ⟨w.heap.size, 2, none⟩ = some (.slice am ms.length capm)) := Lib.hid (fun W hW => by
      have h2 := (HZZ.out wz (Below.refl _ _)).1
      exact ⟨by rw [hW.cell (cell_lt h2.c0) (by simp)]; exact h2.c0, by rw [hW.cell (cell_lt h2.c1) (by simp)]; exact h2.c1, by rw [hW.cell (cell_lt h2.c2) (by simp)]; exact h2.c2⟩)
    go_upto_region 2 with fail
    refine wp_region_held (S := fun W => But (w.heap.size + 1) wz W) (by kernel_rfl) ?_
    have S0 : Below wz.heap.size wz wz.drew := (Below.refl _ _).drew
    change wpAnyH _ _ _ _ _ _ _ _ wz.drew
    obtain ⟨wd, hwd⟩ : ∃ wd, wd = wz.drew := ⟨_, rfl⟩
    rw [← hwd] at S0 ⊢
    clear hwd
    have zd := S0.size
    refine held_take (i := 0) (v := .pointer (some ⟨w.heap.size, 0, none⟩)) (some 15) rfl rfl (by kernel_rfl) (by kernel_rfl) (by kernel_rfl) (fun _ _ _ h => h) (yieldsIf_run (by kernel_rfl) (fun W _ => by kernel_rfl)) (but_of S0) ?_
    refine held_take (i := 1) (v := .int .i64 p) (some 16) rfl rfl (by kernel_rfl) (by kernel_rfl) (by kernel_rfl) (fun _ _ _ h => h) (yieldsIf_cell (by kernel_rfl) rfl (by kernel_rfl) (fun W h => hload W (HZB.out W h).1)) (but_of S0) ?_
    refine held_take (i := 2) (v := .pointer (some ⟨w.heap.size, 1, none⟩)) (some 17) rfl rfl (by kernel_rfl) (by kernel_rfl) (by kernel_rfl) (fun _ _ _ h => h) (yieldsIf_run (by kernel_rfl) (fun W _ => by kernel_rfl)) (but_of S0) ?_
    refine held_take (i := 3) (v := .slice ad ds.length cap) (some 18) rfl rfl (by kernel_rfl) (by kernel_rfl) (by kernel_rfl) (fun _ _ _ h => h) (yieldsIf_cell (by kernel_rfl) rfl (by kernel_rfl) (fun W h => hloadS W (HZB.out W h).2.1)) (but_of S0) ?_
    refine held_take (i := 5) (v := .agg #[.int .i64 p, .slice ad ds.length cap, .slice am ms.length capm]) (some 20) rfl rfl (by kernel_rfl) (by kernel_rfl) (by kernel_rfl) (fun _ _ _ h => h) (yieldsIf_cell (by kernel_rfl) rfl (by kernel_rfl) (fun W h => hloadC0 W (HZB.out W h).1 (HZB.out W h).2.1 (HZB.out W h).2.2)) (but_of S0) ?_
    refine held_take (i := 6) (v := .agg #[.int .i64 p, .slice ad ds.length cap, .slice am ms.length capm]) (some 21) rfl rfl (by kernel_rfl) (by kernel_rfl) (by kernel_rfl) (fun _ _ _ h => h) (yieldsIf_cell (by kernel_rfl) rfl (by kernel_rfl) (fun W h => hloadC0 W (HZB.out W h).1 (HZB.out W h).2.1 (HZB.out W h).2.2)) (but_of S0) ?_
    refine held_take (i := 7) (v := .func (.func 105) #[.agg #[.int .i64 p, .slice ad ds.length cap, .slice am ms.length capm, .int .i64 (-1), u0]] #[]) (some 22) rfl rfl (by kernel_rfl) (by kernel_rfl) (by kernel_rfl) (fun _ _ _ h => h) (yieldsIf_move (by kernel_rfl) rfl (by kernel_rfl)) (but_of S0) ?_
    refine held_take (i := 10) (v := .func (.func 105) #[.agg #[.int .i64 p, .slice ad ds.length cap, .slice af fs.length cf, .int .i64 (-1), u1]] #[]) (some 25) rfl rfl (by kernel_rfl) (by kernel_rfl) (by kernel_rfl) (fun _ _ _ h => h) (yieldsIf_move (by kernel_rfl) rfl (by kernel_rfl)) (but_of S0) ?_
    refine held_three (i := 4) (j := 8) (l := 11) (by kernel_rfl) ?_ ?_ ?_
    · refine op_enter (i := 4) (some 19) (f := 106) (args := #[.slice ad ds.length cap]) rfl rfl rfl (by kernel_rfl) (clone_any _ ds wd (HZZ.out wd S0).1.cx.dims (by omega) hpos) ?_ (fun c w' h => by obtain ⟨_, h, _⟩ := h; cases h) (fun w' h => by obtain ⟨_, h, _⟩ := h; cases h)
      rintro e4 W4 ⟨u4, he4, hg4, hb4⟩
      injection he4 with he4
      subst he4
      have S4 : Below wz.heap.size wz W4 := S0.trans (hb4.mono S0.size)
      have hC4 := gbRw1 hg4 (by omega)
      obtain ⟨au4, cu4, rfl⟩ := hC4.shape
      have z4 := hb4.size
      refine ⟨but_of S4, ?_⟩
      refine held_two (i := 8) (j := 11) (by kernel_rfl) ?_ ?_
      · obtain ⟨W5, hW5⟩ : ∃ W', W' = W4.alloc (.cells #[.func (.func 105) #[.agg #[.int .i64 p, .slice ad ds.length cap, .slice am ms.length capm, .int .i64 (-1), u0]] #[]] 116) := ⟨_, rfl⟩
        have hb5 : Below W4.heap.size W4 W5 := by rw [hW5]; exact below_alloc1 _ _
        have hA5 : W5.cell? ⟨W4.heap.size, 0, none⟩ = some (.func (.func 105) #[.agg #[.int .i64 p, .slice ad ds.length cap, .slice am ms.length capm, .int .i64 (-1), u0]] #[]) := by rw [hW5]; exact cell_newF _ _ _
        have S5 : Below wz.heap.size wz W5 := S4.trans (hb5.mono S4.size)
        have z5 := hb5.size
        have hC5 := hC4.next hb5 (by omega)
        refine op_mem (i := 8) (v := .slice (some ⟨W4.heap.size, 0, none⟩) 1 1) (w' := W5) (some 23) rfl rfl rfl (by rw [hW5]; go_simp) ?_
        refine ⟨but_of S5, ?_⟩
        refine held_two (i := 9) (j := 11) (by kernel_rfl) ?_ ?_
        · refine op_enter (i := 9) (some 24) (f := 108) (args := #[.int .i64 1, .slice (some ⟨W4.heap.size, 0, none⟩) 1 1]) rfl rfl rfl (by kernel_rfl) (along_any _ _ 1 1 W5) ?_ (fun c w' h => by cases h.1) (fun w' h => by cases h.1)
          rintro e6 W6 ⟨he6, hb6⟩
          injection he6 with he6
          subst he6
          have S6 : Below wz.heap.size wz W6 := S5.trans (hb6.mono S5.size)
          have z6 := hb6.size
          have hA6 := later hb6 (Nat.le_refl _) hA5
          have hC6 := hC5.next hb6 (by omega)
          refine ⟨but_of S6, ?_⟩
          refine held_one (i := 11) (by kernel_rfl) ?_
          · obtain ⟨W7, hW7⟩ : ∃ W', W' = W6.alloc (.cells #[.func (.func 105) #[.agg #[.int .i64 p, .slice ad ds.length cap, .slice af fs.length cf, .int .i64 (-1), u1]] #[]] 116) := ⟨_, rfl⟩
            have hb7 : Below W6.heap.size W6 W7 := by rw [hW7]; exact below_alloc1 _ _
            have hB7 : W7.cell? ⟨W6.heap.size, 0, none⟩ = some (.func (.func 105) #[.agg #[.int .i64 p, .slice ad ds.length cap, .slice af fs.length cf, .int .i64 (-1), u1]] #[]) := by rw [hW7]; exact cell_newF _ _ _
            have S7 : Below wz.heap.size wz W7 := S6.trans (hb7.mono S6.size)
            have z7 := hb7.size
            have hA7 := later hb7 (Nat.le_refl _) hA6
            have hC7 := hC6.next hb7 (by omega)
            refine op_mem (i := 11) (v := .slice (some ⟨W6.heap.size, 0, none⟩) 1 1) (w' := W7) (some 26) rfl rfl rfl (by rw [hW7]; go_simp) ?_
            refine ⟨but_of S7, ?_⟩
            refine held_one (i := 12) (by kernel_rfl) ?_
            · refine op_enter (i := 12) (some 27) (f := 108) (args := #[.int .i64 1, .slice (some ⟨W6.heap.size, 0, none⟩) 1 1]) rfl rfl rfl (by kernel_rfl) (along_any _ _ 1 1 W7) ?_ (fun c w' h => by cases h.1) (fun w' h => by cases h.1)
              rintro e8 W8 ⟨he8, hb8⟩
              injection he8 with he8
              subst he8
              have S8 : Below wz.heap.size wz W8 := S7.trans (hb8.mono S7.size)
              have z8 := hb8.size
              have hA8 := later hb8 (Nat.le_refl _) hA7
              have hB8 := later hb8 (Nat.le_refl _) hB7
              have hC8 := hC7.next hb8 (by omega)
              refine ⟨but_of S8, ?_⟩
              refine held_one (i := 13) (by kernel_rfl) ?_
              · obtain ⟨W9, hW9⟩ : ∃ W', W' = W8.alloc (.cells #[.int .i64 1, .slice (some ⟨W4.heap.size, 0, none⟩) 1 1, .int .i64 1, .slice (some ⟨W6.heap.size, 0, none⟩) 1 1] 123) := ⟨_, rfl⟩
                have hb9 : Below W8.heap.size W8 W9 := by rw [hW9]; exact below_alloc1 _ _
                have p0_9 : W9.cell? ⟨W8.heap.size, 0, none⟩ = some (.int .i64 1) := by rw [hW9]; simp
                have p1_9 : W9.cell? ⟨W8.heap.size, 1, none⟩ = some (.slice (some ⟨W4.heap.size, 0, none⟩) 1 1) := by rw [hW9]; simp
                have p2_9 : W9.cell? ⟨W8.heap.size, 2, none⟩ = some (.int .i64 1) := by rw [hW9]; simp
                have p3_9 : W9.cell? ⟨W8.heap.size, 3, none⟩ = some (.slice (some ⟨W6.heap.size, 0, none⟩) 1 1) := by rw [hW9]; simp
                have S9 : Below wz.heap.size wz W9 := S8.trans (hb9.mono S8.size)
                have z9 := hb9.size
                have hA9 := later hb9 (Nat.le_refl _) hA8
                have hB9 := later hb9 (Nat.le_refl _) hB8
                have hC9 := hC8.next hb9 (by omega)
                refine op_mem (i := 13) (v := .slice (some ⟨W8.heap.size, 0, none⟩) 2 2) (w' := W9) (some 28) rfl rfl rfl (by rw [hW9]; go_simp) ?_
                refine ⟨but_of S9, ?_⟩
                refine held_one (i := 14) (by kernel_rfl) ?_
                · refine op_enter (i := 14) (some 29) (f := 107) (args := #[.agg #[.int .i64 p, .slice ad ds.length cap, .slice am ms.length capm], .agg #[.int .i64 p, .slice ad ds.length cap, .slice am ms.length capm], .int .i64 (-1), .slice (some ⟨W8.heap.size, 0, none⟩) 2 2]) rfl rfl rfl (by kernel_rfl) (ptSum_any p (W8.heap.size) (W4.heap.size) (W6.heap.size) _ _ _ u0 u1 ds ms fs W9 (HZZ.out W9 S9).1.cx (HZZ.out W9 S9).2.1 (HZZ.out W9 S9).2.2.1 (HZZ.out W9 S9).2.2.2.1 HCX.out HPF.out p0_9 p1_9 p2_9 p3_9 hA9 hB9) ?_ (fun c w' h => by obtain ⟨_, h, _⟩ := h; cases h) (fun w' h => by obtain ⟨_, h, _⟩ := h; cases h)
                  rintro e10 W10 ⟨g10, he10, hq10, hr10, hb10⟩
                  injection he10 with he10
                  subst he10
                  have S10 : Below wz.heap.size wz W10 := S9.trans (hb10.mono S9.size)
                  obtain ⟨t0, ht0⟩ := ptG_tail HCX.out.1 HPF.out
                  rw [ht0] at hr10
                  have hS10 := hr10.tail1 (ptF_length _ _ _ _ _)
                  clear ht0
                  have z10 := hb10.size
                  have hA10 := later hb10 (Nat.le_refl _) hA9
                  have hB10 := later hb10 (Nat.le_refl _) hB9
                  have hC10 := hC9.next hb10 (by omega)
                  refine ⟨but_of S10, ?_⟩
                  refine held_take (i := 15) (v := .slice (some ⟨g10, tlO ms.length, none⟩) ms.length ms.length) (some 30) rfl rfl (by kernel_rfl) (by kernel_rfl) (by kernel_rfl) (fun _ _ _ h => h) (yieldsIf_sliceL (by kernel_rfl) rfl (by kernel_rfl) (by kernel_rfl) (fun W => tail_run g10 ds.length ms.length hml W)) (but_of S10) ?_
                  have hZW := HZZ.out W10 S10
                  refine held_take (i := 16) (v := .agg #[.int .i64 p, .slice au4 ds.length cu4, .slice (some ⟨g10, tlO ms.length, none⟩) ms.length ms.length]) (some 31) rfl rfl (by kernel_rfl) (by kernel_rfl) (by kernel_rfl) (fun _ _ _ h => h) (yieldsIf_run (by kernel_rfl) (fun W _ => by kernel_rfl)) (but_of S10) ?_
                  refine held_one (i := 17) (by kernel_rfl) ?_
                  obtain ⟨WF, hWF⟩ : ∃ WF, WF = (W10.setRow (w.heap.size + 1) #[.int .i64 p, .slice au4 ds.length cu4, .slice (some ⟨g10, tlO ms.length, none⟩) ms.length ms.length]) := ⟨_, rfl⟩
                  have hbF : Below w.heap.size w WF := by rw [hWF]; exact below_setRow hZW.2.2.2.2.2 (by omega) _
                  have hBUF : But (w.heap.size + 1) wz WF := by rw [hWF]; exact (but_of S10).trans (but_row _ _ _)
                  have hRF : Rz WF (w.heap.size + 1) 30 #[.int .i64 p, .slice au4 ds.length cu4, .slice (some ⟨g10, tlO ms.length, none⟩) ms.length ms.length] := by rw [hWF]; exact Rz.set hZW.2.2.2.2.1 _
                  have hCF : Rw1 wd.heap.size W4.heap.size WF (.slice au4 ds.length cu4) ds := by rw [hWF]; exact hC10.same (Same.setRow _ (Or.inl (by omega)))
                  have hSF : Rw3 W9.heap.size W10.heap.size WF (.slice (some ⟨g10, tlO ms.length, none⟩) ms.length ms.length) (ptF p ds ms fs ms.length) := by rw [hWF]; exact hS10.same (Same.setRow _ (Or.inl (by omega)))
                  have hsF : W10.heap.size ≤ WF.heap.size := by rw [hWF]; exact Nat.le_of_eq (by simp)
                  refine op_row (i := 17) rfl rfl rfl 30 (.tmp 4) (.tmp 31) rfl (w.heap.size + 1) #[.int .i64 p, .slice au4 ds.length cu4, .slice (some ⟨g10, tlO ms.length, none⟩) ms.length ms.length] (by kernel_rfl) (by kernel_rfl) 30 _ hZW.2.2.2.2.1 (infoCo _ _ _) (by kernel_rfl) (by kernel_rfl) ?_
                  rw [← hWF]
                  refine ⟨hBUF, ?_⟩
                  refine wpAnyH_done (by kernel_rfl) ?_ _
                  simp only [Act.put, List.setIfInBounds_toArray, List.set_cons_zero, List.set_cons_succ]
                  have b0 := hRF.cell (i := 0) rfl
                  have b1 := hRF.cell (i := 1) rfl
                  have b2 := hRF.cell (i := 2) rfl
                  clear hRF hWF hZW
                  go_wp2
                  refine bodyPost_ret (v := .agg #[.int .i64 p, .slice au4 ds.length cu4, .slice (some ⟨g10, tlO ms.length, none⟩) ms.length ms.length]) ?_ rfl ⟨_, rfl, rwC_apart hCF hSF (by omega) (Or.inl (by omega)) (by omega) (by omega) (by omega), hbF⟩
                  simp only [results, HRES.out]
                  go_simp
        · obtain ⟨W11, hW11⟩ : ∃ W', W' = W5.alloc (.cells #[.func (.func 105) #[.agg #[.int .i64 p, .slice ad ds.length cap, .slice af fs.length cf, .int .i64 (-1), u1]] #[]] 116) := ⟨_, rfl⟩
          have hb11 : Below W5.heap.size W5 W11 := by rw [hW11]; exact below_alloc1 _ _
          have hB11 : W11.cell? ⟨W5.heap.size, 0, none⟩ = some (.func (.func 105) #[.agg #[.int .i64 p, .slice ad ds.length cap, .slice af fs.length cf, .int .i64 (-1), u1]] #[]) := by rw [hW11]; exact cell_newF _ _ _
          have S11 : Below wz.heap.size wz W11 := S5.trans (hb11.mono S5.size)
          have z11 := hb11.size
          have hA11 := later hb11 (Nat.le_refl _) hA5
          have hC11 := hC5.next hb11 (by omega)
          refine op_mem (i := 11) (v := .slice (some ⟨W5.heap.size, 0, none⟩) 1 1) (w' := W11) (some 26) rfl rfl rfl (by rw [hW11]; go_simp) ?_
          refine ⟨but_of S11, ?_⟩
          refine held_one (i := 9) (by kernel_rfl) ?_
          · refine op_enter (i := 9) (some 24) (f := 108) (args := #[.int .i64 1, .slice (some ⟨W4.heap.size, 0, none⟩) 1 1]) rfl rfl rfl (by kernel_rfl) (along_any _ _ 1 1 W11) ?_ (fun c w' h => by cases h.1) (fun w' h => by cases h.1)
            rintro e12 W12 ⟨he12, hb12⟩
            injection he12 with he12
            subst he12
            have S12 : Below wz.heap.size wz W12 := S11.trans (hb12.mono S11.size)
            have z12 := hb12.size
            have hA12 := later hb12 (Nat.le_refl _) hA11
            have hB12 := later hb12 (Nat.le_refl _) hB11
            have hC12 := hC11.next hb12 (by omega)
            refine ⟨but_of S12, ?_⟩
            refine held_one (i := 12) (by kernel_rfl) ?_
            · refine op_enter (i := 12) (some 27) (f := 108) (args := #[.int .i64 1, .slice (some ⟨W5.heap.size, 0, none⟩) 1 1]) rfl rfl rfl (by kernel_rfl) (along_any _ _ 1 1 W12) ?_ (fun c w' h => by cases h.1) (fun w' h => by cases h.1)
              rintro e13 W13 ⟨he13, hb13⟩
              injection he13 with he13
              subst he13
              have S13 : Below wz.heap.size wz W13 := S12.trans (hb13.mono S12.size)
              have z13 := hb13.size
              have hA13 := later hb13 (Nat.le_refl _) hA12
              have hB13 := later hb13 (Nat.le_refl _) hB12
              have hC13 := hC12.next hb13 (by omega)
              refine ⟨but_of S13, ?_⟩
              refine held_one (i := 13) (by kernel_rfl) ?_
              · obtain ⟨W14, hW14⟩ : ∃ W', W' = W13.alloc (.cells #[.int .i64 1, .slice (some ⟨W4.heap.size, 0, none⟩) 1 1, .int .i64 1, .slice (some ⟨W5.heap.size, 0, none⟩) 1 1] 123) := ⟨_, rfl⟩
                have hb14 : Below W13.heap.size W13 W14 := by rw [hW14]; exact below_alloc1 _ _
                have p0_14 : W14.cell? ⟨W13.heap.size, 0, none⟩ = some (.int .i64 1) := by rw [hW14]; simp
                have p1_14 : W14.cell? ⟨W13.heap.size, 1, none⟩ = some (.slice (some ⟨W4.heap.size, 0, none⟩) 1 1) := by rw [hW14]; simp
                have p2_14 : W14.cell? ⟨W13.heap.size, 2, none⟩ = some (.int .i64 1) := by rw [hW14]; simp
                have p3_14 : W14.cell? ⟨W13.heap.size, 3, none⟩ = some (.slice (some ⟨W5.heap.size, 0, none⟩) 1 1) := by rw [hW14]; simp
                have S14 : Below wz.heap.size wz W14 := S13.trans (hb14.mono S13.size)
                have z14 := hb14.size
                have hA14 := later hb14 (Nat.le_refl _) hA13
                have hB14 := later hb14 (Nat.le_refl _) hB13
                have hC14 := hC13.next hb14 (by omega)
                refine op_mem (i := 13) (v := .slice (some ⟨W13.heap.size, 0, none⟩) 2 2) (w' := W14) (some 28) rfl rfl rfl (by rw [hW14]; go_simp) ?_
                refine ⟨but_of S14, ?_⟩
                refine held_one (i := 14) (by kernel_rfl) ?_
                · refine op_enter (i := 14) (some 29) (f := 107) (args := #[.agg #[.int .i64 p, .slice ad ds.length cap, .slice am ms.length capm], .agg #[.int .i64 p, .slice ad ds.length cap, .slice am ms.length capm], .int .i64 (-1), .slice (some ⟨W13.heap.size, 0, none⟩) 2 2]) rfl rfl rfl (by kernel_rfl) (ptSum_any p (W13.heap.size) (W4.heap.size) (W5.heap.size) _ _ _ u0 u1 ds ms fs W14 (HZZ.out W14 S14).1.cx (HZZ.out W14 S14).2.1 (HZZ.out W14 S14).2.2.1 (HZZ.out W14 S14).2.2.2.1 HCX.out HPF.out p0_14 p1_14 p2_14 p3_14 hA14 hB14) ?_ (fun c w' h => by obtain ⟨_, h, _⟩ := h; cases h) (fun w' h => by obtain ⟨_, h, _⟩ := h; cases h)
                  rintro e15 W15 ⟨g15, he15, hq15, hr15, hb15⟩
                  injection he15 with he15
                  subst he15
                  have S15 : Below wz.heap.size wz W15 := S14.trans (hb15.mono S14.size)
                  obtain ⟨t0, ht0⟩ := ptG_tail HCX.out.1 HPF.out
                  rw [ht0] at hr15
                  have hS15 := hr15.tail1 (ptF_length _ _ _ _ _)
                  clear ht0
                  have z15 := hb15.size
                  have hA15 := later hb15 (Nat.le_refl _) hA14
                  have hB15 := later hb15 (Nat.le_refl _) hB14
                  have hC15 := hC14.next hb15 (by omega)
                  refine ⟨but_of S15, ?_⟩
                  refine held_take (i := 15) (v := .slice (some ⟨g15, tlO ms.length, none⟩) ms.length ms.length) (some 30) rfl rfl (by kernel_rfl) (by kernel_rfl) (by kernel_rfl) (fun _ _ _ h => h) (yieldsIf_sliceL (by kernel_rfl) rfl (by kernel_rfl) (by kernel_rfl) (fun W => tail_run g15 ds.length ms.length hml W)) (but_of S15) ?_
                  have hZW := HZZ.out W15 S15
                  refine held_take (i := 16) (v := .agg #[.int .i64 p, .slice au4 ds.length cu4, .slice (some ⟨g15, tlO ms.length, none⟩) ms.length ms.length]) (some 31) rfl rfl (by kernel_rfl) (by kernel_rfl) (by kernel_rfl) (fun _ _ _ h => h) (yieldsIf_run (by kernel_rfl) (fun W _ => by kernel_rfl)) (but_of S15) ?_
                  refine held_one (i := 17) (by kernel_rfl) ?_
                  obtain ⟨WF, hWF⟩ : ∃ WF, WF = (W15.setRow (w.heap.size + 1) #[.int .i64 p, .slice au4 ds.length cu4, .slice (some ⟨g15, tlO ms.length, none⟩) ms.length ms.length]) := ⟨_, rfl⟩
                  have hbF : Below w.heap.size w WF := by rw [hWF]; exact below_setRow hZW.2.2.2.2.2 (by omega) _
                  have hBUF : But (w.heap.size + 1) wz WF := by rw [hWF]; exact (but_of S15).trans (but_row _ _ _)
                  have hRF : Rz WF (w.heap.size + 1) 30 #[.int .i64 p, .slice au4 ds.length cu4, .slice (some ⟨g15, tlO ms.length, none⟩) ms.length ms.length] := by rw [hWF]; exact Rz.set hZW.2.2.2.2.1 _
                  have hCF : Rw1 wd.heap.size W4.heap.size WF (.slice au4 ds.length cu4) ds := by rw [hWF]; exact hC15.same (Same.setRow _ (Or.inl (by omega)))
                  have hSF : Rw3 W14.heap.size W15.heap.size WF (.slice (some ⟨g15, tlO ms.length, none⟩) ms.length ms.length) (ptF p ds ms fs ms.length) := by rw [hWF]; exact hS15.same (Same.setRow _ (Or.inl (by omega)))
                  have hsF : W15.heap.size ≤ WF.heap.size := by rw [hWF]; exact Nat.le_of_eq (by simp)
                  refine op_row (i := 17) rfl rfl rfl 30 (.tmp 4) (.tmp 31) rfl (w.heap.size + 1) #[.int .i64 p, .slice au4 ds.length cu4, .slice (some ⟨g15, tlO ms.length, none⟩) ms.length ms.length] (by kernel_rfl) (by kernel_rfl) 30 _ hZW.2.2.2.2.1 (infoCo _ _ _) (by kernel_rfl) (by kernel_rfl) ?_
                  rw [← hWF]
                  refine ⟨hBUF, ?_⟩
                  refine wpAnyH_done (by kernel_rfl) ?_ _
                  simp only [Act.put, List.setIfInBounds_toArray, List.set_cons_zero, List.set_cons_succ]
                  have b0 := hRF.cell (i := 0) rfl
                  have b1 := hRF.cell (i := 1) rfl
                  have b2 := hRF.cell (i := 2) rfl
                  clear hRF hWF hZW
                  go_wp2
                  refine bodyPost_ret (v := .agg #[.int .i64 p, .slice au4 ds.length cu4, .slice (some ⟨g15, tlO ms.length, none⟩) ms.length ms.length]) ?_ rfl ⟨_, rfl, rwC_apart hCF hSF (by omega) (Or.inl (by omega)) (by omega) (by omega) (by omega), hbF⟩
                  simp only [results, HRES.out]
                  go_simp
      · obtain ⟨W16, hW16⟩ : ∃ W', W' = W4.alloc (.cells #[.func (.func 105) #[.agg #[.int .i64 p, .slice ad ds.length cap, .slice af fs.length cf, .int .i64 (-1), u1]] #[]] 116) := ⟨_, rfl⟩
        have hb16 : Below W4.heap.size W4 W16 := by rw [hW16]; exact below_alloc1 _ _
        have hB16 : W16.cell? ⟨W4.heap.size, 0, none⟩ = some (.func (.func 105) #[.agg #[.int .i64 p, .slice ad ds.length cap, .slice af fs.length cf, .int .i64 (-1), u1]] #[]) := by rw [hW16]; exact cell_newF _ _ _
        have S16 : Below wz.heap.size wz W16 := S4.trans (hb16.mono S4.size)
        have z16 := hb16.size
        have hC16 := hC4.next hb16 (by omega)
        refine op_mem (i := 11) (v := .slice (some ⟨W4.heap.size, 0, none⟩) 1 1) (w' := W16) (some 26) rfl rfl rfl (by rw [hW16]; go_simp) ?_
        refine ⟨but_of S16, ?_⟩
        refine held_one (i := 8) (by kernel_rfl) ?_
        · obtain ⟨W17, hW17⟩ : ∃ W', W' = W16.alloc (.cells #[.func (.func 105) #[.agg #[.int .i64 p, .slice ad ds.length cap, .slice am ms.length capm, .int .i64 (-1), u0]] #[]] 116) := ⟨_, rfl⟩
          have hb17 : Below W16.heap.size W16 W17 := by rw [hW17]; exact below_alloc1 _ _
          have hA17 : W17.cell? ⟨W16.heap.size, 0, none⟩ = some (.func (.func 105) #[.agg #[.int .i64 p, .slice ad ds.length cap, .slice am ms.length capm, .int .i64 (-1), u0]] #[]) := by rw [hW17]; exact cell_newF _ _ _
          have S17 : Below wz.heap.size wz W17 := S16.trans (hb17.mono S16.size)
          have z17 := hb17.size
          have hB17 := later hb17 (Nat.le_refl _) hB16
          have hC17 := hC16.next hb17 (by omega)
          refine op_mem (i := 8) (v := .slice (some ⟨W16.heap.size, 0, none⟩) 1 1) (w' := W17) (some 23) rfl rfl rfl (by rw [hW17]; go_simp) ?_
          refine ⟨but_of S17, ?_⟩
          refine held_one (i := 9) (by kernel_rfl) ?_
          · refine op_enter (i := 9) (some 24) (f := 108) (args := #[.int .i64 1, .slice (some ⟨W16.heap.size, 0, none⟩) 1 1]) rfl rfl rfl (by kernel_rfl) (along_any _ _ 1 1 W17) ?_ (fun c w' h => by cases h.1) (fun w' h => by cases h.1)
            rintro e18 W18 ⟨he18, hb18⟩
            injection he18 with he18
            subst he18
            have S18 : Below wz.heap.size wz W18 := S17.trans (hb18.mono S17.size)
            have z18 := hb18.size
            have hA18 := later hb18 (Nat.le_refl _) hA17
            have hB18 := later hb18 (Nat.le_refl _) hB17
            have hC18 := hC17.next hb18 (by omega)
            refine ⟨but_of S18, ?_⟩
            refine held_one (i := 12) (by kernel_rfl) ?_
            · refine op_enter (i := 12) (some 27) (f := 108) (args := #[.int .i64 1, .slice (some ⟨W4.heap.size, 0, none⟩) 1 1]) rfl rfl rfl (by kernel_rfl) (along_any _ _ 1 1 W18) ?_ (fun c w' h => by cases h.1) (fun w' h => by cases h.1)
              rintro e19 W19 ⟨he19, hb19⟩
              injection he19 with he19
              subst he19
              have S19 : Below wz.heap.size wz W19 := S18.trans (hb19.mono S18.size)
              have z19 := hb19.size
              have hA19 := later hb19 (Nat.le_refl _) hA18
              have hB19 := later hb19 (Nat.le_refl _) hB18
              have hC19 := hC18.next hb19 (by omega)
              refine ⟨but_of S19, ?_⟩
              refine held_one (i := 13) (by kernel_rfl) ?_
              · obtain ⟨W20, hW20⟩ : ∃ W', W' = W19.alloc (.cells #[.int .i64 1, .slice (some ⟨W16.heap.size, 0, none⟩) 1 1, .int .i64 1, .slice (some ⟨W4.heap.size, 0, none⟩) 1 1] 123) := ⟨_, rfl⟩
                have hb20 : Below W19.heap.size W19 W20 := by rw [hW20]; exact below_alloc1 _ _
                have p0_20 : W20.cell? ⟨W19.heap.size, 0, none⟩ = some (.int .i64 1) := by rw [hW20]; simp
                have p1_20 : W20.cell? ⟨W19.heap.size, 1, none⟩ = some (.slice (some ⟨W16.heap.size, 0, none⟩) 1 1) := by rw [hW20]; simp
                have p2_20 : W20.cell? ⟨W19.heap.size, 2, none⟩ = some (.int .i64 1) := by rw [hW20]; simp
                have p3_20 : W20.cell? ⟨W19.heap.size, 3, none⟩ = some (.slice (some ⟨W4.heap.size, 0, none⟩) 1 1) := by rw [hW20]; simp
                have S20 : Below wz.heap.size wz W20 := S19.trans (hb20.mono S19.size)
                have z20 := hb20.size
                have hA20 := later hb20 (Nat.le_refl _) hA19
                have hB20 := later hb20 (Nat.le_refl _) hB19
                have hC20 := hC19.next hb20 (by omega)
                refine op_mem (i := 13) (v := .slice (some ⟨W19.heap.size, 0, none⟩) 2 2) (w' := W20) (some 28) rfl rfl rfl (by rw [hW20]; go_simp) ?_
                refine ⟨but_of S20, ?_⟩
                refine held_one (i := 14) (by kernel_rfl) ?_
                · refine op_enter (i := 14) (some 29) (f := 107) (args := #[.agg #[.int .i64 p, .slice ad ds.length cap, .slice am ms.length capm], .agg #[.int .i64 p, .slice ad ds.length cap, .slice am ms.length capm], .int .i64 (-1), .slice (some ⟨W19.heap.size, 0, none⟩) 2 2]) rfl rfl rfl (by kernel_rfl) (ptSum_any p (W19.heap.size) (W16.heap.size) (W4.heap.size) _ _ _ u0 u1 ds ms fs W20 (HZZ.out W20 S20).1.cx (HZZ.out W20 S20).2.1 (HZZ.out W20 S20).2.2.1 (HZZ.out W20 S20).2.2.2.1 HCX.out HPF.out p0_20 p1_20 p2_20 p3_20 hA20 hB20) ?_ (fun c w' h => by obtain ⟨_, h, _⟩ := h; cases h) (fun w' h => by obtain ⟨_, h, _⟩ := h; cases h)
                  rintro e21 W21 ⟨g21, he21, hq21, hr21, hb21⟩
                  injection he21 with he21
                  subst he21
                  have S21 : Below wz.heap.size wz W21 := S20.trans (hb21.mono S20.size)
                  obtain ⟨t0, ht0⟩ := ptG_tail HCX.out.1 HPF.out
                  rw [ht0] at hr21
                  have hS21 := hr21.tail1 (ptF_length _ _ _ _ _)
                  clear ht0
                  have z21 := hb21.size
                  have hA21 := later hb21 (Nat.le_refl _) hA20
                  have hB21 := later hb21 (Nat.le_refl _) hB20
                  have hC21 := hC20.next hb21 (by omega)
                  refine ⟨but_of S21, ?_⟩
                  refine held_take (i := 15) (v := .slice (some ⟨g21, tlO ms.length, none⟩) ms.length ms.length) (some 30) rfl rfl (by kernel_rfl) (by kernel_rfl) (by kernel_rfl) (fun _ _ _ h => h) (yieldsIf_sliceL (by kernel_rfl) rfl (by kernel_rfl) (by kernel_rfl) (fun W => tail_run g21 ds.length ms.length hml W)) (but_of S21) ?_
                  have hZW := HZZ.out W21 S21
                  refine held_take (i := 16) (v := .agg #[.int .i64 p, .slice au4 ds.length cu4, .slice (some ⟨g21, tlO ms.length, none⟩) ms.length ms.length]) (some 31) rfl rfl (by kernel_rfl) (by kernel_rfl) (by kernel_rfl) (fun _ _ _ h => h) (yieldsIf_run (by kernel_rfl) (fun W _ => by kernel_rfl)) (but_of S21) ?_
                  refine held_one (i := 17) (by kernel_rfl) ?_
                  obtain ⟨WF, hWF⟩ : ∃ WF, WF = (W21.setRow (w.heap.size + 1) #[.int .i64 p, .slice au4 ds.length cu4, .slice (some ⟨g21, tlO ms.length, none⟩) ms.length ms.length]) := ⟨_, rfl⟩
                  have hbF : Below w.heap.size w WF := by rw [hWF]; exact below_setRow hZW.2.2.2.2.2 (by omega) _
                  have hBUF : But (w.heap.size + 1) wz WF := by rw [hWF]; exact (but_of S21).trans (but_row _ _ _)
                  have hRF : Rz WF (w.heap.size + 1) 30 #[.int .i64 p, .slice au4 ds.length cu4, .slice (some ⟨g21, tlO ms.length, none⟩) ms.length ms.length] := by rw [hWF]; exact Rz.set hZW.2.2.2.2.1 _
                  have hCF : Rw1 wd.heap.size W4.heap.size WF (.slice au4 ds.length cu4) ds := by rw [hWF]; exact hC21.same (Same.setRow _ (Or.inl (by omega)))
                  have hSF : Rw3 W20.heap.size W21.heap.size WF (.slice (some ⟨g21, tlO ms.length, none⟩) ms.length ms.length) (ptF p ds ms fs ms.length) := by rw [hWF]; exact hS21.same (Same.setRow _ (Or.inl (by omega)))
                  have hsF : W21.heap.size ≤ WF.heap.size := by rw [hWF]; exact Nat.le_of_eq (by simp)
                  refine op_row (i := 17) rfl rfl rfl 30 (.tmp 4) (.tmp 31) rfl (w.heap.size + 1) #[.int .i64 p, .slice au4 ds.length cu4, .slice (some ⟨g21, tlO ms.length, none⟩) ms.length ms.length] (by kernel_rfl) (by kernel_rfl) 30 _ hZW.2.2.2.2.1 (infoCo _ _ _) (by kernel_rfl) (by kernel_rfl) ?_
                  rw [← hWF]
                  refine ⟨hBUF, ?_⟩
                  refine wpAnyH_done (by kernel_rfl) ?_ _
                  simp only [Act.put, List.setIfInBounds_toArray, List.set_cons_zero, List.set_cons_succ]
                  have b0 := hRF.cell (i := 0) rfl
                  have b1 := hRF.cell (i := 1) rfl
                  have b2 := hRF.cell (i := 2) rfl
                  clear hRF hWF hZW
                  go_wp2
                  refine bodyPost_ret (v := .agg #[.int .i64 p, .slice au4 ds.length cu4, .slice (some ⟨g21, tlO ms.length, none⟩) ms.length ms.length]) ?_ rfl ⟨_, rfl, rwC_apart hCF hSF (by omega) (Or.inl (by omega)) (by omega) (by omega) (by omega), hbF⟩
                  simp only [results, HRES.out]
                  go_simp
    · obtain ⟨W22, hW22⟩ : ∃ W', W' = wd.alloc (.cells #[.func (.func 105) #[.agg #[.int .i64 p, .slice ad ds.length cap, .slice am ms.length capm, .int .i64 (-1), u0]] #[]] 116) := ⟨_, rfl⟩
      have hb22 : Below wd.heap.size wd W22 := by rw [hW22]; exact below_alloc1 _ _
      have hA22 : W22.cell? ⟨wd.heap.size, 0, none⟩ = some (.func (.func 105) #[.agg #[.int .i64 p, .slice ad ds.length cap, .slice am ms.length capm, .int .i64 (-1), u0]] #[]) := by rw [hW22]; exact cell_newF _ _ _
      have S22 : Below wz.heap.size wz W22 := S0.trans (hb22.mono S0.size)
      have z22 := hb22.size
      refine op_mem (i := 8) (v := .slice (some ⟨wd.heap.size, 0, none⟩) 1 1) (w' := W22) (some 23) rfl rfl rfl (by rw [hW22]; go_simp) ?_
      refine ⟨but_of S22, ?_⟩
      refine held_two (i := 4) (j := 11) (by kernel_rfl) ?_ ?_
      · refine op_enter (i := 4) (some 19) (f := 106) (args := #[.slice ad ds.length cap]) rfl rfl rfl (by kernel_rfl) (clone_any _ ds W22 (HZZ.out W22 S22).1.cx.dims (by omega) hpos) ?_ (fun c w' h => by obtain ⟨_, h, _⟩ := h; cases h) (fun w' h => by obtain ⟨_, h, _⟩ := h; cases h)
        rintro e23 W23 ⟨u23, he23, hg23, hb23⟩
        injection he23 with he23
        subst he23
        have S23 : Below wz.heap.size wz W23 := S22.trans (hb23.mono S22.size)
        have hC23 := gbRw1 hg23 (by omega)
        obtain ⟨au23, cu23, rfl⟩ := hC23.shape
        have z23 := hb23.size
        have hA23 := later hb23 (Nat.le_refl _) hA22
        refine ⟨but_of S23, ?_⟩
        refine held_two (i := 9) (j := 11) (by kernel_rfl) ?_ ?_
        · refine op_enter (i := 9) (some 24) (f := 108) (args := #[.int .i64 1, .slice (some ⟨wd.heap.size, 0, none⟩) 1 1]) rfl rfl rfl (by kernel_rfl) (along_any _ _ 1 1 W23) ?_ (fun c w' h => by cases h.1) (fun w' h => by cases h.1)
          rintro e24 W24 ⟨he24, hb24⟩
          injection he24 with he24
          subst he24
          have S24 : Below wz.heap.size wz W24 := S23.trans (hb24.mono S23.size)
          have z24 := hb24.size
          have hA24 := later hb24 (Nat.le_refl _) hA23
          have hC24 := hC23.next hb24 (by omega)
          refine ⟨but_of S24, ?_⟩
          refine held_one (i := 11) (by kernel_rfl) ?_
          · obtain ⟨W25, hW25⟩ : ∃ W', W' = W24.alloc (.cells #[.func (.func 105) #[.agg #[.int .i64 p, .slice ad ds.length cap, .slice af fs.length cf, .int .i64 (-1), u1]] #[]] 116) := ⟨_, rfl⟩
            have hb25 : Below W24.heap.size W24 W25 := by rw [hW25]; exact below_alloc1 _ _
            have hB25 : W25.cell? ⟨W24.heap.size, 0, none⟩ = some (.func (.func 105) #[.agg #[.int .i64 p, .slice ad ds.length cap, .slice af fs.length cf, .int .i64 (-1), u1]] #[]) := by rw [hW25]; exact cell_newF _ _ _
            have S25 : Below wz.heap.size wz W25 := S24.trans (hb25.mono S24.size)
            have z25 := hb25.size
            have hA25 := later hb25 (Nat.le_refl _) hA24
            have hC25 := hC24.next hb25 (by omega)
            refine op_mem (i := 11) (v := .slice (some ⟨W24.heap.size, 0, none⟩) 1 1) (w' := W25) (some 26) rfl rfl rfl (by rw [hW25]; go_simp) ?_
            refine ⟨but_of S25, ?_⟩
            refine held_one (i := 12) (by kernel_rfl) ?_
            · refine op_enter (i := 12) (some 27) (f := 108) (args := #[.int .i64 1, .slice (some ⟨W24.heap.size, 0, none⟩) 1 1]) rfl rfl rfl (by kernel_rfl) (along_any _ _ 1 1 W25) ?_ (fun c w' h => by cases h.1) (fun w' h => by cases h.1)
              rintro e26 W26 ⟨he26, hb26⟩
              injection he26 with he26
              subst he26
              have S26 : Below wz.heap.size wz W26 := S25.trans (hb26.mono S25.size)
              have z26 := hb26.size
              have hA26 := later hb26 (Nat.le_refl _) hA25
              have hB26 := later hb26 (Nat.le_refl _) hB25
              have hC26 := hC25.next hb26 (by omega)
              refine ⟨but_of S26, ?_⟩
              refine held_one (i := 13) (by kernel_rfl) ?_
              · obtain ⟨W27, hW27⟩ : ∃ W', W' = W26.alloc (.cells #[.int .i64 1, .slice (some ⟨wd.heap.size, 0, none⟩) 1 1, .int .i64 1, .slice (some ⟨W24.heap.size, 0, none⟩) 1 1] 123) := ⟨_, rfl⟩
                have hb27 : Below W26.heap.size W26 W27 := by rw [hW27]; exact below_alloc1 _ _
                have p0_27 : W27.cell? ⟨W26.heap.size, 0, none⟩ = some (.int .i64 1) := by rw [hW27]; simp
                have p1_27 : W27.cell? ⟨W26.heap.size, 1, none⟩ = some (.slice (some ⟨wd.heap.size, 0, none⟩) 1 1) := by rw [hW27]; simp
                have p2_27 : W27.cell? ⟨W26.heap.size, 2, none⟩ = some (.int .i64 1) := by rw [hW27]; simp
                have p3_27 : W27.cell? ⟨W26.heap.size, 3, none⟩ = some (.slice (some ⟨W24.heap.size, 0, none⟩) 1 1) := by rw [hW27]; simp
                have S27 : Below wz.heap.size wz W27 := S26.trans (hb27.mono S26.size)
                have z27 := hb27.size
                have hA27 := later hb27 (Nat.le_refl _) hA26
                have hB27 := later hb27 (Nat.le_refl _) hB26
                have hC27 := hC26.next hb27 (by omega)
                refine op_mem (i := 13) (v := .slice (some ⟨W26.heap.size, 0, none⟩) 2 2) (w' := W27) (some 28) rfl rfl rfl (by rw [hW27]; go_simp) ?_
                refine ⟨but_of S27, ?_⟩
                refine held_one (i := 14) (by kernel_rfl) ?_
                · refine op_enter (i := 14) (some 29) (f := 107) (args := #[.agg #[.int .i64 p, .slice ad ds.length cap, .slice am ms.length capm], .agg #[.int .i64 p, .slice ad ds.length cap, .slice am ms.length capm], .int .i64 (-1), .slice (some ⟨W26.heap.size, 0, none⟩) 2 2]) rfl rfl rfl (by kernel_rfl) (ptSum_any p (W26.heap.size) (wd.heap.size) (W24.heap.size) _ _ _ u0 u1 ds ms fs W27 (HZZ.out W27 S27).1.cx (HZZ.out W27 S27).2.1 (HZZ.out W27 S27).2.2.1 (HZZ.out W27 S27).2.2.2.1 HCX.out HPF.out p0_27 p1_27 p2_27 p3_27 hA27 hB27) ?_ (fun c w' h => by obtain ⟨_, h, _⟩ := h; cases h) (fun w' h => by obtain ⟨_, h, _⟩ := h; cases h)
                  rintro e28 W28 ⟨g28, he28, hq28, hr28, hb28⟩
                  injection he28 with he28
                  subst he28
                  have S28 : Below wz.heap.size wz W28 := S27.trans (hb28.mono S27.size)
                  obtain ⟨t0, ht0⟩ := ptG_tail HCX.out.1 HPF.out
                  rw [ht0] at hr28
                  have hS28 := hr28.tail1 (ptF_length _ _ _ _ _)
                  clear ht0
                  have z28 := hb28.size
                  have hA28 := later hb28 (Nat.le_refl _) hA27
                  have hB28 := later hb28 (Nat.le_refl _) hB27
                  have hC28 := hC27.next hb28 (by omega)
                  refine ⟨but_of S28, ?_⟩
                  refine held_take (i := 15) (v := .slice (some ⟨g28, tlO ms.length, none⟩) ms.length ms.length) (some 30) rfl rfl (by kernel_rfl) (by kernel_rfl) (by kernel_rfl) (fun _ _ _ h => h) (yieldsIf_sliceL (by kernel_rfl) rfl (by kernel_rfl) (by kernel_rfl) (fun W => tail_run g28 ds.length ms.length hml W)) (but_of S28) ?_
                  have hZW := HZZ.out W28 S28
                  refine held_take (i := 16) (v := .agg #[.int .i64 p, .slice au23 ds.length cu23, .slice (some ⟨g28, tlO ms.length, none⟩) ms.length ms.length]) (some 31) rfl rfl (by kernel_rfl) (by kernel_rfl) (by kernel_rfl) (fun _ _ _ h => h) (yieldsIf_run (by kernel_rfl) (fun W _ => by kernel_rfl)) (but_of S28) ?_
                  refine held_one (i := 17) (by kernel_rfl) ?_
                  obtain ⟨WF, hWF⟩ : ∃ WF, WF = (W28.setRow (w.heap.size + 1) #[.int .i64 p, .slice au23 ds.length cu23, .slice (some ⟨g28, tlO ms.length, none⟩) ms.length ms.length]) := ⟨_, rfl⟩
                  have hbF : Below w.heap.size w WF := by rw [hWF]; exact below_setRow hZW.2.2.2.2.2 (by omega) _
                  have hBUF : But (w.heap.size + 1) wz WF := by rw [hWF]; exact (but_of S28).trans (but_row _ _ _)
                  have hRF : Rz WF (w.heap.size + 1) 30 #[.int .i64 p, .slice au23 ds.length cu23, .slice (some ⟨g28, tlO ms.length, none⟩) ms.length ms.length] := by rw [hWF]; exact Rz.set hZW.2.2.2.2.1 _
                  have hCF : Rw1 W22.heap.size W23.heap.size WF (.slice au23 ds.length cu23) ds := by rw [hWF]; exact hC28.same (Same.setRow _ (Or.inl (by omega)))
                  have hSF : Rw3 W27.heap.size W28.heap.size WF (.slice (some ⟨g28, tlO ms.length, none⟩) ms.length ms.length) (ptF p ds ms fs ms.length) := by rw [hWF]; exact hS28.same (Same.setRow _ (Or.inl (by omega)))
                  have hsF : W28.heap.size ≤ WF.heap.size := by rw [hWF]; exact Nat.le_of_eq (by simp)
                  refine op_row (i := 17) rfl rfl rfl 30 (.tmp 4) (.tmp 31) rfl (w.heap.size + 1) #[.int .i64 p, .slice au23 ds.length cu23, .slice (some ⟨g28, tlO ms.length, none⟩) ms.length ms.length] (by kernel_rfl) (by kernel_rfl) 30 _ hZW.2.2.2.2.1 (infoCo _ _ _) (by kernel_rfl) (by kernel_rfl) ?_
                  rw [← hWF]
                  refine ⟨hBUF, ?_⟩
                  refine wpAnyH_done (by kernel_rfl) ?_ _
                  simp only [Act.put, List.setIfInBounds_toArray, List.set_cons_zero, List.set_cons_succ]
                  have b0 := hRF.cell (i := 0) rfl
                  have b1 := hRF.cell (i := 1) rfl
                  have b2 := hRF.cell (i := 2) rfl
                  clear hRF hWF hZW
                  go_wp2
                  refine bodyPost_ret (v := .agg #[.int .i64 p, .slice au23 ds.length cu23, .slice (some ⟨g28, tlO ms.length, none⟩) ms.length ms.length]) ?_ rfl ⟨_, rfl, rwC_apart hCF hSF (by omega) (Or.inl (by omega)) (by omega) (by omega) (by omega), hbF⟩
                  simp only [results, HRES.out]
                  go_simp
        · obtain ⟨W29, hW29⟩ : ∃ W', W' = W23.alloc (.cells #[.func (.func 105) #[.agg #[.int .i64 p, .slice ad ds.length cap, .slice af fs.length cf, .int .i64 (-1), u1]] #[]] 116) := ⟨_, rfl⟩
          have hb29 : Below W23.heap.size W23 W29 := by rw [hW29]; exact below_alloc1 _ _
          have hB29 : W29.cell? ⟨W23.heap.size, 0, none⟩ = some (.func (.func 105) #[.agg #[.int .i64 p, .slice ad ds.length cap, .slice af fs.length cf, .int .i64 (-1), u1]] #[]) := by rw [hW29]; exact cell_newF _ _ _
          have S29 : Below wz.heap.size wz W29 := S23.trans (hb29.mono S23.size)
          have z29 := hb29.size
          have hA29 := later hb29 (Nat.le_refl _) hA23
          have hC29 := hC23.next hb29 (by omega)
          refine op_mem (i := 11) (v := .slice (some ⟨W23.heap.size, 0, none⟩) 1 1) (w' := W29) (some 26) rfl rfl rfl (by rw [hW29]; go_simp) ?_
          refine ⟨but_of S29, ?_⟩
          refine held_one (i := 9) (by kernel_rfl) ?_
          · refine op_enter (i := 9) (some 24) (f := 108) (args := #[.int .i64 1, .slice (some ⟨wd.heap.size, 0, none⟩) 1 1]) rfl rfl rfl (by kernel_rfl) (along_any _ _ 1 1 W29) ?_ (fun c w' h => by cases h.1) (fun w' h => by cases h.1)
            rintro e30 W30 ⟨he30, hb30⟩
            injection he30 with he30
            subst he30
            have S30 : Below wz.heap.size wz W30 := S29.trans (hb30.mono S29.size)
            have z30 := hb30.size
            have hA30 := later hb30 (Nat.le_refl _) hA29
            have hB30 := later hb30 (Nat.le_refl _) hB29
            have hC30 := hC29.next hb30 (by omega)
            refine ⟨but_of S30, ?_⟩
            refine held_one (i := 12) (by kernel_rfl) ?_
            · refine op_enter (i := 12) (some 27) (f := 108) (args := #[.int .i64 1, .slice (some ⟨W23.heap.size, 0, none⟩) 1 1]) rfl rfl rfl (by kernel_rfl) (along_any _ _ 1 1 W30) ?_ (fun c w' h => by cases h.1) (fun w' h => by cases h.1)
              rintro e31 W31 ⟨he31, hb31⟩
              injection he31 with he31
              subst he31
              have S31 : Below wz.heap.size wz W31 := S30.trans (hb31.mono S30.size)
              have z31 := hb31.size
              have hA31 := later hb31 (Nat.le_refl _) hA30
              have hB31 := later hb31 (Nat.le_refl _) hB30
              have hC31 := hC30.next hb31 (by omega)
              refine ⟨but_of S31, ?_⟩
              refine held_one (i := 13) (by kernel_rfl) ?_
              · obtain ⟨W32, hW32⟩ : ∃ W', W' = W31.alloc (.cells #[.int .i64 1, .slice (some ⟨wd.heap.size, 0, none⟩) 1 1, .int .i64 1, .slice (some ⟨W23.heap.size, 0, none⟩) 1 1] 123) := ⟨_, rfl⟩
                have hb32 : Below W31.heap.size W31 W32 := by rw [hW32]; exact below_alloc1 _ _
                have p0_32 : W32.cell? ⟨W31.heap.size, 0, none⟩ = some (.int .i64 1) := by rw [hW32]; simp
                have p1_32 : W32.cell? ⟨W31.heap.size, 1, none⟩ = some (.slice (some ⟨wd.heap.size, 0, none⟩) 1 1) := by rw [hW32]; simp
                have p2_32 : W32.cell? ⟨W31.heap.size, 2, none⟩ = some (.int .i64 1) := by rw [hW32]; simp
                have p3_32 : W32.cell? ⟨W31.heap.size, 3, none⟩ = some (.slice (some ⟨W23.heap.size, 0, none⟩) 1 1) := by rw [hW32]; simp
                have S32 : Below wz.heap.size wz W32 := S31.trans (hb32.mono S31.size)
                have z32 := hb32.size
                have hA32 := later hb32 (Nat.le_refl _) hA31
                have hB32 := later hb32 (Nat.le_refl _) hB31
                have hC32 := hC31.next hb32 (by omega)
                refine op_mem (i := 13) (v := .slice (some ⟨W31.heap.size, 0, none⟩) 2 2) (w' := W32) (some 28) rfl rfl rfl (by rw [hW32]; go_simp) ?_
                refine ⟨but_of S32, ?_⟩
                refine held_one (i := 14) (by kernel_rfl) ?_
                · refine op_enter (i := 14) (some 29) (f := 107) (args := #[.agg #[.int .i64 p, .slice ad ds.length cap, .slice am ms.length capm], .agg #[.int .i64 p, .slice ad ds.length cap, .slice am ms.length capm], .int .i64 (-1), .slice (some ⟨W31.heap.size, 0, none⟩) 2 2]) rfl rfl rfl (by kernel_rfl) (ptSum_any p (W31.heap.size) (wd.heap.size) (W23.heap.size) _ _ _ u0 u1 ds ms fs W32 (HZZ.out W32 S32).1.cx (HZZ.out W32 S32).2.1 (HZZ.out W32 S32).2.2.1 (HZZ.out W32 S32).2.2.2.1 HCX.out HPF.out p0_32 p1_32 p2_32 p3_32 hA32 hB32) ?_ (fun c w' h => by obtain ⟨_, h, _⟩ := h; cases h) (fun w' h => by obtain ⟨_, h, _⟩ := h; cases h)
                  rintro e33 W33 ⟨g33, he33, hq33, hr33, hb33⟩
                  injection he33 with he33
                  subst he33
                  have S33 : Below wz.heap.size wz W33 := S32.trans (hb33.mono S32.size)
                  obtain ⟨t0, ht0⟩ := ptG_tail HCX.out.1 HPF.out
                  rw [ht0] at hr33
                  have hS33 := hr33.tail1 (ptF_length _ _ _ _ _)
                  clear ht0
                  have z33 := hb33.size
                  have hA33 := later hb33 (Nat.le_refl _) hA32
                  have hB33 := later hb33 (Nat.le_refl _) hB32
                  have hC33 := hC32.next hb33 (by omega)
                  refine ⟨but_of S33, ?_⟩
                  refine held_take (i := 15) (v := .slice (some ⟨g33, tlO ms.length, none⟩) ms.length ms.length) (some 30) rfl rfl (by kernel_rfl) (by kernel_rfl) (by kernel_rfl) (fun _ _ _ h => h) (yieldsIf_sliceL (by kernel_rfl) rfl (by kernel_rfl) (by kernel_rfl) (fun W => tail_run g33 ds.length ms.length hml W)) (but_of S33) ?_
                  have hZW := HZZ.out W33 S33
                  refine held_take (i := 16) (v := .agg #[.int .i64 p, .slice au23 ds.length cu23, .slice (some ⟨g33, tlO ms.length, none⟩) ms.length ms.length]) (some 31) rfl rfl (by kernel_rfl) (by kernel_rfl) (by kernel_rfl) (fun _ _ _ h => h) (yieldsIf_run (by kernel_rfl) (fun W _ => by kernel_rfl)) (but_of S33) ?_
                  refine held_one (i := 17) (by kernel_rfl) ?_
                  obtain ⟨WF, hWF⟩ : ∃ WF, WF = (W33.setRow (w.heap.size + 1) #[.int .i64 p, .slice au23 ds.length cu23, .slice (some ⟨g33, tlO ms.length, none⟩) ms.length ms.length]) := ⟨_, rfl⟩
                  have hbF : Below w.heap.size w WF := by rw [hWF]; exact below_setRow hZW.2.2.2.2.2 (by omega) _
                  have hBUF : But (w.heap.size + 1) wz WF := by rw [hWF]; exact (but_of S33).trans (but_row _ _ _)
                  have hRF : Rz WF (w.heap.size + 1) 30 #[.int .i64 p, .slice au23 ds.length cu23, .slice (some ⟨g33, tlO ms.length, none⟩) ms.length ms.length] := by rw [hWF]; exact Rz.set hZW.2.2.2.2.1 _
                  have hCF : Rw1 W22.heap.size W23.heap.size WF (.slice au23 ds.length cu23) ds := by rw [hWF]; exact hC33.same (Same.setRow _ (Or.inl (by omega)))
                  have hSF : Rw3 W32.heap.size W33.heap.size WF (.slice (some ⟨g33, tlO ms.length, none⟩) ms.length ms.length) (ptF p ds ms fs ms.length) := by rw [hWF]; exact hS33.same (Same.setRow _ (Or.inl (by omega)))
                  have hsF : W33.heap.size ≤ WF.heap.size := by rw [hWF]; exact Nat.le_of_eq (by simp)
                  refine op_row (i := 17) rfl rfl rfl 30 (.tmp 4) (.tmp 31) rfl (w.heap.size + 1) #[.int .i64 p, .slice au23 ds.length cu23, .slice (some ⟨g33, tlO ms.length, none⟩) ms.length ms.length] (by kernel_rfl) (by kernel_rfl) 30 _ hZW.2.2.2.2.1 (infoCo _ _ _) (by kernel_rfl) (by kernel_rfl) ?_
                  rw [← hWF]
                  refine ⟨hBUF, ?_⟩
                  refine wpAnyH_done (by kernel_rfl) ?_ _
                  simp only [Act.put, List.setIfInBounds_toArray, List.set_cons_zero, List.set_cons_succ]
                  have b0 := hRF.cell (i := 0) rfl
                  have b1 := hRF.cell (i := 1) rfl
                  have b2 := hRF.cell (i := 2) rfl
                  clear hRF hWF hZW
                  go_wp2
                  refine bodyPost_ret (v := .agg #[.int .i64 p, .slice au23 ds.length cu23, .slice (some ⟨g33, tlO ms.length, none⟩) ms.length ms.length]) ?_ rfl ⟨_, rfl, rwC_apart hCF hSF (by omega) (Or.inl (by omega)) (by omega) (by omega) (by omega), hbF⟩
                  simp only [results, HRES.out]
                  go_simp
      · obtain ⟨W34, hW34⟩ : ∃ W', W' = W22.alloc (.cells #[.func (.func 105) #[.agg #[.int .i64 p, .slice ad ds.length cap, .slice af fs.length cf, .int .i64 (-1), u1]] #[]] 116) := ⟨_, rfl⟩
        have hb34 : Below W22.heap.size W22 W34 := by rw [hW34]; exact below_alloc1 _ _
        have hB34 : W34.cell? ⟨W22.heap.size, 0, none⟩ = some (.func (.func 105) #[.agg #[.int .i64 p, .slice ad ds.length cap, .slice af fs.length cf, .int .i64 (-1), u1]] #[]) := by rw [hW34]; exact cell_newF _ _ _
        have S34 : Below wz.heap.size wz W34 := S22.trans (hb34.mono S22.size)
        have z34 := hb34.size
        have hA34 := later hb34 (Nat.le_refl _) hA22
        refine op_mem (i := 11) (v := .slice (some ⟨W22.heap.size, 0, none⟩) 1 1) (w' := W34) (some 26) rfl rfl rfl (by rw [hW34]; go_simp) ?_
        refine ⟨but_of S34, ?_⟩
        refine held_one (i := 4) (by kernel_rfl) ?_
        · refine op_enter (i := 4) (some 19) (f := 106) (args := #[.slice ad ds.length cap]) rfl rfl rfl (by kernel_rfl) (clone_any _ ds W34 (HZZ.out W34 S34).1.cx.dims (by omega) hpos) ?_ (fun c w' h => by obtain ⟨_, h, _⟩ := h; cases h) (fun w' h => by obtain ⟨_, h, _⟩ := h; cases h)
          rintro e35 W35 ⟨u35, he35, hg35, hb35⟩
          injection he35 with he35
          subst he35
          have S35 : Below wz.heap.size wz W35 := S34.trans (hb35.mono S34.size)
          have hC35 := gbRw1 hg35 (by omega)
          obtain ⟨au35, cu35, rfl⟩ := hC35.shape
          have z35 := hb35.size
          have hA35 := later hb35 (Nat.le_refl _) hA34
          have hB35 := later hb35 (Nat.le_refl _) hB34
          refine ⟨but_of S35, ?_⟩
          refine held_one (i := 9) (by kernel_rfl) ?_
          · refine op_enter (i := 9) (some 24) (f := 108) (args := #[.int .i64 1, .slice (some ⟨wd.heap.size, 0, none⟩) 1 1]) rfl rfl rfl (by kernel_rfl) (along_any _ _ 1 1 W35) ?_ (fun c w' h => by cases h.1) (fun w' h => by cases h.1)
            rintro e36 W36 ⟨he36, hb36⟩
            injection he36 with he36
            subst he36
            have S36 : Below wz.heap.size wz W36 := S35.trans (hb36.mono S35.size)
            have z36 := hb36.size
            have hA36 := later hb36 (Nat.le_refl _) hA35
            have hB36 := later hb36 (Nat.le_refl _) hB35
            have hC36 := hC35.next hb36 (by omega)
            refine ⟨but_of S36, ?_⟩
            refine held_one (i := 12) (by kernel_rfl) ?_
            · refine op_enter (i := 12) (some 27) (f := 108) (args := #[.int .i64 1, .slice (some ⟨W22.heap.size, 0, none⟩) 1 1]) rfl rfl rfl (by kernel_rfl) (along_any _ _ 1 1 W36) ?_ (fun c w' h => by cases h.1) (fun w' h => by cases h.1)
              rintro e37 W37 ⟨he37, hb37⟩
              injection he37 with he37
              subst he37
              have S37 : Below wz.heap.size wz W37 := S36.trans (hb37.mono S36.size)
              have z37 := hb37.size
              have hA37 := later hb37 (Nat.le_refl _) hA36
              have hB37 := later hb37 (Nat.le_refl _) hB36
              have hC37 := hC36.next hb37 (by omega)
              refine ⟨but_of S37, ?_⟩
              refine held_one (i := 13) (by kernel_rfl) ?_
              · obtain ⟨W38, hW38⟩ : ∃ W', W' = W37.alloc (.cells #[.int .i64 1, .slice (some ⟨wd.heap.size, 0, none⟩) 1 1, .int .i64 1, .slice (some ⟨W22.heap.size, 0, none⟩) 1 1] 123) := ⟨_, rfl⟩
                have hb38 : Below W37.heap.size W37 W38 := by rw [hW38]; exact below_alloc1 _ _
                have p0_38 : W38.cell? ⟨W37.heap.size, 0, none⟩ = some (.int .i64 1) := by rw [hW38]; simp
                have p1_38 : W38.cell? ⟨W37.heap.size, 1, none⟩ = some (.slice (some ⟨wd.heap.size, 0, none⟩) 1 1) := by rw [hW38]; simp
                have p2_38 : W38.cell? ⟨W37.heap.size, 2, none⟩ = some (.int .i64 1) := by rw [hW38]; simp
                have p3_38 : W38.cell? ⟨W37.heap.size, 3, none⟩ = some (.slice (some ⟨W22.heap.size, 0, none⟩) 1 1) := by rw [hW38]; simp
                have S38 : Below wz.heap.size wz W38 := S37.trans (hb38.mono S37.size)
                have z38 := hb38.size
                have hA38 := later hb38 (Nat.le_refl _) hA37
                have hB38 := later hb38 (Nat.le_refl _) hB37
                have hC38 := hC37.next hb38 (by omega)
                refine op_mem (i := 13) (v := .slice (some ⟨W37.heap.size, 0, none⟩) 2 2) (w' := W38) (some 28) rfl rfl rfl (by rw [hW38]; go_simp) ?_
                refine ⟨but_of S38, ?_⟩
                refine held_one (i := 14) (by kernel_rfl) ?_
                · refine op_enter (i := 14) (some 29) (f := 107) (args := #[.agg #[.int .i64 p, .slice ad ds.length cap, .slice am ms.length capm], .agg #[.int .i64 p, .slice ad ds.length cap, .slice am ms.length capm], .int .i64 (-1), .slice (some ⟨W37.heap.size, 0, none⟩) 2 2]) rfl rfl rfl (by kernel_rfl) (ptSum_any p (W37.heap.size) (wd.heap.size) (W22.heap.size) _ _ _ u0 u1 ds ms fs W38 (HZZ.out W38 S38).1.cx (HZZ.out W38 S38).2.1 (HZZ.out W38 S38).2.2.1 (HZZ.out W38 S38).2.2.2.1 HCX.out HPF.out p0_38 p1_38 p2_38 p3_38 hA38 hB38) ?_ (fun c w' h => by obtain ⟨_, h, _⟩ := h; cases h) (fun w' h => by obtain ⟨_, h, _⟩ := h; cases h)
                  rintro e39 W39 ⟨g39, he39, hq39, hr39, hb39⟩
                  injection he39 with he39
                  subst he39
                  have S39 : Below wz.heap.size wz W39 := S38.trans (hb39.mono S38.size)
                  obtain ⟨t0, ht0⟩ := ptG_tail HCX.out.1 HPF.out
                  rw [ht0] at hr39
                  have hS39 := hr39.tail1 (ptF_length _ _ _ _ _)
                  clear ht0
                  have z39 := hb39.size
                  have hA39 := later hb39 (Nat.le_refl _) hA38
                  have hB39 := later hb39 (Nat.le_refl _) hB38
                  have hC39 := hC38.next hb39 (by omega)
                  refine ⟨but_of S39, ?_⟩
                  refine held_take (i := 15) (v := .slice (some ⟨g39, tlO ms.length, none⟩) ms.length ms.length) (some 30) rfl rfl (by kernel_rfl) (by kernel_rfl) (by kernel_rfl) (fun _ _ _ h => h) (yieldsIf_sliceL (by kernel_rfl) rfl (by kernel_rfl) (by kernel_rfl) (fun W => tail_run g39 ds.length ms.length hml W)) (but_of S39) ?_
                  have hZW := HZZ.out W39 S39
                  refine held_take (i := 16) (v := .agg #[.int .i64 p, .slice au35 ds.length cu35, .slice (some ⟨g39, tlO ms.length, none⟩) ms.length ms.length]) (some 31) rfl rfl (by kernel_rfl) (by kernel_rfl) (by kernel_rfl) (fun _ _ _ h => h) (yieldsIf_run (by kernel_rfl) (fun W _ => by kernel_rfl)) (but_of S39) ?_
                  refine held_one (i := 17) (by kernel_rfl) ?_
                  obtain ⟨WF, hWF⟩ : ∃ WF, WF = (W39.setRow (w.heap.size + 1) #[.int .i64 p, .slice au35 ds.length cu35, .slice (some ⟨g39, tlO ms.length, none⟩) ms.length ms.length]) := ⟨_, rfl⟩
                  have hbF : Below w.heap.size w WF := by rw [hWF]; exact below_setRow hZW.2.2.2.2.2 (by omega) _
                  have hBUF : But (w.heap.size + 1) wz WF := by rw [hWF]; exact (but_of S39).trans (but_row _ _ _)
                  have hRF : Rz WF (w.heap.size + 1) 30 #[.int .i64 p, .slice au35 ds.length cu35, .slice (some ⟨g39, tlO ms.length, none⟩) ms.length ms.length] := by rw [hWF]; exact Rz.set hZW.2.2.2.2.1 _
                  have hCF : Rw1 W34.heap.size W35.heap.size WF (.slice au35 ds.length cu35) ds := by rw [hWF]; exact hC39.same (Same.setRow _ (Or.inl (by omega)))
                  have hSF : Rw3 W38.heap.size W39.heap.size WF (.slice (some ⟨g39, tlO ms.length, none⟩) ms.length ms.length) (ptF p ds ms fs ms.length) := by rw [hWF]; exact hS39.same (Same.setRow _ (Or.inl (by omega)))
                  have hsF : W39.heap.size ≤ WF.heap.size := by rw [hWF]; exact Nat.le_of_eq (by simp)
                  refine op_row (i := 17) rfl rfl rfl 30 (.tmp 4) (.tmp 31) rfl (w.heap.size + 1) #[.int .i64 p, .slice au35 ds.length cu35, .slice (some ⟨g39, tlO ms.length, none⟩) ms.length ms.length] (by kernel_rfl) (by kernel_rfl) 30 _ hZW.2.2.2.2.1 (infoCo _ _ _) (by kernel_rfl) (by kernel_rfl) ?_
                  rw [← hWF]
                  refine ⟨hBUF, ?_⟩
                  refine wpAnyH_done (by kernel_rfl) ?_ _
                  simp only [Act.put, List.setIfInBounds_toArray, List.set_cons_zero, List.set_cons_succ]
                  have b0 := hRF.cell (i := 0) rfl
                  have b1 := hRF.cell (i := 1) rfl
                  have b2 := hRF.cell (i := 2) rfl
                  clear hRF hWF hZW
                  go_wp2
                  refine bodyPost_ret (v := .agg #[.int .i64 p, .slice au35 ds.length cu35, .slice (some ⟨g39, tlO ms.length, none⟩) ms.length ms.length]) ?_ rfl ⟨_, rfl, rwC_apart hCF hSF (by omega) (Or.inl (by omega)) (by omega) (by omega) (by omega), hbF⟩
                  simp only [results, HRES.out]
                  go_simp
    · obtain ⟨W40, hW40⟩ : ∃ W', W' = wd.alloc (.cells #[.func (.func 105) #[.agg #[.int .i64 p, .slice ad ds.length cap, .slice af fs.length cf, .int .i64 (-1), u1]] #[]] 116) := ⟨_, rfl⟩
      have hb40 : Below wd.heap.size wd W40 := by rw [hW40]; exact below_alloc1 _ _
      have hB40 : W40.cell? ⟨wd.heap.size, 0, none⟩ = some (.func (.func 105) #[.agg #[.int .i64 p, .slice ad ds.length cap, .slice af fs.length cf, .int .i64 (-1), u1]] #[]) := by rw [hW40]; exact cell_newF _ _ _
      have S40 : Below wz.heap.size wz W40 := S0.trans (hb40.mono S0.size)
      have z40 := hb40.size
      refine op_mem (i := 11) (v := .slice (some ⟨wd.heap.size, 0, none⟩) 1 1) (w' := W40) (some 26) rfl rfl rfl (by rw [hW40]; go_simp) ?_
      refine ⟨but_of S40, ?_⟩
      refine held_two (i := 4) (j := 8) (by kernel_rfl) ?_ ?_
      · refine op_enter (i := 4) (some 19) (f := 106) (args := #[.slice ad ds.length cap]) rfl rfl rfl (by kernel_rfl) (clone_any _ ds W40 (HZZ.out W40 S40).1.cx.dims (by omega) hpos) ?_ (fun c w' h => by obtain ⟨_, h, _⟩ := h; cases h) (fun w' h => by obtain ⟨_, h, _⟩ := h; cases h)
        rintro e41 W41 ⟨u41, he41, hg41, hb41⟩
        injection he41 with he41
        subst he41
        have S41 : Below wz.heap.size wz W41 := S40.trans (hb41.mono S40.size)
        have hC41 := gbRw1 hg41 (by omega)
        obtain ⟨au41, cu41, rfl⟩ := hC41.shape
        have z41 := hb41.size
        have hB41 := later hb41 (Nat.le_refl _) hB40
        refine ⟨but_of S41, ?_⟩
        refine held_one (i := 8) (by kernel_rfl) ?_
        · obtain ⟨W42, hW42⟩ : ∃ W', W' = W41.alloc (.cells #[.func (.func 105) #[.agg #[.int .i64 p, .slice ad ds.length cap, .slice am ms.length capm, .int .i64 (-1), u0]] #[]] 116) := ⟨_, rfl⟩
          have hb42 : Below W41.heap.size W41 W42 := by rw [hW42]; exact below_alloc1 _ _
          have hA42 : W42.cell? ⟨W41.heap.size, 0, none⟩ = some (.func (.func 105) #[.agg #[.int .i64 p, .slice ad ds.length cap, .slice am ms.length capm, .int .i64 (-1), u0]] #[]) := by rw [hW42]; exact cell_newF _ _ _
          have S42 : Below wz.heap.size wz W42 := S41.trans (hb42.mono S41.size)
          have z42 := hb42.size
          have hB42 := later hb42 (Nat.le_refl _) hB41
          have hC42 := hC41.next hb42 (by omega)
          refine op_mem (i := 8) (v := .slice (some ⟨W41.heap.size, 0, none⟩) 1 1) (w' := W42) (some 23) rfl rfl rfl (by rw [hW42]; go_simp) ?_
          refine ⟨but_of S42, ?_⟩
          refine held_one (i := 9) (by kernel_rfl) ?_
          · refine op_enter (i := 9) (some 24) (f := 108) (args := #[.int .i64 1, .slice (some ⟨W41.heap.size, 0, none⟩) 1 1]) rfl rfl rfl (by kernel_rfl) (along_any _ _ 1 1 W42) ?_ (fun c w' h => by cases h.1) (fun w' h => by cases h.1)
            rintro e43 W43 ⟨he43, hb43⟩
            injection he43 with he43
            subst he43
            have S43 : Below wz.heap.size wz W43 := S42.trans (hb43.mono S42.size)
            have z43 := hb43.size
            have hA43 := later hb43 (Nat.le_refl _) hA42
            have hB43 := later hb43 (Nat.le_refl _) hB42
            have hC43 := hC42.next hb43 (by omega)
            refine ⟨but_of S43, ?_⟩
            refine held_one (i := 12) (by kernel_rfl) ?_
            · refine op_enter (i := 12) (some 27) (f := 108) (args := #[.int .i64 1, .slice (some ⟨wd.heap.size, 0, none⟩) 1 1]) rfl rfl rfl (by kernel_rfl) (along_any _ _ 1 1 W43) ?_ (fun c w' h => by cases h.1) (fun w' h => by cases h.1)
              rintro e44 W44 ⟨he44, hb44⟩
              injection he44 with he44
              subst he44
              have S44 : Below wz.heap.size wz W44 := S43.trans (hb44.mono S43.size)
              have z44 := hb44.size
              have hA44 := later hb44 (Nat.le_refl _) hA43
              have hB44 := later hb44 (Nat.le_refl _) hB43
              have hC44 := hC43.next hb44 (by omega)
              refine ⟨but_of S44, ?_⟩
              refine held_one (i := 13) (by kernel_rfl) ?_
              · obtain ⟨W45, hW45⟩ : ∃ W', W' = W44.alloc (.cells #[.int .i64 1, .slice (some ⟨W41.heap.size, 0, none⟩) 1 1, .int .i64 1, .slice (some ⟨wd.heap.size, 0, none⟩) 1 1] 123) := ⟨_, rfl⟩
                have hb45 : Below W44.heap.size W44 W45 := by rw [hW45]; exact below_alloc1 _ _
                have p0_45 : W45.cell? ⟨W44.heap.size, 0, none⟩ = some (.int .i64 1) := by rw [hW45]; simp
                have p1_45 : W45.cell? ⟨W44.heap.size, 1, none⟩ = some (.slice (some ⟨W41.heap.size, 0, none⟩) 1 1) := by rw [hW45]; simp
                have p2_45 : W45.cell? ⟨W44.heap.size, 2, none⟩ = some (.int .i64 1) := by rw [hW45]; simp
                have p3_45 : W45.cell? ⟨W44.heap.size, 3, none⟩ = some (.slice (some ⟨wd.heap.size, 0, none⟩) 1 1) := by rw [hW45]; simp
                have S45 : Below wz.heap.size wz W45 := S44.trans (hb45.mono S44.size)
                have z45 := hb45.size
                have hA45 := later hb45 (Nat.le_refl _) hA44
                have hB45 := later hb45 (Nat.le_refl _) hB44
                have hC45 := hC44.next hb45 (by omega)
                refine op_mem (i := 13) (v := .slice (some ⟨W44.heap.size, 0, none⟩) 2 2) (w' := W45) (some 28) rfl rfl rfl (by rw [hW45]; go_simp) ?_
                refine ⟨but_of S45, ?_⟩
                refine held_one (i := 14) (by kernel_rfl) ?_
                · refine op_enter (i := 14) (some 29) (f := 107) (args := #[.agg #[.int .i64 p, .slice ad ds.length cap, .slice am ms.length capm], .agg #[.int .i64 p, .slice ad ds.length cap, .slice am ms.length capm], .int .i64 (-1), .slice (some ⟨W44.heap.size, 0, none⟩) 2 2]) rfl rfl rfl (by kernel_rfl) (ptSum_any p (W44.heap.size) (W41.heap.size) (wd.heap.size) _ _ _ u0 u1 ds ms fs W45 (HZZ.out W45 S45).1.cx (HZZ.out W45 S45).2.1 (HZZ.out W45 S45).2.2.1 (HZZ.out W45 S45).2.2.2.1 HCX.out HPF.out p0_45 p1_45 p2_45 p3_45 hA45 hB45) ?_ (fun c w' h => by obtain ⟨_, h, _⟩ := h; cases h) (fun w' h => by obtain ⟨_, h, _⟩ := h; cases h)
                  rintro e46 W46 ⟨g46, he46, hq46, hr46, hb46⟩
                  injection he46 with he46
                  subst he46
                  have S46 : Below wz.heap.size wz W46 := S45.trans (hb46.mono S45.size)
                  obtain ⟨t0, ht0⟩ := ptG_tail HCX.out.1 HPF.out
                  rw [ht0] at hr46
                  have hS46 := hr46.tail1 (ptF_length _ _ _ _ _)
                  clear ht0
                  have z46 := hb46.size
                  have hA46 := later hb46 (Nat.le_refl _) hA45
                  have hB46 := later hb46 (Nat.le_refl _) hB45
                  have hC46 := hC45.next hb46 (by omega)
                  refine ⟨but_of S46, ?_⟩
                  refine held_take (i := 15) (v := .slice (some ⟨g46, tlO ms.length, none⟩) ms.length ms.length) (some 30) rfl rfl (by kernel_rfl) (by kernel_rfl) (by kernel_rfl) (fun _ _ _ h => h) (yieldsIf_sliceL (by kernel_rfl) rfl (by kernel_rfl) (by kernel_rfl) (fun W => tail_run g46 ds.length ms.length hml W)) (but_of S46) ?_
                  have hZW := HZZ.out W46 S46
                  refine held_take (i := 16) (v := .agg #[.int .i64 p, .slice au41 ds.length cu41, .slice (some ⟨g46, tlO ms.length, none⟩) ms.length ms.length]) (some 31) rfl rfl (by kernel_rfl) (by kernel_rfl) (by kernel_rfl) (fun _ _ _ h => h) (yieldsIf_run (by kernel_rfl) (fun W _ => by kernel_rfl)) (but_of S46) ?_
                  refine held_one (i := 17) (by kernel_rfl) ?_
                  obtain ⟨WF, hWF⟩ : ∃ WF, WF = (W46.setRow (w.heap.size + 1) #[.int .i64 p, .slice au41 ds.length cu41, .slice (some ⟨g46, tlO ms.length, none⟩) ms.length ms.length]) := ⟨_, rfl⟩
                  have hbF : Below w.heap.size w WF := by rw [hWF]; exact below_setRow hZW.2.2.2.2.2 (by omega) _
                  have hBUF : But (w.heap.size + 1) wz WF := by rw [hWF]; exact (but_of S46).trans (but_row _ _ _)
                  have hRF : Rz WF (w.heap.size + 1) 30 #[.int .i64 p, .slice au41 ds.length cu41, .slice (some ⟨g46, tlO ms.length, none⟩) ms.length ms.length] := by rw [hWF]; exact Rz.set hZW.2.2.2.2.1 _
                  have hCF : Rw1 W40.heap.size W41.heap.size WF (.slice au41 ds.length cu41) ds := by rw [hWF]; exact hC46.same (Same.setRow _ (Or.inl (by omega)))
                  have hSF : Rw3 W45.heap.size W46.heap.size WF (.slice (some ⟨g46, tlO ms.length, none⟩) ms.length ms.length) (ptF p ds ms fs ms.length) := by rw [hWF]; exact hS46.same (Same.setRow _ (Or.inl (by omega)))
                  have hsF : W46.heap.size ≤ WF.heap.size := by rw [hWF]; exact Nat.le_of_eq (by simp)
                  refine op_row (i := 17) rfl rfl rfl 30 (.tmp 4) (.tmp 31) rfl (w.heap.size + 1) #[.int .i64 p, .slice au41 ds.length cu41, .slice (some ⟨g46, tlO ms.length, none⟩) ms.length ms.length] (by kernel_rfl) (by kernel_rfl) 30 _ hZW.2.2.2.2.1 (infoCo _ _ _) (by kernel_rfl) (by kernel_rfl) ?_
                  rw [← hWF]
                  refine ⟨hBUF, ?_⟩
                  refine wpAnyH_done (by kernel_rfl) ?_ _
                  simp only [Act.put, List.setIfInBounds_toArray, List.set_cons_zero, List.set_cons_succ]
                  have b0 := hRF.cell (i := 0) rfl
                  have b1 := hRF.cell (i := 1) rfl
                  have b2 := hRF.cell (i := 2) rfl
                  clear hRF hWF hZW
                  go_wp2
                  refine bodyPost_ret (v := .agg #[.int .i64 p, .slice au41 ds.length cu41, .slice (some ⟨g46, tlO ms.length, none⟩) ms.length ms.length]) ?_ rfl ⟨_, rfl, rwC_apart hCF hSF (by omega) (Or.inl (by omega)) (by omega) (by omega) (by omega), hbF⟩
                  simp only [results, HRES.out]
                  go_simp
      · obtain ⟨W47, hW47⟩ : ∃ W', W' = W40.alloc (.cells #[.func (.func 105) #[.agg #[.int .i64 p, .slice ad ds.length cap, .slice am ms.length capm, .int .i64 (-1), u0]] #[]] 116) := ⟨_, rfl⟩
        have hb47 : Below W40.heap.size W40 W47 := by rw [hW47]; exact below_alloc1 _ _
        have hA47 : W47.cell? ⟨W40.heap.size, 0, none⟩ = some (.func (.func 105) #[.agg #[.int .i64 p, .slice ad ds.length cap, .slice am ms.length capm, .int .i64 (-1), u0]] #[]) := by rw [hW47]; exact cell_newF _ _ _
        have S47 : Below wz.heap.size wz W47 := S40.trans (hb47.mono S40.size)
        have z47 := hb47.size
        have hB47 := later hb47 (Nat.le_refl _) hB40
        refine op_mem (i := 8) (v := .slice (some ⟨W40.heap.size, 0, none⟩) 1 1) (w' := W47) (some 23) rfl rfl rfl (by rw [hW47]; go_simp) ?_
        refine ⟨but_of S47, ?_⟩
        refine held_one (i := 4) (by kernel_rfl) ?_
        · refine op_enter (i := 4) (some 19) (f := 106) (args := #[.slice ad ds.length cap]) rfl rfl rfl (by kernel_rfl) (clone_any _ ds W47 (HZZ.out W47 S47).1.cx.dims (by omega) hpos) ?_ (fun c w' h => by obtain ⟨_, h, _⟩ := h; cases h) (fun w' h => by obtain ⟨_, h, _⟩ := h; cases h)
          rintro e48 W48 ⟨u48, he48, hg48, hb48⟩
          injection he48 with he48
          subst he48
          have S48 : Below wz.heap.size wz W48 := S47.trans (hb48.mono S47.size)
          have hC48 := gbRw1 hg48 (by omega)
          obtain ⟨au48, cu48, rfl⟩ := hC48.shape
          have z48 := hb48.size
          have hA48 := later hb48 (Nat.le_refl _) hA47
          have hB48 := later hb48 (Nat.le_refl _) hB47
          refine ⟨but_of S48, ?_⟩
          refine held_one (i := 9) (by kernel_rfl) ?_
          · refine op_enter (i := 9) (some 24) (f := 108) (args := #[.int .i64 1, .slice (some ⟨W40.heap.size, 0, none⟩) 1 1]) rfl rfl rfl (by kernel_rfl) (along_any _ _ 1 1 W48) ?_ (fun c w' h => by cases h.1) (fun w' h => by cases h.1)
            rintro e49 W49 ⟨he49, hb49⟩
            injection he49 with he49
            subst he49
            have S49 : Below wz.heap.size wz W49 := S48.trans (hb49.mono S48.size)
            have z49 := hb49.size
            have hA49 := later hb49 (Nat.le_refl _) hA48
            have hB49 := later hb49 (Nat.le_refl _) hB48
            have hC49 := hC48.next hb49 (by omega)
            refine ⟨but_of S49, ?_⟩
            refine held_one (i := 12) (by kernel_rfl) ?_
            · refine op_enter (i := 12) (some 27) (f := 108) (args := #[.int .i64 1, .slice (some ⟨wd.heap.size, 0, none⟩) 1 1]) rfl rfl rfl (by kernel_rfl) (along_any _ _ 1 1 W49) ?_ (fun c w' h => by cases h.1) (fun w' h => by cases h.1)
              rintro e50 W50 ⟨he50, hb50⟩
              injection he50 with he50
              subst he50
              have S50 : Below wz.heap.size wz W50 := S49.trans (hb50.mono S49.size)
              have z50 := hb50.size
              have hA50 := later hb50 (Nat.le_refl _) hA49
              have hB50 := later hb50 (Nat.le_refl _) hB49
              have hC50 := hC49.next hb50 (by omega)
              refine ⟨but_of S50, ?_⟩
              refine held_one (i := 13) (by kernel_rfl) ?_
              · obtain ⟨W51, hW51⟩ : ∃ W', W' = W50.alloc (.cells #[.int .i64 1, .slice (some ⟨W40.heap.size, 0, none⟩) 1 1, .int .i64 1, .slice (some ⟨wd.heap.size, 0, none⟩) 1 1] 123) := ⟨_, rfl⟩
                have hb51 : Below W50.heap.size W50 W51 := by rw [hW51]; exact below_alloc1 _ _
                have p0_51 : W51.cell? ⟨W50.heap.size, 0, none⟩ = some (.int .i64 1) := by rw [hW51]; simp
                have p1_51 : W51.cell? ⟨W50.heap.size, 1, none⟩ = some (.slice (some ⟨W40.heap.size, 0, none⟩) 1 1) := by rw [hW51]; simp
                have p2_51 : W51.cell? ⟨W50.heap.size, 2, none⟩ = some (.int .i64 1) := by rw [hW51]; simp
                have p3_51 : W51.cell? ⟨W50.heap.size, 3, none⟩ = some (.slice (some ⟨wd.heap.size, 0, none⟩) 1 1) := by rw [hW51]; simp
                have S51 : Below wz.heap.size wz W51 := S50.trans (hb51.mono S50.size)
                have z51 := hb51.size
                have hA51 := later hb51 (Nat.le_refl _) hA50
                have hB51 := later hb51 (Nat.le_refl _) hB50
                have hC51 := hC50.next hb51 (by omega)
                refine op_mem (i := 13) (v := .slice (some ⟨W50.heap.size, 0, none⟩) 2 2) (w' := W51) (some 28) rfl rfl rfl (by rw [hW51]; go_simp) ?_
                refine ⟨but_of S51, ?_⟩
                refine held_one (i := 14) (by kernel_rfl) ?_
                · refine op_enter (i := 14) (some 29) (f := 107) (args := #[.agg #[.int .i64 p, .slice ad ds.length cap, .slice am ms.length capm], .agg #[.int .i64 p, .slice ad ds.length cap, .slice am ms.length capm], .int .i64 (-1), .slice (some ⟨W50.heap.size, 0, none⟩) 2 2]) rfl rfl rfl (by kernel_rfl) (ptSum_any p (W50.heap.size) (W40.heap.size) (wd.heap.size) _ _ _ u0 u1 ds ms fs W51 (HZZ.out W51 S51).1.cx (HZZ.out W51 S51).2.1 (HZZ.out W51 S51).2.2.1 (HZZ.out W51 S51).2.2.2.1 HCX.out HPF.out p0_51 p1_51 p2_51 p3_51 hA51 hB51) ?_ (fun c w' h => by obtain ⟨_, h, _⟩ := h; cases h) (fun w' h => by obtain ⟨_, h, _⟩ := h; cases h)
                  rintro e52 W52 ⟨g52, he52, hq52, hr52, hb52⟩
                  injection he52 with he52
                  subst he52
                  have S52 : Below wz.heap.size wz W52 := S51.trans (hb52.mono S51.size)
                  obtain ⟨t0, ht0⟩ := ptG_tail HCX.out.1 HPF.out
                  rw [ht0] at hr52
                  have hS52 := hr52.tail1 (ptF_length _ _ _ _ _)
                  clear ht0
                  have z52 := hb52.size
                  have hA52 := later hb52 (Nat.le_refl _) hA51
                  have hB52 := later hb52 (Nat.le_refl _) hB51
                  have hC52 := hC51.next hb52 (by omega)
                  refine ⟨but_of S52, ?_⟩
                  refine held_take (i := 15) (v := .slice (some ⟨g52, tlO ms.length, none⟩) ms.length ms.length) (some 30) rfl rfl (by kernel_rfl) (by kernel_rfl) (by kernel_rfl) (fun _ _ _ h => h) (yieldsIf_sliceL (by kernel_rfl) rfl (by kernel_rfl) (by kernel_rfl) (fun W => tail_run g52 ds.length ms.length hml W)) (but_of S52) ?_
                  have hZW := HZZ.out W52 S52
                  refine held_take (i := 16) (v := .agg #[.int .i64 p, .slice au48 ds.length cu48, .slice (some ⟨g52, tlO ms.length, none⟩) ms.length ms.length]) (some 31) rfl rfl (by kernel_rfl) (by kernel_rfl) (by kernel_rfl) (fun _ _ _ h => h) (yieldsIf_run (by kernel_rfl) (fun W _ => by kernel_rfl)) (but_of S52) ?_
                  refine held_one (i := 17) (by kernel_rfl) ?_
                  obtain ⟨WF, hWF⟩ : ∃ WF, WF = (W52.setRow (w.heap.size + 1) #[.int .i64 p, .slice au48 ds.length cu48, .slice (some ⟨g52, tlO ms.length, none⟩) ms.length ms.length]) := ⟨_, rfl⟩
                  have hbF : Below w.heap.size w WF := by rw [hWF]; exact below_setRow hZW.2.2.2.2.2 (by omega) _
                  have hBUF : But (w.heap.size + 1) wz WF := by rw [hWF]; exact (but_of S52).trans (but_row _ _ _)
                  have hRF : Rz WF (w.heap.size + 1) 30 #[.int .i64 p, .slice au48 ds.length cu48, .slice (some ⟨g52, tlO ms.length, none⟩) ms.length ms.length] := by rw [hWF]; exact Rz.set hZW.2.2.2.2.1 _
                  have hCF : Rw1 W47.heap.size W48.heap.size WF (.slice au48 ds.length cu48) ds := by rw [hWF]; exact hC52.same (Same.setRow _ (Or.inl (by omega)))
                  have hSF : Rw3 W51.heap.size W52.heap.size WF (.slice (some ⟨g52, tlO ms.length, none⟩) ms.length ms.length) (ptF p ds ms fs ms.length) := by rw [hWF]; exact hS52.same (Same.setRow _ (Or.inl (by omega)))
                  have hsF : W52.heap.size ≤ WF.heap.size := by rw [hWF]; exact Nat.le_of_eq (by simp)
                  refine op_row (i := 17) rfl rfl rfl 30 (.tmp 4) (.tmp 31) rfl (w.heap.size + 1) #[.int .i64 p, .slice au48 ds.length cu48, .slice (some ⟨g52, tlO ms.length, none⟩) ms.length ms.length] (by kernel_rfl) (by kernel_rfl) 30 _ hZW.2.2.2.2.1 (infoCo _ _ _) (by kernel_rfl) (by kernel_rfl) ?_
                  rw [← hWF]
                  refine ⟨hBUF, ?_⟩
                  refine wpAnyH_done (by kernel_rfl) ?_ _
                  simp only [Act.put, List.setIfInBounds_toArray, List.set_cons_zero, List.set_cons_succ]
                  have b0 := hRF.cell (i := 0) rfl
                  have b1 := hRF.cell (i := 1) rfl
                  have b2 := hRF.cell (i := 2) rfl
                  clear hRF hWF hZW
                  go_wp2
                  refine bodyPost_ret (v := .agg #[.int .i64 p, .slice au48 ds.length cu48, .slice (some ⟨g52, tlO ms.length, none⟩) ms.length ms.length]) ?_ rfl ⟨_, rfl, rwC_apart hCF hSF (by omega) (Or.inl (by omega)) (by omega) (by omega) (by omega), hbF⟩
                  simp only [results, HRES.out]
                  go_simp
end Go.Proofs.Ytchijefibiaphaa


namespace Go.Proofs.Ytchijefibiaphaa
open Go.RowKit

open Classical in
/-- The code of a complex and a perturbation of it. -/
noncomputable def pbCode (p : Int) (ds : List Int) (ms fs : List (List (List Int))) : Int := if mpCode p ds ms fs = 0 then (if SqOk p ds (ptF p ds ms fs ms.length) then 0 else 5) else mpCode p ds ms fs

set_option maxHeartbeats 3200000 in
set_option maxRecDepth 100000 in
theorem perturbedComplexOf_any (p : Int) (dv mv fv : Value) (ds : List Int) (ms fs : List (List (List Int))) (w : World) (h : Cx 0 w dv mv ds ms) (hf : L3 0 w fv fs) (hd : ds.length ≤ 1048576) (hm : Bd3 1048576 ms) (hmf : Bd3 1048576 fs) :
    Calls Try.prog 23 #[.agg #[.int .i64 p, dv, mv], fv] w (AnsW RwC (fun o => o = (p, ds, ptF p ds ms fs ms.length)) (0, [], []) (pbCode p ds ms fs) w) := by
  have hres : Try.f23.results = #[.cell 4 30, .tmp 5] := by kernel_rfl
  have HRES := Lib.hid hres
  obtain ⟨ad, cap, rfl⟩ := Sl.shape h.dims
  obtain ⟨am, capm, rfl⟩ := Sl.shape h.maps
  obtain ⟨af, cf, rfl⟩ := Sl.shape hf
  obtain ⟨wa, hwa⟩ : ∃ wa : World, wa = w.alloc (.cells #[.int .i64 p, .slice ad ds.length cap, .slice am ms.length capm] 30) := ⟨_, rfl⟩
  obtain ⟨w1, hw1⟩ : ∃ w1 : World, w1 = wa.alloc (.cells #[.int .i64 0, .slice none 0 0, .slice none 0 0] 30) := ⟨_, rfl⟩
  have hsa : wa.heap.size = w.heap.size + 1 := by rw [hwa]; simp
  have hs1 : w.heap.size + 2 = w1.heap.size := by rw [hw1]; simp [hsa]
  have HX1 : Hid (Bx w w1 w.heap.size p (.slice ad ds.length cap) (.slice am ms.length capm) ds ms) := Lib.hid (by rw [hw1]; exact (show Bx w wa w.heap.size p (.slice ad ds.length cap) (.slice am ms.length capm) ds ms by rw [hwa]; exact Bx.start _ h).next (below_alloc1 _ _))
  have HR1 : Hid (Rz w1 (w.heap.size + 1) 30 #[.int .i64 0, .slice none 0 0, .slice none 0 0]) := Lib.hid (by rw [hw1, ← hsa]; exact Rz.new _ _ _)
  have HF1 := Lib.hid (hf.below HX1.out.below)
  have HCK := Lib.hid (checkMaps_any p _ _ _ ds ms fs w1 HX1.out.cx HF1.out hd hm hmf)
  obtain ⟨ec, hec⟩ : ∃ ec, ec = mpCode p ds ms fs := ⟨_, rfl⟩
  rw [← hec] at HCK
  have HEC := Lib.hid hec
  have HS1 := Lib.hid hs1
  have c0 := HX1.out.c0
  have c1 := HX1.out.c1
  have c2 := HX1.out.c2
  clear h hf hm hmf hec hres hs1
  go_enter Try.func23, Try.ntmps23
  go_upto_region 1 with fail
  rw [← hwa, ← hw1]
  clear hwa hw1 hsa
  go_wp2_with fail
  refine HCK.out.mono ?_
  rintro e w2 ⟨rfl, hb2⟩
  have HX2 := Lib.hid (HX1.out.next hb2)
  have HF2 := Lib.hid (HF1.out.below hb2)
  have HR2 := Lib.hid (HR1.out.next hb2)
  have hs2 : w.heap.size + 2 ≤ w2.heap.size := by have := hb2.size; have := HS1.out; omega
  clear hb2 c0 c1 c2 HCK HX1 HF1 HR1
  by_cases h0 : ec = 0
  · subst h0
    obtain ⟨hcx, hsz⟩ := mpCode_zero HEC.out.symm
    have HCX := Lib.hid hcx
    have HPF := Lib.hid (pre_sizes hcx.1.prime hsz)
    have HPC := Lib.hid (perturbedComplex_any p _ _ _ ds ms fs w2 HX2.out.cx HF2.out HCX.out HPF.out)
    have c0 := HX2.out.c0
    have c1 := HX2.out.c1
    have c2 := HX2.out.c2
    clear hcx hsz
    go_wp2_with fail
    refine HPC.out.mono ?_
    rintro e w3 ⟨u, rfl, hu, hb3⟩
    have HX3 := Lib.hid (HX2.out.next hb3)
    have HR3 := Lib.hid (HR2.out.next hb3)
    have hs3 := hb3.size
    obtain ⟨ts, hts⟩ : ∃ ts, ts = ptF p ds ms fs ms.length := ⟨_, rfl⟩
    rw [← hts] at hu
    obtain ⟨ad3, cd3, am3, cm3, hue, hr3⟩ := hu
    dsimp only at hue hr3
    subst hue
    have HTP : Hid (PreOk p ds ts) := Lib.hid (by rw [hts]; exact ptF_pre HCX.out.1)
    have HCY : Hid (SqOk p ds ts → pbCode p ds ms fs = 0) := Lib.hid (fun hq => by unfold pbCode; rw [if_pos HEC.out.symm, ← hts, if_pos hq])
    have HCN : Hid (¬ SqOk p ds ts → pbCode p ds ms fs = 5) := Lib.hid (fun hq => by unfold pbCode; rw [if_pos HEC.out.symm, ← hts, if_neg hq])
    have HTS := Lib.hid hts
    obtain ⟨w4, hw4⟩ : ∃ w4 : World, w4 = w3.alloc (.cells #[.int .i64 p, .slice ad3 ds.length cd3, .slice am3 ts.length cm3] 30) := ⟨_, rfl⟩
    have hb4 : Below w3.heap.size w3 w4 := by rw [hw4]; exact below_alloc1 _ _
    clear hb3 c0 c1 c2 HPC hts
    have HR4 := Lib.hid (HR3.out.next hb4)
    have HX4 := Lib.hid (HX3.out.next hb4)
    have HRC := Lib.hid ((show RcW w2.heap.size w3.heap.size w3 (.slice ad3 ds.length cd3) (.slice am3 ts.length cm3) ds ts from hr3).same (Same.of_below hb4 (Nat.le_refl _)))
    have g0 : w4.cell? ⟨w3.heap.size, 0, none⟩ = some (.int .i64 p) := by rw [hw4]; simp
    have g1 : w4.cell? ⟨w3.heap.size, 1, none⟩ = some (.slice ad3 ds.length cd3) := by rw [hw4]; simp
    have g2 : w4.cell? ⟨w3.heap.size, 2, none⟩ = some (.slice am3 ts.length cm3) := by rw [hw4]; simp
    have hs4 := hb4.size
    have HSQ := Lib.hid (squares_any p _ _ ds ts w4 HRC.out.cx HTP.out)
    go_upto_region 5 with fail
    rw [← hw4]
    clear hw4 hb4 hr3 HR3 HX3 HR2 HX2
    go_wp2_with fail
    refine HSQ.out.mono ?_
    rintro e w5 ⟨b, rfl, hb5, hbb⟩
    have hs5 := hb5.size
    have HR5 := Lib.hid (HR4.out.next hb5)
    have HX5 := Lib.hid (HX4.out.next hb5)
    have HRC5 := Lib.hid (HRC.out.same (Same.of_below hb5 (by omega)))
    have k0 := later hb5 (Nat.le_refl _) g0
    have k1 := later hb5 (Nat.le_refl _) g1
    have k2 := later hb5 (Nat.le_refl _) g2
    have HBB := Lib.hid hbb
    have HRR := HR5
    clear hb5 hbb g0 g1 g2 HSQ
    cases b with
    | false =>
      have HC : Hid (pbCode p ds ms fs = 5) := Lib.hid (HCN.out (fun hq => absurd (HBB.out.2 hq) (by simp)))
      clear k0 k1 k2
      have HR1 : ∃ x0 x1 x2, w5.heap[w.heap.size + 1]? = some (.cells #[x0, x1, x2] 30) := ⟨_, _, _, HRR.out⟩
      obtain ⟨x0, x1, x2, hr⟩ := HR1
      have r0 : w5.rowIs (w.heap.size + 1) 30 3 (sel3 x0 x1 x2) := rowIs3 hr
      have q0 : w5.cell? ⟨w.heap.size + 1, 0, none⟩ = some x0 := r0.cell (i := 0) (by omega)
      have z0 : w5.frozen? ⟨w.heap.size + 1, 0, none⟩ = false := r0.frozen 0
      have r1 := r0.set 0 (.int .i64 0)
      have q1 : (w5.setCell ⟨w.heap.size + 1, 0, none⟩ (.int .i64 0)).cell? ⟨w.heap.size + 1, 1, none⟩ = some x1 := r1.cell (i := 1) (by omega)
      have z1 : (w5.setCell ⟨w.heap.size + 1, 0, none⟩ (.int .i64 0)).frozen? ⟨w.heap.size + 1, 1, none⟩ = false := r1.frozen 1
      have r2 := r1.set 1 (.slice none 0 0)
      have q2 : ((w5.setCell ⟨w.heap.size + 1, 0, none⟩ (.int .i64 0)).setCell ⟨w.heap.size + 1, 1, none⟩ (.slice none 0 0)).cell? ⟨w.heap.size + 1, 2, none⟩ = some x2 := r2.cell (i := 2) (by omega)
      have z2 : ((w5.setCell ⟨w.heap.size + 1, 0, none⟩ (.int .i64 0)).setCell ⟨w.heap.size + 1, 1, none⟩ (.slice none 0 0)).frozen? ⟨w.heap.size + 1, 2, none⟩ = false := r2.frozen 2
      have r3 := r2.set 2 (.slice none 0 0)
      obtain ⟨WF, hWF⟩ : ∃ W : World, W = (((w5.setCell ⟨w.heap.size + 1, 0, none⟩ (.int .i64 0)).setCell ⟨w.heap.size + 1, 1, none⟩ (.slice none 0 0)).setCell ⟨w.heap.size + 1, 2, none⟩ (.slice none 0 0)) := ⟨_, rfl⟩
      have hbWF : ∀ B (w0 : World), B ≤ w.heap.size + 1 → Below B w0 w5 → Below B w0 WF := fun B w0 hl hb => by rw [hWF]; exact (((hb.setCell (by show B ≤ w.heap.size + 1; exact hl) _).setCell (by show B ≤ w.heap.size + 1; exact hl) _).setCell (by show B ≤ w.heap.size + 1; exact hl) _)
      have hsWF : ∀ lo hi, w.heap.size + 1 < lo ∨ hi ≤ w.heap.size + 1 → Same lo hi w5 WF := fun lo hi hl => by rw [hWF]; exact (((Same.set _ hl).trans (Same.set _ hl)).trans (Same.set _ hl))
      have hzWF : WF.heap.size = w5.heap.size := by rw [hWF]; simp
      rw [← hWF] at r3
      have f0 : WF.cell? ⟨w.heap.size + 1, 0, none⟩ = some (.int .i64 0) := r3.cell (i := 0) (by omega)
      have f1 : WF.cell? ⟨w.heap.size + 1, 1, none⟩ = some (.slice none 0 0) := r3.cell (i := 1) (by omega)
      have f2 : WF.cell? ⟨w.heap.size + 1, 2, none⟩ = some (.slice none 0 0) := r3.cell (i := 2) (by omega)
      have HWWF := Lib.hid hWF
      clear hr r0 r1 r2 r3 hWF
      have HBF := Lib.hid (hbWF w.heap.size w (by omega) HX5.out.below)
      clear hbWF hsWF hzWF
      go_wp2
      rw [← HWWF.out]
      refine bodyPost_ret (v := .tuple #[.agg #[.int .i64 0, .slice none 0 0, .slice none 0 0], .int .i64 5]) ?_ rfl ?_
      · simp only [results, HRES.out]
        go_simp
      · refine ⟨_, (0, [], []), 5, rfl, RwC.nil _ _ _, HBF.out, ?_⟩
        rw [HC.out]
        exact RsOut.of_no (by decide)
    | true =>
      have HC : Hid (pbCode p ds ms fs = 0) := Lib.hid (HCY.out (HBB.out.1 (by simp)))
      have HR1 : ∃ x0 x1 x2, w5.heap[w.heap.size + 1]? = some (.cells #[x0, x1, x2] 30) := ⟨_, _, _, HRR.out⟩
      obtain ⟨x0, x1, x2, hr⟩ := HR1
      have r0 : w5.rowIs (w.heap.size + 1) 30 3 (sel3 x0 x1 x2) := rowIs3 hr
      have q0 : w5.cell? ⟨w.heap.size + 1, 0, none⟩ = some x0 := r0.cell (i := 0) (by omega)
      have z0 : w5.frozen? ⟨w.heap.size + 1, 0, none⟩ = false := r0.frozen 0
      have r1 := r0.set 0 (.int .i64 p)
      have q1 : (w5.setCell ⟨w.heap.size + 1, 0, none⟩ (.int .i64 p)).cell? ⟨w.heap.size + 1, 1, none⟩ = some x1 := r1.cell (i := 1) (by omega)
      have z1 : (w5.setCell ⟨w.heap.size + 1, 0, none⟩ (.int .i64 p)).frozen? ⟨w.heap.size + 1, 1, none⟩ = false := r1.frozen 1
      have r2 := r1.set 1 (.slice ad3 ds.length cd3)
      have q2 : ((w5.setCell ⟨w.heap.size + 1, 0, none⟩ (.int .i64 p)).setCell ⟨w.heap.size + 1, 1, none⟩ (.slice ad3 ds.length cd3)).cell? ⟨w.heap.size + 1, 2, none⟩ = some x2 := r2.cell (i := 2) (by omega)
      have z2 : ((w5.setCell ⟨w.heap.size + 1, 0, none⟩ (.int .i64 p)).setCell ⟨w.heap.size + 1, 1, none⟩ (.slice ad3 ds.length cd3)).frozen? ⟨w.heap.size + 1, 2, none⟩ = false := r2.frozen 2
      have r3 := r2.set 2 (.slice am3 ts.length cm3)
      obtain ⟨WF, hWF⟩ : ∃ W : World, W = (((w5.setCell ⟨w.heap.size + 1, 0, none⟩ (.int .i64 p)).setCell ⟨w.heap.size + 1, 1, none⟩ (.slice ad3 ds.length cd3)).setCell ⟨w.heap.size + 1, 2, none⟩ (.slice am3 ts.length cm3)) := ⟨_, rfl⟩
      have hbWF : ∀ B (w0 : World), B ≤ w.heap.size + 1 → Below B w0 w5 → Below B w0 WF := fun B w0 hl hb => by rw [hWF]; exact (((hb.setCell (by show B ≤ w.heap.size + 1; exact hl) _).setCell (by show B ≤ w.heap.size + 1; exact hl) _).setCell (by show B ≤ w.heap.size + 1; exact hl) _)
      have hsWF : ∀ lo hi, w.heap.size + 1 < lo ∨ hi ≤ w.heap.size + 1 → Same lo hi w5 WF := fun lo hi hl => by rw [hWF]; exact (((Same.set _ hl).trans (Same.set _ hl)).trans (Same.set _ hl))
      have hzWF : WF.heap.size = w5.heap.size := by rw [hWF]; simp
      rw [← hWF] at r3
      have f0 : WF.cell? ⟨w.heap.size + 1, 0, none⟩ = some (.int .i64 p) := r3.cell (i := 0) (by omega)
      have f1 : WF.cell? ⟨w.heap.size + 1, 1, none⟩ = some (.slice ad3 ds.length cd3) := r3.cell (i := 1) (by omega)
      have f2 : WF.cell? ⟨w.heap.size + 1, 2, none⟩ = some (.slice am3 ts.length cm3) := r3.cell (i := 2) (by omega)
      have HWWF := Lib.hid hWF
      clear hr r0 r1 r2 r3 hWF
      have HBF := Lib.hid (hbWF w.heap.size w (by omega) HX5.out.below)
      have HUF := Lib.hid ((HRC5.out.same (hsWF _ _ (Or.inl (by omega)))).wider (show w.heap.size ≤ w2.heap.size by omega) (show w3.heap.size ≤ WF.heap.size by rw [hzWF]; omega))
      clear hbWF hsWF hzWF
      go_wp2
      rw [← HWWF.out]
      refine bodyPost_ret (v := .tuple #[.agg #[.int .i64 p, .slice ad3 ds.length cd3, .slice am3 ts.length cm3], .int .i64 0]) ?_ rfl ?_
      · simp only [results, HRES.out]
        go_simp
      · exact ⟨_, (p, ds, ts), 0, rfl, ⟨ad3, cd3, am3, cm3, rfl, HUF.out⟩, HBF.out, RsOut.of_yes HC.out (by rw [HTS.out])⟩
  · have hne2 : (ec != 0) = true := by simp [h0]
    have hne3 : (ec == 0) = false := by simp [h0]
    have HNE := Lib.hid h0
    have HCB : Hid (pbCode p ds ms fs = ec) := Lib.hid (by unfold pbCode; rw [← HEC.out, if_neg h0])
    clear h0
    have HRR := HR2
    have HR1 : ∃ x0 x1 x2, w2.heap[w.heap.size + 1]? = some (.cells #[x0, x1, x2] 30) := ⟨_, _, _, HRR.out⟩
    obtain ⟨x0, x1, x2, hr⟩ := HR1
    have r0 : w2.rowIs (w.heap.size + 1) 30 3 (sel3 x0 x1 x2) := rowIs3 hr
    have q0 : w2.cell? ⟨w.heap.size + 1, 0, none⟩ = some x0 := r0.cell (i := 0) (by omega)
    have z0 : w2.frozen? ⟨w.heap.size + 1, 0, none⟩ = false := r0.frozen 0
    have r1 := r0.set 0 (.int .i64 0)
    have q1 : (w2.setCell ⟨w.heap.size + 1, 0, none⟩ (.int .i64 0)).cell? ⟨w.heap.size + 1, 1, none⟩ = some x1 := r1.cell (i := 1) (by omega)
    have z1 : (w2.setCell ⟨w.heap.size + 1, 0, none⟩ (.int .i64 0)).frozen? ⟨w.heap.size + 1, 1, none⟩ = false := r1.frozen 1
    have r2 := r1.set 1 (.slice none 0 0)
    have q2 : ((w2.setCell ⟨w.heap.size + 1, 0, none⟩ (.int .i64 0)).setCell ⟨w.heap.size + 1, 1, none⟩ (.slice none 0 0)).cell? ⟨w.heap.size + 1, 2, none⟩ = some x2 := r2.cell (i := 2) (by omega)
    have z2 : ((w2.setCell ⟨w.heap.size + 1, 0, none⟩ (.int .i64 0)).setCell ⟨w.heap.size + 1, 1, none⟩ (.slice none 0 0)).frozen? ⟨w.heap.size + 1, 2, none⟩ = false := r2.frozen 2
    have r3 := r2.set 2 (.slice none 0 0)
    obtain ⟨WF, hWF⟩ : ∃ W : World, W = (((w2.setCell ⟨w.heap.size + 1, 0, none⟩ (.int .i64 0)).setCell ⟨w.heap.size + 1, 1, none⟩ (.slice none 0 0)).setCell ⟨w.heap.size + 1, 2, none⟩ (.slice none 0 0)) := ⟨_, rfl⟩
    have hbWF : ∀ B (w0 : World), B ≤ w.heap.size + 1 → Below B w0 w2 → Below B w0 WF := fun B w0 hl hb => by rw [hWF]; exact (((hb.setCell (by show B ≤ w.heap.size + 1; exact hl) _).setCell (by show B ≤ w.heap.size + 1; exact hl) _).setCell (by show B ≤ w.heap.size + 1; exact hl) _)
    have hsWF : ∀ lo hi, w.heap.size + 1 < lo ∨ hi ≤ w.heap.size + 1 → Same lo hi w2 WF := fun lo hi hl => by rw [hWF]; exact (((Same.set _ hl).trans (Same.set _ hl)).trans (Same.set _ hl))
    have hzWF : WF.heap.size = w2.heap.size := by rw [hWF]; simp
    rw [← hWF] at r3
    have f0 : WF.cell? ⟨w.heap.size + 1, 0, none⟩ = some (.int .i64 0) := r3.cell (i := 0) (by omega)
    have f1 : WF.cell? ⟨w.heap.size + 1, 1, none⟩ = some (.slice none 0 0) := r3.cell (i := 1) (by omega)
    have f2 : WF.cell? ⟨w.heap.size + 1, 2, none⟩ = some (.slice none 0 0) := r3.cell (i := 2) (by omega)
    have HWWF := Lib.hid hWF
    clear hr r0 r1 r2 r3 hWF
    have HBF := Lib.hid (hbWF w.heap.size w (by omega) HX2.out.below)
    clear hbWF hsWF hzWF
    go_wp2
    rw [← HWWF.out]
    refine bodyPost_ret (v := .tuple #[.agg #[.int .i64 0, .slice none 0 0, .slice none 0 0], .int .i64 ec]) ?_ rfl ?_
    · simp only [results, HRES.out]
      go_simp
    · refine ⟨_, (0, [], []), ec, rfl, RwC.nil _ _ _, HBF.out, ?_⟩
      rw [HCB.out]
      exact RsOut.of_no HNE.out
end Go.Proofs.Ytchijefibiaphaa


namespace Go.Proofs.Ytchijefibiaphaa
open Go.RowKit

section
variable {lo : Nat} {w w' w1 wr : World} {u v vm : Value} {vs : List Value} {t : List (List Int)} {ds : List Int} {n g : Nat} {p : Int} {U : Nat → Value} {V : Nat → List Value} {T : Nat → List (List Int)}
theorem Sq.put (h : Sq w1 wr g p v vm ds n U V T) {k i : Nat} (hk : k < n) (hi : i < (T k).length) {gr m c : Nat} (hv : (V k)[i]'(by rw [(h.cy.maps.tabs k hk).len]; exact hi) = .slice (some ⟨gr, 0, none⟩) m c) {q : Nat} (hq : q < ((T k)[i]).length) (x : Int) :
    Sq w1 (wr.setCell ⟨gr, q, none⟩ (.int .i64 x)) g p v vm ds n U V (fun l => if l = k then (T k).set i (((T k)[i]).set q x) else T l) ∧ wr.frozen? ⟨gr, q, none⟩ = false := by
  obtain ⟨hp, hf, hl⟩ := h.cy.maps.put hk hi hv hq x
  have ht := h.cy.maps.tabs k hk
  have hrow := ht.rows i (by rw [ht.len]; exact hi) hi
  have hne : g ≠ gr := by
    intro e
    have := own_ne_row hrow h.box coT.1
    rw [hv] at this
    exact this (by rw [e]; rfl)
  refine ⟨⟨h.below.setCell hl _, h.lo, h.box.setOther hne _, ⟨ownsRow_setCell_other h.cy.dims (fun e => h.cy.dap k hk i (by rw [ht.len]; exact hi) gr (by rw [hv]; rfl) e) _, hp, h.cy.dap⟩⟩, hf⟩
theorem Gtq.cellU {a : Option Addr} {c : Nat} (h : Gtq lo w (.slice a n c) n U V T) {k : Nat} (hk : k < n) : ∃ gu, a = some ⟨gu, 0, none⟩ ∧ w.cell? ⟨gu, k, none⟩ = some (U k) := by
  have hcr : ∃ gu, a = some ⟨gu, 0, none⟩ := by
    rcases h.own.2 with ⟨e, e0⟩ | ⟨gu, cu, cur, e, _⟩
    · omega
    · injection e with e
      exact ⟨gu, e⟩
  obtain ⟨gu, rfl⟩ := hcr
  refine ⟨gu, rfl, ?_⟩
  have := World.ownsRow.cellAt h.own k (by omega)
  rw [this]
  simp [hk]
theorem Gqv.cellV {a : Option Addr} {m c : Nat} (h : Gqv lo w (.slice a m c) vs t) {i : Nat} (hi : i < t.length) : ∃ gu, a = some ⟨gu, 0, none⟩ ∧ w.cell? ⟨gu, i, none⟩ = some (vs[i]'(by rw [h.len]; exact hi)) := by
  have hm : m = t.length := by
    obtain ⟨a2, c2, e⟩ := Sl.shape h.gs.l2
    injection e
  subst hm
  have hcr : ∃ gu, a = some ⟨gu, 0, none⟩ := by
    rcases h.own.2 with ⟨e, e0⟩ | ⟨gu, cu, cur, e, _⟩
    · omega
    · injection e with e
      exact ⟨gu, e⟩
  obtain ⟨gu, rfl⟩ := hcr
  refine ⟨gu, rfl, ?_⟩
  have hiv : i < vs.length := by rw [h.len]; exact hi
  have := World.ownsRow.cellAt h.own i (by omega)
  rw [this, List.getElem?_eq_getElem hiv]
theorem Gb.cellI {a : Option Addr} {m c : Nat} {xs : List Int} (h : Gb lo w (.slice a m c) xs) {q : Nat} (hq : q < xs.length) : ∃ gu, a = some ⟨gu, 0, none⟩ ∧ w.cell? ⟨gu, q, none⟩ = some (.int .i64 xs[q]) := by
  have hm : m = xs.length := by
    obtain ⟨a2, c2, e⟩ := Sl.shape h.l1
    injection e
  subst hm
  obtain ⟨gu, hgu, _⟩ := h.block (by omega)
  subst hgu
  refine ⟨gu, rfl, ?_⟩
  have h5 : w.ownsRow lo 2 1 (.slice (some ⟨gu, 0, none⟩) xs.length c) xs.length (xs.map (Value.int .i64)) := h
  have := World.ownsRow.cellAt h5 q (by omega)
  rw [this]
  simp [hq]
end
theorem sl_cell {α : Type} {lo : Nat} {R : World → Value → α → Prop} {w : World} {a : Option Addr} {n c : Nat} {xs : List α} (h : Sl lo R w (.slice a n c) xs) {k : Nat} (hk : k < xs.length) : ∃ b off u, a = some ⟨b, off, none⟩ ∧ n = xs.length ∧ w.cell? ⟨b, off + k, none⟩ = some u ∧ R w u xs[k] := by
  rcases h with ⟨h, _⟩ | ⟨b, off, cap, hv, _, _, hc⟩
  · subst h; simp at hk
  · injection hv with e1 e2
    subst e1
    obtain ⟨u, h1, h2⟩ := hc k hk
    exact ⟨b, off, u, rfl, e2, h1, h2⟩
theorem gt_lower {base base' : Nat} {w : World} {u : Value} {ts : List (List (List Int))} (h : Gt base w u ts) (hb : base' ≤ base) : Gt base' w u ts := by
  obtain ⟨vs, h1, h2⟩ := h
  exact ⟨vs, owns_mono h1 hb, h2⟩
def PuR (p : Int) (ds : List Int) (ms fs : List (List (List Int))) (w : World) (e : Ending) (w' : World) : Prop := ∃ ad cd am cm, e = .returned (.agg #[.int .i64 p, .slice ad ds.length cd, .slice am ms.length cm]) ∧ Gb w.heap.size w' (.slice ad ds.length cd) ds ∧ Gt w.heap.size w' (.slice am ms.length cm) (ptF p ds ms fs ms.length) ∧ Below w.heap.size w w'

set_option maxHeartbeats 12800000 in
set_option maxRecDepth 100000 in
theorem l08Perturbed_any (p : Int) (dv mv fv : Value) (ds : List Int) (ms fs : List (List (List Int))) (w : World) (h : Cx 0 w dv mv ds ms) (hf : L3 0 w fv fs) (hcx : PreOk p ds ms) (hcf : PreOk p ds fs) :
    Calls Try.prog 63 #[.agg #[.int .i64 p, dv, mv], fv] w (PuR p ds ms fs w) := by
  have hres : Try.f63.results = #[.cell 4 30] := by kernel_rfl
  have HRES := Lib.hid hres
  have hl6 := hcx.len1
  have hlm := hcx.mlen
  have hlf := hcf.mlen
  have hp := hcx.prime.lo
  have hp7 : p ≤ 7 := by have := hcx.prime; unfold IsP at this; omega
  have hmd : Bd3 1048576 ms := preOk_bd hcx
  obtain ⟨ad0, cd0, rfl⟩ := Sl.shape h.dims
  obtain ⟨am0, cm0, rfl⟩ := Sl.shape h.maps
  obtain ⟨af, cf, rfl⟩ := Sl.shape hf
  obtain ⟨wa, hwa⟩ : ∃ wa : World, wa = w.alloc (.cells #[.int .i64 p, .slice ad0 ds.length cd0, .slice am0 ms.length cm0] 30) := ⟨_, rfl⟩
  obtain ⟨w1, hw1⟩ : ∃ w1 : World, w1 = wa.alloc (.cells #[.int .i64 0, .slice none 0 0, .slice none 0 0] 30) := ⟨_, rfl⟩
  have hsa : wa.heap.size = w.heap.size + 1 := by rw [hwa]; simp
  have hs1 : w1.heap.size = w.heap.size + 2 := by rw [hw1]; simp [hsa]
  have hba : Below wa.heap.size wa w1 := by rw [hw1]; exact below_alloc1 _ _
  have k1 : Bx w wa w.heap.size p (.slice ad0 ds.length cd0) (.slice am0 ms.length cm0) ds ms := by rw [hwa]; exact Bx.start _ h
  have HR1 : Hid (Rz w1 (w.heap.size + 1) 30 #[.int .i64 0, .slice none 0 0, .slice none 0 0]) := Lib.hid (by rw [hw1, ← hsa]; exact Rz.new _ _ _)
  have HN1 : Hid (∀ W, Below w1.heap.size w1 W → Bx w W w.heap.size p (.slice ad0 ds.length cd0) (.slice am0 ms.length cm0) ds ms ∧ Rz W (w.heap.size + 1) 30 #[.int .i64 0, .slice none 0 0, .slice none 0 0] ∧ L3 0 W (.slice af fs.length cf) fs) := Lib.hid (fun W hb => ⟨(k1.next hba).next hb, HR1.out.next hb, hf.below ((k1.next hba).next hb).below⟩)
  have HCX := Lib.hid hcx
  have HCF := Lib.hid hcf
  have HS1 := Lib.hid hs1
  have HCP := Lib.hid (l01Copy_any p _ _ ds ms w1 (HN1.out _ (Below.refl _ _)).1.cx (by omega) hmd)
  have hb0 := HN1.out _ (Below.refl _ _)
  have c0 := hb0.1.c0
  have c1 := hb0.1.c1
  have c2 := hb0.1.c2
  clear h hf hcx hcf hres k1 hba hs1 HR1 hmd hb0
  go_enter Try.func63, Try.ntmps63
  go_upto_region 1 with fail
  rw [← hwa, ← hw1]
  clear hwa hw1 hsa
  go_wp2_with fail
  refine HCP.out.mono ?_
  rintro e w2 ⟨ad, cd, am, cm, U, V, rfl, hcy, hb2⟩
  obtain ⟨nm, hnm⟩ : ∃ nm, nm = ms.length := ⟨_, rfl⟩
  obtain ⟨nd, hnd⟩ : ∃ nd, nd = ds.length := ⟨_, rfl⟩
  rw [← hnm, ← hnd] at hcy
  rw [← hnm, ← hnd]
  have HNM := Lib.hid hnm
  have HND := Lib.hid hnd
  have HNF : Hid (fs.length = nm) := Lib.hid (by omega)
  have hn6 : nm ≤ 6 := by omega
  obtain ⟨w3, hw3⟩ : ∃ w3 : World, w3 = w2.alloc (.cells #[.int .i64 p, .slice ad nd cd, .slice am nm cm] 30) := ⟨_, rfl⟩
  have hb3 : Below w2.heap.size w2 w3 := by rw [hw3]; exact below_alloc1 _ _
  have HS0 : Hid (Sq w1 w3 w2.heap.size p (.slice ad nd cd) (.slice am nm cm) ds nm U V (ptS p ms fs 0 0 0)) := Lib.hid ⟨hb2.trans (hb3.mono hb2.size), hb2.size, by rw [hw3]; exact rowIs3 (heap_alloc_new _ _), by rw [← ptS_start]; exact hcy.below hb3⟩
  obtain ⟨g, hg⟩ : ∃ g, g = w2.heap.size := ⟨_, rfl⟩
  rw [← hg] at HS0
  clear hcy hb2 hb3 c0 c1 c2 HCP hnm hnd
  go_upto_region 2 with fail
  rw [← hw3]
  rw [← hg]
  clear hw3 hg
  go_wp2
  go_loopw [6, 7, 8, 9] (fun i _ _ _ wr => ∃ (k0 : Nat), k0 ≤ nm ∧ i = .int .i64 k0 ∧ Hid (Sq w1 wr g p (.slice ad nd cd) (.slice am nm cm) ds nm U V (ptS p ms fs k0 0 0))) (fun i _ _ _ _ => nm - (intOf i).toNat)
  case atStart => exact ⟨0, Nat.zero_le _, rfl, HS0⟩
  case round =>
    clear HS0
    obtain ⟨k0, hk0, rfl, HS⟩ := hrel
    obtain ⟨wx, hwx⟩ : ∃ wx : World, wx = wr := ⟨_, rfl⟩
    subst hwx
    by_cases hlt : k0 < nm
    · have hkl : (k0 : Int) < (nm : Int) := by omega
      have hkf : k0 < fs.length := by have := HNF.out; omega
      have hkm : k0 < ms.length := by have := HNM.out; omega
      have hkfi : (k0 : Int) < (fs.length : Int) := by omega
      have hk00 : (0 : Int) ≤ (k0 : Int) := by omega
      have hf1 := (HN1.out _ (Below.refl _ _)).2.2
      obtain ⟨bf, of, uf, haf, -, hcf, hrf⟩ := sl_cell hf1 hkf
      subst haf
      obtain ⟨f, hfe⟩ : ∃ f, f = fs[k0] := ⟨_, rfl⟩
      rw [← hfe] at hrf
      obtain ⟨at2, ct2, rfl⟩ := Sl.shape hrf
      obtain ⟨t, hte⟩ : ∃ t, t = ms.getD k0 [] := ⟨_, rfl⟩
      have HTE := Lib.hid hte
      have HFE : Hid (fs.getD k0 [] = f) := Lib.hid (by rw [hfe, getD_of_lt _ hkf])
      have htok := HCX.out.tabs k0 hkm
      rw [← hte] at htok
      have hfok := HCF.out.tabs k0 hkf
      rw [HFE.out] at hfok
      have HTO := Lib.hid htok
      have HFO := Lib.hid hfok
      have hlen : f.length = t.length := by have := HTO.out.1; have := HFO.out.1; omega
      have ht8 : t.length ≤ 8 := by have := HTO.out.1; have := HCX.out.dim (k0 + 1); omega
      have HCFK := Lib.hid hcf
      have HRF := Lib.hid hrf
      have hk1 : wx.cell? ⟨bf, of + k0, none⟩ = some (.slice at2 f.length ct2) := later HS.out.below (Nat.le_refl _) hcf
      rw [hlen] at hk1
      rw [hlen] at HRF HCFK
      clear hf1 hcf hrf hfe hte htok hfok
      go_wp2
      go_loopw [7, 8, 9] (fun i _ _ wr => ∃ (i0 : Nat), i0 ≤ t.length ∧ i = .int .i64 i0 ∧ Hid (Sq w1 wr g p (.slice ad nd cd) (.slice am nm cm) ds nm U V (ptS p ms fs k0 i0 0))) (fun i _ _ _ => t.length - (intOf i).toNat)
      case atStart => exact ⟨0, Nat.zero_le _, rfl, HS⟩
      case round =>
        clear HS hk1
        obtain ⟨i0, hi0, rfl, HS⟩ := hrel
        obtain ⟨wy, hwy⟩ : ∃ wy : World, wy = wr := ⟨_, rfl⟩
        subst hwy
        have hk1 : wy.cell? ⟨bf, of + k0, none⟩ = some (.slice at2 t.length ct2) := later HS.out.below (Nat.le_refl _) HCFK.out
        by_cases hlti : i0 < t.length
        · have hil : (i0 : Int) < (t.length : Int) := by omega
          have hi00 : (0 : Int) ≤ (i0 : Int) := by omega
          have g2 : wy.cell? ⟨g, 2, none⟩ = some (.slice am nm cm) := HS.out.box.cell (i := 2) (by omega)
          obtain ⟨gm, ham, hcu⟩ := HS.out.cy.maps.cellU hlt
          subst ham
          have htk := HS.out.cy.maps.tabs k0 hlt
          have hptl : (ptS p ms fs k0 i0 0 k0).length = t.length := by rw [ptS_len, HTE.out]
          obtain ⟨au, cu, hue⟩ := Sl.shape htk.gs.l2
          rw [hptl] at hue
          rw [hue] at hcu htk
          obtain ⟨gt, hgt, hcv⟩ := htk.cellV (i := i0) (by rw [hptl]; exact hlti)
          subst hgt
          have hiv : i0 < (V k0).length := by rw [htk.len, hptl]; exact hlti
          obtain ⟨rv, hrv⟩ : ∃ rv, rv = (V k0)[i0] := ⟨_, rfl⟩
          have hrow := htk.rows i0 hiv (by rw [hptl]; exact hlti)
          rw [← hrv] at hrow hcv
          have hrl : ((ptS p ms fs k0 i0 0 k0)[i0]'(by rw [hptl]; exact hlti)).length = (t[i0]).length := ptS_rowlen HTE.out hlti _
          obtain ⟨ar, cr, hus⟩ := Sl.shape hrow.l1
          rw [hrl] at hus
          obtain ⟨nr, hnr⟩ : ∃ nr, nr = (t[i0]).length := ⟨_, rfl⟩
          rw [← hnr] at hus
          subst hus
          have HRV := Lib.hid hrv
          have HNR := Lib.hid hnr
          have HUE := Lib.hid hue
          have hn8 : nr ≤ 8 := by rw [hnr]; have := (HTO.out.2 _ (List.getElem_mem hlti)).1; have := HCX.out.dim k0; omega
          obtain ⟨b2, o2, ur, ha2, -, hc2, hr2⟩ := sl_cell HRF.out (k := i0) (by omega)
          subst ha2
          obtain ⟨fr, hfr⟩ : ∃ fr, fr = f[i0]'(by omega) := ⟨_, rfl⟩
          rw [← hfr] at hr2
          obtain ⟨a3, c3, rfl⟩ := Sl.shape hr2
          have hflen : fr.length = nr := by rw [hfr, hnr]; have := (HTO.out.2 _ (List.getElem_mem hlti)).1; have := (HFO.out.2 _ (List.getElem_mem (show i0 < f.length by omega))).1; omega
          rw [hflen] at hc2 hr2
          have HC2 := Lib.hid hc2
          have HR2 := Lib.hid hr2
          have HFR := Lib.hid hfr
          clear hc2 hr2 hrow hrv hnr hfr htk hrl hue
          go_wp2
          clear g2 hcu hcv
          go_loopw [9] (fun j wr => ∃ (q : Nat), q ≤ nr ∧ j = .int .i64 q ∧ Hid (Sq w1 wr g p (.slice ad nd cd) (.slice (some ⟨gm, 0, none⟩) nm cm) ds nm U V (ptS p ms fs k0 i0 q))) (fun j _ => nr - (intOf j).toNat)
          case atStart => exact ⟨0, Nat.zero_le _, rfl, HS⟩
          case round =>
            clear HS hk1
            obtain ⟨q, hq, rfl, HS⟩ := hrel
            obtain ⟨wz, hwz⟩ : ∃ wz : World, wz = wr := ⟨_, rfl⟩
            subst hwz
            by_cases hltq : q < nr
            · have hql : (q : Int) < (nr : Int) := by omega
              have hq00 : (0 : Int) ≤ (q : Int) := by omega
              have htk := HS.out.cy.maps.tabs k0 hlt
              have hptl : (ptS p ms fs k0 i0 q k0).length = t.length := by rw [ptS_len, HTE.out]
              have hk1' : i0 < (ptS p ms fs k0 i0 q k0).length := by rw [hptl]; exact hlti
              have hrl : ((ptS p ms fs k0 i0 q k0)[i0]'hk1').length = (t[i0]).length := ptS_rowlen HTE.out hlti _
              have hrow := htk.rows i0 hiv hk1'
              rw [← HRV.out] at hrow
              obtain ⟨gr, har, hcx0⟩ := hrow.cellI (q := q) (by rw [hrl, ← HNR.out]; exact hltq)
              subst har
              have hqt : q < (t[i0]).length := by rw [← HNR.out]; exact hltq
              obtain ⟨x, hx⟩ : ∃ x, x = (t[i0])[q] := ⟨_, rfl⟩
              have hnow : ((ptS p ms fs k0 i0 q k0)[i0]'hk1')[q]'(by rw [hrl]; exact hqt) = x := by rw [hx]; exact ptS_num HTE.out hlti hqt _ _
              rw [hnow] at hcx0
              obtain ⟨b3, o3, uy, ha3, -, hc3, hry⟩ := sl_cell HR2.out (k := q) (by rw [hflen]; exact hltq)
              subst ha3
              obtain ⟨y, hy⟩ : ∃ y, y = fr[q]'(by rw [hflen]; exact hltq) := ⟨_, rfl⟩
              rw [← hy] at hry
              have huy : uy = .int .i64 y := hry
              subst huy
              have hxb : 0 ≤ x ∧ x ≤ p - 1 := by rw [hx]; exact (HTO.out.2 _ (List.getElem_mem hlti)).2 _ (List.getElem_mem hqt)
              have hyb : 0 ≤ y ∧ y ≤ p - 1 := by rw [hy]; exact (HFO.out.2 fr (by rw [HFR.out]; exact List.getElem_mem _)).2 _ (List.getElem_mem _)
              obtain ⟨hput, hfz⟩ := HS.out.put hlt hk1' (show (V k0)[i0]'(by rw [htk.len]; exact hk1') = .slice (some ⟨gr, 0, none⟩) nr cr from HRV.out.symm) (show q < ((ptS p ms fs k0 i0 q k0)[i0]'hk1').length by rw [hrl]; exact hqt) ((x + y) % p)
              have hyv : ((fs.getD k0 []).getD i0 []).getD q 0 = y := by rw [HFE.out, getD_of_lt _ (show i0 < f.length by omega), ← HFR.out, getD_of_lt _ (by rw [hflen]; exact hltq), hy]
              have HN : Hid (Sq w1 (wz.setCell ⟨gr, q, none⟩ (.int .i64 ((x + y) % p))) g p (.slice ad nd cd) (.slice (some ⟨gm, 0, none⟩) nm cm) ds nm U V (ptS p ms fs k0 i0 (q + 1))) := Lib.hid (by
                have e := ptS_put (p := p) (ms := ms) (fs := fs) (k := k0) (i := i0) (q := q) (by rw [← HTE.out]; exact hlti) (by simp only [← HTE.out]; exact hqt) hk1' ((x + y) % p) (by rw [hyv]; simp only [← HTE.out]; rw [← hx])
                rw [← e]
                exact hput)
              have S1 : Hid (Sq w1 { wz with drawn := wz.drawn + 1 } g p (.slice ad nd cd) (.slice (some ⟨gm, 0, none⟩) nm cm) ds nm U V (ptS p ms fs k0 i0 q)) := Lib.hid (HS.out.next (Below.refl _ _).drew)
              have P0 : Hid (({ wz with drawn := wz.drawn + 1 } : World).cell? ⟨gr, q, none⟩ = some (.int .i64 x)) := Lib.hid hcx0
              have P1 : Hid (({ wz with drawn := wz.drawn + 1 } : World).cell? ⟨bf, of + k0, none⟩ = some (.slice (some ⟨b2, o2, none⟩) t.length ct2)) := Lib.hid (later S1.out.below (Nat.le_refl _) HCFK.out)
              have P2 : Hid (({ wz with drawn := wz.drawn + 1 } : World).cell? ⟨b2, o2 + i0, none⟩ = some (.slice (some ⟨b3, o3, none⟩) nr c3)) := Lib.hid (later S1.out.below (Nat.le_refl _) HC2.out)
              have P3 : Hid (({ wz with drawn := wz.drawn + 1 } : World).cell? ⟨b3, o3 + q, none⟩ = some (.int .i64 y)) := Lib.hid (later S1.out.below (Nat.le_refl _) hc3)
              have P4 : Hid (({ wz with drawn := wz.drawn + 1 } : World).cell? ⟨w.heap.size, 0, none⟩ = some (.int .i64 p)) := Lib.hid (HN1.out _ S1.out.below).1.c0
              have PF : Hid (({ wz with drawn := wz.drawn + 1 } : World).frozen? ⟨gr, q, none⟩ = false) := Lib.hid hfz
              have HND1 : Hid (Sq w1 (({ wz with drawn := wz.drawn + 1 } : World).setCell ⟨gr, q, none⟩ (.int .i64 ((x + y) % p))) g p (.slice ad nd cd) (.slice (some ⟨gm, 0, none⟩) nm cm) ds nm U V (ptS p ms fs k0 i0 (q + 1))) := Lib.hid (HN.out.next (w' := (({ wz with drawn := wz.drawn + 1 } : World).setCell ⟨gr, q, none⟩ (.int .i64 ((x + y) % p)))) (Below.refl _ _).drew)
              have hwxy : IntKind.i64.wrap (x + y) = x + y := IntWalk.i64_in _ (by omega)
              have hpz : ¬ p = 0 := by omega
              have htm : (x + y).tmod p = (x + y) % p := Int.tmod_eq_emod_of_nonneg (by omega)
              have hfl : (i0 : Int) < (t.length : Int) := hil
              obtain ⟨wd, hwd⟩ : ∃ wd : World, wd = { wz with drawn := wz.drawn + 1 } := ⟨_, rfl⟩
              rw [← hwd] at P0 P1 P2 P3 P4 PF HND1
              clear hput hfz hrow htk hx hy hyv hnow hcx0 hc3 HN S1 hry hptl hrl hk1'
              go_wp2
              refine wp_region_last (fun W => W = wd) 21 (by kernel_rfl) rfl (by kernel_rfl) ?_
              first | rw [← hwd] | (show wpAnyH _ _ _ _ _ _ _ _ wz.drew; rw [show wz.drew = wd from hwd.symm])
              clear hwd
              refine held_take (i := 0) (v := .slice (some ⟨gr, 0, none⟩) nr cr) (some 41) rfl rfl (by kernel_rfl) (by kernel_rfl) (by kernel_rfl) (fun _ _ _ h => h) (yieldsIf_move (by kernel_rfl) rfl (by kernel_rfl)) rfl ?_
              refine held_take (i := 1) (v := .int .i64 (q : Int)) (some 42) rfl rfl (by kernel_rfl) (by kernel_rfl) (by kernel_rfl) (fun _ _ _ h => h) (yieldsIf_move (by kernel_rfl) rfl (by kernel_rfl)) rfl ?_
              refine held_take (i := 2) (v := .slice (some ⟨gr, 0, none⟩) nr cr) (some 43) rfl rfl (by kernel_rfl) (by kernel_rfl) (by kernel_rfl) (fun _ _ _ h => h) (yieldsIf_move (by kernel_rfl) rfl (by kernel_rfl)) rfl ?_
              refine held_take (i := 3) (v := .int .i64 (q : Int)) (some 44) rfl rfl (by kernel_rfl) (by kernel_rfl) (by kernel_rfl) (fun _ _ _ h => h) (yieldsIf_move (by kernel_rfl) rfl (by kernel_rfl)) rfl ?_
              refine held_take (i := 4) (v := .pointer (some ⟨gr, q, none⟩)) (some 45) rfl rfl (by kernel_rfl) (by kernel_rfl) (by kernel_rfl) (fun _ _ _ h => h) (yieldsIf_run (by kernel_rfl) (fun W _ => by go_simp)) rfl ?_
              refine held_take (i := 5) (v := .int .i64 x) (some 46) rfl rfl (by kernel_rfl) (by kernel_rfl) (by kernel_rfl) (fun _ _ _ h => h) (yieldsIf_cell (by kernel_rfl) rfl (by kernel_rfl) (fun W h => by subst h; exact hload _ P0.out)) rfl ?_
              refine held_take (i := 6) (v := .slice (some ⟨bf, of, none⟩) fs.length cf) (some 47) rfl rfl (by kernel_rfl) (by kernel_rfl) (by kernel_rfl) (fun _ _ _ h => h) (yieldsIf_move (by kernel_rfl) rfl (by kernel_rfl)) rfl ?_
              refine held_take (i := 7) (v := .int .i64 (k0 : Int)) (some 48) rfl rfl (by kernel_rfl) (by kernel_rfl) (by kernel_rfl) (fun _ _ _ h => h) (yieldsIf_move (by kernel_rfl) rfl (by kernel_rfl)) rfl ?_
              refine held_take (i := 8) (v := .pointer (some ⟨bf, of + k0, none⟩)) (some 49) rfl rfl (by kernel_rfl) (by kernel_rfl) (by kernel_rfl) (fun _ _ _ h => h) (yieldsIf_run (by kernel_rfl) (fun W _ => by go_simp)) rfl ?_
              refine held_take (i := 9) (v := .slice (some ⟨b2, o2, none⟩) t.length ct2) (some 50) rfl rfl (by kernel_rfl) (by kernel_rfl) (by kernel_rfl) (fun _ _ _ h => h) (yieldsIf_cell (by kernel_rfl) rfl (by kernel_rfl) (fun W h => by subst h; exact hloadSS _ P1.out)) rfl ?_
              refine held_take (i := 10) (v := .int .i64 (i0 : Int)) (some 51) rfl rfl (by kernel_rfl) (by kernel_rfl) (by kernel_rfl) (fun _ _ _ h => h) (yieldsIf_move (by kernel_rfl) rfl (by kernel_rfl)) rfl ?_
              refine held_take (i := 11) (v := .pointer (some ⟨b2, o2 + i0, none⟩)) (some 52) rfl rfl (by kernel_rfl) (by kernel_rfl) (by kernel_rfl) (fun _ _ _ h => h) (yieldsIf_run (by kernel_rfl) (fun W _ => by go_simp)) rfl ?_
              refine held_take (i := 12) (v := .slice (some ⟨b3, o3, none⟩) nr c3) (some 53) rfl rfl (by kernel_rfl) (by kernel_rfl) (by kernel_rfl) (fun _ _ _ h => h) (yieldsIf_cell (by kernel_rfl) rfl (by kernel_rfl) (fun W h => by subst h; exact hloadS _ P2.out)) rfl ?_
              refine held_take (i := 13) (v := .int .i64 (q : Int)) (some 54) rfl rfl (by kernel_rfl) (by kernel_rfl) (by kernel_rfl) (fun _ _ _ h => h) (yieldsIf_move (by kernel_rfl) rfl (by kernel_rfl)) rfl ?_
              refine held_take (i := 14) (v := .pointer (some ⟨b3, o3 + q, none⟩)) (some 55) rfl rfl (by kernel_rfl) (by kernel_rfl) (by kernel_rfl) (fun _ _ _ h => h) (yieldsIf_run (by kernel_rfl) (fun W _ => by go_simp)) rfl ?_
              refine held_take (i := 15) (v := .int .i64 y) (some 56) rfl rfl (by kernel_rfl) (by kernel_rfl) (by kernel_rfl) (fun _ _ _ h => h) (yieldsIf_cell (by kernel_rfl) rfl (by kernel_rfl) (fun W h => by subst h; exact hload _ P3.out)) rfl ?_
              refine held_take (i := 16) (v := .int .i64 (x + y)) (some 57) rfl rfl (by kernel_rfl) (by kernel_rfl) (by kernel_rfl) (fun _ _ _ h => h) (yieldsIf_run (by kernel_rfl) (fun W _ => by go_simp)) rfl ?_
              refine held_take (i := 17) (v := .pointer (some ⟨w.heap.size, 0, none⟩)) (some 58) rfl rfl (by kernel_rfl) (by kernel_rfl) (by kernel_rfl) (fun _ _ _ h => h) (yieldsIf_run (by kernel_rfl) (fun W _ => by kernel_rfl)) rfl ?_
              refine held_take (i := 18) (v := .int .i64 p) (some 59) rfl rfl (by kernel_rfl) (by kernel_rfl) (by kernel_rfl) (fun _ _ _ h => h) (yieldsIf_cell (by kernel_rfl) rfl (by kernel_rfl) (fun W h => by subst h; exact hload _ P4.out)) rfl ?_
              refine held_take (i := 19) (v := .int .i64 ((x + y) % p)) (some 60) rfl rfl (by kernel_rfl) (by kernel_rfl) (by kernel_rfl) (fun _ _ _ h => h) (yieldsIf_run (by kernel_rfl) (fun W _ => by go_simp)) rfl ?_
              refine held_take (i := 20) (v := .pointer (some ⟨gr, q, none⟩)) (some 61) rfl rfl (by kernel_rfl) (by kernel_rfl) (by kernel_rfl) (fun _ _ _ h => h) (yieldsIf_run (by kernel_rfl) (fun W _ => by go_simp)) rfl ?_
              refine held_none (i := 21) (v := .bool false) rfl rfl (by kernel_rfl) (by kernel_rfl) (by kernel_rfl) (fun _ _ _ h => h) (yieldsIf_move (by kernel_rfl) rfl (by kernel_rfl)) rfl ?_
              refine wpAnyH_done (by kernel_rfl) (lastQ_of rfl (by kernel_rfl) ?_) _
              simp only [Act.put, List.setIfInBounds_toArray, List.set_cons_zero, List.set_cons_succ]
              have p0 := P0.out
              have pf := PF.out
              go_simp
              go_wp2
              go_roundw
              case rel => exact ⟨q + 1, by omega, by go_num, HND1⟩
              case measure => simp [intOf]; omega
            · have hql : ¬ (q : Int) < (nr : Int) := by omega
              have hqe : q = nr := by omega
              have HN : Hid (Sq w1 wz g p (.slice ad nd cd) (.slice (some ⟨gm, 0, none⟩) nm cm) ds nm U V (ptS p ms fs k0 (i0 + 1) 0)) := Lib.hid (by have h9 := HS.out; rw [hqe, HNR.out] at h9; rw [← ptS_row (p := p) (ms := ms) (fs := fs) (k := k0) (i := i0) (by rw [← HTE.out]; exact hlti)]; simp only [← HTE.out]; exact h9)
              clear hqe
              go_wp2
              go_roundw
              case rel => exact ⟨i0 + 1, by omega, by go_num, HN⟩
              case measure => simp [intOf]; omega
        · have hil : ¬ (i0 : Int) < (t.length : Int) := by omega
          have hie : i0 = t.length := by omega
          have HN : Hid (Sq w1 wy g p (.slice ad nd cd) (.slice am nm cm) ds nm U V (ptS p ms fs (k0 + 1) 0 0)) := Lib.hid (by have h9 := HS.out; rw [hie, HTE.out, ptS_tab] at h9; exact h9)
          clear hie
          go_wp2
          go_roundw
          case rel => exact ⟨k0 + 1, by omega, by go_num, HN⟩
          case measure => simp [intOf]; omega
    · have hkl : ¬ (k0 : Int) < (nm : Int) := by omega
      have hke : k0 = nm := by omega
      have hcyq := HS.out.cy
      have HMT : Hid (Gt w1.heap.size wx (.slice am nm cm) (ptF p ds ms fs nm)) := Lib.hid (by have h9 := hcyq.maps.gt; rw [hke, HNM.out, ptS_done HCX.out.szd] at h9; rw [HNM.out]; exact h9)
      have HDT : Hid (Gb w1.heap.size wx (.slice ad nd cd) ds) := Lib.hid hcyq.dims
      have hkfi : ¬ (k0 : Int) < (fs.length : Int) := by have := HNF.out; omega
      have g0 : wx.cell? ⟨g, 0, none⟩ = some (.int .i64 p) := HS.out.box.cell (i := 0) (by omega)
      have g1 : wx.cell? ⟨g, 1, none⟩ = some (.slice ad nd cd) := HS.out.box.cell (i := 1) (by omega)
      have g2 : wx.cell? ⟨g, 2, none⟩ = some (.slice am nm cm) := HS.out.box.cell (i := 2) (by omega)
      have hr : wx.heap[w.heap.size + 1]? = some (.cells #[.int .i64 0, .slice none 0 0, .slice none 0 0] 30) := (HN1.out _ HS.out.below).2.1
      have hrow := rowIs3 hr
      have q0 := hrow.cell (i := 0) (by omega)
      have z0 := hrow.frozen 0
      have r1 := hrow.set 0 (.int .i64 p)
      have q1 := r1.cell (i := 1) (by omega)
      have z1 := r1.frozen 1
      have r2 := r1.set 1 (.slice ad nd cd)
      have q2 := r2.cell (i := 2) (by omega)
      have z2 := r2.frozen 2
      have r3 := r2.set 2 (.slice am nm cm)
      obtain ⟨WF, hWF⟩ : ∃ W : World, W = (((wx.setCell ⟨w.heap.size + 1, 0, none⟩ (.int .i64 p)).setCell ⟨w.heap.size + 1, 1, none⟩ (.slice ad nd cd)).setCell ⟨w.heap.size + 1, 2, none⟩ (.slice am nm cm)) := ⟨_, rfl⟩
      have HCF2 : Hid (Gb w.heap.size WF (.slice ad nd cd) ds ∧ Gt w.heap.size WF (.slice am nm cm) (ptF p ds ms fs nm)) := Lib.hid (by rw [hWF]; exact ⟨(((HDT.out.off hrow coT.1 _ _).off r1 coT.1 _ _).off r2 coT.1 _ _).mono (by have := HS1.out; omega), gt_lower (((HMT.out.off hrow coT _ _).off r1 coT _ _).off r2 coT _ _) (by have := HS1.out; omega)⟩)
      have HBF : Hid (Below w.heap.size w WF) := Lib.hid (by rw [hWF]; exact ((((HN1.out _ HS.out.below).1.below.setCell (by show w.heap.size ≤ w.heap.size + 1; omega) _).setCell (by show w.heap.size ≤ w.heap.size + 1; omega) _).setCell (by show w.heap.size ≤ w.heap.size + 1; omega) _))
      rw [← hWF] at r3
      have f0 : WF.cell? ⟨w.heap.size + 1, 0, none⟩ = some (.int .i64 p) := r3.cell (i := 0) (by omega)
      have f1 : WF.cell? ⟨w.heap.size + 1, 1, none⟩ = some (.slice ad nd cd) := r3.cell (i := 1) (by omega)
      have f2 : WF.cell? ⟨w.heap.size + 1, 2, none⟩ = some (.slice am nm cm) := r3.cell (i := 2) (by omega)
      have HWF := Lib.hid hWF
      clear hr hrow r1 r2 r3 hWF hcyq hke
      go_wp2
      rw [← HWF.out]
      refine bodyPost_ret (v := .agg #[.int .i64 p, .slice ad nd cd, .slice am nm cm]) ?_ rfl ?_
      · simp only [results, HRES.out]
        go_simp
      · exact ⟨ad, cd, am, cm, by rw [HND.out, HNM.out], by rw [← HND.out]; exact HCF2.out.1, by have h9 := HCF2.out.2; rw [HNM.out] at h9; exact h9, HBF.out⟩
end Go.Proofs.Ytchijefibiaphaa


namespace Go.Proofs.Ytchijefibiaphaa
open Go.RowKit

theorem row_putC {W : World} {g : Nat} {f : Nat → Value} (h : W.rowIs g 30 3 f) (a b d : Value) : (((W.setCell ⟨g, 0, none⟩ a).setCell ⟨g, 1, none⟩ b).setCell ⟨g, 2, none⟩ d).rowIs g 30 3 (sel3 a b d) := by
  refine (((h.set 0 a).set 1 b).set 2 d).congr fun i hi => ?_
  match i, hi with
  | 0, _ => rfl
  | 1, _ => rfl
  | 2, _ => rfl
theorem bbC_yes {p : Int} {ds : List Int} {ts : List (List (List Int))} (h : PreOk p ds ts) {b : Bool} (hb : b = true ↔ IsCx p ds ts) : b = true ↔ SqOk p ds ts := ⟨fun e => (hb.1 e).2, fun e => hb.2 ⟨h, e⟩⟩

set_option maxHeartbeats 3200000 in
set_option maxRecDepth 100000 in
theorem spPerturbedComplex_any (p : Int) (dv mv fv : Value) (ds : List Int) (ms fs : List (List (List Int))) (w : World) (h : Cx 0 w dv mv ds ms) (hf : L3 0 w fv fs) (hd : ds.length ≤ 1048576) (hm : Bd3 1048576 ms) (hmf : Bd3 1048576 fs) :
    Calls Try.prog 22 #[.agg #[.int .i64 p, dv, mv], fv] w (AnsS RsC (fun o => o = (p, ds, ptF p ds ms fs ms.length)) (0, [], []) (pbCode p ds ms fs) w) := by
  have hres : Try.f22.results = #[.cell 4 30, .tmp 5] := by kernel_rfl
  have HRES := Lib.hid hres
  obtain ⟨ad, cap, rfl⟩ := Sl.shape h.dims
  obtain ⟨am, capm, rfl⟩ := Sl.shape h.maps
  obtain ⟨af, cf, rfl⟩ := Sl.shape hf
  obtain ⟨wa, hwa⟩ : ∃ wa : World, wa = w.alloc (.cells #[.int .i64 p, .slice ad ds.length cap, .slice am ms.length capm] 30) := ⟨_, rfl⟩
  obtain ⟨w1, hw1⟩ : ∃ w1 : World, w1 = wa.alloc (.cells #[.int .i64 0, .slice none 0 0, .slice none 0 0] 30) := ⟨_, rfl⟩
  have hsa : wa.heap.size = w.heap.size + 1 := by rw [hwa]; simp
  have hs1 : w.heap.size + 2 = w1.heap.size := by rw [hw1]; simp [hsa]
  have HX1 : Hid (Bx w w1 w.heap.size p (.slice ad ds.length cap) (.slice am ms.length capm) ds ms) := Lib.hid (by rw [hw1]; exact (show Bx w wa w.heap.size p (.slice ad ds.length cap) (.slice am ms.length capm) ds ms by rw [hwa]; exact Bx.start _ h).next (below_alloc1 _ _))
  have HR1 : Hid (Rz w1 (w.heap.size + 1) 30 #[.int .i64 0, .slice none 0 0, .slice none 0 0]) := Lib.hid (by rw [hw1, ← hsa]; exact Rz.new _ _ _)
  have HF1 := Lib.hid (hf.below HX1.out.below)
  have HCK := Lib.hid (l08Maps_any p _ _ _ ds ms fs w1 HX1.out.cx HF1.out hd hm hmf)
  obtain ⟨ec, hec⟩ : ∃ ec, ec = mpCode p ds ms fs := ⟨_, rfl⟩
  rw [← hec] at HCK
  have HEC := Lib.hid hec
  have c0 := HX1.out.c0
  have c1 := HX1.out.c1
  have c2 := HX1.out.c2
  clear h hf hm hmf hec hres hs1
  go_enter Try.func22, Try.ntmps22
  go_upto_region 1 with fail
  rw [← hwa, ← hw1]
  clear hwa hw1 hsa
  go_wp2_with fail
  refine HCK.out.mono ?_
  rintro e w2 ⟨rfl, hb2⟩
  have HX2 := Lib.hid (HX1.out.next hb2)
  have HF2 := Lib.hid (HF1.out.below hb2)
  have HR2 := Lib.hid (HR1.out.next hb2)
  clear hb2 c0 c1 c2 HCK HX1 HF1 HR1
  by_cases h0 : ec = 0
  · subst h0
    obtain ⟨hcx, hsz⟩ := mpCode_zero HEC.out.symm
    have HCX := Lib.hid hcx
    have HPF := Lib.hid (pre_sizes hcx.1.prime hsz)
    have HPC := Lib.hid (l08Perturbed_any p _ _ _ ds ms fs w2 HX2.out.cx HF2.out HCX.out.1 HPF.out)
    have c0 := HX2.out.c0
    have c1 := HX2.out.c1
    have c2 := HX2.out.c2
    clear hcx hsz
    go_wp2_with fail
    refine HPC.out.mono ?_
    rintro e w3 ⟨ad3, cd3, am3, cm3, rfl, hgd, hgt, hb3⟩
    obtain ⟨w4, hw4⟩ : ∃ w4 : World, w4 = w3.alloc (.cells #[.int .i64 p, .slice ad3 ds.length cd3, .slice am3 ms.length cm3] 30) := ⟨_, rfl⟩
    have hb4 : Below w3.heap.size w3 w4 := by rw [hw4]; exact below_alloc1 _ _
    have HX4 := Lib.hid ((HX2.out.next hb3).next hb4)
    have HR4 := Lib.hid ((HR2.out.next hb3).next hb4)
    obtain ⟨ts, hts⟩ : ∃ ts, ts = ptF p ds ms fs ms.length := ⟨_, rfl⟩
    rw [← hts] at hgt
    have HTS := Lib.hid hts
    have HTP : Hid (PreOk p ds ts) := Lib.hid (by rw [hts]; exact ptF_pre HCX.out.1)
    have HTL : Hid (ts.length = ms.length) := Lib.hid (by rw [hts, ptF_length])
    have HC4 : Hid (Gb w2.heap.size w4 (.slice ad3 ds.length cd3) ds ∧ Gt w2.heap.size w4 (.slice am3 ms.length cm3) ts) := Lib.hid ⟨hgd.below hb4, hgt.below hb4⟩
    have HIS := Lib.hid (l01Is_any p (.slice ad3 ds.length cd3) (.slice am3 ms.length cm3) ds ts w4 ⟨HC4.out.1.l1, HC4.out.2.l3⟩ hd (preOk_bd HTP.out))
    have HCY : Hid (SqOk p ds ts → pbCode p ds ms fs = 0) := Lib.hid (fun hq => by unfold pbCode; rw [if_pos HEC.out.symm, ← hts, if_pos hq])
    have HCN : Hid (¬ SqOk p ds ts → pbCode p ds ms fs = 5) := Lib.hid (fun hq => by unfold pbCode; rw [if_pos HEC.out.symm, ← hts, if_neg hq])
    have g0 : w4.cell? ⟨w3.heap.size, 0, none⟩ = some (.int .i64 p) := by rw [hw4]; simp
    have g1 : w4.cell? ⟨w3.heap.size, 1, none⟩ = some (.slice ad3 ds.length cd3) := by rw [hw4]; simp
    have g2 : w4.cell? ⟨w3.heap.size, 2, none⟩ = some (.slice am3 ms.length cm3) := by rw [hw4]; simp
    clear hgd hgt hb3 hb4 c0 c1 c2 HPC hts HX2 HR2 HF2
    go_upto_region 5 with fail
    rw [← hw4]
    clear hw4
    go_wp2_with fail
    refine HIS.out.mono ?_
    rintro e w5 ⟨b, rfl, hb5, hbb⟩
    have HX5 := Lib.hid (HX4.out.next hb5)
    have HR5 := Lib.hid (HR4.out.next hb5)
    have HC5 : Hid (Gb w2.heap.size w5 (.slice ad3 ds.length cd3) ds ∧ Gt w2.heap.size w5 (.slice am3 ms.length cm3) ts) := Lib.hid ⟨HC4.out.1.below hb5, HC4.out.2.below hb5⟩
    have HBB := Lib.hid (bbC_yes HTP.out hbb)
    have k0 := later hb5 (Nat.le_refl _) g0
    have k1 := later hb5 (Nat.le_refl _) g1
    have k2 := later hb5 (Nat.le_refl _) g2
    clear hb5 hbb HIS g0 g1 g2 HX4 HR4 HC4
    have hr : w5.heap[w.heap.size + 1]? = some (.cells #[.int .i64 0, .slice none 0 0, .slice none 0 0] 30) := HR5.out
    cases b with
    | false =>
      have HC : Hid (pbCode p ds ms fs = 5) := Lib.hid (HCN.out (fun hq => absurd (HBB.out.2 hq) (by simp)))
      clear k0 k1 k2
      have rr := rowIs3 hr
      clear hr
      have sq0 := rr.cell (i := 0) (by omega)
      have sz0 := rr.frozen 0
      have sr1 := rr.set 0 (.int .i64 0)
      have sq1 := sr1.cell (i := 1) (by omega)
      have sz1 := sr1.frozen 1
      have sr2 := sr1.set 1 (.slice none 0 0)
      have sq2 := sr2.cell (i := 2) (by omega)
      have sz2 := sr2.frozen 2
      obtain ⟨WF, hWF⟩ : ∃ WF : World, WF = (((w5.setCell ⟨w.heap.size + 1, 0, none⟩ (.int .i64 0)).setCell ⟨w.heap.size + 1, 1, none⟩ (.slice none 0 0)).setCell ⟨w.heap.size + 1, 2, none⟩ (.slice none 0 0)) := ⟨_, rfl⟩
      have r3 := row_putC rr (.int .i64 0) (.slice none 0 0) (.slice none 0 0)
      rw [← hWF] at r3
      have f0 : WF.cell? ⟨w.heap.size + 1, 0, none⟩ = some (.int .i64 0) := r3.cell (i := 0) (by omega)
      have f1 : WF.cell? ⟨w.heap.size + 1, 1, none⟩ = some (.slice none 0 0) := r3.cell (i := 1) (by omega)
      have f2 : WF.cell? ⟨w.heap.size + 1, 2, none⟩ = some (.slice none 0 0) := r3.cell (i := 2) (by omega)
      have HBF : Hid (Below w.heap.size w WF) := Lib.hid (by rw [hWF]; exact ((HX5.out.below.setCell (by show w.heap.size ≤ w.heap.size + 1; omega) _).setCell (by show w.heap.size ≤ w.heap.size + 1; omega) _).setCell (by show w.heap.size ≤ w.heap.size + 1; omega) _)
      have HWF := Lib.hid hWF
      clear r3 hWF sr1 sr2 rr
      go_wp2
      rw [← HWF.out]
      refine bodyPost_ret (v := .tuple #[.agg #[.int .i64 0, .slice none 0 0, .slice none 0 0], .int .i64 5]) ?_ rfl ?_
      · simp only [results, HRES.out]
        go_simp
      · exact ⟨_, (0, [], []), 5, rfl, RsC.nil _, HBF.out, by rw [HC.out]; exact RsOut.of_no (by decide)⟩
    | true =>
      have HC : Hid (pbCode p ds ms fs = 0) := Lib.hid (HCY.out (HBB.out.1 rfl))
      have rr := rowIs3 hr
      clear hr
      have sq0 := rr.cell (i := 0) (by omega)
      have sz0 := rr.frozen 0
      have sr1 := rr.set 0 (.int .i64 p)
      have sq1 := sr1.cell (i := 1) (by omega)
      have sz1 := sr1.frozen 1
      have sr2 := sr1.set 1 (.slice ad3 ds.length cd3)
      have sq2 := sr2.cell (i := 2) (by omega)
      have sz2 := sr2.frozen 2
      obtain ⟨WF, hWF⟩ : ∃ WF : World, WF = (((w5.setCell ⟨w.heap.size + 1, 0, none⟩ (.int .i64 p)).setCell ⟨w.heap.size + 1, 1, none⟩ (.slice ad3 ds.length cd3)).setCell ⟨w.heap.size + 1, 2, none⟩ (.slice am3 ms.length cm3)) := ⟨_, rfl⟩
      have HCF : Hid (Cx 0 WF (.slice ad3 ds.length cd3) (.slice am3 ms.length cm3) ds ts) := Lib.hid (by rw [hWF]; exact ⟨(((HC5.out.1.off rr coT.1 _ _).off sr1 coT.1 _ _).off sr2 coT.1 _ _).l1, (((HC5.out.2.off rr coT _ _).off sr1 coT _ _).off sr2 coT _ _).l3⟩)
      have r3 := row_putC rr (.int .i64 p) (.slice ad3 ds.length cd3) (.slice am3 ms.length cm3)
      rw [← hWF] at r3
      have f0 : WF.cell? ⟨w.heap.size + 1, 0, none⟩ = some (.int .i64 p) := r3.cell (i := 0) (by omega)
      have f1 : WF.cell? ⟨w.heap.size + 1, 1, none⟩ = some (.slice ad3 ds.length cd3) := r3.cell (i := 1) (by omega)
      have f2 : WF.cell? ⟨w.heap.size + 1, 2, none⟩ = some (.slice am3 ms.length cm3) := r3.cell (i := 2) (by omega)
      have HBF : Hid (Below w.heap.size w WF) := Lib.hid (by rw [hWF]; exact ((HX5.out.below.setCell (by show w.heap.size ≤ w.heap.size + 1; omega) _).setCell (by show w.heap.size ≤ w.heap.size + 1; omega) _).setCell (by show w.heap.size ≤ w.heap.size + 1; omega) _)
      have HWF := Lib.hid hWF
      clear r3 hWF sr1 sr2 rr
      go_wp2
      rw [← HWF.out]
      refine bodyPost_ret (v := .tuple #[.agg #[.int .i64 p, .slice ad3 ds.length cd3, .slice am3 ms.length cm3], .int .i64 0]) ?_ rfl ?_
      · simp only [results, HRES.out]
        go_simp
      · exact ⟨_, (p, ds, ts), 0, rfl, ⟨ad3, cd3, am3, cm3, by rw [← HTL.out], by show Cx 0 WF (.slice ad3 ds.length cd3) (.slice am3 ts.length cm3) ds ts; rw [HTL.out]; exact HCF.out⟩, HBF.out, RsOut.of_yes HC.out (by rw [HTS.out])⟩
  · have hne2 : (ec != 0) = true := by simp [h0]
    have hne3 : (ec == 0) = false := by simp [h0]
    have HNE := Lib.hid h0
    have HCB : Hid (pbCode p ds ms fs = ec) := Lib.hid (by unfold pbCode; rw [← HEC.out, if_neg h0])
    clear h0
    have hr : w2.heap[w.heap.size + 1]? = some (.cells #[.int .i64 0, .slice none 0 0, .slice none 0 0] 30) := HR2.out
    have rr := rowIs3 hr
    clear hr
    have sq0 := rr.cell (i := 0) (by omega)
    have sz0 := rr.frozen 0
    have sr1 := rr.set 0 (.int .i64 0)
    have sq1 := sr1.cell (i := 1) (by omega)
    have sz1 := sr1.frozen 1
    have sr2 := sr1.set 1 (.slice none 0 0)
    have sq2 := sr2.cell (i := 2) (by omega)
    have sz2 := sr2.frozen 2
    obtain ⟨WF, hWF⟩ : ∃ WF : World, WF = (((w2.setCell ⟨w.heap.size + 1, 0, none⟩ (.int .i64 0)).setCell ⟨w.heap.size + 1, 1, none⟩ (.slice none 0 0)).setCell ⟨w.heap.size + 1, 2, none⟩ (.slice none 0 0)) := ⟨_, rfl⟩
    have r3 := row_putC rr (.int .i64 0) (.slice none 0 0) (.slice none 0 0)
    rw [← hWF] at r3
    have f0 : WF.cell? ⟨w.heap.size + 1, 0, none⟩ = some (.int .i64 0) := r3.cell (i := 0) (by omega)
    have f1 : WF.cell? ⟨w.heap.size + 1, 1, none⟩ = some (.slice none 0 0) := r3.cell (i := 1) (by omega)
    have f2 : WF.cell? ⟨w.heap.size + 1, 2, none⟩ = some (.slice none 0 0) := r3.cell (i := 2) (by omega)
    have HBF : Hid (Below w.heap.size w WF) := Lib.hid (by rw [hWF]; exact ((HX2.out.below.setCell (by show w.heap.size ≤ w.heap.size + 1; omega) _).setCell (by show w.heap.size ≤ w.heap.size + 1; omega) _).setCell (by show w.heap.size ≤ w.heap.size + 1; omega) _)
    have HWF := Lib.hid hWF
    clear r3 hWF sr1 sr2 rr
    go_wp2
    rw [← HWF.out]
    refine bodyPost_ret (v := .tuple #[.agg #[.int .i64 0, .slice none 0 0, .slice none 0 0], .int .i64 ec]) ?_ rfl ?_
    · simp only [results, HRES.out]
      go_simp
    · exact ⟨_, (0, [], []), ec, rfl, RsC.nil _, HBF.out, by rw [HCB.out]; exact RsOut.of_no HNE.out⟩
end Go.Proofs.Ytchijefibiaphaa


namespace Go.Proofs.Ytchijefibiaphaa
open Go.RowKit
theorem pb_zero {p : Int} {ds : List Int} {ms fs : List (List (List Int))} (h : pbCode p ds ms fs = 0) : IsCx p ds ms := by
  unfold pbCode at h
  by_cases h1 : mpCode p ds ms fs = 0
  · exact (mpCode_zero h1).1
  · rw [if_neg h1] at h
    exact absurd h h1
theorem pb_bd {p : Int} {ds : List Int} {ms fs : List (List (List Int))} (h : pbCode p ds ms fs = 0) : CoB (p, ds, ptF p ds ms fs ms.length) := by
  have hp := (pb_zero h).1
  exact ⟨by show ds.length ≤ _; have := hp.len1; omega, preOk_bd (ptF_pre hp)⟩
end Go.Proofs.Ytchijefibiaphaa


namespace Go.Proofs.Ytchijefibiaphaa
open Go.RowKit

set_option maxHeartbeats 6400000 in
set_option maxRecDepth 100000 in
theorem lawPbl_any (p0 : Int) (dv0 mv0 : Value) (ds0 : List Int) (ms0 : List (List (List Int))) (fv1 : Value) (fs1 : List (List (List Int))) (w : World) (h0 : Cx 0 w dv0 mv0 ds0 ms0) (hdl0 : ds0.length ≤ 9223372036854775807) (hml0 : Bd3 9223372036854775807 ms0) (h1 : L3 0 w fv1 fs1) (hml1 : Bd3 9223372036854775807 fs1) :
    Calls Try.prog 4 #[.agg #[.int .i64 p0, dv0, mv0], fv1] w (BR (.bool true) w) := by
  obtain ⟨W0, hW0⟩ : ∃ W0, W0 = (w.alloc (.cells #[.int .i64 p0, dv0, mv0] 25)) := ⟨_, rfl⟩
  have HS0 : Hid (W0.heap.size = w.heap.size + 1) := Lib.hid (by rw [hW0]; simp)
  have HZ0 : Hid (Below w.heap.size w W0) := Lib.hid (by rw [hW0]; exact below_alloc1 _ _)
  have HK0 : Hid (Bx w W0 w.heap.size p0 dv0 mv0 ds0 ms0) := Lib.hid (by rw [hW0]; exact Bx.start _ h0)
  have HN0 : Hid (∀ W, Below (w.heap.size + 1) W0 W → Bx w W w.heap.size p0 dv0 mv0 ds0 ms0) := Lib.hid (fun W hb => HK0.out.next (by rw [HS0.out]; exact hb))
  have HNW : Hid (∀ W, Below (w.heap.size + 1) W0 W → Below w.heap.size w W) := Lib.hid (fun W hb => HZ0.out.trans (hb.mono (by omega)))
  have HB : Hid (Below (w.heap.size + 1) W0 W0) := Lib.hid (Below.refl _ _)
  have hs0 : w.heap.size + 1 ≤ W0.heap.size := by have := HS0.out; omega
  have HN1 : Hid (∀ W, Below (w.heap.size + 1) W0 W → L3 0 W fv1 fs1) := Lib.hid (fun W hb => (h1.below HZ0.out).below (by rw [HS0.out]; exact hb))
  have HML0 := Lib.hid hml0
  have HML1 := Lib.hid hml1
  obtain ⟨af1, cf1, ef1⟩ := Sl.shape h1
  subst ef1
  clear h0 hml0 HK0 h1 hml1
  go_enter Try.func4, Try.ntmps4
  go_upto_region 1 with fail
  rw [← hW0]
  clear hW0
  have c00 := (HN0.out _ HB.out).c0
  have c01 := (HN0.out _ HB.out).c1
  have c02 := (HN0.out _ HB.out).c2
  go_wp2_with fail
  refine (szComplex_any p0 dv0 mv0 ds0 ms0 1048576 _ (HN0.out _ HB.out).cx.dims (HN0.out _ HB.out).cx.maps (by omega) (by omega) hdl0 HML0.out).mono ?_
  rintro e wz0 ⟨sz0, rfl, hb, hpost⟩
  have hsz0 : W0.heap.size ≤ wz0.heap.size := hb.size
  have HB' := Lib.hid (HB.out.trans (hb.mono (by omega)))
  clear c00 c01 c02
  clear hb HB
  have HB := HB'
  clear HB'
  rcases hpost with rfl | ⟨hp00, hp01, hds0, hpm0⟩
  · go_wp2
    go_ret
    exact ⟨rfl, HNW.out _ HB.out⟩
  have hds0 : ds0.length ≤ 1048576 := hds0
  have HMS0 := Lib.hid hpm0
  clear hpm0
  go_wp2_with fail
  refine (sz3_any _ fs1 sz0 _ (HN1.out _ HB.out) (by omega) (by omega) HML1.out).mono ?_
  rintro e w' ⟨sz1, rfl, rfl, hpost⟩
  rcases hpost with rfl | ⟨hp10, hp11, hpm1⟩
  · go_wp2
    go_ret
    exact ⟨rfl, HNW.out _ HB.out⟩
  have HMS1 := Lib.hid hpm1
  clear hpm1
  have c00 := (HN0.out _ HB.out).c0
  have c01 := (HN0.out _ HB.out).c1
  have c02 := (HN0.out _ HB.out).c2
  have HQd : Hid (Below wz0.heap.size wz0 wz0) := Lib.hid (Below.refl _ _)
  go_wp2_with fail
  refine (toComplex_any p0 dv0 mv0 ds0 ms0 _ (HN0.out _ HB.out).cx hds0 HMS0.out).mono ?_
  rintro e wS0 ⟨xdv0S, xmv0S, rfl, hc, hb⟩
  have hsS0 : wz0.heap.size ≤ wS0.heap.size := hb.size
  have HBS0 := Lib.hid (HB.out.trans (hb.mono (by omega)))
  have HQ0 := Lib.hid (HQd.out.trans (hb.mono (by omega)))
  have HXS0 := Lib.hid hc.zero
  clear hb hc
  clear c00 c01 c02
  go_wp2_with fail
  refine (to3_any _ fs1 _ (HN1.out _ HBS0.out) HMS1.out).mono ?_
  rintro e wS1 ⟨xfS, rfl, hc, hb⟩
  have hsS1 : wS0.heap.size ≤ wS1.heap.size := hb.size
  have HQ1 := Lib.hid (HQ0.out.trans (hb.mono (by omega)))
  have HXS1 := Lib.hid (HXS0.out.below hb)
  have HXFS := Lib.hid (hc.lower (Nat.zero_le _))
  clear hb hc
  go_wp2_with fail
  refine (spPerturbedComplex_any p0 xdv0S xmv0S xfS ds0 ms0 fs1 _ (HXS1.out) (HXFS.out) hds0 HMS0.out HMS1.out).mono ?_
  rintro e wSr ⟨uS, oS, kS, rfl, hrS, hb, hoS⟩
  have hsSr : wS1.heap.size ≤ wSr.heap.size := hb.size
  have HQr := Lib.hid (HQ1.out.trans (hb.mono (by omega)))
  have HRS := Lib.hid hrS
  have HOS := Lib.hid hoS
  clear hb hrS hoS
  have hb := HQr.out
  clear HQd HQr HQ0 HQ1 HXS0 HXS1 HXFS HBS0
  have HB' := Lib.hid (HB.out.trans (hb.mono (by omega)))
  clear hb HB
  have HB := HB'
  clear HB'
  obtain ⟨pS, dsS, msS⟩ := oS
  obtain ⟨aSd, cSd, aSm, cSm, huS, hcS⟩ := HRS.out
  have huS : uS = .agg #[.int .i64 pS, .slice aSd dsS.length cSd, .slice aSm msS.length cSm] := huS
  subst huS
  have HXS : Hid (Cx 0 wSr (.slice aSd dsS.length cSd) (.slice aSm msS.length cSm) dsS msS) := Lib.hid hcS
  clear hcS HRS
  have HBD : Hid (CoB (pS, dsS, msS)) := Lib.hid (HOS.out.all (Q := CoB) ⟨by simp, by simp, by simp⟩ (fun h0 a ha => by rw [show a = _ from ha]; exact pb_bd h0))
  have hbd1 : dsS.length ≤ 1048576 := HBD.out.1
  obtain ⟨wbS, hwb⟩ : ∃ wbS, wbS = wSr.alloc (.cells #[.int .i64 pS, .slice aSd dsS.length cSd, .slice aSm msS.length cSm] 30) := ⟨_, rfl⟩
  have hb : Below wSr.heap.size wSr wbS := by rw [hwb]; exact below_alloc1 _ _
  have hsbS : wSr.heap.size + 1 = wbS.heap.size := by rw [hwb]; simp
  have hsBS : wSr.heap.size ≤ wbS.heap.size := by omega
  have HYS : Hid (Bq wbS wSr.heap.size pS (.slice aSd dsS.length cSd) (.slice aSm msS.length cSm) dsS msS) := Lib.hid (by rw [hwb]; exact (Bx.start _ HXS.out).bq)
  have HB' := Lib.hid (HB.out.trans (hb.mono (by omega)))
  clear hb HB
  have HB := HB'
  clear HB'
  go_upto_region 9 with fail
  rw [← hwb]
  clear hwb
  clear HXS
  have HK : Hid (Below wbS.heap.size wbS wbS) := Lib.hid (Below.refl _ _)
  have c00 := (HN0.out _ HB.out).c0
  have c01 := (HN0.out _ HB.out).c1
  have c02 := (HN0.out _ HB.out).c2
  go_wp2_with fail
  refine (toComplexw_any p0 dv0 mv0 ds0 ms0 _ (HN0.out _ HB.out).cx hds0 HMS0.out).mono ?_
  rintro e wc0 ⟨ydv0, ymv0, rfl, hc, hb⟩
  have hsc0 : wbS.heap.size ≤ wc0.heap.size := hb.size
  clear c00 c01 c02
  have HB' := Lib.hid (HB.out.trans (hb.mono (by omega)))
  have HK' := Lib.hid (HK.out.trans (hb.mono (by omega)))
  clear hb HB HK
  have HB := HB'
  have HK := HK'
  clear HB' HK'
  have HC0 := Lib.hid hc
  obtain ⟨⟨ya0, yc0, rfl⟩, ⟨yb0, ye0, rfl⟩⟩ := hc.cx.shapes
  clear hc
  obtain ⟨wb0, hwb⟩ : ∃ wb0, wb0 = wc0.alloc (.cells #[.int .i64 p0, .slice ya0 ds0.length yc0, .slice yb0 ms0.length ye0] 30) := ⟨_, rfl⟩
  have hb : Below wc0.heap.size wc0 wb0 := by rw [hwb]; exact below_alloc1 _ _
  have hsb0 : wc0.heap.size + 1 = wb0.heap.size := by rw [hwb]; simp
  have hsB0 : wc0.heap.size ≤ wb0.heap.size := by omega
  have HY0 : Hid (Bq wb0 wc0.heap.size p0 (.slice ya0 ds0.length yc0) (.slice yb0 ms0.length ye0) ds0 ms0) := Lib.hid (by rw [hwb]; exact (Bx.start _ HC0.out.cx.zero).bq)
  have HB' := Lib.hid (HB.out.trans (hb.mono (by omega)))
  have HK' := Lib.hid (HK.out.trans (hb.mono (by omega)))
  have HC0' := Lib.hid (HC0.out.same (Same.of_below hb (by omega)))
  clear hb HB HK HC0
  have HB := HB'
  have HK := HK'
  have HC0 := HC0'
  clear HB' HK' HC0'
  go_upto_region 10 with fail
  rw [← hwb]
  clear hwb
  go_wp2_with fail
  refine (to3w_any _ fs1 _ (HN1.out _ HB.out) HMS1.out).mono ?_
  rintro e wc1 ⟨yv1, rfl, hc, hb⟩
  have hsc1 : wb0.heap.size ≤ wc1.heap.size := hb.size
  have HB' := Lib.hid (HB.out.trans (hb.mono (by omega)))
  have HK' := Lib.hid (HK.out.trans (hb.mono (by omega)))
  have HC0' := Lib.hid (HC0.out.same (Same.of_below hb (by omega)))
  have HY0' := Lib.hid (HY0.out.next hb)
  clear hb HB HK HC0 HY0
  have HB := HB'
  have HK := HK'
  have HC0 := HC0'
  have HY0 := HY0'
  clear HB' HK' HC0' HY0'
  have HC1 := Lib.hid hc
  obtain ⟨ya1, yc1, rfl⟩ := Sw.shape hc
  clear hc
  go_upto_region 11 with fail
  have d00 := HY0.out.c0
  have d01 := HY0.out.c1
  have d02 := HY0.out.c2
  go_wp2_with fail
  refine (perturbedComplexOf_any p0 _ _ _ ds0 ms0 fs1 _ (HC0.out.cx.zero) (HC1.out.l3.lower (Nat.zero_le _)) hds0 HMS0.out HMS1.out).mono ?_
  rintro e w7 ⟨u7, o7, k7, rfl, hw7, hb, hout7⟩
  obtain ⟨rfl, rfl⟩ := RsOut.unique (fun _ a b ha hb => ha.trans hb.symm) HOS.out hout7
  have hs7 : wc1.heap.size ≤ w7.heap.size := hb.size
  clear d00 d01 d02
  have HB' := Lib.hid (HB.out.trans (hb.mono (by omega)))
  have HK' := Lib.hid (HK.out.trans (hb.mono (by omega)))
  have HC0' := Lib.hid (HC0.out.same (Same.of_below hb (by omega)))
  have HY0' := Lib.hid (HY0.out.next hb)
  have HC1' := Lib.hid (HC1.out.same (Same.of_below hb (by omega)))
  clear hb HB HK HC0 HY0 HC1
  have HB := HB'
  have HK := HK'
  have HC0 := HC0'
  have HY0 := HY0'
  have HC1 := HC1'
  clear HB' HK' HC0' HY0' HC1'
  obtain ⟨aGd, cGd, aGm, cGm, hu7, hG⟩ := hw7
  have hu7 : u7 = .agg #[.int .i64 pS, .slice aGd dsS.length cGd, .slice aGm msS.length cGm] := hu7
  subst hu7
  have HG : Hid (RcW wc1.heap.size w7.heap.size w7 (.slice aGd dsS.length cGd) (.slice aGm msS.length cGm) dsS msS) := Lib.hid hG
  clear hG hout7
  obtain ⟨wbG, hwb⟩ : ∃ wbG, wbG = w7.alloc (.cells #[.int .i64 pS, .slice aGd dsS.length cGd, .slice aGm msS.length cGm] 30) := ⟨_, rfl⟩
  have hb : Below w7.heap.size w7 wbG := by rw [hwb]; exact below_alloc1 _ _
  have hsbG : w7.heap.size + 1 = wbG.heap.size := by rw [hwb]; simp
  have hsBG : w7.heap.size ≤ wbG.heap.size := by omega
  have HCG0 : Hid (Bc wbG w7.heap.size pS (.slice aGd dsS.length cGd) (.slice aGm msS.length cGm)) := Lib.hid (by rw [hwb]; exact Bc.start _ _ _ _ _)
  have HB' := Lib.hid (HB.out.trans (hb.mono (by omega)))
  have HK' := Lib.hid (HK.out.trans (hb.mono (by omega)))
  have HC0' := Lib.hid (HC0.out.same (Same.of_below hb (by omega)))
  have HY0' := Lib.hid (HY0.out.next hb)
  have HC1' := Lib.hid (HC1.out.same (Same.of_below hb (by omega)))
  have HG' := Lib.hid (HG.out.same (Same.of_below hb (by omega)))
  clear hb HB HK HC0 HY0 HC1 HG
  have HB := HB'
  have HK := HK'
  have HC0 := HC0'
  have HY0 := HY0'
  have HC1 := HC1'
  have HG := HG'
  clear HB' HK' HC0' HY0' HC1' HG'
  have HCG := HCG0
  clear HCG0
  go_upto_region 12 with fail
  rw [← hwb]
  clear hwb
  have hcode : (kS != kS) = false := by simp
  have s0 := (HYS.out.next HK.out).c0
  have s1 := (HYS.out.next HK.out).c1
  have s2 := (HYS.out.next HK.out).c2
  have g0 := HCG.out.c0
  have g1 := HCG.out.c1
  have g2 := HCG.out.c2
  go_wp2_with fail
  refine (eqComplex_true pS _ _ _ _ dsS msS _ HG.out.cx (HYS.out.next HK.out).cx hbd1 HBD.out.2).mono ?_
  rintro e we1 ⟨rfl, hb⟩
  have hse1 : wbG.heap.size ≤ we1.heap.size := hb.size
  clear s0 s1 s2 g0 g1 g2
  have HB' := Lib.hid (HB.out.trans (hb.mono (by omega)))
  have HK' := Lib.hid (HK.out.trans (hb.mono (by omega)))
  have HC0' := Lib.hid (HC0.out.same (Same.of_below hb (by omega)))
  have HY0' := Lib.hid (HY0.out.next hb)
  have HC1' := Lib.hid (HC1.out.same (Same.of_below hb (by omega)))
  have HG' := Lib.hid (HG.out.same (Same.of_below hb (by omega)))
  have HCG' := Lib.hid (HCG.out.next hb)
  clear hb HB HK HC0 HY0 HC1 HG HCG
  have HB := HB'
  have HK := HK'
  have HC0 := HC0'
  have HY0 := HY0'
  have HC1 := HC1'
  have HG := HG'
  have HCG := HCG'
  clear HB' HK' HC0' HY0' HC1' HG' HCG'
  have c00 := (HN0.out _ HB.out).c0
  have c01 := (HN0.out _ HB.out).c1
  have c02 := (HN0.out _ HB.out).c2
  have d00 := HY0.out.c0
  have d01 := HY0.out.c1
  have d02 := HY0.out.c2
  have HCX := Lib.hid ((HN0.out _ HB.out).cx.below (Below.refl _ _).drew)
  have HCC := Lib.hid (HY0.out.cx.below (Below.refl _ _).drew)
  go_wp2_with fail
  go_region_held3 (fun w' => w'.cell? ⟨w.heap.size, 0, none⟩ = some (.int .i64 p0) ∧ w'.cell? ⟨w.heap.size, 1, none⟩ = some (dv0) ∧ w'.cell? ⟨w.heap.size, 2, none⟩ = some (mv0) ∧ w'.cell? ⟨wc0.heap.size, 0, none⟩ = some (.int .i64 p0) ∧ w'.cell? ⟨wc0.heap.size, 1, none⟩ = some (.slice ya0 ds0.length yc0) ∧ w'.cell? ⟨wc0.heap.size, 2, none⟩ = some (.slice yb0 ms0.length ye0))
    (first | exact ⟨c00, c01, c02, d00, d01, d02⟩ | exact HS9.out | exact HSA.out | go_keep)
    (first
      | (go_at_call 17; refine (toComplex_any p0 dv0 mv0 ds0 ms0 _ HCX.out hds0 HMS0.out).mono ?_; rintro e w9 ⟨dv09, mv09, rfl, hcx9, hb9⟩; have HS9 := Lib.hid (And.intro (later hb9 (Nat.le_refl _) c00) (And.intro (later hb9 (Nat.le_refl _) c01) (And.intro (later hb9 (Nat.le_refl _) c02) (And.intro (later hb9 (Nat.le_refl _) d00) (And.intro (later hb9 (Nat.le_refl _) d01) (later hb9 (Nat.le_refl _) d02)))))); have HX9 := Lib.hid (And.intro hcx9 (And.intro (HCC.out.below hb9) (Below.trans ((Below.refl we1.heap.size we1).drew) hb9))); clear hcx9 hb9)
      | (go_at_call 20; refine (eqComplex_true p0 _ _ dv09 mv09 ds0 ms0 _ HX9.out.2.1 HX9.out.1.zero hds0 HMS0.out).mono ?_; rintro e wA0 ⟨rfl, hbA⟩; have HSA := Lib.hid (And.intro (later hbA (Nat.le_refl _) HS9.out.1) (And.intro (later hbA (Nat.le_refl _) HS9.out.2.1) (And.intro (later hbA (Nat.le_refl _) HS9.out.2.2.1) (And.intro (later hbA (Nat.le_refl _) HS9.out.2.2.2.1) (And.intro (later hbA (Nat.le_refl _) HS9.out.2.2.2.2.1) (later hbA (Nat.le_refl _) HS9.out.2.2.2.2.2)))))); have HXA := Lib.hid (Below.trans HX9.out.2.2 (hbA.mono HX9.out.2.2.size)); clear hbA))
  have hsa0 : we1.heap.size ≤ wA0.heap.size := HXA.out.size
  have hb := HXA.out
  clear c00 c01 c02
  clear d00 d01 d02
  clear HXA HSA HS9 HX9 HCX HCC
  have HB' := Lib.hid (HB.out.trans (hb.mono (by omega)))
  have HK' := Lib.hid (HK.out.trans (hb.mono (by omega)))
  have HC0' := Lib.hid (HC0.out.same (Same.of_below hb (by omega)))
  have HY0' := Lib.hid (HY0.out.next hb)
  have HC1' := Lib.hid (HC1.out.same (Same.of_below hb (by omega)))
  have HG' := Lib.hid (HG.out.same (Same.of_below hb (by omega)))
  have HCG' := Lib.hid (HCG.out.next hb)
  clear hb HB HK HC0 HY0 HC1 HG HCG
  have HB := HB'
  have HK := HK'
  have HC0 := HC0'
  have HY0 := HY0'
  have HC1 := HC1'
  have HG := HG'
  have HCG := HCG'
  clear HB' HK' HC0' HY0' HC1' HG' HCG'
  go_wp2_with fail
  refine (to3_any _ fs1 _ (HN1.out _ HB.out) HMS1.out).mono ?_
  rintro e wL9 ⟨vL9, rfl, hc, hb⟩
  have hsL9 : wA0.heap.size ≤ wL9.heap.size := hb.size
  have HB' := Lib.hid (HB.out.trans (hb.mono (by omega)))
  have HK' := Lib.hid (HK.out.trans (hb.mono (by omega)))
  have HC0' := Lib.hid (HC0.out.same (Same.of_below hb (by omega)))
  have HY0' := Lib.hid (HY0.out.next hb)
  have HC1' := Lib.hid (HC1.out.same (Same.of_below hb (by omega)))
  have HG' := Lib.hid (HG.out.same (Same.of_below hb (by omega)))
  have HCG' := Lib.hid (HCG.out.next hb)
  clear hb HB HK HC0 HY0 HC1 HG HCG
  have HB := HB'
  have HK := HK'
  have HC0 := HC0'
  have HY0 := HY0'
  have HC1 := HC1'
  have HG := HG'
  have HCG := HCG'
  clear HB' HK' HC0' HY0' HC1' HG' HCG'
  have HV9 := Lib.hid (hc.lower (Nat.zero_le _))
  clear hc
  obtain ⟨aL9, cL9, eL9⟩ := Sl.shape HV9.out
  subst eL9
  go_wp2_with fail
  refine (eq3_true _ _ fs1 _ (HC1.out.l3.lower (Nat.zero_le _)) HV9.out HMS1.out).mono ?_
  rintro e wLA ⟨rfl, hb⟩
  have hsLA : wL9.heap.size ≤ wLA.heap.size := hb.size
  clear HV9
  have HB' := Lib.hid (HB.out.trans (hb.mono (by omega)))
  have HK' := Lib.hid (HK.out.trans (hb.mono (by omega)))
  have HC0' := Lib.hid (HC0.out.same (Same.of_below hb (by omega)))
  have HY0' := Lib.hid (HY0.out.next hb)
  have HC1' := Lib.hid (HC1.out.same (Same.of_below hb (by omega)))
  have HG' := Lib.hid (HG.out.same (Same.of_below hb (by omega)))
  have HCG' := Lib.hid (HCG.out.next hb)
  clear hb HB HK HC0 HY0 HC1 HG HCG
  have HB := HB'
  have HK := HK'
  have HC0 := HC0'
  have HY0 := HY0'
  have HC1 := HC1'
  have HG := HG'
  have HCG := HCG'
  clear HB' HK' HC0' HY0' HC1' HG' HCG'
  have d00 := HY0.out.c0
  have d01 := HY0.out.c1
  have d02 := HY0.out.c2
  go_wp2_with fail
  refine (markComplexK_any 1 p0 _ _ ds0 ms0 _ HC0.out (by omega) hds0 HMS0.out (by omega) (by omega)).mono ?_
  rintro e wD0 ⟨r0, wM, rfl, hr00, hr01, hb, hoM, htM⟩
  have hsM0 : wLA.heap.size ≤ wM.heap.size := hb.size
  have hsD0 : wD0.heap.size = wM.heap.size := hoM.size
  have hsE0 : wLA.heap.size ≤ wD0.heap.size := by omega
  clear d00 d01 d02
  have HB' := Lib.hid ((HB.out.trans (hb.mono (by omega))).trans (hoM.below (by omega)))
  have HK' := Lib.hid ((HK.out.trans (hb.mono (by omega))).trans (hoM.below (by omega)))
  have HG' := Lib.hid (HG.out.same ((Same.of_below hb (by omega)).trans (hoM.same (by omega))))
  have HCG' := Lib.hid ((HCG.out.next hb).only hoM (by omega))
  have HC1' := Lib.hid (HC1.out.same ((Same.of_below hb (by omega)).trans (hoM.same (by omega))))
  clear hoM htM hb HC0 HY0 HB HK HG HCG HC1
  have HB := HB'
  have HK := HK'
  have HG := HG'
  have HCG := HCG'
  have HC1 := HC1'
  clear HB' HK' HG' HCG' HC1'
  go_wp2_with fail
  refine (mark3_any _ fs1 r0 _ HC1.out.t3 HMS1.out (by omega) (by omega)).mono ?_
  rintro e wD1 ⟨r1, rfl, hr10, hr11, hoM, htM⟩
  have hrb1 : fs1.length ≤ 1048576 := HMS1.out.1
  have hr12 : r1 ≤ r0 + 1152921504606846976 := by omega
  have hsE1 : wD0.heap.size ≤ wD1.heap.size := Nat.le_of_eq hoM.size.symm
  have HB' := Lib.hid (HB.out.trans (hoM.below (by omega)))
  have HK' := Lib.hid (HK.out.trans (hoM.below (by omega)))
  have HG' := Lib.hid (HG.out.same (hoM.same (by omega)))
  have HCG' := Lib.hid (HCG.out.only hoM (by omega))
  clear hoM htM HC1 HB HK HG HCG
  have HB := HB'
  have HK := HK'
  have HG := HG'
  have HCG := HCG'
  clear HB' HK' HG' HCG'
  have hneg0 : ¬ r1 < 0 := by omega
  have s0 := (HYS.out.next HK.out).c0
  have s1 := (HYS.out.next HK.out).c1
  have s2 := (HYS.out.next HK.out).c2
  have g0 := HCG.out.c0
  have g1 := HCG.out.c1
  have g2 := HCG.out.c2
  go_wp2_with fail
  refine (eqComplex_true pS _ _ _ _ dsS msS _ HG.out.cx (HYS.out.next HK.out).cx hbd1 HBD.out.2).mono ?_
  rintro e we2 ⟨rfl, hb⟩
  have hse2 : wD1.heap.size ≤ we2.heap.size := hb.size
  clear s0 s1 s2 g0 g1 g2
  have HB' := Lib.hid (HB.out.trans (hb.mono (by omega)))
  have HK' := Lib.hid (HK.out.trans (hb.mono (by omega)))
  have HG' := Lib.hid (HG.out.same (Same.of_below hb (by omega)))
  have HCG' := Lib.hid (HCG.out.next hb)
  clear hb HB HK HG HCG
  have HB := HB'
  have HK := HK'
  have HG := HG'
  have HCG := HCG'
  clear HB' HK' HG' HCG'
  have g0 := HCG.out.c0
  have g1 := HCG.out.c1
  have g2 := HCG.out.c2
  go_wp2_with fail
  refine (markRC_any pS _ _ dsS msS _ HG.out (by omega)).mono ?_
  rintro e wG ⟨mm, wM2, rfl, hm0, hm1, hb, hoG, hmk⟩
  have hsM2 : we2.heap.size ≤ wM2.heap.size := hb.size
  have hsG0 : wG.heap.size = wM2.heap.size := hoG.size
  have hsG : we2.heap.size ≤ wG.heap.size := by omega
  clear g0 g1 g2
  have HB' := Lib.hid ((HB.out.trans (hb.mono (by omega))).trans (hoG.below (by omega)))
  have HK' := Lib.hid ((HK.out.trans (hb.mono (by omega))).trans (hoG.below (by omega)))
  have HCG' := Lib.hid ((HCG.out.next hb).only hoG (by omega))
  have HG' := Lib.hid hmk
  clear hoG hmk hb HB HK HG HCG
  have HB := HB'
  have HK := HK'
  have HG := HG'
  have HCG := HCG'
  clear HB' HK' HG' HCG'
  have hneg : ¬ mm < 0 := by omega
  have hsum : (mm != mm) = false := by simp
  have g0 := HCG.out.c0
  have g1 := HCG.out.c1
  have g2 := HCG.out.c2
  go_wp2_with fail
  refine (heldRC_any pS _ _ mm _ HG.out (by omega)).mono ?_
  rintro e wH1 ⟨rfl, hb⟩
  have hsH1 : wG.heap.size ≤ wH1.heap.size := hb.size
  clear g0 g1 g2
  have HB' := Lib.hid (HB.out.trans (hb.mono (by omega)))
  have HK' := Lib.hid (HK.out.trans (hb.mono (by omega)))
  have HG' := Lib.hid (HG.out.same (Same.of_below hb (by omega)))
  have HCG' := Lib.hid (HCG.out.next hb)
  clear hb HB HK HG HCG
  have HB := HB'
  have HK := HK'
  have HG := HG'
  have HCG := HCG'
  clear HB' HK' HG' HCG'
  have c00 := (HN0.out _ HB.out).c0
  have c01 := (HN0.out _ HB.out).c1
  have c02 := (HN0.out _ HB.out).c2
  have HQd : Hid (Below wH1.heap.size wH1 wH1) := Lib.hid (Below.refl _ _)
  go_wp2_with fail
  refine (toComplex_any p0 dv0 mv0 ds0 ms0 _ (HN0.out _ HB.out).cx hds0 HMS0.out).mono ?_
  rintro e wJ0 ⟨xdv0J, xmv0J, rfl, hc, hb⟩
  have hsJ0 : wH1.heap.size ≤ wJ0.heap.size := hb.size
  have HBJ0 := Lib.hid (HB.out.trans (hb.mono (by omega)))
  have HQ0 := Lib.hid (HQd.out.trans (hb.mono (by omega)))
  have HXJ0 := Lib.hid hc.zero
  clear hb hc
  clear c00 c01 c02
  go_wp2_with fail
  refine (to3_any _ fs1 _ (HN1.out _ HBJ0.out) HMS1.out).mono ?_
  rintro e wJ1 ⟨xfJ, rfl, hc, hb⟩
  have hsJ1 : wJ0.heap.size ≤ wJ1.heap.size := hb.size
  have HQ1 := Lib.hid (HQ0.out.trans (hb.mono (by omega)))
  have HXJ1 := Lib.hid (HXJ0.out.below hb)
  have HXFJ := Lib.hid (hc.lower (Nat.zero_le _))
  clear hb hc
  go_wp2_with fail
  refine (perturbedComplexOf_any p0 xdv0J xmv0J xfJ ds0 ms0 fs1 _ (HXJ1.out) (HXFJ.out) hds0 HMS0.out HMS1.out).mono ?_
  rintro e wJr ⟨uJ, oJ, kJ, rfl, hrJ, hb, hoJ⟩
  have hsJr : wJ1.heap.size ≤ wJr.heap.size := hb.size
  have HQr := Lib.hid (HQ1.out.trans (hb.mono (by omega)))
  have HRJ := Lib.hid hrJ
  have HOJ := Lib.hid hoJ
  clear hb hrJ hoJ
  have hb := HQr.out
  clear HQd HQr HQ0 HQ1 HXJ0 HXJ1 HXFJ HBJ0
  have HB' := Lib.hid (HB.out.trans (hb.mono (by omega)))
  have HK' := Lib.hid (HK.out.trans (hb.mono (by omega)))
  have HG' := Lib.hid (HG.out.same (Same.of_below hb (by omega)))
  have HCG' := Lib.hid (HCG.out.next hb)
  clear hb HB HK HG HCG
  have HB := HB'
  have HK := HK'
  have HG := HG'
  have HCG := HCG'
  clear HB' HK' HG' HCG'
  obtain ⟨rfl, rfl⟩ := RsOut.unique (fun _ a b ha hb => ha.trans hb.symm) HOS.out HOJ.out
  obtain ⟨aJd, cJd, aJm, cJm, huJ, hcJ⟩ := HRJ.out
  have huJ : uJ = .agg #[.int .i64 pS, .slice aJd dsS.length cJd, .slice aJm msS.length cJm] := huJ
  subst huJ
  have HXJ : Hid (Cx 0 wJr (.slice aJd dsS.length cJd) (.slice aJm msS.length cJm) dsS msS) := Lib.hid hcJ.cx
  clear hcJ HRJ HOJ
  obtain ⟨wbJ, hwb⟩ : ∃ wbJ, wbJ = wJr.alloc (.cells #[.int .i64 pS, .slice aJd dsS.length cJd, .slice aJm msS.length cJm] 30) := ⟨_, rfl⟩
  have hb : Below wJr.heap.size wJr wbJ := by rw [hwb]; exact below_alloc1 _ _
  have hsbJ : wJr.heap.size + 1 = wbJ.heap.size := by rw [hwb]; simp
  have hsBJ : wJr.heap.size ≤ wbJ.heap.size := by omega
  have HYJ : Hid (Bq wbJ wJr.heap.size pS (.slice aJd dsS.length cJd) (.slice aJm msS.length cJm) dsS msS) := Lib.hid (by rw [hwb]; exact (Bx.start _ HXJ.out).bq)
  have HB' := Lib.hid (HB.out.trans (hb.mono (by omega)))
  have HK' := Lib.hid (HK.out.trans (hb.mono (by omega)))
  have HG' := Lib.hid (HG.out.same (Same.of_below hb (by omega)))
  have HCG' := Lib.hid (HCG.out.next hb)
  clear hb HB HK HG HCG
  have HB := HB'
  have HK := HK'
  have HG := HG'
  have HCG := HCG'
  clear HB' HK' HG' HCG'
  go_upto_region 32 with fail
  rw [← hwb]
  clear hwb
  clear HXJ
  have s0 := (HYS.out.next HK.out).c0
  have s1 := (HYS.out.next HK.out).c1
  have s2 := (HYS.out.next HK.out).c2
  have j0 := HYJ.out.c0
  have j1 := HYJ.out.c1
  have j2 := HYJ.out.c2
  go_wp2_with fail
  refine (eqComplex_true pS _ _ _ _ dsS msS _ HYJ.out.cx (HYS.out.next HK.out).cx hbd1 HBD.out.2).mono ?_
  rintro e wK ⟨rfl, hb⟩
  have hsK : wbJ.heap.size ≤ wK.heap.size := hb.size
  clear s0 s1 s2 j0 j1 j2
  clear HYJ
  have HB' := Lib.hid (HB.out.trans (hb.mono (by omega)))
  have HK' := Lib.hid (HK.out.trans (hb.mono (by omega)))
  have HG' := Lib.hid (HG.out.same (Same.of_below hb (by omega)))
  have HCG' := Lib.hid (HCG.out.next hb)
  clear hb HB HK HG HCG
  have HB := HB'
  have HK := HK'
  have HG := HG'
  have HCG := HCG'
  clear HB' HK' HG' HCG'
  have g0 := HCG.out.c0
  have g1 := HCG.out.c1
  have g2 := HCG.out.c2
  go_wp2_with fail
  refine (heldRC_any pS _ _ mm _ HG.out (by omega)).mono ?_
  rintro e wH2 ⟨rfl, hb⟩
  have hsH2 : wK.heap.size ≤ wH2.heap.size := hb.size
  clear g0 g1 g2
  have HB' := Lib.hid (HB.out.trans (hb.mono (by omega)))
  have HK' := Lib.hid (HK.out.trans (hb.mono (by omega)))
  have HG' := Lib.hid (HG.out.same (Same.of_below hb (by omega)))
  have HCG' := Lib.hid (HCG.out.next hb)
  clear hb HB HK HG HCG
  have HB := HB'
  have HK := HK'
  have HG := HG'
  have HCG := HCG'
  clear HB' HK' HG' HCG'
  go_wp2
  go_ret
  exact ⟨rfl, HNW.out _ HB.out⟩
end Go.Proofs.Ytchijefibiaphaa

