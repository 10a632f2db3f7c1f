/-
  Texts that ProofTzl needs, part 4.
-/
import Derived.Test.YtlopenephgabhaaZg3
import Derived.Deep.Cut
import Derived.Deep.CutRange
import Derived.StillTailTactics
import Derived.RegionTactic
import Derived.Great.Walk
namespace Go.Proofs.Ytlopenephgabhaa
open Go.RowKit

def tdl (ds : List (List Int)) (L : List (Nat × Nat)) (s : Nat) : Nat := ((L.filter (onD s)).map (cdim ds)).sum
theorem tdl_snoc (ds : List (List Int)) (L : List (Nat × Nat)) (c : Nat × Nat) (s : Nat) : tdl ds (L ++ [c]) s = tdl ds L s + if onD s c then cdim ds c else 0 := by
  unfold tdl
  rw [List.filter_append, List.map_append, List.sum_append]
  by_cases h : onD s c <;> simp [h]
theorem sum_le4 {α : Type} (f : α → Nat) : ∀ L : List α, (∀ c ∈ L, f c ≤ 4) → (L.map f).sum ≤ 4 * L.length
  | [], _ => by simp
  | c :: L, h => by
    rw [List.map_cons, List.sum_cons, List.length_cons]
    have h1 := h c (by simp)
    have h2 := sum_le4 f L (fun d hd => h d (by simp [hd]))
    omega
theorem tdl_le {ds : List (List Int)} (hok : DclOk ds) (pre : List (CellIn ds)) (s : Nat) : tdl ds (pre.map (·.1)) s ≤ 4 * pre.length := by
  unfold tdl
  have h := sum_le4 (cdim ds) ((pre.map (·.1)).filter (onD s)) (fun c hc => by
    obtain ⟨x, _, rfl⟩ := List.mem_map.1 (List.mem_filter.1 hc).1
    exact (cdim_cast hok x.2).2)
  have h2 := List.length_filter_le (onD s) (pre.map (·.1))
  rw [List.length_map] at h2
  omega
theorem tdim_le {ds : List (List Int)} (hok : DclOk ds) (s : Nat) : tdim ds s ≤ 64 := by
  have h := sum_le4 (cdim ds) (dgn ds s) (fun c hc => (cdim_cast hok (mem_cells.2 (mem_dgn.1 hc).1)).2)
  have h2 := dgn_le hok s
  unfold tdim
  omega
/-- The degrees of the total. -/
def ttop (ds : List (List Int)) : Nat := ds.length + (ds.getD 0 []).length - 2
def tD (ds : List (List Int)) : List Int := (List.range (ttop ds + 1)).map fun s => ((tdim ds s : Nat) : Int)
def tM (ds : List (List Int)) (ac dn : List (List (List (List Int)))) : List (List (List Int)) := (List.range (ttop ds)).map (ttab ds ac dn)
theorem tD_len (ds : List (List Int)) : (tD ds).length = ttop ds + 1 := by simp [tD]
theorem tM_len (ds : List (List Int)) (ac dn : List (List (List (List Int)))) : (tM ds ac dn).length = ttop ds := by simp [tM]
theorem tD_at {ds : List (List Int)} {s : Nat} (h : s < ttop ds + 1) : (tD ds).getD s 0 = ((tdim ds s : Nat) : Int) := by simp [tD, h]
theorem tM_at {ds : List (List Int)} {ac dn : List (List (List (List Int)))} {s : Nat} (h : s < ttop ds) : (tM ds ac dn).getD s [] = ttab ds ac dn s := by simp [tM, h]

theorem gen_rc {lo : Nat} {W : World} {D : List Int} {M : List (List (List Int))} {bd bm n m : Nat} {f : Nat → Value} {b : Nat → Nat} (hm : m = M.length) (hn : n = D.length) (hb : n ≤ 1048576) (hb2 : m ≤ 1048576)
    (hdim : W.rowIs bd 2 n (fun j => .int .i64 (D.getD j 0))) (hfill : Fill3 W bm m m f b M) (l1 : lo ≤ bd) (l2 : lo ≤ bm) (l3 : bd < b 0) :
    RcW lo W.heap.size W (.slice (some ⟨bd, 0, none⟩) n n) (.slice (some ⟨bm, 0, none⟩) m m) D M := by
  obtain ⟨q3, J, s3, n3, d3, z3⟩ := hfill.parts hm hb2
  obtain ⟨q1, I, s1, n1, b1, z1⟩ := row_rc (xs := D) hdim hn.symm (fun i hi => by rw [getD_of_lt _ hi]) hb l1
  refine ⟨⟨q1, q3.wider l2 (Nat.le_refl _)⟩, I, J, s1, s3.wider l2 (Nat.le_refl _), n1, n3.wider ?_ (Nat.le_refl _), d3, fun x hx y hy => Or.inl ?_, z1, z3⟩
  · omega
  · have h1 := b1 x hx
    have h2 := (n3 y hy).1
    rw [h1]
    omega
theorem fill3_put {W : World} {g n k D : Nat} {f : Nat → Value} {b : Nat → Nat} {ts : List (List (List Int))} (h : Fill3 W g n k f b ts) (hD : D < b 0) (hg : D ≠ g) (o : Obj) : Fill3 (W.putObj D o) g n k f b ts := by
  have hb : ∀ i, i ≠ D → (W.putObj D o).heap[i]? = W.heap[i]? := fun i hi => World.putObj_heap_other (by omega)
  have h0 : ∀ j, j ≤ k → b 0 ≤ b j := by
    intro j
    induction j with
    | zero => intro _; exact Nat.le_refl _
    | succ j ih => intro hj; exact Nat.le_trans (ih (by omega)) (h.inc j (by omega))
  refine ⟨h.row.of_block (hb g (Ne.symm hg)), h.lo, h.inc, by simpa using h.hi, fun j hj hk => (h.at' j hj hk).same (fun i hi _ => hb i ?_)⟩
  have := h0 j (by omega)
  omega
theorem results_cx {fn : Func} {t : Tmp} (h : fn.results = #[.cell t 38]) (tmps : Array Value) (B : Nat) (x0 x1 x2 : Value) (W : World) (ht : tmps.getD t undef = .pointer (some ⟨B, 0, none⟩)) (c0 : W.cell? ⟨B, 0, none⟩ = some x0) (c1 : W.cell? ⟨B, 1, none⟩ = some x1) (c2 : W.cell? ⟨B, 2, none⟩ = some x2) :
    (results fn tmps).run Try.prog W = .ok (.agg #[x0, x1, x2]) W := by
  simp only [Array.getD_eq_getD_getElem?] at ht
  simp [results, h, ht, go_sem, c0, c1, c2]
theorem du_own {β : Type} {wB : World} {g bd bm n t B : Nat} {p : Int} (D : β → Nat → Value) (M : Nat → Value) (h0 : wB.heap.size ≤ B) (h1 : g < B) (h2 : bd < B) (h3 : bm < B) : OwnFrom B (fun (s : β) W => Du wB W g bd bm n t p (D s) M) := fun s X Y row h hg hr => by
  have hb : ∀ k, k < B → k < X.heap.size → Y.heap[k]? = X.heap[k]? := fun k hk hl => hg.block k hl (fun e => by have := (hr k e.symm).1; omega)
  exact ⟨⟨hg.os.trans h.below.os, hg.tape.trans h.below.tape, hg.output.trans h.below.output, Nat.le_trans h.below.size hg.size, fun k hk => (hb k (by omega) (by have := h.below.size; omega)).trans (h.below.block k hk)⟩,
    h.lo, h.ne, h.box.of_block (hb g h1 h.box.lt), h.dims.of_block (hb bd h2 h.dims.lt), h.maps.of_block (hb bm h3 h.maps.lt)⟩

section
variable {ops : Array Oper} {Q : Exit → Act → World → Prop} {n : Nat}
theorem lastQ_storeJ {on : Oper} {a : Act} {w : World} (hn : ops[n]? = some on) (hg : on.guard = none) (_ : on.dst = none) (x y : Operand) (ho : on.op = .store 2 x y)
    (b o : Nat) (z : Int) (u : Value) (hx : a.eval x = .pointer (some ⟨b, o, none⟩)) (hy : a.eval y = .int .i64 z) (hc : w.cell? ⟨b, o, none⟩ = some u) (hf : w.frozen? ⟨b, o, none⟩ = false)
    (h : Q .normal a (w.setCell ⟨b, o, none⟩ (.int .i64 z))) : lastQ Try.prog ops n Q .normal a w :=
  lastQ_of hn hg (by
    unfold Oper.wp execOp
    simp only [ho, hx, hy]
    go_simp
    exact h)
end
/-- No panic is left open. -/
def calmQ (Q : Exit → Act → World → Prop) : Exit → Act → World → Prop
  | .panic _, _, _ => False
  | .outgrown, _, _ => False
  | .normal, a, w => Q .normal a w
  | .ret, a, w => Q .ret a w
  | .exit i, a, w => Q (.exit i) a w
  | .goto t, a, w => Q (.goto t) a w
theorem wpIn_calm {F : Fence} {n : Nat} {P : Program} {c : Code} {Q : Exit → Act → World → Prop} {a : Act} {w : World} (h : c.wpIn F n P (calmQ Q) a w) : c.wpIn F n P Q a w :=
  wpIn_mono h (fun e _ _ h => by cases e <;> first | exact h | exact h.elim)
theorem calm_normal (Q : Exit → Act → World → Prop) (a : Act) (w : World) : calmQ Q .normal a w = Q .normal a w := rfl
theorem calm_ret (Q : Exit → Act → World → Prop) (a : Act) (w : World) : calmQ Q .ret a w = Q .ret a w := rfl
end Go.Proofs.Ytlopenephgabhaa


namespace Go.Proofs.Ytlopenephgabhaa
open Go.RowKit Go.Shelf
attribute [local go_sem] Oper.semAt_some calm_normal calm_ret

set_option maxHeartbeats 12800000 in
set_option maxRecDepth 100000 in
theorem totalComplex_any (p : Int) (hp : IsP p) (dv av vv : Value) (ds : List (List Int)) (ac dn : List (List (List (List Int)))) (w : World) (h : Dx 0 w dv av vv ds ac dn) (hok : DclOk ds) (ht : TbsOk p ds ac dn) :
    Calls Try.prog 48 #[.agg #[.int .i64 p, dv, av, vv]] w fun e w' => ∃ u, e = .returned u ∧ RwC w.heap.size w'.heap.size w' u (p, tD ds, tM ds ac dn) ∧ Below w.heap.size w w' := by
  have hres : Try.f48.results = #[.cell 2 38] := by kernel_rfl
  have HRES := Lib.hid hres
  clear hres
  have HP := Lib.hid hp
  have HOK := Lib.hid hok
  have HT := Lib.hid ht
  have HX := Lib.hid h
  have hl0 := hok.len0
  have hl4 := hok.len1
  have hq0 := hok.h0
  have hq4 := hok.h1
  obtain ⟨m, hm⟩ : ∃ m, m = ds.length := ⟨_, rfl⟩
  obtain ⟨q, hq⟩ : ∃ q, q = (ds.getD 0 []).length := ⟨_, rfl⟩
  obtain ⟨t, htt⟩ : ∃ t, t = ttop ds := ⟨_, rfl⟩
  have htm : t + 2 = m + q := by rw [htt, hm, hq]; unfold ttop; omega
  rw [← hm] at hl0 hl4
  rw [← hq] at hq0 hq4
  have HM := Lib.hid hm
  have HQ := Lib.hid hq
  have HTT := Lib.hid htt
  clear hm hq htt hp hok ht
  have hx0 := (DBx.start (p := p) 28 h).next ((Below.refl _ _).alloc (Nat.le_refl _) (.cells #[.int .i64 0, .slice none 0 0, .slice none 0 0] 38))
  clear h
  obtain ⟨w1, hw1⟩ : ∃ w1, w1 = (w.alloc (.cells #[.int .i64 p, dv, av, vv] 28)).alloc (.cells #[.int .i64 0, .slice none 0 0, .slice none 0 0] 38) := ⟨_, rfl⟩
  have hs1 : w1.heap.size = w.heap.size + 2 := by rw [hw1]; simp
  have HR0 : Hid (Rz w1 (w.heap.size + 1) 38 #[.int .i64 0, .slice none 0 0, .slice none 0 0]) := Lib.hid (by rw [hw1]; have := Rz.new (w.alloc (.cells #[.int .i64 p, dv, av, vv] 28)) 38 #[.int .i64 0, .slice none 0 0, .slice none 0 0]; rwa [World.size_alloc] at this)
  rw [← hw1] at hx0
  have HX1 := Lib.hid hx0
  have c0 := hx0.c0
  have c1 := hx0.c1
  have c2 := hx0.c2
  have c3 := hx0.c3
  clear hx0
  have HNX : Hid (∀ W, Below w1.heap.size w1 W → DBx w W w.heap.size p dv av vv ds ac dn ∧ Rz W (w.heap.size + 1) 38 #[.int .i64 0, .slice none 0 0, .slice none 0 0]) := Lib.hid (fun W hb => ⟨HX1.out.next hb, HR0.out.next hb⟩)
  have HWI : Hid (∀ W, Below w1.heap.size w1 W → Calls Try.prog 58 #[.agg #[.int .i64 p, dv, av, vv]] W fun e w' => e = .returned (.int .i64 (m : Int)) ∧ Below w1.heap.size w1 w') := Lib.hid (fun W hb => by rw [HM.out]; exact (widthOf_any p dv av vv ds W (HX.out.dims.below (HX1.out.below.trans (hb.mono HX1.out.below.size)))).mono fun _ _ hh => ⟨hh.1, hb.trans (hh.2.mono hb.size)⟩)
  have HHE : Hid (∀ W, Below w1.heap.size w1 W → Calls Try.prog 93 #[.agg #[.int .i64 p, dv, av, vv]] W fun e w' => e = .returned (.int .i64 (q : Int)) ∧ Below w1.heap.size w1 w') := Lib.hid (fun W hb => by rw [HQ.out]; exact (heightOf_any p dv av vv ds W (HX.out.dims.below (HX1.out.below.trans (hb.mono HX1.out.below.size))) HOK.out.len0).mono fun _ _ hh => ⟨hh.1, hb.trans (hh.2.mono hb.size)⟩)
  refine (callsIn_wide (n := 8)).1 ?_
  refine callsIn_of_wp_marks Try.func48 rfl trivial ?_
  simp only [Try.ntmps48, List.size_toArray, List.length_cons, List.length_nil, Nat.reduceAdd, Nat.reduceSub, Array.replicate_succ, Array.replicate_zero, List.push_toArray, List.append_toArray, List.nil_append, List.cons_append]
  refine wpIn_calm ?_
  refine wpIn_wide.2 ?_
  go_upto_region 1 with fail
  rw [← hw1]
  clear hw1 c0 c1 c2 c3
  refine wp_region_held (S := fun W => Below w1.heap.size w1 W) (by kernel_rfl) ?_
  have S0 : Below w1.heap.size w1 w1.drew := (Below.refl _ _).drew
  change wpAnyH _ _ _ _ _ _ _ _ w1.drew
  obtain ⟨wd, hwd⟩ : ∃ wd, wd = w1.drew := ⟨_, rfl⟩
  rw [← hwd] at S0 ⊢
  clear hwd
  refine held_take (i := 0) (v := .agg #[.int .i64 p, dv, av, vv]) (some 7) rfl rfl (by kernel_rfl) (by kernel_rfl) (by kernel_rfl) (fun _ _ _ h => h) (yieldsIf_cell (by kernel_rfl) rfl (by kernel_rfl) (fun W h => hloadDb W (HNX.out W h).1)) S0 ?_
  refine held_take (i := 2) (v := .agg #[.int .i64 p, dv, av, vv]) (some 9) rfl rfl (by kernel_rfl) (by kernel_rfl) (by kernel_rfl) (fun _ _ _ h => h) (yieldsIf_cell (by kernel_rfl) rfl (by kernel_rfl) (fun W h => hloadDb W (HNX.out W h).1)) S0 ?_
  refine held_enter (i := 1) (some 8) (f := 58) (args := #[.agg #[.int .i64 p, dv, av, vv]]) (by kernel_rfl) rfl rfl rfl (by kernel_rfl) (HWI.out _ S0) ?_ (fun c w' h => by cases h.1) (fun w' h => by cases h.1)
  rintro e3 W3 ⟨he3, S1⟩
  injection he3 with he3
  subst he3
  refine ⟨S1, ?_⟩
  refine held_enter (i := 3) (some 10) (f := 93) (args := #[.agg #[.int .i64 p, dv, av, vv]]) (by kernel_rfl) rfl rfl rfl (by kernel_rfl) (HHE.out _ S1) ?_ (fun c w' h => by cases h.1) (fun w' h => by cases h.1)
  rintro e4 W4 ⟨he4, S2⟩
  injection he4 with he4
  subst he4
  refine ⟨S2, ?_⟩
  refine held_take (i := 4) (v := .int .i64 ((m : Int) + (q : Int))) (some 11) rfl rfl (by kernel_rfl) (by kernel_rfl) (by kernel_rfl) (fun _ _ _ h => h) (yieldsIf_bin (by kernel_rfl) rfl (by kernel_rfl) (by kernel_rfl) (fun _ => rfl) (haddA (IntWalk.i64_in _ (by omega)))) S2 ?_
  refine held_take (i := 5) (v := .int .i64 (t : Int)) (some 12) rfl rfl (by kernel_rfl) (by kernel_rfl) (by kernel_rfl) (fun _ _ _ h => h) (yieldsIf_bin (by kernel_rfl) rfl (by kernel_rfl) (by kernel_rfl) (fun _ => rfl) (hsubA (by rw [show (m : Int) + (q : Int) - 2 = (t : Int) by omega]; exact IntWalk.i64_in _ (by omega)))) S2 ?_
  refine held_take (i := 6) (v := .int .i64 (t : Int)) (some 3) rfl rfl (by kernel_rfl) (by kernel_rfl) (by kernel_rfl) (fun _ _ _ h => h) (yieldsIf_assign (by kernel_rfl) rfl (by kernel_rfl)) S2 ?_
  refine wpAnyH_done (by kernel_rfl) ?_ _
  simp only [Act.put, List.setIfInBounds_toArray, List.set_cons_zero, List.set_cons_succ]
  have HBB := Lib.hid S2
  have hsB := S2.size
  clear S0 S1 S2
  obtain ⟨wB, hwB⟩ : ∃ wB : World, wB = W4 := ⟨_, rfl⟩
  rw [← hwB] at HBB hsB ⊢
  clear hwB
  obtain ⟨n, hn⟩ : ∃ n, n = t + 1 := ⟨_, rfl⟩
  have HN := Lib.hid hn
  have ht6 : t ≤ 6 := by omega
  have hn7 : n ≤ 7 := by omega
  have hwn : IntKind.i64.wrap ((t : Int) + 1) = (n : Int) := by rw [show (t : Int) + 1 = (n : Int) by omega]; exact IntWalk.i64_in _ (by omega)
  have hmk := run_make_row' (P := Try.prog) 35 2 (.int .i64 0) 8 Try.underlying35 Try.infoI rfl .i64 .i64 n (by omega) (by omega)
  have hmk2 := run_make_row' (P := Try.prog) 36 22 (.slice none 0 0) 24 Try.underlying36 Try.infoSS rfl .i64 .i64 t (by omega) (by omega)
  have HNB : Hid (∀ W, Below wB.heap.size wB W → DBx w W w.heap.size p dv av vv ds ac dn ∧ Rz W (w.heap.size + 1) 38 #[.int .i64 0, .slice none 0 0, .slice none 0 0]) := Lib.hid (fun W hb => HNX.out _ (HBB.out.trans (hb.mono hsB)))
  clear hn
  go_upto_region 2 with fail
  go_cut [4] from 13 to 20 (fun s wx => ∃ g bd bm, s = .pointer (some ⟨g, 0, none⟩) ∧ Hid (Du wB wx g bd bm n t p (fun _ => .int .i64 0) (fun _ => .slice none 0 0)))
  case first =>
    go_wp2
    refine wp_region_held (S := fun W => Below (wB.heap.size) wB W) (by kernel_rfl) ?_
    have S0 : Below (wB.heap.size) wB wB.drew := (Below.refl _ _).drew
    have hsd : wB.heap.size ≤ wB.drew.heap.size := Nat.le_refl _
    have hB0 : wB.heap.size ≤ wB.heap.size := by first | exact Nat.le_refl _ | omega
    change wpAnyH _ _ _ _ _ _ _ _ wB.drew
    obtain ⟨wd, hwd⟩ : ∃ wd, wd = wB.drew := ⟨_, rfl⟩
    rw [← hwd] at S0 hsd ⊢
    clear hwd
    refine held_take (i := 0) (v := .pointer (some ⟨w.heap.size, 0, none⟩)) (some 13) rfl rfl (by kernel_rfl) (by kernel_rfl) (by kernel_rfl) (fun _ _ _ h => h) (yieldsIf_run (by kernel_rfl) (fun W _ => by kernel_rfl)) S0 ?_
    refine held_take (i := 1) (v := .int .i64 p) (some 14) rfl rfl (by kernel_rfl) (by kernel_rfl) (by kernel_rfl) (fun _ _ _ h => h) (yieldsIf_cell (by kernel_rfl) rfl (by kernel_rfl) (fun W h => hloadIn W ((HNB.out W h).1.c0))) S0 ?_
    refine held_take (i := 2) (v := .int .i64 (t : Int)) (some 15) rfl rfl (by kernel_rfl) (by kernel_rfl) (by kernel_rfl) (fun _ _ _ h => h) (yieldsIf_move (by kernel_rfl) rfl (by kernel_rfl)) S0 ?_
    refine held_take (i := 3) (v := .int .i64 (n : Int)) (some 16) rfl rfl (by kernel_rfl) (by kernel_rfl) (by kernel_rfl) (fun _ _ _ h => h) (yieldsIf_bin (by kernel_rfl) rfl (by kernel_rfl) (by kernel_rfl) (fun _ => rfl) (haddA hwn)) S0 ?_
    refine held_take (i := 5) (v := .int .i64 (t : Int)) (some 18) rfl rfl (by kernel_rfl) (by kernel_rfl) (by kernel_rfl) (fun _ _ _ h => h) (yieldsIf_move (by kernel_rfl) rfl (by kernel_rfl)) S0 ?_
    refine held_three (i := 4) (j := 6) (l := 8) (by kernel_rfl) ?_ ?_ ?_
    · obtain ⟨W1, hW1⟩ : ∃ W', W' = wd.alloc (.cells (madeCells #[.int .i64 0] n) 2) := ⟨_, rfl⟩
      have hb1 : Below wd.heap.size wd W1 := by rw [hW1]; exact below_alloc1 _ _
      have hz1 : W1.heap.size = wd.heap.size + 1 := by rw [hW1]; simp
      have S1 : Below (wB.heap.size) wB W1 := S0.trans (hb1.mono (by omega))
      have hD1 : W1.rowIs wd.heap.size 2 n (fun _ => .int .i64 0) := by rw [hW1]; exact World.rowIs_made wd _ _ _
      refine op_make (i := 4) (v := .slice (some ⟨wd.heap.size, 0, none⟩) n n) (w' := W1) (x := .int .i64 (n : Int)) (y := .int .i64 (n : Int)) (some 17) 35 (.tmp 16) (.tmp 16) rfl rfl rfl rfl (by kernel_rfl) (by kernel_rfl) (by rw [hW1]; exact hmk _) ?_
      refine ⟨S1, ?_⟩
      refine held_two (i := 6) (j := 8) (by kernel_rfl) ?_ ?_
      · obtain ⟨W2, hW2⟩ : ∃ W', W' = W1.alloc (.cells (madeCells #[.slice none 0 0] t) 22) := ⟨_, rfl⟩
        have hb2 : Below W1.heap.size W1 W2 := by rw [hW2]; exact below_alloc1 _ _
        have hz2 : W2.heap.size = W1.heap.size + 1 := by rw [hW2]; simp
        have S2 : Below (wB.heap.size) wB W2 := S1.trans (hb2.mono (by omega))
        have hD2 := hD1.of_block (hb2.block _ hD1.lt)
        have hM2 : W2.rowIs W1.heap.size 22 t (fun _ => .slice none 0 0) := by rw [hW2]; exact World.rowIs_made W1 _ _ _
        refine op_make (i := 6) (v := .slice (some ⟨W1.heap.size, 0, none⟩) t t) (w' := W2) (x := .int .i64 (t : Int)) (y := .int .i64 (t : Int)) (some 19) 36 (.tmp 18) (.tmp 18) rfl rfl rfl rfl (by kernel_rfl) (by kernel_rfl) (by rw [hW2]; exact hmk2 _) ?_
        refine ⟨S2, ?_⟩
        refine held_take (i := 7) (v := .agg #[.int .i64 p, .slice (some ⟨wd.heap.size, 0, none⟩) n n, .slice (some ⟨W1.heap.size, 0, none⟩) t t]) (some 20) rfl rfl (by kernel_rfl) (by kernel_rfl) (by kernel_rfl) (fun _ _ _ h => h) (yieldsIf_run (by kernel_rfl) (fun W _ => by kernel_rfl)) S2 ?_
        refine held_one (i := 8) (by kernel_rfl) ?_
        · obtain ⟨W3, hW3⟩ : ∃ W', W' = W2.alloc (.cells #[.int .i64 0, .slice none 0 0, .slice none 0 0] 38) := ⟨_, rfl⟩
          have hb3 : Below W2.heap.size W2 W3 := by rw [hW3]; exact below_alloc1 _ _
          have hz3 : W3.heap.size = W2.heap.size + 1 := by rw [hW3]; simp
          have S3 : Below (wB.heap.size) wB W3 := S2.trans (hb3.mono (by omega))
          have hD3 := hD2.of_block (hb3.block _ hD2.lt)
          have hM3 := hM2.of_block (hb3.block _ hM2.lt)
          have hR3 : Rz W3 W2.heap.size 38 #[.int .i64 0, .slice none 0 0, .slice none 0 0] := by rw [hW3]; exact Rz.new _ _ _
          refine op_mem (i := 8) (v := .pointer (some ⟨W2.heap.size, 0, none⟩)) (w' := W3) (some 4) rfl rfl rfl (by rw [hW3]; go_simp) ?_
          refine ⟨S3, ?_⟩
          have S9 : Below (wB.heap.size) wB (W3.setRow (W2.heap.size) #[.int .i64 p, .slice (some ⟨wd.heap.size, 0, none⟩) n n, .slice (some ⟨W1.heap.size, 0, none⟩) t t]) := below_setRow S3 (by omega) _
          refine held_one (i := 9) (by kernel_rfl) ?_
          refine op_row (i := 9) rfl rfl rfl 38 (.tmp 4) (.tmp 20) rfl (W2.heap.size) #[.int .i64 p, .slice (some ⟨wd.heap.size, 0, none⟩) n n, .slice (some ⟨W1.heap.size, 0, none⟩) t t] (by kernel_rfl) (by kernel_rfl) 38 _ hR3 (infoCo _ _ _) (by kernel_rfl) (by kernel_rfl) ?_
          refine ⟨S9, ?_⟩
          refine wpAnyH_done (by kernel_rfl) ?_ _
          simp only [Act.put, List.setIfInBounds_toArray, List.set_cons_zero, List.set_cons_succ]
          obtain ⟨WF, hWF⟩ : ∃ WF, WF = (W3.setRow (W2.heap.size) #[.int .i64 p, .slice (some ⟨wd.heap.size, 0, none⟩) n n, .slice (some ⟨W1.heap.size, 0, none⟩) t t]) := ⟨_, rfl⟩
          have hbF : Below (wB.heap.size) wB WF := by rw [hWF]; exact S9
          have hRF : Rz WF (W2.heap.size) 38 #[.int .i64 p, .slice (some ⟨wd.heap.size, 0, none⟩) n n, .slice (some ⟨W1.heap.size, 0, none⟩) t t] := by rw [hWF]; exact hR3.set _
          have hDF : WF.rowIs (wd.heap.size) 2 n (fun _ => .int .i64 0) := by rw [hWF]; exact hD3.of_block (setRow_other _ _ _ _ (by omega))
          have hMF : WF.rowIs (W1.heap.size) 22 t (fun _ => .slice none 0 0) := by rw [hWF]; exact hM3.of_block (setRow_other _ _ _ _ (by omega))
          have hG : (wB.heap.size ≤ W2.heap.size ∧ wB.heap.size ≤ wd.heap.size ∧ wB.heap.size ≤ W1.heap.size) ∧ W2.heap.size ≠ wd.heap.size ∧ W2.heap.size ≠ W1.heap.size ∧ wd.heap.size ≠ W1.heap.size := by omega
          rw [← hWF]
          clear hWF S9
          go_wp2
          go_meet
          exact ⟨_, _, _, rfl, Lib.hid ⟨hbF, hG.1, hG.2, rowIs3 hRF, hDF, hMF⟩⟩
      · obtain ⟨W4, hW4⟩ : ∃ W', W' = W1.alloc (.cells #[.int .i64 0, .slice none 0 0, .slice none 0 0] 38) := ⟨_, rfl⟩
        have hb4 : Below W1.heap.size W1 W4 := by rw [hW4]; exact below_alloc1 _ _
        have hz4 : W4.heap.size = W1.heap.size + 1 := by rw [hW4]; simp
        have S4 : Below (wB.heap.size) wB W4 := S1.trans (hb4.mono (by omega))
        have hD4 := hD1.of_block (hb4.block _ hD1.lt)
        have hR4 : Rz W4 W1.heap.size 38 #[.int .i64 0, .slice none 0 0, .slice none 0 0] := by rw [hW4]; exact Rz.new _ _ _
        refine op_mem (i := 8) (v := .pointer (some ⟨W1.heap.size, 0, none⟩)) (w' := W4) (some 4) rfl rfl rfl (by rw [hW4]; go_simp) ?_
        refine ⟨S4, ?_⟩
        refine held_one (i := 6) (by kernel_rfl) ?_
        · obtain ⟨W5, hW5⟩ : ∃ W', W' = W4.alloc (.cells (madeCells #[.slice none 0 0] t) 22) := ⟨_, rfl⟩
          have hb5 : Below W4.heap.size W4 W5 := by rw [hW5]; exact below_alloc1 _ _
          have hz5 : W5.heap.size = W4.heap.size + 1 := by rw [hW5]; simp
          have S5 : Below (wB.heap.size) wB W5 := S4.trans (hb5.mono (by omega))
          have hD5 := hD4.of_block (hb5.block _ hD4.lt)
          have hR5 := hR4.next hb5
          have hM5 : W5.rowIs W4.heap.size 22 t (fun _ => .slice none 0 0) := by rw [hW5]; exact World.rowIs_made W4 _ _ _
          refine op_make (i := 6) (v := .slice (some ⟨W4.heap.size, 0, none⟩) t t) (w' := W5) (x := .int .i64 (t : Int)) (y := .int .i64 (t : Int)) (some 19) 36 (.tmp 18) (.tmp 18) rfl rfl rfl rfl (by kernel_rfl) (by kernel_rfl) (by rw [hW5]; exact hmk2 _) ?_
          refine ⟨S5, ?_⟩
          refine held_take (i := 7) (v := .agg #[.int .i64 p, .slice (some ⟨wd.heap.size, 0, none⟩) n n, .slice (some ⟨W4.heap.size, 0, none⟩) t t]) (some 20) rfl rfl (by kernel_rfl) (by kernel_rfl) (by kernel_rfl) (fun _ _ _ h => h) (yieldsIf_run (by kernel_rfl) (fun W _ => by kernel_rfl)) S5 ?_
          have S9 : Below (wB.heap.size) wB (W5.setRow (W1.heap.size) #[.int .i64 p, .slice (some ⟨wd.heap.size, 0, none⟩) n n, .slice (some ⟨W4.heap.size, 0, none⟩) t t]) := below_setRow S5 (by omega) _
          refine held_one (i := 9) (by kernel_rfl) ?_
          refine op_row (i := 9) rfl rfl rfl 38 (.tmp 4) (.tmp 20) rfl (W1.heap.size) #[.int .i64 p, .slice (some ⟨wd.heap.size, 0, none⟩) n n, .slice (some ⟨W4.heap.size, 0, none⟩) t t] (by kernel_rfl) (by kernel_rfl) 38 _ hR5 (infoCo _ _ _) (by kernel_rfl) (by kernel_rfl) ?_
          refine ⟨S9, ?_⟩
          refine wpAnyH_done (by kernel_rfl) ?_ _
          simp only [Act.put, List.setIfInBounds_toArray, List.set_cons_zero, List.set_cons_succ]
          obtain ⟨WF, hWF⟩ : ∃ WF, WF = (W5.setRow (W1.heap.size) #[.int .i64 p, .slice (some ⟨wd.heap.size, 0, none⟩) n n, .slice (some ⟨W4.heap.size, 0, none⟩) t t]) := ⟨_, rfl⟩
          have hbF : Below (wB.heap.size) wB WF := by rw [hWF]; exact S9
          have hRF : Rz WF (W1.heap.size) 38 #[.int .i64 p, .slice (some ⟨wd.heap.size, 0, none⟩) n n, .slice (some ⟨W4.heap.size, 0, none⟩) t t] := by rw [hWF]; exact hR5.set _
          have hDF : WF.rowIs (wd.heap.size) 2 n (fun _ => .int .i64 0) := by rw [hWF]; exact hD5.of_block (setRow_other _ _ _ _ (by omega))
          have hMF : WF.rowIs (W4.heap.size) 22 t (fun _ => .slice none 0 0) := by rw [hWF]; exact hM5.of_block (setRow_other _ _ _ _ (by omega))
          have hG : (wB.heap.size ≤ W1.heap.size ∧ wB.heap.size ≤ wd.heap.size ∧ wB.heap.size ≤ W4.heap.size) ∧ W1.heap.size ≠ wd.heap.size ∧ W1.heap.size ≠ W4.heap.size ∧ wd.heap.size ≠ W4.heap.size := by omega
          rw [← hWF]
          clear hWF S9
          go_wp2
          go_meet
          exact ⟨_, _, _, rfl, Lib.hid ⟨hbF, hG.1, hG.2, rowIs3 hRF, hDF, hMF⟩⟩
    · obtain ⟨W6, hW6⟩ : ∃ W', W' = wd.alloc (.cells (madeCells #[.slice none 0 0] t) 22) := ⟨_, rfl⟩
      have hb6 : Below wd.heap.size wd W6 := by rw [hW6]; exact below_alloc1 _ _
      have hz6 : W6.heap.size = wd.heap.size + 1 := by rw [hW6]; simp
      have S6 : Below (wB.heap.size) wB W6 := S0.trans (hb6.mono (by omega))
      have hM6 : W6.rowIs wd.heap.size 22 t (fun _ => .slice none 0 0) := by rw [hW6]; exact World.rowIs_made wd _ _ _
      refine op_make (i := 6) (v := .slice (some ⟨wd.heap.size, 0, none⟩) t t) (w' := W6) (x := .int .i64 (t : Int)) (y := .int .i64 (t : Int)) (some 19) 36 (.tmp 18) (.tmp 18) rfl rfl rfl rfl (by kernel_rfl) (by kernel_rfl) (by rw [hW6]; exact hmk2 _) ?_
      refine ⟨S6, ?_⟩
      refine held_two (i := 4) (j := 8) (by kernel_rfl) ?_ ?_
      · obtain ⟨W7, hW7⟩ : ∃ W', W' = W6.alloc (.cells (madeCells #[.int .i64 0] n) 2) := ⟨_, rfl⟩
        have hb7 : Below W6.heap.size W6 W7 := by rw [hW7]; exact below_alloc1 _ _
        have hz7 : W7.heap.size = W6.heap.size + 1 := by rw [hW7]; simp
        have S7 : Below (wB.heap.size) wB W7 := S6.trans (hb7.mono (by omega))
        have hM7 := hM6.of_block (hb7.block _ hM6.lt)
        have hD7 : W7.rowIs W6.heap.size 2 n (fun _ => .int .i64 0) := by rw [hW7]; exact World.rowIs_made W6 _ _ _
        refine op_make (i := 4) (v := .slice (some ⟨W6.heap.size, 0, none⟩) n n) (w' := W7) (x := .int .i64 (n : Int)) (y := .int .i64 (n : Int)) (some 17) 35 (.tmp 16) (.tmp 16) rfl rfl rfl rfl (by kernel_rfl) (by kernel_rfl) (by rw [hW7]; exact hmk _) ?_
        refine ⟨S7, ?_⟩
        refine held_take (i := 7) (v := .agg #[.int .i64 p, .slice (some ⟨W6.heap.size, 0, none⟩) n n, .slice (some ⟨wd.heap.size, 0, none⟩) t t]) (some 20) rfl rfl (by kernel_rfl) (by kernel_rfl) (by kernel_rfl) (fun _ _ _ h => h) (yieldsIf_run (by kernel_rfl) (fun W _ => by kernel_rfl)) S7 ?_
        refine held_one (i := 8) (by kernel_rfl) ?_
        · obtain ⟨W8, hW8⟩ : ∃ W', W' = W7.alloc (.cells #[.int .i64 0, .slice none 0 0, .slice none 0 0] 38) := ⟨_, rfl⟩
          have hb8 : Below W7.heap.size W7 W8 := by rw [hW8]; exact below_alloc1 _ _
          have hz8 : W8.heap.size = W7.heap.size + 1 := by rw [hW8]; simp
          have S8 : Below (wB.heap.size) wB W8 := S7.trans (hb8.mono (by omega))
          have hM8 := hM7.of_block (hb8.block _ hM7.lt)
          have hD8 := hD7.of_block (hb8.block _ hD7.lt)
          have hR8 : Rz W8 W7.heap.size 38 #[.int .i64 0, .slice none 0 0, .slice none 0 0] := by rw [hW8]; exact Rz.new _ _ _
          refine op_mem (i := 8) (v := .pointer (some ⟨W7.heap.size, 0, none⟩)) (w' := W8) (some 4) rfl rfl rfl (by rw [hW8]; go_simp) ?_
          refine ⟨S8, ?_⟩
          have S9 : Below (wB.heap.size) wB (W8.setRow (W7.heap.size) #[.int .i64 p, .slice (some ⟨W6.heap.size, 0, none⟩) n n, .slice (some ⟨wd.heap.size, 0, none⟩) t t]) := below_setRow S8 (by omega) _
          refine held_one (i := 9) (by kernel_rfl) ?_
          refine op_row (i := 9) rfl rfl rfl 38 (.tmp 4) (.tmp 20) rfl (W7.heap.size) #[.int .i64 p, .slice (some ⟨W6.heap.size, 0, none⟩) n n, .slice (some ⟨wd.heap.size, 0, none⟩) t t] (by kernel_rfl) (by kernel_rfl) 38 _ hR8 (infoCo _ _ _) (by kernel_rfl) (by kernel_rfl) ?_
          refine ⟨S9, ?_⟩
          refine wpAnyH_done (by kernel_rfl) ?_ _
          simp only [Act.put, List.setIfInBounds_toArray, List.set_cons_zero, List.set_cons_succ]
          obtain ⟨WF, hWF⟩ : ∃ WF, WF = (W8.setRow (W7.heap.size) #[.int .i64 p, .slice (some ⟨W6.heap.size, 0, none⟩) n n, .slice (some ⟨wd.heap.size, 0, none⟩) t t]) := ⟨_, rfl⟩
          have hbF : Below (wB.heap.size) wB WF := by rw [hWF]; exact S9
          have hRF : Rz WF (W7.heap.size) 38 #[.int .i64 p, .slice (some ⟨W6.heap.size, 0, none⟩) n n, .slice (some ⟨wd.heap.size, 0, none⟩) t t] := by rw [hWF]; exact hR8.set _
          have hDF : WF.rowIs (W6.heap.size) 2 n (fun _ => .int .i64 0) := by rw [hWF]; exact hD8.of_block (setRow_other _ _ _ _ (by omega))
          have hMF : WF.rowIs (wd.heap.size) 22 t (fun _ => .slice none 0 0) := by rw [hWF]; exact hM8.of_block (setRow_other _ _ _ _ (by omega))
          have hG : (wB.heap.size ≤ W7.heap.size ∧ wB.heap.size ≤ W6.heap.size ∧ wB.heap.size ≤ wd.heap.size) ∧ W7.heap.size ≠ W6.heap.size ∧ W7.heap.size ≠ wd.heap.size ∧ W6.heap.size ≠ wd.heap.size := by omega
          rw [← hWF]
          clear hWF S9
          go_wp2
          go_meet
          exact ⟨_, _, _, rfl, Lib.hid ⟨hbF, hG.1, hG.2, rowIs3 hRF, hDF, hMF⟩⟩
      · obtain ⟨W9, hW9⟩ : ∃ W', W' = W6.alloc (.cells #[.int .i64 0, .slice none 0 0, .slice none 0 0] 38) := ⟨_, rfl⟩
        have hb9 : Below W6.heap.size W6 W9 := by rw [hW9]; exact below_alloc1 _ _
        have hz9 : W9.heap.size = W6.heap.size + 1 := by rw [hW9]; simp
        have S9 : Below (wB.heap.size) wB W9 := S6.trans (hb9.mono (by omega))
        have hM9 := hM6.of_block (hb9.block _ hM6.lt)
        have hR9 : Rz W9 W6.heap.size 38 #[.int .i64 0, .slice none 0 0, .slice none 0 0] := by rw [hW9]; exact Rz.new _ _ _
        refine op_mem (i := 8) (v := .pointer (some ⟨W6.heap.size, 0, none⟩)) (w' := W9) (some 4) rfl rfl rfl (by rw [hW9]; go_simp) ?_
        refine ⟨S9, ?_⟩
        refine held_one (i := 4) (by kernel_rfl) ?_
        · obtain ⟨W10, hW10⟩ : ∃ W', W' = W9.alloc (.cells (madeCells #[.int .i64 0] n) 2) := ⟨_, rfl⟩
          have hb10 : Below W9.heap.size W9 W10 := by rw [hW10]; exact below_alloc1 _ _
          have hz10 : W10.heap.size = W9.heap.size + 1 := by rw [hW10]; simp
          have S10 : Below (wB.heap.size) wB W10 := S9.trans (hb10.mono (by omega))
          have hM10 := hM9.of_block (hb10.block _ hM9.lt)
          have hR10 := hR9.next hb10
          have hD10 : W10.rowIs W9.heap.size 2 n (fun _ => .int .i64 0) := by rw [hW10]; exact World.rowIs_made W9 _ _ _
          refine op_make (i := 4) (v := .slice (some ⟨W9.heap.size, 0, none⟩) n n) (w' := W10) (x := .int .i64 (n : Int)) (y := .int .i64 (n : Int)) (some 17) 35 (.tmp 16) (.tmp 16) rfl rfl rfl rfl (by kernel_rfl) (by kernel_rfl) (by rw [hW10]; exact hmk _) ?_
          refine ⟨S10, ?_⟩
          refine held_take (i := 7) (v := .agg #[.int .i64 p, .slice (some ⟨W9.heap.size, 0, none⟩) n n, .slice (some ⟨wd.heap.size, 0, none⟩) t t]) (some 20) rfl rfl (by kernel_rfl) (by kernel_rfl) (by kernel_rfl) (fun _ _ _ h => h) (yieldsIf_run (by kernel_rfl) (fun W _ => by kernel_rfl)) S10 ?_
          have S9 : Below (wB.heap.size) wB (W10.setRow (W6.heap.size) #[.int .i64 p, .slice (some ⟨W9.heap.size, 0, none⟩) n n, .slice (some ⟨wd.heap.size, 0, none⟩) t t]) := below_setRow S10 (by omega) _
          refine held_one (i := 9) (by kernel_rfl) ?_
          refine op_row (i := 9) rfl rfl rfl 38 (.tmp 4) (.tmp 20) rfl (W6.heap.size) #[.int .i64 p, .slice (some ⟨W9.heap.size, 0, none⟩) n n, .slice (some ⟨wd.heap.size, 0, none⟩) t t] (by kernel_rfl) (by kernel_rfl) 38 _ hR10 (infoCo _ _ _) (by kernel_rfl) (by kernel_rfl) ?_
          refine ⟨S9, ?_⟩
          refine wpAnyH_done (by kernel_rfl) ?_ _
          simp only [Act.put, List.setIfInBounds_toArray, List.set_cons_zero, List.set_cons_succ]
          obtain ⟨WF, hWF⟩ : ∃ WF, WF = (W10.setRow (W6.heap.size) #[.int .i64 p, .slice (some ⟨W9.heap.size, 0, none⟩) n n, .slice (some ⟨wd.heap.size, 0, none⟩) t t]) := ⟨_, rfl⟩
          have hbF : Below (wB.heap.size) wB WF := by rw [hWF]; exact S9
          have hRF : Rz WF (W6.heap.size) 38 #[.int .i64 p, .slice (some ⟨W9.heap.size, 0, none⟩) n n, .slice (some ⟨wd.heap.size, 0, none⟩) t t] := by rw [hWF]; exact hR10.set _
          have hDF : WF.rowIs (W9.heap.size) 2 n (fun _ => .int .i64 0) := by rw [hWF]; exact hD10.of_block (setRow_other _ _ _ _ (by omega))
          have hMF : WF.rowIs (wd.heap.size) 22 t (fun _ => .slice none 0 0) := by rw [hWF]; exact hM10.of_block (setRow_other _ _ _ _ (by omega))
          have hG : (wB.heap.size ≤ W6.heap.size ∧ wB.heap.size ≤ W9.heap.size ∧ wB.heap.size ≤ wd.heap.size) ∧ W6.heap.size ≠ W9.heap.size ∧ W6.heap.size ≠ wd.heap.size ∧ W9.heap.size ≠ wd.heap.size := by omega
          rw [← hWF]
          clear hWF S9
          go_wp2
          go_meet
          exact ⟨_, _, _, rfl, Lib.hid ⟨hbF, hG.1, hG.2, rowIs3 hRF, hDF, hMF⟩⟩
    · obtain ⟨W11, hW11⟩ : ∃ W', W' = wd.alloc (.cells #[.int .i64 0, .slice none 0 0, .slice none 0 0] 38) := ⟨_, rfl⟩
      have hb11 : Below wd.heap.size wd W11 := by rw [hW11]; exact below_alloc1 _ _
      have hz11 : W11.heap.size = wd.heap.size + 1 := by rw [hW11]; simp
      have S11 : Below (wB.heap.size) wB W11 := S0.trans (hb11.mono (by omega))
      have hR11 : Rz W11 wd.heap.size 38 #[.int .i64 0, .slice none 0 0, .slice none 0 0] := by rw [hW11]; exact Rz.new _ _ _
      refine op_mem (i := 8) (v := .pointer (some ⟨wd.heap.size, 0, none⟩)) (w' := W11) (some 4) rfl rfl rfl (by rw [hW11]; go_simp) ?_
      refine ⟨S11, ?_⟩
      refine held_two (i := 4) (j := 6) (by kernel_rfl) ?_ ?_
      · obtain ⟨W12, hW12⟩ : ∃ W', W' = W11.alloc (.cells (madeCells #[.int .i64 0] n) 2) := ⟨_, rfl⟩
        have hb12 : Below W11.heap.size W11 W12 := by rw [hW12]; exact below_alloc1 _ _
        have hz12 : W12.heap.size = W11.heap.size + 1 := by rw [hW12]; simp
        have S12 : Below (wB.heap.size) wB W12 := S11.trans (hb12.mono (by omega))
        have hR12 := hR11.next hb12
        have hD12 : W12.rowIs W11.heap.size 2 n (fun _ => .int .i64 0) := by rw [hW12]; exact World.rowIs_made W11 _ _ _
        refine op_make (i := 4) (v := .slice (some ⟨W11.heap.size, 0, none⟩) n n) (w' := W12) (x := .int .i64 (n : Int)) (y := .int .i64 (n : Int)) (some 17) 35 (.tmp 16) (.tmp 16) rfl rfl rfl rfl (by kernel_rfl) (by kernel_rfl) (by rw [hW12]; exact hmk _) ?_
        refine ⟨S12, ?_⟩
        refine held_one (i := 6) (by kernel_rfl) ?_
        · obtain ⟨W13, hW13⟩ : ∃ W', W' = W12.alloc (.cells (madeCells #[.slice none 0 0] t) 22) := ⟨_, rfl⟩
          have hb13 : Below W12.heap.size W12 W13 := by rw [hW13]; exact below_alloc1 _ _
          have hz13 : W13.heap.size = W12.heap.size + 1 := by rw [hW13]; simp
          have S13 : Below (wB.heap.size) wB W13 := S12.trans (hb13.mono (by omega))
          have hR13 := hR12.next hb13
          have hD13 := hD12.of_block (hb13.block _ hD12.lt)
          have hM13 : W13.rowIs W12.heap.size 22 t (fun _ => .slice none 0 0) := by rw [hW13]; exact World.rowIs_made W12 _ _ _
          refine op_make (i := 6) (v := .slice (some ⟨W12.heap.size, 0, none⟩) t t) (w' := W13) (x := .int .i64 (t : Int)) (y := .int .i64 (t : Int)) (some 19) 36 (.tmp 18) (.tmp 18) rfl rfl rfl rfl (by kernel_rfl) (by kernel_rfl) (by rw [hW13]; exact hmk2 _) ?_
          refine ⟨S13, ?_⟩
          refine held_take (i := 7) (v := .agg #[.int .i64 p, .slice (some ⟨W11.heap.size, 0, none⟩) n n, .slice (some ⟨W12.heap.size, 0, none⟩) t t]) (some 20) rfl rfl (by kernel_rfl) (by kernel_rfl) (by kernel_rfl) (fun _ _ _ h => h) (yieldsIf_run (by kernel_rfl) (fun W _ => by kernel_rfl)) S13 ?_
          have S9 : Below (wB.heap.size) wB (W13.setRow (wd.heap.size) #[.int .i64 p, .slice (some ⟨W11.heap.size, 0, none⟩) n n, .slice (some ⟨W12.heap.size, 0, none⟩) t t]) := below_setRow S13 (by omega) _
          refine held_one (i := 9) (by kernel_rfl) ?_
          refine op_row (i := 9) rfl rfl rfl 38 (.tmp 4) (.tmp 20) rfl (wd.heap.size) #[.int .i64 p, .slice (some ⟨W11.heap.size, 0, none⟩) n n, .slice (some ⟨W12.heap.size, 0, none⟩) t t] (by kernel_rfl) (by kernel_rfl) 38 _ hR13 (infoCo _ _ _) (by kernel_rfl) (by kernel_rfl) ?_
          refine ⟨S9, ?_⟩
          refine wpAnyH_done (by kernel_rfl) ?_ _
          simp only [Act.put, List.setIfInBounds_toArray, List.set_cons_zero, List.set_cons_succ]
          obtain ⟨WF, hWF⟩ : ∃ WF, WF = (W13.setRow (wd.heap.size) #[.int .i64 p, .slice (some ⟨W11.heap.size, 0, none⟩) n n, .slice (some ⟨W12.heap.size, 0, none⟩) t t]) := ⟨_, rfl⟩
          have hbF : Below (wB.heap.size) wB WF := by rw [hWF]; exact S9
          have hRF : Rz WF (wd.heap.size) 38 #[.int .i64 p, .slice (some ⟨W11.heap.size, 0, none⟩) n n, .slice (some ⟨W12.heap.size, 0, none⟩) t t] := by rw [hWF]; exact hR13.set _
          have hDF : WF.rowIs (W11.heap.size) 2 n (fun _ => .int .i64 0) := by rw [hWF]; exact hD13.of_block (setRow_other _ _ _ _ (by omega))
          have hMF : WF.rowIs (W12.heap.size) 22 t (fun _ => .slice none 0 0) := by rw [hWF]; exact hM13.of_block (setRow_other _ _ _ _ (by omega))
          have hG : (wB.heap.size ≤ wd.heap.size ∧ wB.heap.size ≤ W11.heap.size ∧ wB.heap.size ≤ W12.heap.size) ∧ wd.heap.size ≠ W11.heap.size ∧ wd.heap.size ≠ W12.heap.size ∧ W11.heap.size ≠ W12.heap.size := by omega
          rw [← hWF]
          clear hWF S9
          go_wp2
          go_meet
          exact ⟨_, _, _, rfl, Lib.hid ⟨hbF, hG.1, hG.2, rowIs3 hRF, hDF, hMF⟩⟩
      · obtain ⟨W14, hW14⟩ : ∃ W', W' = W11.alloc (.cells (madeCells #[.slice none 0 0] t) 22) := ⟨_, rfl⟩
        have hb14 : Below W11.heap.size W11 W14 := by rw [hW14]; exact below_alloc1 _ _
        have hz14 : W14.heap.size = W11.heap.size + 1 := by rw [hW14]; simp
        have S14 : Below (wB.heap.size) wB W14 := S11.trans (hb14.mono (by omega))
        have hR14 := hR11.next hb14
        have hM14 : W14.rowIs W11.heap.size 22 t (fun _ => .slice none 0 0) := by rw [hW14]; exact World.rowIs_made W11 _ _ _
        refine op_make (i := 6) (v := .slice (some ⟨W11.heap.size, 0, none⟩) t t) (w' := W14) (x := .int .i64 (t : Int)) (y := .int .i64 (t : Int)) (some 19) 36 (.tmp 18) (.tmp 18) rfl rfl rfl rfl (by kernel_rfl) (by kernel_rfl) (by rw [hW14]; exact hmk2 _) ?_
        refine ⟨S14, ?_⟩
        refine held_one (i := 4) (by kernel_rfl) ?_
        · obtain ⟨W15, hW15⟩ : ∃ W', W' = W14.alloc (.cells (madeCells #[.int .i64 0] n) 2) := ⟨_, rfl⟩
          have hb15 : Below W14.heap.size W14 W15 := by rw [hW15]; exact below_alloc1 _ _
          have hz15 : W15.heap.size = W14.heap.size + 1 := by rw [hW15]; simp
          have S15 : Below (wB.heap.size) wB W15 := S14.trans (hb15.mono (by omega))
          have hR15 := hR14.next hb15
          have hM15 := hM14.of_block (hb15.block _ hM14.lt)
          have hD15 : W15.rowIs W14.heap.size 2 n (fun _ => .int .i64 0) := by rw [hW15]; exact World.rowIs_made W14 _ _ _
          refine op_make (i := 4) (v := .slice (some ⟨W14.heap.size, 0, none⟩) n n) (w' := W15) (x := .int .i64 (n : Int)) (y := .int .i64 (n : Int)) (some 17) 35 (.tmp 16) (.tmp 16) rfl rfl rfl rfl (by kernel_rfl) (by kernel_rfl) (by rw [hW15]; exact hmk _) ?_
          refine ⟨S15, ?_⟩
          refine held_take (i := 7) (v := .agg #[.int .i64 p, .slice (some ⟨W14.heap.size, 0, none⟩) n n, .slice (some ⟨W11.heap.size, 0, none⟩) t t]) (some 20) rfl rfl (by kernel_rfl) (by kernel_rfl) (by kernel_rfl) (fun _ _ _ h => h) (yieldsIf_run (by kernel_rfl) (fun W _ => by kernel_rfl)) S15 ?_
          have S9 : Below (wB.heap.size) wB (W15.setRow (wd.heap.size) #[.int .i64 p, .slice (some ⟨W14.heap.size, 0, none⟩) n n, .slice (some ⟨W11.heap.size, 0, none⟩) t t]) := below_setRow S15 (by omega) _
          refine held_one (i := 9) (by kernel_rfl) ?_
          refine op_row (i := 9) rfl rfl rfl 38 (.tmp 4) (.tmp 20) rfl (wd.heap.size) #[.int .i64 p, .slice (some ⟨W14.heap.size, 0, none⟩) n n, .slice (some ⟨W11.heap.size, 0, none⟩) t t] (by kernel_rfl) (by kernel_rfl) 38 _ hR15 (infoCo _ _ _) (by kernel_rfl) (by kernel_rfl) ?_
          refine ⟨S9, ?_⟩
          refine wpAnyH_done (by kernel_rfl) ?_ _
          simp only [Act.put, List.setIfInBounds_toArray, List.set_cons_zero, List.set_cons_succ]
          obtain ⟨WF, hWF⟩ : ∃ WF, WF = (W15.setRow (wd.heap.size) #[.int .i64 p, .slice (some ⟨W14.heap.size, 0, none⟩) n n, .slice (some ⟨W11.heap.size, 0, none⟩) t t]) := ⟨_, rfl⟩
          have hbF : Below (wB.heap.size) wB WF := by rw [hWF]; exact S9
          have hRF : Rz WF (wd.heap.size) 38 #[.int .i64 p, .slice (some ⟨W14.heap.size, 0, none⟩) n n, .slice (some ⟨W11.heap.size, 0, none⟩) t t] := by rw [hWF]; exact hR15.set _
          have hDF : WF.rowIs (W14.heap.size) 2 n (fun _ => .int .i64 0) := by rw [hWF]; exact hD15.of_block (setRow_other _ _ _ _ (by omega))
          have hMF : WF.rowIs (W11.heap.size) 22 t (fun _ => .slice none 0 0) := by rw [hWF]; exact hM15.of_block (setRow_other _ _ _ _ (by omega))
          have hG : (wB.heap.size ≤ wd.heap.size ∧ wB.heap.size ≤ W14.heap.size ∧ wB.heap.size ≤ W11.heap.size) ∧ wd.heap.size ≠ W14.heap.size ∧ wd.heap.size ≠ W11.heap.size ∧ W14.heap.size ≠ W11.heap.size := by omega
          rw [← hWF]
          clear hWF S9
          go_wp2
          go_meet
          exact ⟨_, _, _, rfl, Lib.hid ⟨hbF, hG.1, hG.2, rowIs3 hRF, hDF, hMF⟩⟩
  case rest =>
    obtain ⟨g, bd, bm, rfl, HDU⟩ := hcut
    clear hmk hmk2
    obtain ⟨wx, hwx⟩ : ∃ wx : World, wx = wc := ⟨_, rfl⟩
    subst hwx
    have hnx := HNB.out wx HDU.out.below
    have c0 := hnx.1.c0
    have c1 := hnx.1.c1
    have c2 := hnx.1.c2
    have c3 := hnx.1.c3
    have hxl := hnx.1.lt
    clear hnx
    go_wp2_with fail
    refine (cellsOf_any p dv av vv _).mono ?_
    rintro e w2 ⟨rfl, rfl⟩
    dsimp only
    go_wp2
    clear c0 c1 c2 c3
    have hB0 : Below wx.heap.size wx (wx.alloc (.cells #[.int .i64 p, dv, av, vv] 28)) := (Below.refl _ _).alloc (Nat.le_refl _) _
    have hd0 : (wx.alloc (.cells #[.int .i64 p, dv, av, vv] 28)).cell? ⟨wx.heap.size, 1, none⟩ = some dv := new_c1 wx p dv av vv
    have hs0 : (wx.alloc (.cells #[.int .i64 p, dv, av, vv] 28)).heap.size = wx.heap.size + 1 := by simp
    obtain ⟨W0, hW0⟩ : ∃ W0, W0 = wx.alloc (.cells #[.int .i64 p, dv, av, vv] 28) := ⟨_, rfl⟩
    rw [← hW0] at hB0 hd0 hs0 ⊢
    clear hW0
    have hdb := HDU.out.below.size
    have hgl := HDU.out.box.lt
    have hbdl := HDU.out.dims.lt
    have hbml := HDU.out.maps.lt
    have hBw : Below w.heap.size w W0 := (HX1.out.below.trans (HBB.out.mono HX1.out.below.size)).trans ((HDU.out.below.trans (hB0.mono hdb)).mono (by have := HX1.out.below.size; omega))
    have hst := cells_stops Fence.wide 7 trivial rfl (by decide) wx.heap.size dv ds (by have := HM.out; omega) (fun r hr => by have := (HOK.out.col r hr).1; have := HOK.out.h1; omega) w W0 (by omega) hd0 HX.out.dims hBw
    have HD0 : Hid (Du wB W0 g bd bm n t p (fun s => .int .i64 ((tdl ds [] s : Nat) : Int)) (fun _ => .slice none 0 0)) := Lib.hid ((HDU.out.next hB0).congr (fun j _ => by simp [tdl]))
    have HS0 := Lib.hid hs0
    have HBW := Lib.hid hBw
    have hwb1 := HX1.out.below.size
    have hlo := HDU.out.lo
    have hne := HDU.out.ne
    have hsw : wx.heap.size < W0.heap.size := by omega
    clear HDU hB0 hd0 hs0 hBw
    refine (wpIn_wide (n := 8)).1 ?_
    refine wpIn_rangeFunc_cell rfl (by decide : 1 ≤ 8) (gf := 118) (lb := #[.pointer (some ⟨wx.heap.size, 0, none⟩)]) rfl trivial (enters_of Try.func118 (by kernel_rfl) rfl)
      hst belowK_t (belowK_b (by omega)) (Below.refl _ _) (fun _ => rfl)
      (fun pre W => Du wB W g bd bm n t p (fun s => .int .i64 ((tdl ds (pre.map (·.1)) s : Nat) : Int)) (fun _ => .slice none 0 0)) (fun _ _ _ => False)
      (du_own (fun (pre : List (CellIn ds)) => (fun s => .int .i64 ((tdl ds (pre.map (·.1)) s : Nat) : Int))) _ (by omega) (by omega) (by omega) (by omega)) (fun _ _ _ _ _ h _ _ => h)
      HD0.out (fun x => #[.int .i64 (x.1.1 : Int), .int .i64 (x.1.2 : Int)]) 5 101 wB.heap.size
      ?assign ?body ?done ?stop
    case assign =>
      rintro l pre x A K hI hKK
      simp only [cellV] at hKK ⊢
      have hsz := hI.below.size
      gi_wp2
      have hk := hKK A.heap.size _ hsz (World.alloc_heap_new A _) ((KeepsOthers.alloc _ _).from _) ((Below.refl _ A).alloc (by omega) _) (hI.next ((Below.refl _ _).alloc (Nat.le_refl _) _))
      simp at hk
      refine Eq.mp ?_ hk
      congr 1
      all_goals (try congr 1)
    case body =>
      rintro l pre x Bx A hl ⟨r, hr⟩ hI hBx hX hlt
      obtain ⟨⟨i, j⟩, hxm⟩ := x
      dsimp only at hX
      have hmf := mem_cells.1 hxm
      dsimp only at hmf
      have hcol : (ds.getD i []).length = q := by rw [getD_of_lt _ hmf.1, (HOK.out.col _ (List.getElem_mem hmf.1)).1]; exact HQ.out.symm
      have hmm : ds.length = m := HM.out.symm
      obtain ⟨s, hs⟩ : ∃ s, s = i + j := ⟨_, rfl⟩
      have hst : s < n := by have := HN.out; omega
      have hi4 : i ≤ 4 := by omega
      have hj4 : j ≤ 4 := by omega
      obtain ⟨d, hd⟩ : ∃ d, d = cdim ds (i, j) := ⟨_, rfl⟩
      have hcd := cdim_cast HOK.out hxm
      rw [← hd] at hcd
      have hd4 := hcd.2
      obtain ⟨z, hz⟩ : ∃ z, z = tdl ds (pre.map (·.1)) s := ⟨_, rfl⟩
      have hz64 : z ≤ 64 := by rw [hz]; have h1 := tdl_le HOK.out pre s; have h2 := cells_le HOK.out; omega
      have HIA := Lib.hid hI
      have hsz := hI.below.size
      have HNA : Hid (∀ X, Below A.heap.size A X → DBx w X w.heap.size p dv av vv ds ac dn) := Lib.hid (fun X hb => (HNB.out X (HIA.out.below.trans (hb.mono hsz))).1)
      have HG1 : Hid (∀ X, Below A.heap.size A X → X.cell? ⟨g, 1, none⟩ = some (.slice (some ⟨bd, 0, none⟩) n n)) := Lib.hid (fun X hb => later hb (Nat.le_refl _) (HIA.out.box.cell (i := 1) (by omega)))
      have HDZ : Hid (∀ X, Below A.heap.size A X → X.cell? ⟨bd, 0 + s, none⟩ = some (.int .i64 (z : Int))) := Lib.hid (fun X hb => by rw [Nat.zero_add, hz]; exact later hb (Nat.le_refl _) (HIA.out.dims.cell hst))
      have x0 : A.cell? ⟨Bx, 0, none⟩ = some (.int .i64 (i : Int)) := by simp [World.cell?, hX]
      have x1 : A.cell? ⟨Bx, 1, none⟩ = some (.int .i64 (j : Int)) := by simp [World.cell?, hX]
      have HX0 : Hid (∀ X, Below A.heap.size A X → X.cell? ⟨Bx, 0, none⟩ = some (.int .i64 (i : Int)) ∧ X.cell? ⟨Bx, 1, none⟩ = some (.int .i64 (j : Int))) := Lib.hid (fun X hb => ⟨later hb (Nat.le_refl _) x0, later hb (Nat.le_refl _) x1⟩)
      have HDC : Hid (∀ X, Below A.heap.size A X → Calls Try.prog 95 #[.agg #[.int .i64 p, dv, av, vv], .agg #[.int .i64 (i : Int), .int .i64 (j : Int)]] X fun e w' => e = .returned (.int .i64 (d : Int)) ∧ Below A.heap.size A w') := Lib.hid (fun X hb => by
        rw [hcd.1]
        exact (dimOfCell_any p i j _ _ _ ds X (HNA.out X hb).dx.dims ⟨by omega, fun r hr => by have := (HOK.out.col r hr).1; have := HOK.out.h1; show r.length ≤ _; omega⟩ (by omega) (by omega) (by omega) (fun _ => by simp only [Int.toNat_natCast]; exact Int.ofNat_lt.2 hmf.2)).mono fun _ _ hh => ⟨hh.1, hb.trans (hh.2.mono hb.size)⟩)
      have HFIN : Hid (∀ X, Below A.heap.size A X → KeepsFrom W0.heap.size A (X.setCell ⟨bd, 0 + s, none⟩ (.int .i64 ((z : Int) + (d : Int)))) ∧ Below w.heap.size A (X.setCell ⟨bd, 0 + s, none⟩ (.int .i64 ((z : Int) + (d : Int)))) ∧ Du wB (X.setCell ⟨bd, 0 + s, none⟩ (.int .i64 ((z : Int) + (d : Int)))) g bd bm n t p (fun s => .int .i64 ((tdl ds ((pre ++ ([⟨(i, j), hxm⟩] : List (CellIn ds))).map (·.1)) s : Nat) : Int)) (fun _ => .slice none 0 0)) := Lib.hid (fun X hb => by
        rw [Nat.zero_add]
        refine ⟨(keepsFrom_below hb).trans ((KeepsOthers.setCell _ _ _).from _), (hb.mono (by omega)).setCell (p := ⟨bd, s, none⟩) (by show _ ≤ bd; omega) _, ((HIA.out.next hb).setD s _).congr (fun a ha => ?_)⟩
        have e : (pre ++ ([⟨(i, j), hxm⟩] : List (CellIn ds))).map (·.1) = pre.map (·.1) ++ [(i, j)] := by rw [List.map_append]; rfl
        rw [e, tdl_snoc, ← hd]
        by_cases ea : a = s
        · subst ea; rw [if_pos rfl, if_pos (by simp [onD, hs]), hz]; simp
        · rw [if_neg ea, if_neg (by simp [onD]; omega), Nat.add_zero])
      have hwij : IntKind.i64.wrap ((i : Int) + (j : Int)) = (s : Int) := by rw [show (i : Int) + (j : Int) = (s : Int) by omega]; exact IntWalk.i64_in _ (by omega)
      clear hI hX hr x0 x1 hd hcd hz hs hmf hcol hmm hlt hBx
      gi_wp2_with fail
      refine wpIn_region_last (fun X => Below A.heap.size A X) 14 (by kernel_rfl) (by kernel_rfl) (fun ⟨_, _, h⟩ => h) rfl (by kernel_rfl) ?_
      have S0 : Below A.heap.size A A.drew := (Below.refl _ _).drew
      change wpAnyH _ _ _ _ _ _ _ _ A.drew
      generalize A.drew = wd at *
      refine held_take (i := 0) (v := .pointer (some ⟨g, 1, none⟩)) (some 24) rfl rfl (by kernel_rfl) (by kernel_rfl) (by kernel_rfl) (fun _ _ _ h => h) (yieldsIf_run (by kernel_rfl) (fun W _ => by kernel_rfl)) S0 ?_
      refine held_take (i := 1) (v := .slice (some ⟨bd, 0, none⟩) n n) (some 25) rfl rfl (by kernel_rfl) (by kernel_rfl) (by kernel_rfl) (fun _ _ _ h => h) (yieldsIf_cell (by kernel_rfl) rfl (by kernel_rfl) (fun W h => hloadD W (HG1.out W h))) S0 ?_
      refine held_take (i := 2) (v := .pointer (some ⟨Bx, 0, none⟩)) (some 26) rfl rfl (by kernel_rfl) (by kernel_rfl) (by kernel_rfl) (fun _ _ _ h => h) (yieldsIf_run (by kernel_rfl) (fun W _ => by kernel_rfl)) S0 ?_
      refine held_take (i := 3) (v := .int .i64 (i : Int)) (some 27) rfl rfl (by kernel_rfl) (by kernel_rfl) (by kernel_rfl) (fun _ _ _ h => h) (yieldsIf_cell (by kernel_rfl) rfl (by kernel_rfl) (fun W h => hloadIn W (HX0.out W h).1)) S0 ?_
      refine held_take (i := 4) (v := .pointer (some ⟨Bx, 1, none⟩)) (some 28) rfl rfl (by kernel_rfl) (by kernel_rfl) (by kernel_rfl) (fun _ _ _ h => h) (yieldsIf_run (by kernel_rfl) (fun W _ => by kernel_rfl)) S0 ?_
      refine held_take (i := 5) (v := .int .i64 (j : Int)) (some 29) rfl rfl (by kernel_rfl) (by kernel_rfl) (by kernel_rfl) (fun _ _ _ h => h) (yieldsIf_cell (by kernel_rfl) rfl (by kernel_rfl) (fun W h => hloadIn W (HX0.out W h).2)) S0 ?_
      refine held_take (i := 6) (v := .int .i64 (s : Int)) (some 30) rfl rfl (by kernel_rfl) (by kernel_rfl) (by kernel_rfl) (fun _ _ _ h => h) (yieldsIf_bin (by kernel_rfl) rfl (by kernel_rfl) (by kernel_rfl) (fun _ => rfl) (haddA hwij)) S0 ?_
      refine held_take (i := 7) (v := .pointer (some ⟨bd, 0 + s, none⟩)) (some 31) rfl rfl (by kernel_rfl) (by kernel_rfl) (by kernel_rfl) (fun _ _ _ h => h) (yieldsIf_index (by kernel_rfl) rfl (by kernel_rfl) (by kernel_rfl) (hidxI bd 0 n hst)) S0 ?_
      refine held_take (i := 8) (v := .int .i64 (z : Int)) (some 32) rfl rfl (by kernel_rfl) (by kernel_rfl) (by kernel_rfl) (fun _ _ _ h => h) (yieldsIf_cell (by kernel_rfl) rfl (by kernel_rfl) (fun W h => hloadIn W (HDZ.out W h))) S0 ?_
      refine held_take (i := 9) (v := .agg #[.int .i64 p, dv, av, vv]) (some 33) rfl rfl (by kernel_rfl) (by kernel_rfl) (by kernel_rfl) (fun _ _ _ h => h) (yieldsIf_cell (by kernel_rfl) rfl (by kernel_rfl) (fun W h => hloadDb W (HNA.out W h))) S0 ?_
      refine held_take (i := 10) (v := .agg #[.int .i64 (i : Int), .int .i64 (j : Int)]) (some 34) rfl rfl (by kernel_rfl) (by kernel_rfl) (by kernel_rfl) (fun _ _ _ h => h) (yieldsIf_cell (by kernel_rfl) rfl (by kernel_rfl) (fun W h => hloadCe W (HX0.out W h).1 (HX0.out W h).2)) S0 ?_
      refine held_enter (i := 11) (some 35) (f := 95) (args := #[.agg #[.int .i64 p, dv, av, vv], .agg #[.int .i64 (i : Int), .int .i64 (j : Int)]]) (by kernel_rfl) rfl rfl rfl (by kernel_rfl) (HDC.out _ S0) ?_ (fun c w' h => by cases h.1) (fun w' h => by cases h.1)
      rintro e3 W3 ⟨he3, S1⟩
      injection he3 with he3
      subst he3
      refine ⟨S1, ?_⟩
      refine held_take (i := 12) (v := .int .i64 ((z : Int) + (d : Int))) (some 36) rfl rfl (by kernel_rfl) (by kernel_rfl) (by kernel_rfl) (fun _ _ _ h => h) (yieldsIf_bin (by kernel_rfl) rfl (by kernel_rfl) (by kernel_rfl) (fun _ => rfl) (haddA (IntWalk.i64_in _ (by omega)))) S1 ?_
      refine held_take (i := 13) (v := .pointer (some ⟨bd, 0 + s, none⟩)) (some 37) rfl rfl (by kernel_rfl) (by kernel_rfl) (by kernel_rfl) (fun _ _ _ h => h) (yieldsIf_index (by kernel_rfl) rfl (by kernel_rfl) (by kernel_rfl) (hidxI bd 0 n hst)) S1 ?_
      refine held_none (i := 14) (v := .bool false) rfl rfl (by kernel_rfl) (by kernel_rfl) (by kernel_rfl) (fun _ _ _ h => h) (yieldsIf_move (by kernel_rfl) rfl (by kernel_rfl)) S1 ?_
      have hac := HDZ.out _ S1
      have hfz : W3.frozen? ⟨bd, 0 + s, none⟩ = false := (HIA.out.next S1).dims.frozen _
      have HFI := HFIN.out _ S1
      refine wpAnyH_done (by kernel_rfl) (lastQ_storeJ rfl (by kernel_rfl) (by kernel_rfl) (.tmp 37) (.tmp 36) (by kernel_rfl) bd (0 + s) ((z : Int) + (d : Int)) _ (by kernel_rfl) (by kernel_rfl) hac hfz ?_) _
      exact HFI
    case done =>
      rintro D zs A hD hS hI hKD
      have HDU2 : Hid (Du wB A g bd bm n t p (fun j => .int .i64 ((tdim ds j : Nat) : Int)) (fun _ => .slice none 0 0)) := Lib.hid (hI.congr (fun j _ => by rw [hS]; rfl))
      have HKD := Lib.hid hKD
      have hDl : D < A.heap.size := (Array.getElem?_eq_some_iff.1 hKD).1
      have hDg : D ≠ g := by omega
      have hDd : D ≠ bd := by omega
      have hDm : D ≠ bm := by omega
      have HBO := Lib.hid HDU2.out.below
      have HBX := Lib.hid HDU2.out.box
      have HBD := Lib.hid HDU2.out.dims
      have hml := HDU2.out.maps.lt
      have HF0 : Hid (Fill3 A bm t 0 (fun _ => .slice none 0 0) (fun _ => A.heap.size) (tM ds ac dn)) := Lib.hid ⟨HDU2.out.maps, hml, fun _ h => absurd h (Nat.not_lt_zero _), Nat.le_refl _, fun _ _ h => absurd h (Nat.not_lt_zero _)⟩
      have hso := HBO.out.size
      clear hI hS hKD HDU2
      go_wp2
      go_loopw [6, 39] (fun _ i wr => ∃ (k : Nat) (f : Nat → Value) (b : Nat → Nat), k ≤ t ∧ i = .int .i64 (k : Int) ∧ Hid (Below wB.heap.size wB wr) ∧ Hid (wr.rowIs g 38 3 (box3 p (.slice (some ⟨bd, 0, none⟩) n n) (.slice (some ⟨bm, 0, none⟩) t t))) ∧ Hid (wr.rowIs bd 2 n (fun j => .int .i64 ((tdim ds j : Nat) : Int))) ∧ Hid (Fill3 wr bm t k f b (tM ds ac dn)) ∧ Hid (A.heap.size ≤ wr.heap.size ∧ A.heap.size ≤ b 0) ∧ Hid (wr.heap[D]? = some (.deferred (some [])))) (fun _ i _ => t - (intOf i).toNat)
      case atStart => exact ⟨0, _, _, Nat.zero_le _, rfl, HBO, HBX, HBD, HF0, Lib.hid ⟨Nat.le_refl _, Nat.le_refl _⟩, HKD⟩
      case round =>
        clear HBO HBX HBD HF0 HKD
        obtain ⟨k, f, b, hk, rfl, HB, HBX, HBD, HF, HLE, HKD⟩ := hrel
        obtain ⟨wy, hwy⟩ : ∃ wy : World, wy = wr := ⟨_, rfl⟩
        subst hwy
        by_cases hlk : k < t
        · have hkt : (k : Int) < (t : Int) := by omega
          have htk : k < ttop ds := by rw [← HTT.out]; exact hlk
          obtain ⟨r, hr⟩ : ∃ r, r = tdim ds (k + 1) := ⟨_, rfl⟩
          obtain ⟨c, hc⟩ : ∃ c, c = tdim ds k := ⟨_, rfl⟩
          have hr64 : r ≤ 64 := by rw [hr]; exact tdim_le HOK.out _
          have hc64 : c ≤ 64 := by rw [hc]; exact tdim_le HOK.out _
          have HTA := Lib.hid (ttab_ok HP.out HOK.out HT.out k)
          have HNY : Hid (∀ X, Below wy.heap.size wy X → DBx w X w.heap.size p dv av vv ds ac dn) := Lib.hid (fun X hb => (HNB.out X (HB.out.trans (hb.mono HB.out.size))).1)
          have HG2 : Hid (∀ X, Below wy.heap.size wy X → X.cell? ⟨g, 1, none⟩ = some (.slice (some ⟨bd, 0, none⟩) n n) ∧ X.cell? ⟨g, 2, none⟩ = some (.slice (some ⟨bm, 0, none⟩) t t)) := Lib.hid (fun X hb => ⟨later hb (Nat.le_refl _) (HBX.out.cell (i := 1) (by omega)), later hb (Nat.le_refl _) (HBX.out.cell (i := 2) (by omega))⟩)
          have HD1 : Hid (∀ X, Below wy.heap.size wy X → X.cell? ⟨bd, 0 + (k + 1), none⟩ = some (.int .i64 (r : Int)) ∧ X.cell? ⟨bd, 0 + k, none⟩ = some (.int .i64 (c : Int))) := Lib.hid (fun X hb => by
            rw [Nat.zero_add, Nat.zero_add, hr, hc]
            exact ⟨later hb (Nat.le_refl _) (HBD.out.cell (by have := HN.out; omega)), later hb (Nat.le_refl _) (HBD.out.cell (by have := HN.out; omega))⟩)
          have HNUM : Hid (∀ X, Below wy.heap.size wy X → Calls Try.prog 100 #[.agg #[.int .i64 p, dv, av, vv], .int .i64 ((k + 1 : Nat) : Int)] X fun e w' => ∃ v, e = .returned v ∧ Gb X.heap.size w' v (ttab ds ac dn k).flatten ∧ Below X.heap.size X w') := Lib.hid (fun X hb => by rw [ttab_flat]; exact totalNumbers_any p HP.out dv av vv ds ac dn k (by omega) X (HNY.out X hb).dx HOK.out HT.out)
          have hw1k : IntKind.i64.wrap ((k : Int) + 1) = ((k + 1 : Nat) : Int) := by rw [show (k : Int) + 1 = ((k + 1 : Nat) : Int) by omega]; exact IntWalk.i64_in _ (by omega)
          have hk1n : k + 1 < n := by have := HN.out; omega
          have hk0n : k < n := by omega
          have hlen : (ttab ds ac dn k).length = r := by have := HTA.out.1; omega
          have hcolm : ∀ x ∈ ttab ds ac dn k, x.length = c := fun x hx => by have := (HTA.out.2 x hx).1; omega
          have HLEN := Lib.hid hlen
          have HCOL := Lib.hid hcolm
          clear hr hc hlen hcolm
          go_upto_region 9 with fail
          refine wp_region_last (fun W => Below wy.heap.size wy W) 20 (by kernel_rfl) rfl (by kernel_rfl) ?_
          have S0 : Below wy.heap.size wy wy.drew := (Below.refl _ _).drew
          change wpAnyH _ _ _ _ _ _ _ _ wy.drew
          obtain ⟨wd, hwd⟩ : ∃ wd, wd = wy.drew := ⟨_, rfl⟩
          rw [← hwd] at S0 ⊢
          clear hwd
          refine held_take (i := 0) (v := .pointer (some ⟨g, 2, none⟩)) (some 42) rfl rfl (by kernel_rfl) (by kernel_rfl) (by kernel_rfl) (fun _ _ _ h => h) (yieldsIf_run (by kernel_rfl) (fun W _ => by kernel_rfl)) S0 ?_
          refine held_take (i := 1) (v := .slice (some ⟨bm, 0, none⟩) t t) (some 43) rfl rfl (by kernel_rfl) (by kernel_rfl) (by kernel_rfl) (fun _ _ _ h => h) (yieldsIf_cell (by kernel_rfl) rfl (by kernel_rfl) (fun W h => hloadM W (HG2.out W h).2)) S0 ?_
          refine held_take (i := 2) (v := .int .i64 (k : Int)) (some 44) rfl rfl (by kernel_rfl) (by kernel_rfl) (by kernel_rfl) (fun _ _ _ h => h) (yieldsIf_move (by kernel_rfl) rfl (by kernel_rfl)) S0 ?_
          refine held_take (i := 3) (v := .agg #[.int .i64 p, dv, av, vv]) (some 45) rfl rfl (by kernel_rfl) (by kernel_rfl) (by kernel_rfl) (fun _ _ _ h => h) (yieldsIf_cell (by kernel_rfl) rfl (by kernel_rfl) (fun W h => hloadDb W (HNY.out W h))) S0 ?_
          refine held_take (i := 4) (v := .int .i64 (k : Int)) (some 46) rfl rfl (by kernel_rfl) (by kernel_rfl) (by kernel_rfl) (fun _ _ _ h => h) (yieldsIf_move (by kernel_rfl) rfl (by kernel_rfl)) S0 ?_
          refine held_take (i := 5) (v := .int .i64 ((k + 1 : Nat) : Int)) (some 47) rfl rfl (by kernel_rfl) (by kernel_rfl) (by kernel_rfl) (fun _ _ _ h => h) (yieldsIf_bin (by kernel_rfl) rfl (by kernel_rfl) (by kernel_rfl) (fun _ => rfl) (haddA hw1k)) S0 ?_
          refine held_take (i := 7) (v := .pointer (some ⟨g, 1, none⟩)) (some 49) rfl rfl (by kernel_rfl) (by kernel_rfl) (by kernel_rfl) (fun _ _ _ h => h) (yieldsIf_run (by kernel_rfl) (fun W _ => by kernel_rfl)) S0 ?_
          refine held_take (i := 8) (v := .slice (some ⟨bd, 0, none⟩) n n) (some 50) rfl rfl (by kernel_rfl) (by kernel_rfl) (by kernel_rfl) (fun _ _ _ h => h) (yieldsIf_cell (by kernel_rfl) rfl (by kernel_rfl) (fun W h => hloadD W (HG2.out W h).1)) S0 ?_
          refine held_take (i := 9) (v := .int .i64 (k : Int)) (some 51) rfl rfl (by kernel_rfl) (by kernel_rfl) (by kernel_rfl) (fun _ _ _ h => h) (yieldsIf_move (by kernel_rfl) rfl (by kernel_rfl)) S0 ?_
          refine held_take (i := 10) (v := .int .i64 ((k + 1 : Nat) : Int)) (some 52) rfl rfl (by kernel_rfl) (by kernel_rfl) (by kernel_rfl) (fun _ _ _ h => h) (yieldsIf_bin (by kernel_rfl) rfl (by kernel_rfl) (by kernel_rfl) (fun _ => rfl) (haddA hw1k)) S0 ?_
          refine held_take (i := 11) (v := .pointer (some ⟨bd, 0 + (k + 1), none⟩)) (some 53) rfl rfl (by kernel_rfl) (by kernel_rfl) (by kernel_rfl) (fun _ _ _ h => h) (yieldsIf_index (by kernel_rfl) rfl (by kernel_rfl) (by kernel_rfl) (hidxI bd 0 n hk1n)) S0 ?_
          refine held_take (i := 12) (v := .int .i64 (r : Int)) (some 54) rfl rfl (by kernel_rfl) (by kernel_rfl) (by kernel_rfl) (fun _ _ _ h => h) (yieldsIf_cell (by kernel_rfl) rfl (by kernel_rfl) (fun W h => hloadIn W (HD1.out W h).1)) S0 ?_
          refine held_take (i := 13) (v := .pointer (some ⟨g, 1, none⟩)) (some 55) rfl rfl (by kernel_rfl) (by kernel_rfl) (by kernel_rfl) (fun _ _ _ h => h) (yieldsIf_run (by kernel_rfl) (fun W _ => by kernel_rfl)) S0 ?_
          refine held_take (i := 14) (v := .slice (some ⟨bd, 0, none⟩) n n) (some 56) rfl rfl (by kernel_rfl) (by kernel_rfl) (by kernel_rfl) (fun _ _ _ h => h) (yieldsIf_cell (by kernel_rfl) rfl (by kernel_rfl) (fun W h => hloadD W (HG2.out W h).1)) S0 ?_
          refine held_take (i := 15) (v := .int .i64 (k : Int)) (some 57) rfl rfl (by kernel_rfl) (by kernel_rfl) (by kernel_rfl) (fun _ _ _ h => h) (yieldsIf_move (by kernel_rfl) rfl (by kernel_rfl)) S0 ?_
          refine held_take (i := 16) (v := .pointer (some ⟨bd, 0 + k, none⟩)) (some 58) rfl rfl (by kernel_rfl) (by kernel_rfl) (by kernel_rfl) (fun _ _ _ h => h) (yieldsIf_index (by kernel_rfl) rfl (by kernel_rfl) (by kernel_rfl) (hidxI bd 0 n hk0n)) S0 ?_
          refine held_take (i := 17) (v := .int .i64 (c : Int)) (some 59) rfl rfl (by kernel_rfl) (by kernel_rfl) (by kernel_rfl) (fun _ _ _ h => h) (yieldsIf_cell (by kernel_rfl) rfl (by kernel_rfl) (fun W h => hloadIn W (HD1.out W h).2)) S0 ?_
          refine held_enter (i := 6) (some 48) (f := 100) (args := #[.agg #[.int .i64 p, dv, av, vv], .int .i64 ((k + 1 : Nat) : Int)]) (by kernel_rfl) rfl rfl rfl (by kernel_rfl) (HNUM.out _ S0) ?_ (fun c w' h => by obtain ⟨_, h, _⟩ := h; cases h) (fun w' h => by obtain ⟨_, h, _⟩ := h; cases h)
          rintro e4 W4 ⟨u4, he4, hg4, hb4⟩
          injection he4 with he4
          subst he4
          have S1 : Below wy.heap.size wy W4 := S0.trans (hb4.mono S0.size)
          refine ⟨S1, ?_⟩
          obtain ⟨a4, c4, hv4⟩ := Sl.shape hg4.l1
          obtain ⟨m4, hm4⟩ : ∃ m4, m4 = (ttab ds ac dn k).flatten.length := ⟨_, rfl⟩
          rw [← hm4] at hv4
          subst hv4
          have hmrc : m4 = r * c := by rw [hm4, flat_len HCOL.out, HLEN.out]
          have hcap : m4 ≤ c4 := by
            rcases hg4.2 with ⟨hx, _⟩ | ⟨_, _, _, hx, _, _, h1, _⟩
            · injection hx with _ h2 h3; omega
            · injection hx with _ h2 h3; omega
          have HCU : Hid (Calls Try.prog 99 #[.slice a4 m4 c4, .int .i64 (r : Int), .int .i64 (c : Int)] W4 fun e w' => e = .returned (.slice (some ⟨W4.heap.size, 0, none⟩) r r) ∧ CuTo W4 w' a4 c r r) := Lib.hid (cutRows_at a4 m4 c4 r c W4 (by omega) (by omega) hmrc hcap)
          refine held_enter (i := 18) (some 60) (f := 99) (args := #[.slice a4 m4 c4, .int .i64 (r : Int), .int .i64 (c : Int)]) (by kernel_rfl) rfl rfl rfl (by kernel_rfl) (HCU.out) ?_ (fun c w' h => by cases h.1) (fun w' h => by cases h.1)
          rintro e5 W5 ⟨he5, hcu⟩
          injection he5 with he5
          subst he5
          have hb5 : Below wd.heap.size wd W5 := hb4.trans (hcu.below.mono hb4.size)
          have S2 : Below wy.heap.size wy W5 := S0.trans (hb5.mono S0.size)
          refine ⟨S2, ?_⟩
          refine held_take (i := 19) (v := .pointer (some ⟨bm, 0 + k, none⟩)) (some 61) rfl rfl (by kernel_rfl) (by kernel_rfl) (by kernel_rfl) (fun _ _ _ h => h) (yieldsIf_index (by kernel_rfl) rfl (by kernel_rfl) (by kernel_rfl) (hidx3 bm 0 t hlk)) S2 ?_
          have hrw := hcu.rw2 (lo := wd.heap.size) (by omega) (by omega) hg4 (by rw [flat_len HCOL.out, HLEN.out]) hb4.size
          rw [show cutL (ttab ds ac dn k).flatten r c = ttab ds ac dn k by rw [← HLEN.out]; exact cut_flat HCOL.out] at hrw
          have HFP := Lib.hid (HF.out.below S0)
          have hst := HFP.out.step hb5 (show k < (tM ds ac dn).length by rw [tM_len]; exact htk) (by simp only [tM, List.getElem_map, List.getElem_range]; exact hrw)
          have hr4 := HFP.out.row.of_block (hb5.block _ HFP.out.row.lt)
          have q1 : W5.cell? ⟨bm, 0 + k, none⟩ = some (f k) := by rw [Nat.zero_add]; exact hr4.cell hlk
          have q2 : W5.frozen? ⟨bm, 0 + k, none⟩ = false := hr4.frozen _
          have HBN : Hid (Below wB.heap.size wB (W5.setCell ⟨bm, k, none⟩ (.slice (some ⟨W4.heap.size, 0, none⟩) r r))) := Lib.hid ((HB.out.trans (S2.mono HB.out.size)).setCell (p := ⟨bm, k, none⟩) (by show wB.heap.size ≤ bm; exact hlo.2.2) _)
          have HXN : Hid ((W5.setCell ⟨bm, k, none⟩ (.slice (some ⟨W4.heap.size, 0, none⟩) r r)).rowIs g 38 3 (box3 p (.slice (some ⟨bd, 0, none⟩) n n) (.slice (some ⟨bm, 0, none⟩) t t))) := Lib.hid ((HBX.out.of_block (S2.block _ HBX.out.lt)).setOther hne.2.1 _)
          have HDN : Hid ((W5.setCell ⟨bm, k, none⟩ (.slice (some ⟨W4.heap.size, 0, none⟩) r r)).rowIs bd 2 n (fun j => .int .i64 ((tdim ds j : Nat) : Int))) := Lib.hid ((HBD.out.of_block (S2.block _ HBD.out.lt)).setOther hne.2.2 _)
          have HKN : Hid ((W5.setCell ⟨bm, k, none⟩ (.slice (some ⟨W4.heap.size, 0, none⟩) r r)).heap[D]? = some (.deferred (some []))) := Lib.hid ((Below.heap_setCell W5 ⟨bm, k, none⟩ _ D (by show D ≠ bm; exact hDm)).trans ((S2.block D (by have := HLE.out.1; omega)).trans HKD.out))
          have hleP : wy.heap.size ≤ wd.heap.size := S0.size
          have hleQ : wy.heap.size ≤ W5.heap.size := S2.size
          have HLN : Hid (A.heap.size ≤ (W5.setCell ⟨bm, k, none⟩ (.slice (some ⟨W4.heap.size, 0, none⟩) r r)).heap.size ∧ A.heap.size ≤ (fun q => if q < k then b q else if q = k then wd.heap.size else W5.heap.size) 0) := Lib.hid (by
            have h0 := HLE.out
            refine ⟨by simp; omega, ?_⟩
            by_cases e : 0 < k
            · simp only [if_pos e]; exact h0.2
            · simp only [if_neg e, if_pos (show 0 = k by omega)]; omega)
          have HST := Lib.hid hst
          refine held_none (i := 20) (v := .bool false) rfl rfl (by kernel_rfl) (by kernel_rfl) (by kernel_rfl) (fun _ _ _ h => h) (yieldsIf_move (by kernel_rfl) rfl (by kernel_rfl)) S2 ?_
          refine wpAnyH_done (by kernel_rfl) (lastQ_of rfl (by kernel_rfl) ?_) _
          simp only [Act.put, List.setIfInBounds_toArray, List.set_cons_zero, List.set_cons_succ]
          rw [Nat.zero_add] at q1 q2
          go_simp
          obtain ⟨wn, hwn'⟩ : ∃ wn, wn = (W5.setCell ⟨bm, k, none⟩ (.slice (some ⟨W4.heap.size, 0, none⟩) r r)) := ⟨_, rfl⟩
          rw [← hwn'] at HST HBN HXN HDN HLN HKN ⊢
          clear hwn' q1 q2 hr4 hst hrw HFP hb4 hb5 hcu hg4 S0 S1 S2 HNUM HCU HB HBX HBD HF hm4 hmrc hcap hw1k
          go_wp2
          go_roundw
          case rel => exact ⟨k + 1, _, _, by omega, by go_num, HBN, HXN, HDN, HST, HLN, HKN⟩
          case measure => simp [intOf]; omega
        · have hkt : ¬ (k : Int) < (t : Int) := by omega
          have HF3 : Hid (Fill3 wy bm t t f b (tM ds ac dn)) := Lib.hid (by have h0 := HF.out; rwa [show k = t by omega] at h0)
          have x0' : wy.cell? ⟨g, 0, none⟩ = some (.int .i64 p) := HBX.out.cell (i := 0) (by omega)
          have x1' : wy.cell? ⟨g, 1, none⟩ = some (.slice (some ⟨bd, 0, none⟩) n n) := HBX.out.cell (i := 1) (by omega)
          have x2' : wy.cell? ⟨g, 2, none⟩ = some (.slice (some ⟨bm, 0, none⟩) t t) := HBX.out.cell (i := 2) (by omega)
          have HNF := Lib.hid (HNB.out _ HB.out)
          clear HF
          have HR1 : ∃ x0 x1 x2, wy.heap[w.heap.size + 1]? = some (.cells #[x0, x1, x2] 38) := ⟨_, _, _, HNF.out.2⟩
          obtain ⟨x0, x1, x2, hr⟩ := HR1
          have r0 : wy.rowIs (w.heap.size + 1) 38 3 (sel3 x0 x1 x2) := rowIs3 hr
          have q0 : wy.cell? ⟨w.heap.size + 1, 0, none⟩ = some x0 := r0.cell (i := 0) (by omega)
          have z0 : wy.frozen? ⟨w.heap.size + 1, 0, none⟩ = false := r0.frozen 0
          have r1 := r0.set 0 (.int .i64 p)
          have q1 : (wy.setCell ⟨w.heap.size + 1, 0, none⟩ (.int .i64 p)).cell? ⟨w.heap.size + 1, 1, none⟩ = some x1 := r1.cell (i := 1) (by omega)
          have z1 : (wy.setCell ⟨w.heap.size + 1, 0, none⟩ (.int .i64 p)).frozen? ⟨w.heap.size + 1, 1, none⟩ = false := r1.frozen 1
          have r2 := r1.set 1 (.slice (some ⟨bd, 0, none⟩) n n)
          have q2 : ((wy.setCell ⟨w.heap.size + 1, 0, none⟩ (.int .i64 p)).setCell ⟨w.heap.size + 1, 1, none⟩ (.slice (some ⟨bd, 0, none⟩) n n)).cell? ⟨w.heap.size + 1, 2, none⟩ = some x2 := r2.cell (i := 2) (by omega)
          have z2 : ((wy.setCell ⟨w.heap.size + 1, 0, none⟩ (.int .i64 p)).setCell ⟨w.heap.size + 1, 1, none⟩ (.slice (some ⟨bd, 0, none⟩) n n)).frozen? ⟨w.heap.size + 1, 2, none⟩ = false := r2.frozen 2
          have r3 := r2.set 2 (.slice (some ⟨bm, 0, none⟩) t t)
          obtain ⟨WF, hWF⟩ : ∃ W : World, W = (((wy.setCell ⟨w.heap.size + 1, 0, none⟩ (.int .i64 p)).setCell ⟨w.heap.size + 1, 1, none⟩ (.slice (some ⟨bd, 0, none⟩) n n)).setCell ⟨w.heap.size + 1, 2, none⟩ (.slice (some ⟨bm, 0, none⟩) t t)) := ⟨_, rfl⟩
          have hbWF : ∀ B (w0 : World), B ≤ w.heap.size + 1 → Below B w0 wy → Below B w0 WF := fun B w0 hl hb => by rw [hWF]; exact (((hb.setCell (by show B ≤ w.heap.size + 1; exact hl) _).setCell (by show B ≤ w.heap.size + 1; exact hl) _).setCell (by show B ≤ w.heap.size + 1; exact hl) _)
          have hsWF : ∀ lo hi, w.heap.size + 1 < lo ∨ hi ≤ w.heap.size + 1 → Same lo hi wy WF := fun lo hi hl => by rw [hWF]; exact (((Same.set _ hl).trans (Same.set _ hl)).trans (Same.set _ hl))
          have hzWF : WF.heap.size = wy.heap.size := by rw [hWF]; simp
          rw [← hWF] at r3
          have f0 : WF.cell? ⟨w.heap.size + 1, 0, none⟩ = some (.int .i64 p) := r3.cell (i := 0) (by omega)
          have f1 : WF.cell? ⟨w.heap.size + 1, 1, none⟩ = some (.slice (some ⟨bd, 0, none⟩) n n) := r3.cell (i := 1) (by omega)
          have f2 : WF.cell? ⟨w.heap.size + 1, 2, none⟩ = some (.slice (some ⟨bm, 0, none⟩) t t) := r3.cell (i := 2) (by omega)
          have HWWF := Lib.hid hWF
          clear hr r0 r1 r2 r3 hWF
          have hkF : WF.heap[D]? = some (.deferred (some [])) := (hsWF D (D + 1) (by omega) D (Nat.le_refl _) (Nat.lt_succ_self _)).trans HKD.out
          have hbF : ∀ i, i ≠ w.heap.size + 1 → WF.heap[i]? = wy.heap[i]? := fun i hi => hsWF i (i + 1) (by omega) i (Nat.le_refl _) (Nat.lt_succ_self _)
          have HKF := Lib.hid hkF
          have hple : w.heap.size + 1 < wB.heap.size := by omega
          have hD0 : D < b 0 := by have := HLE.out.2; omega
          have HFF : Hid (Fill3 (WF.putObj D (.deferred none)) bm t t f b (tM ds ac dn)) := Lib.hid (by
            refine fill3_put ⟨HF3.out.row.of_block (hbF bm (by omega)), HF3.out.lo, HF3.out.inc, by rw [hzWF]; exact HF3.out.hi, fun a ha hk => (HF3.out.at' a ha hk).same (hsWF _ _ (.inl ?_))⟩ hD0 hDm _
            have hi0 : ∀ e, e ≤ t → b 0 ≤ b e := by
              intro e
              induction e with
              | zero => intro _; exact Nat.le_refl _
              | succ e ih => intro he; exact Nat.le_trans (ih (by omega)) (HF3.out.inc e (by omega))
            have := hi0 a (by omega)
            omega)
          have hpo : ∀ i, i ≠ D → (WF.putObj D (.deferred none)).heap[i]? = WF.heap[i]? := fun i hi => World.putObj_heap_other (by omega)
          have HDF : Hid ((WF.putObj D (.deferred none)).rowIs bd 2 n (fun j => .int .i64 ((tD ds).getD j 0))) := Lib.hid ((((HBD.out.of_block (hbF bd (by omega))).of_block (hpo bd (by omega)))).congr (fun j hj => by rw [tD_at (by rw [← HTT.out]; have := HN.out; omega)]))
          have HRC := Lib.hid (gen_rc (lo := w.heap.size) (by rw [tM_len]; exact HTT.out) (by rw [tD_len, ← HTT.out]; exact HN.out) (by omega) (by omega) HDF.out HFF.out (by have := hlo.2.1; omega) (by have := hlo.2.2; omega) (by have := HLE.out.2; omega))
          have HBF : Hid (Below w.heap.size w WF) := Lib.hid (hbWF w.heap.size w (by omega) ((HX1.out.below.trans (HBB.out.mono hwb1)).trans (HB.out.mono (by omega))))
          have hcp : ∀ o, (WF.putObj D (.deferred none)).cell? ⟨w.heap.size + 1, o, none⟩ = WF.cell? ⟨w.heap.size + 1, o, none⟩ := fun o => World.cell?_of_block (hpo (w.heap.size + 1) (by omega))
          have g0 := (hcp 0).trans f0
          have g1 := (hcp 1).trans f1
          have g2 := (hcp 2).trans f2
          have HG0 := Lib.hid g0
          have HG1 := Lib.hid g1
          have HG2 := Lib.hid g2
          have HTL : Hid (n = (tD ds).length ∧ t = (tM ds ac dn).length) := Lib.hid ⟨by rw [tD_len, ← HTT.out]; exact HN.out, by rw [tM_len]; exact HTT.out⟩
          clear hbF hkF hpo hcp g0 g1 g2 HF3 HBX HBD
          go_wp2
          rw [← HWWF.out]
          refine ⟨by simp, .inl ⟨_, _, rfl, run_takeDeferred HKF.out, ?_⟩⟩
          refine ⟨_, results_cx HRES.out _ (w.heap.size + 1) _ _ _ _ rfl HG0.out HG1.out HG2.out, _, rfl, ⟨some ⟨bd, 0, none⟩, n, some ⟨bm, 0, none⟩, t, by simp only [← HTL.out.1, ← HTL.out.2], by simp only [← HTL.out.1, ← HTL.out.2]; exact HRC.out⟩, HBF.out.trans (belowK_b (w := w) (Nat.le_refl _) _ D _ _ (by omega) HKF.out rfl rfl)⟩
    case stop =>
      rintro D c pre A hD _ hf hKD
      exact hf.elim
end Go.Proofs.Ytlopenephgabhaa


namespace Go.Proofs.Ytlopenephgabhaa
open Go.RowKit

/-- The sizes of what is told as a complex. -/
structure SzBk (ds : List Int) (ms : List (List (List Int))) : Prop where
  len0 : 1 ≤ ds.length
  len1 : ds.length ≤ 7
  mlen : ms.length + 1 = ds.length
  dims : ∀ d ∈ ds, 0 ≤ d ∧ d ≤ 32
  tabs : ∀ k, k < ms.length → ((ms.getD k []).length : Int) = ds.getD (k + 1) 0 ∧ ∀ x ∈ ms.getD k [], (x.length : Int) = ds.getD k 0
theorem SzBk.dim {ds : List Int} {ms : List (List (List Int))} (h : SzBk ds ms) (k : Nat) : 0 ≤ ds.getD k 0 ∧ ds.getD k 0 ≤ 32 := by
  by_cases hk : k < ds.length
  · rw [getD_of_lt _ hk]; exact h.dims _ (List.getElem_mem _)
  · simp [List.getD, show ds.length ≤ k by omega]
def SqB (ap : Nat → List Int → List (List Int) → List Int) (ds : List Int) (ms : List (List (List Int))) : Prop :=
  ∀ q, q + 1 < ms.length → ∀ r ∈ ms.getD (q + 1) [], ∀ x ∈ ap (ds.getD q 0).toNat r (ms.getD q []), x = 0
/-- A list in new memory. -/
def LRb (l : List Int) (w : World) (e : Ending) (w' : World) : Prop := ∃ u, e = .returned u ∧ L1 w.heap.size w' u l ∧ Below w.heap.size w w'

set_option maxHeartbeats 3200000 in
set_option maxRecDepth 100000 in
theorem squaresB_any (p : Int) (ap : Nat → List Int → List (List Int) → List Int) (Ok : Nat → List Int → List (List Int) → Prop) (hlen' : ∀ c v t, Ok c v t → (ap c v t).length = c)
    (hcall : ∀ (c : Nat) (va vt : Value) (v : List Int) (t : List (List Int)) (w : World), Ok c v t → L1 0 w va v → L2 0 w vt t → v.length ≤ 1048576 → c ≤ 1048576 → Calls Try.prog 97 #[.int .i64 p, va, vt, .int .i64 c] w (LRb (ap c v t) w))
    (dv mv : Value) (ds : List Int) (ms : List (List (List Int))) (w : World) (h : Cx 0 w dv mv ds ms) (ok : SzBk ds ms) (hok : ∀ q, q + 1 < ms.length → ∀ r ∈ ms.getD (q + 1) [], Ok (ds.getD q 0).toNat r (ms.getD q [])) :
    Calls Try.prog 47 #[.agg #[.int .i64 p, dv, mv]] w (BB (SqB ap ds ms) w) := by
  have HCALL := Lib.hid hcall
  have HLEN' := Lib.hid hlen'
  have HOK' := Lib.hid hok
  clear hcall hlen' hok
  have hlen0 := ok.len1
  have hmlen := Lib.hid ok.mlen
  have hml : ms.length ≤ 6 := by have := ok.mlen; have := ok.len1; omega
  have OK := Lib.hid ok
  clear ok
  have hb0 : Below w.heap.size w (w.alloc (.cells #[.int .i64 p, dv, mv] 38)) := (Below.refl _ _).alloc (Nat.le_refl _) _
  have HB0 := Lib.hid hb0
  clear hb0
  refine Sl.cases h.maps (fun ad cap hx hv' => ?_) (fun bm om capm hv' _ hpos hcl => ?_)
  · subst hx hv'
    clear h
    go_enter Try.func47, Try.ntmps47
    go_wp2
    refine wp_loop_rounds 1 ?_
    rw [rounds_succ]
    go_wp2
    go_ret
    exact bb_true HB0.out (fun q hq => absurd hq (by simp))
  · subst hv'
    refine Sl.cases h.dims (fun ad cap hx hv' => absurd hmlen.out (by subst hx; simp)) (fun bd od capd hv' _ hposd hcld => ?_)
    subst hv'
    have HC := Lib.hid hcl
    have HD := Lib.hid hcld
    clear h hcl hcld
    go_enter Try.func47, Try.ntmps47
    go_wp2
    go_loopw [3, 5, 6, 20] (fun i _ _ _ wr => ∃ (q : Nat), q ≤ ms.length ∧ i = .int .i64 ((q : Int) + 1) ∧ Below (w.heap.size + 1) (w.alloc (.cells #[.int .i64 p, .slice (some ⟨bd, od, none⟩) ds.length capd, .slice (some ⟨bm, om, none⟩) ms.length capm] 38)) wr ∧
      Hid (∀ q2, q2 < q → q2 + 1 < ms.length → ∀ r ∈ ms.getD (q2 + 1) [], ∀ x ∈ ap (ds.getD q2 0).toNat r (ms.getD q2 []), x = 0)) (fun i _ _ _ _ => ms.length - (intOf i - 1).toNat)
    case atStart => exact ⟨0, Nat.zero_le _, rfl, Below.refl _ _, Lib.hid (fun _ h => absurd h (Nat.not_lt_zero _))⟩
    case round =>
      obtain ⟨q, hq, rfl, hbel, HSQ⟩ := hrel
      have HBEL := Lib.hid hbel
      clear hbel
      have hbw : Below w.heap.size w wr := HB0.out.trans (HBEL.out.mono (Nat.le_succ _))
      have HBW := Lib.hid hbw
      clear hbw
      have c0 : wr.cell? ⟨w.heap.size, 0, none⟩ = some (.int .i64 p) := later HBEL.out (by simp) (by simp)
      have c1 : wr.cell? ⟨w.heap.size, 1, none⟩ = some (.slice (some ⟨bd, od, none⟩) ds.length capd) := later HBEL.out (by simp) (by simp)
      have c2 : wr.cell? ⟨w.heap.size, 2, none⟩ = some (.slice (some ⟨bm, om, none⟩) ms.length capm) := later HBEL.out (by simp) (by simp)
      by_cases hlt : q + 1 < ms.length
      · obtain ⟨u1, hu1, hr1⟩ := HC.out (q + 1) hlt
        obtain ⟨u0, hu0, hr0⟩ := HC.out q (by omega)
        obtain ⟨ud, hud, hrd⟩ := HD.out q (by have := hmlen.out; omega)
        have hu1' : wr.cell? ⟨bm, om + (q + 1), none⟩ = some u1 := later HBW.out (Nat.le_refl _) hu1
        have hu0' : wr.cell? ⟨bm, om + q, none⟩ = some u0 := later HBW.out (Nat.le_refl _) hu0
        have hud' : wr.cell? ⟨bd, od + q, none⟩ = some ud := later HBW.out (Nat.le_refl _) hud
        have hdim := OK.out.dim q
        have hql : q < ds.length := by have := hmlen.out; omega
        obtain ⟨c, hc⟩ := Int.eq_ofNat_of_zero_le hdim.1
        have hc8 : c ≤ 32 := by omega
        have hud2 : wr.cell? ⟨bd, od + q, none⟩ = some (.int .i64 (c : Int)) := by rw [hud', hrd, ← getD_of_lt 0 hql, hc]
        have HCC : Hid ((ds.getD q 0).toNat = c) := Lib.hid (by omega)
        have htab := OK.out.tabs (q + 1) hlt
        rw [getD_of_lt _ hlt] at htab
        have htl : (ms[q + 1]).length ≤ 32 := by have := htab.1; have := OK.out.dim (q + 1 + 1); omega
        have hrl : ∀ r ∈ ms[q + 1], r.length ≤ 32 := fun r hr => by have := htab.2 r hr; have := OK.out.dim (q + 1); omega
        have HRL := Lib.hid hrl
        have HR1 := Lib.hid hr1
        have HR0 := Lib.hid hr0
        have HNEXT : Hid ((∀ r ∈ ms[q + 1], ∀ x ∈ ap c r (ms.getD q []), x = 0) → ∀ q2, q2 < q + 1 → q2 + 1 < ms.length → ∀ r ∈ ms.getD (q2 + 1) [], ∀ x ∈ ap (ds.getD q2 0).toNat r (ms.getD q2 []), x = 0) := Lib.hid (fun hall q2 hq2 hlt2 => by
          by_cases e : q2 = q
          · subst e
            rw [HCC.out, getD_of_lt _ hlt]
            exact hall
          · exact HSQ.out q2 (by omega) hlt2)
        obtain ⟨t1, ht1⟩ : ∃ t1, t1 = ms[q + 1] := ⟨_, rfl⟩
        have HT1 := Lib.hid ht1
        rw [← ht1] at htl
        have HR1' : Hid (L2 0 w u1 t1) := Lib.hid (by rw [ht1]; exact HR1.out)
        have HNEXT' : Hid ((∀ j (hj : j < t1.length), ∀ x ∈ ap c t1[j] (ms.getD q []), x = 0) → ∀ q2, q2 < q + 1 → q2 + 1 < ms.length → ∀ r ∈ ms.getD (q2 + 1) [], ∀ x ∈ ap (ds.getD q2 0).toNat r (ms.getD q2 []), x = 0) := Lib.hid (fun hall => HNEXT.out (fun r hr => by
          rw [← ht1] at hr
          obtain ⟨j, hj, rfl⟩ := List.getElem_of_mem hr
          exact hall j hj))
        have HAP : Hid (∀ j (hj : j < t1.length), Ok c t1[j] (ms.getD q [])) := Lib.hid (fun j hj => by
          have := HOK'.out q hlt t1[j] (by rw [getD_of_lt _ hlt, ← ht1]; exact List.getElem_mem _)
          rwa [HCC.out] at this)
        have HNOT : Hid (∀ j (hj : j < t1.length), ¬ (∀ x ∈ ap c t1[j] (ms.getD q []), x = 0) → ¬ SqB ap ds ms) := Lib.hid (fun j hj hne hs => hne (by
          have := hs q hlt t1[j] (by rw [getD_of_lt _ hlt, ← ht1]; exact List.getElem_mem _)
          rwa [HCC.out] at this))
        have HRLL : Hid (∀ j (hj : j < t1.length), (t1[j]).length ≤ 1048576) := Lib.hid (fun j hj => by have := HRL.out t1[j] (by rw [← ht1]; exact List.getElem_mem _); omega)
        have HR0' : Hid (L2 0 w u0 (ms.getD q [])) := Lib.hid (by rw [getD_of_lt _ (by omega)]; exact HR0.out)
        obtain ⟨t0, ht0⟩ : ∃ t0, t0 = ms.getD q [] := ⟨_, rfl⟩
        rw [← ht0] at HNEXT' HAP HNOT HR0'
        have HU0 := Lib.hid hu0
        have HUD : Hid (w.cell? ⟨bd, od + q, none⟩ = some (.int .i64 (c : Int))) := Lib.hid (by rw [hud, hrd, ← getD_of_lt 0 hql, hc])
        clear hu1 hu0 hud hr1 hr0 hrd hud' hdim hc htab hrl ht1 HR1 HR0 HNEXT HRL ht0 HCC
        refine Sl.cases HR1'.out (fun ad1 cap1 hx1 hv1 => ?_) (fun b1 o1 cap1 hv1 _ hpos1 hcl1 => ?_)
        · subst hv1
          have HX1 := Lib.hid hx1
          clear hx1
          go_wp2
          refine wp_loop_rounds 1 ?_
          rw [rounds_succ]
          go_wp2
          go_roundw
          case rel => exact ⟨q + 1, by omega, by go_num, HBEL.out, Lib.hid (HNEXT'.out (fun j hj => absurd hj (by rw [HX1.out]; simp)))⟩
          case measure => simp [intOf]; omega
        · subst hv1
          have HC1 := Lib.hid hcl1
          clear hcl1
          have hdec : decide ((q : Int) + 1 < (ms.length : Int)) = true := by simp; omega
          obtain ⟨wo, hwo⟩ : ∃ wo : World, wo = wr := ⟨_, rfl⟩
          have HWO := Lib.hid hwo
          clear hwo
          go_wp2
          go_loopw [5, 6, 20] (fun _ _ i wr => ∃ (j : Nat), j ≤ t1.length ∧ i = .int .i64 j ∧ Below (w.heap.size + 1) (w.alloc (.cells #[.int .i64 p, .slice (some ⟨bd, od, none⟩) ds.length capd, .slice (some ⟨bm, om, none⟩) ms.length capm] 38)) wr ∧
            Hid (∀ j2 (hj : j2 < t1.length), j2 < j → ∀ x ∈ ap c t1[j2] t0, x = 0)) (fun _ _ i _ => t1.length - (intOf i).toNat)
          case atStart => exact ⟨0, Nat.zero_le _, rfl, HBEL.out, Lib.hid (fun _ _ h => absurd h (Nat.not_lt_zero _))⟩
          case round =>
            clear c0 c1 c2 hu1' hu0' hud2
            obtain ⟨j, hj, rfl, hbel2, HJ⟩ := hrel
            have HBEL2 := Lib.hid hbel2
            clear hbel2
            have HBW2 := Lib.hid (HB0.out.trans (HBEL2.out.mono (Nat.le_succ _)))
            have c0 : wr.cell? ⟨w.heap.size, 0, none⟩ = some (.int .i64 p) := later HBEL2.out (by simp) (by simp)
            have c1 : wr.cell? ⟨w.heap.size, 1, none⟩ = some (.slice (some ⟨bd, od, none⟩) ds.length capd) := later HBEL2.out (by simp) (by simp)
            have c2 : wr.cell? ⟨w.heap.size, 2, none⟩ = some (.slice (some ⟨bm, om, none⟩) ms.length capm) := later HBEL2.out (by simp) (by simp)
            by_cases hltj : j < t1.length
            · obtain ⟨u2, hu2, hr2⟩ := HC1.out j hltj
              have hu2' : wr.cell? ⟨b1, o1 + j, none⟩ = some u2 := later HBW2.out (Nat.le_refl _) hu2
              have hu0' : wr.cell? ⟨bm, om + q, none⟩ = some u0 := later HBW2.out (Nat.le_refl _) HU0.out
              have hud2 : wr.cell? ⟨bd, od + q, none⟩ = some (.int .i64 (c : Int)) := later HBW2.out (Nat.le_refl _) HUD.out
              have HR2 := Lib.hid hr2
              clear hu2 hr2
              have hql' : q < ms.length := by omega
              go_wp2
              have hw1 : IntKind.i64.wrap ((q : Int) + 1 - 1) = (q : Int) := by rw [show (q : Int) + 1 - 1 = q by omega]; exact IntWalk.i64_in _ (by omega)
              have hw2 : IntKind.i64.wrap (q : Int) = (q : Int) := IntWalk.i64_in _ (by omega)
              have hq0 : (0 : Int) ≤ (q : Int) := by omega
              have hq1 : (q : Int) < (ms.length : Int) := by omega
              have hq2 : (q : Int) < (ds.length : Int) := by omega
              go_still_tail 15, (by kernel_rfl)
              change wpList _ _ _ _ _ wr.drew
              clear hw1 hw2 hq0 hq1 hq2
              have HBD := Lib.hid (HBW2.out.drew)
              have hall := HAP.out j hltj
              have hlen : (ap c t1[j] t0).length ≤ 40 := by rw [HLEN'.out _ _ _ hall]; omega
              have HALLJ := Lib.hid hall
              have HLEN := Lib.hid hlen
              clear hall hlen
              go_wp2_with fail
              refine (HCALL.out c u2 u0 t1[j] t0 _ HALLJ.out (HR2.out.below HBD.out) (HR0'.out.below HBD.out) (HRLL.out j hltj) (by omega)).mono ?_
              rintro e w1 ⟨u, rfl, hru, hb1⟩
              have HRU := Lib.hid hru
              have HB1 := Lib.hid (HBEL2.out.drew.trans (hb1.mono (by have := HBEL2.out.size; simp at this; simp; omega)))
              clear hru hb1
              go_wp2_with fail
              refine (vectorOf_any u (ap c t1[j] t0) _ (HRU.out.lower (Nat.zero_le _)) HLEN.out).mono ?_
              rintro e w2 ⟨rfl, hb2⟩
              have HB2 := Lib.hid (HB1.out.trans (hb2.mono (by have := HB1.out.size; simp at this; omega)))
              have HB2W := Lib.hid (HB0.out.trans (HB2.out.mono (Nat.le_succ _)))
              clear hb2
              have hneq := neq_zero HLEN.out
              by_cases hz : ∀ x ∈ ap c t1[j] t0, x = 0
              · rw [decide_eq_true hz] at hneq
                have HZ := Lib.hid hz
                clear hz
                go_wp2
                go_roundw
                case rel => exact ⟨j + 1, by omega, by go_num, HB2.out, Lib.hid (fun j2 hj2 hlt2 => by
                  by_cases e : j2 = j
                  · subst e; exact HZ.out
                  · exact HJ.out j2 hj2 (by omega))⟩
                case measure => simp [intOf]; omega
              · rw [decide_eq_false hz] at hneq
                have HZ := Lib.hid hz
                clear hz
                go_wp2
                go_ret
                exact bb_false HB2W.out (HNOT.out j hltj HZ.out)
            · go_wp2
              go_roundw
              case rel => exact ⟨q + 1, by omega, by go_num, HBEL2.out, Lib.hid (HNEXT'.out (fun j2 hj2 => HJ.out j2 hj2 (by omega)))⟩
              case measure => simp [intOf]; omega
      · go_wp2
        go_ret
        exact bb_true HBW.out (fun q2 hq2 => HSQ.out q2 (by omega) hq2)
end Go.Proofs.Ytlopenephgabhaa


namespace Go.Proofs.Ytlopenephgabhaa
open Go.RowKit

set_option maxRecDepth 100000 in
set_option maxHeartbeats 4000000 in
theorem hasCells_any (p : Int) (dv av vv : Value) (ds : List (List Int)) (ac dn : List (List (List (List Int)))) (w : World) (h : Dx 0 w dv av vv ds ac dn) (hd : Bd2 1048576 ds) :
    Calls Try.prog 45 #[.agg #[.int .i64 p, dv, av, vv]] w (BB (IsP p ∧ DclOk ds) w) := by
  have HD := Lib.hid hd
  have hm0 : ds.length ≤ 1048576 := hd.1
  clear hd
  have hx0 := DBx.start (p := p) 28 h
  obtain ⟨ad, cd, rfl⟩ := Sl.shape h.dims
  clear h
  obtain ⟨m, hm⟩ : ∃ m, m = ds.length := ⟨_, rfl⟩
  have HM := Lib.hid hm
  rw [← hm] at hx0 hm0 ⊢
  clear hm
  obtain ⟨w1, hw1⟩ : ∃ w1, w1 = w.alloc (.cells #[.int .i64 p, .slice ad m cd, av, vv] 28) := ⟨_, rfl⟩
  rw [← hw1] at hx0
  have HX1 := Lib.hid hx0
  have c0 := hx0.c0
  have c1 := hx0.c1
  have c2 := hx0.c2
  have c3 := hx0.c3
  clear hx0
  by_cases hp : IsP p
  · have HP := Lib.hid hp
    have hp0 := hp.lo
    have hp1 := hp.hi
    clear hp
    go_enter Try.func45, Try.ntmps45
    go_upto_region 1 with fail
    rw [← hw1]
    clear hw1
    go_wp2_with fail
    refine (prime_yes HP.out _).mono ?_
    rintro e w' ⟨rfl, rfl⟩
    go_wp2_with fail
    refine (widthOf_any p _ _ _ ds _ HX1.out.dx.dims).mono ?_
    rintro e w2 ⟨rfl, hb2⟩
    rw [← HM.out]
    have HX2 := Lib.hid (HX1.out.next hb2)
    clear HX1 hb2 c0 c1 c2 c3
    have c0 := HX2.out.c0
    have c1 := HX2.out.c1
    have c2 := HX2.out.c2
    have c3 := HX2.out.c3
    by_cases hw : 1 ≤ m ∧ m ≤ 4
    · go_wp2_with fail
      refine (in_yes (by omega) _).mono ?_
      rintro e w' ⟨rfl, rfl⟩
      go_wp2_with fail
      refine (heightOf_any p _ _ _ ds _ HX2.out.dx.dims (by rw [← HM.out]; exact hw.1)).mono ?_
      rintro e w3 ⟨rfl, hb3⟩
      have HX3 := Lib.hid (HX2.out.next hb3)
      clear HX2 hb3 c0 c1 c2 c3
      have hq8 : (ds.getD 0 []).length ≤ 1048576 := by
        rw [getD_of_lt _ (by rw [← HM.out]; exact hw.1)]
        exact HD.out.2 _ (List.getElem_mem _)
      obtain ⟨q, hq⟩ : ∃ q, q = (ds.getD 0 []).length := ⟨_, rfl⟩
      have HQ := Lib.hid hq
      rw [← hq] at hq8 ⊢
      clear hq
      have c0 := HX3.out.c0
      have c1 := HX3.out.c1
      have c2 := HX3.out.c2
      have c3 := HX3.out.c3
      by_cases hh : 1 ≤ q ∧ q ≤ 4
      · go_wp2_with fail
        refine (in_yes (by omega) _).mono ?_
        rintro e w' ⟨rfl, rfl⟩
        go_wp2
        clear c0 c1 c2 c3
        go_loopw [26] (fun i wr => ∃ (k : Nat), k ≤ m ∧ i = .int .i64 k ∧ Hid (DBx w wr w.heap.size p (.slice ad m cd) av vv ds ac dn) ∧ Hid (∀ j (h1 : j < ds.length), j < k → (ds[j]).length = q ∧ AllIn 0 4 ds[j])) (fun i _ => m - (intOf i).toNat)
        case atStart => exact ⟨0, Nat.zero_le _, rfl, HX3, Lib.hid (fun _ _ h => absurd h (Nat.not_lt_zero _))⟩
        case round =>
          obtain ⟨k, hk, rfl, HX4, HC⟩ := hrel
          have c0 := HX4.out.c0
          have c1 := HX4.out.c1
          have c2 := HX4.out.c2
          have c3 := HX4.out.c3
          by_cases hlt : k < m
          · have hlt' : k < ds.length := by rw [← HM.out]; exact hlt
            have hL := HX4.out.dx.dims
            rcases hL with ⟨hx, _⟩ | ⟨b, o, c2', hv, _, _, hcl⟩
            · exact absurd (hx ▸ hlt') (Nat.not_lt_zero _)
            injection hv with e1 e2 e3
            subst e1 e3
            obtain ⟨ur, hur, hrr⟩ := hcl k hlt'
            have HRR := Lib.hid hrr
            have hy8 : (ds[k]).length ≤ 1048576 := HD.out.2 _ (List.getElem_mem hlt')
            obtain ⟨ys, hy⟩ : ∃ ys, ys = ds[k] := ⟨_, rfl⟩
            have HY := Lib.hid hy
            rw [← hy] at hy8
            have HRR' : Hid (L1 0 wr ur ys) := Lib.hid (by rw [hy]; exact hrr)
            clear hrr hcl e2 hy HRR
            obtain ⟨ar, cr, rfl⟩ := Sl.shape HRR'.out
            have HSTEP : Hid ((ys.length = q ∧ AllIn 0 4 ys) → ∀ j (h1 : j < ds.length), j < k + 1 → (ds[j]).length = q ∧ AllIn 0 4 ds[j]) := Lib.hid (fun hy2 j h1 h2 => by
              by_cases e : j = k
              · subst e; rw [← HY.out]; exact hy2
              · exact HC.out j h1 (by omega))
            have HNO : Hid (¬ (ys.length = q ∧ AllIn 0 4 ys) → ¬ (IsP p ∧ DclOk ds)) := Lib.hid (fun hn hok => hn (by rw [HY.out, HQ.out]; exact hok.2.col _ (List.getElem_mem hlt')))
            clear HY HC
            go_wp2_with fail
            refine (heightOf_any p _ _ _ ds _ HX4.out.dx.dims (by rw [← HM.out]; exact hw.1)).mono ?_
            rintro e w5 ⟨rfl, hb5⟩
            rw [← HQ.out]
            have HX5 := Lib.hid (HX4.out.next hb5)
            have HRR5 : Hid (L1 0 w5 _ ys) := Lib.hid (HRR'.out.below hb5)
            clear HX4 hb5 HRR' c0 c1 c2 c3 hur
            by_cases hlq : ys.length = q
            · rw [hlq] at HRR5 ⊢
              have hq1 : ((q : Int) != (q : Int)) = false := by simp
              go_wp2
              clear hq1
              go_loopw [37] (fun i wr2 => ∃ (t : Nat), t ≤ q ∧ i = .int .i64 t ∧ wr2 = w5 ∧ Hid (∀ j (h1 : j < ys.length), j < t → 0 ≤ ys[j] ∧ ys[j] ≤ 4)) (fun i _ => q - (intOf i).toNat)
              case atStart => exact ⟨0, Nat.zero_le _, rfl, rfl, Lib.hid (fun _ _ h => absurd h (Nat.not_lt_zero _))⟩
              case round =>
                obtain ⟨t, ht, rfl, rfl, HT⟩ := hrel
                by_cases hlt2 : t < q
                · have hlt2' : t < ys.length := by rw [hlq]; exact hlt2
                  rcases HRR5.out with ⟨hx, _⟩ | ⟨b2, o2, c3', hv2, _, _, hcl2⟩
                  · exact absurd (hx ▸ hlt2') (Nat.not_lt_zero _)
                  injection hv2 with e1 e2 e3
                  subst e1 e3
                  obtain ⟨un, hun, hui⟩ := hcl2 t hlt2'
                  have hui' : un = .int .i64 (ys[t]) := hui
                  subst hui'
                  obtain ⟨z, hz⟩ : ∃ z, z = ys[t] := ⟨_, rfl⟩
                  rw [← hz] at hun
                  clear hui hcl2 e2
                  have HZ := Lib.hid hz
                  clear hz
                  by_cases hzi : 0 ≤ z ∧ z ≤ 4
                  · go_wp2_with fail
                    refine (in_yes hzi _).mono ?_
                    rintro e w' ⟨rfl, rfl⟩
                    go_wp2
                    go_roundw
                    case rel => exact ⟨t + 1, by omega, by go_num, by simp, Lib.hid (fun j h1 h2 => by
                      by_cases e : j = t
                      · subst e; rw [← HZ.out]; exact hzi
                      · exact HT.out j h1 (by omega))⟩
                    case measure => simp [intOf]; omega
                  · go_wp2_with fail
                    refine (in_no hzi _).mono ?_
                    rintro e w' ⟨rfl, rfl⟩
                    go_wp2
                    go_ret
                    exact bb_false HX5.out.below (HNO.out (fun h => hzi (by rw [HZ.out]; exact h.2 _ (List.getElem_mem hlt2'))))
                · obtain rfl : t = q := by omega
                  go_wp2
                  go_roundw
                  case rel => exact ⟨k + 1, by omega, by go_num, HX5, Lib.hid (HSTEP.out ⟨hlq, all_of_lt (fun j hj => HT.out j hj (by omega))⟩)⟩
                  case measure => simp [intOf]; omega
            · have hq1 : ((ys.length : Int) != (q : Int)) = true := by have hz : (ys.length : Int) ≠ (q : Int) := (by omega); simp [hz]
              go_wp2
              go_ret
              exact bb_false HX5.out.below (HNO.out (fun h => hlq h.1))
          · obtain rfl : k = m := by omega
            have HOK : Hid (IsP p ∧ DclOk ds) := Lib.hid ⟨HP.out, ⟨by rw [← HM.out]; exact hw.1, by rw [← HM.out]; exact hw.2, by rw [← HQ.out]; exact hh.1, by rw [← HQ.out]; exact hh.2, by
              rw [← HQ.out]
              exact all_of_lt (fun j hj => HC.out j hj (by rw [HM.out]; exact hj))⟩⟩
            clear HC
            go_wp2
            go_ret
            exact bb_true HX4.out.below HOK.out
      · go_wp2_with fail
        refine (in_no (by omega) _).mono ?_
        rintro e w' ⟨rfl, rfl⟩
        go_wp2
        go_ret
        exact bb_false HX3.out.below (fun hok => hh (by rw [HQ.out]; exact ⟨hok.2.h0, hok.2.h1⟩))
    · go_wp2_with fail
      refine (in_no (by omega) _).mono ?_
      rintro e w' ⟨rfl, rfl⟩
      go_wp2
      go_ret
      exact bb_false HX2.out.below (fun hok => hw (by rw [HM.out]; exact ⟨hok.2.len0, hok.2.len1⟩))
  · have HP := Lib.hid hp
    clear hp
    go_enter Try.func45, Try.ntmps45
    go_upto_region 1 with fail
    rw [← hw1]
    clear hw1
    go_wp2_with fail
    refine (prime_no HP.out _).mono ?_
    rintro e w' ⟨rfl, rfl⟩
    go_wp2
    go_ret
    exact bb_false HX1.out.below (fun h => HP.out h.1)
end Go.Proofs.Ytlopenephgabhaa


namespace Go.Proofs.Ytlopenephgabhaa
open Go.RowKit

/-- What a double complex is. -/
structure IsDb (p : Int) (ds : List (List Int)) (ac dn : List (List (List (List Int)))) : Prop where
  prime : IsP p
  cel : DclOk ds
  tbs : TbsOk p ds ac dn
  cnd : CndOk p ds ac dn

theorem one_le {α : Type} (a : α) : ∀ l : List α, l.Nodup → (∀ x ∈ l, x = a) → l.length ≤ 1
  | [], _, _ => by simp
  | [_], _, _ => by simp
  | x :: y :: l, hn, h => by
    have h1 := h x (by simp)
    have h2 := h y (by simp)
    have := (List.nodup_cons.1 hn).1
    exact absurd (by rw [h1, h2]; simp) this
theorem dgn_four {ds : List (List Int)} (hok : DclOk ds) (n : Nat) : (dgn ds n).length ≤ 4 := by
  have h : ∀ m, m ≤ ds.length → ((cellsTo ds m).filter (onD n)).length ≤ m := by
    intro m
    induction m with
    | zero => intro _; simp [cellsTo]
    | succ m ih =>
      intro hm
      rw [cellsTo_succ, List.filter_append, List.length_append]
      have h1 := ih (by omega)
      have h2 := one_le (m, n - m) ((rowCells ds m).filter (onD n)) (by
        have h0 := cells_nodup ds (m + 1)
        rw [cellsTo_succ] at h0
        exact ((List.nodup_append.1 h0).2.1).filter _) (fun x hx => by
        obtain ⟨hx1, hx2⟩ := List.mem_filter.1 hx
        unfold rowCells at hx1
        obtain ⟨j, _, rfl⟩ := List.mem_map.1 hx1
        simp [onD] at hx2
        ext
        · rfl
        · show j = n - m; omega)
      omega
  have h3 := h ds.length (Nat.le_refl _)
  have := hok.len1
  exact Nat.le_trans h3 this
theorem tdim_16 {ds : List (List Int)} (hok : DclOk ds) (s : Nat) : tdim ds s ≤ 16 := by
  have h := sum_le4 (cdim ds) (dgn ds s) (fun c hc => (cdim_cast hok (mem_cells.2 (mem_dgn.1 hc).1)).2)
  have h2 := dgn_four hok s
  unfold tdim
  omega
theorem tot_sz {p : Int} {ds : List (List Int)} {ac dn : List (List (List (List Int)))} (hp : IsP p) (hok : DclOk ds) (ht : TbsOk p ds ac dn) : SzBk (tD ds) (tM ds ac dn) := by
  have h1 := hok.len0
  have h2 := hok.len1
  have h3 := hok.h0
  have h4 := hok.h1
  refine ⟨by rw [tD_len]; omega, by rw [tD_len]; unfold ttop; omega, by rw [tD_len, tM_len], fun d hd => ?_, fun k hk => ?_⟩
  · obtain ⟨s, _, rfl⟩ := List.mem_map.1 hd
    have := tdim_16 hok s
    omega
  · rw [tM_len] at hk
    rw [tM_at hk, tD_at (by omega), tD_at (by omega)]
    have := ttab_ok hp hok ht k
    exact ⟨this.1, fun x hx => (this.2 x hx).1⟩
theorem cell_top {ds : List (List Int)} (hok : DclOk ds) {c : Nat × Nat} {n : Nat} (h : c ∈ dgn ds n) : n ≤ ttop ds := by
  obtain ⟨⟨h1, h2⟩, h3⟩ := mem_dgn.1 h
  rw [getD_of_lt _ h1, (hok.col _ (List.getElem_mem h1)).1] at h2
  have := hok.h0
  unfold ttop
  omega
theorem tot_sq {p : Int} {ds : List (List Int)} {ac dn : List (List (List (List Int)))} (hp : IsP p) (hok : DclOk ds) (ht : TbsOk p ds ac dn) : SqB (apT p) (tD ds) (tM ds ac dn) ↔ CndOk p ds ac dn := by
  rw [← square_iff hp hok ht]
  have e : ∀ q, q < ttop ds + 1 → ((tD ds).getD q 0).toNat = tdim ds q := fun q hq => by rw [tD_at hq]; simp
  constructor
  · intro h q f r hf hr
    have hq := cell_top hok hf
    have := h q (by rw [tM_len]; omega) (trow ds ac dn (q + 1) f r) (by
      rw [tM_at (by omega)]
      unfold ttab
      exact List.mem_flatMap.2 ⟨f, hf, List.mem_map.2 ⟨r, List.mem_range.2 hr, rfl⟩⟩)
    rwa [e q (by omega), tM_at (by omega)] at this
  · intro h q hq x hx
    rw [tM_len] at hq
    rw [tM_at (by omega)] at hx
    obtain ⟨f, r, hf, hr, rfl⟩ := ttab_mem hx
    rw [e q (by omega), tM_at (by omega)]
    exact h q f r hf hr
theorem tot_apo {p : Int} {ds : List (List Int)} {ac dn : List (List (List (List Int)))} (hp : IsP p) (hok : DclOk ds) (ht : TbsOk p ds ac dn) : ∀ q, q + 1 < (tM ds ac dn).length → ∀ r ∈ (tM ds ac dn).getD (q + 1) [], ApOk p ((tD ds).getD q 0).toNat r ((tM ds ac dn).getD q []) := by
  intro q hq x hx
  rw [tM_len] at hq
  rw [tM_at (by omega)] at hx
  obtain ⟨f, r, hf, hr, rfl⟩ := ttab_mem hx
  rw [tM_at (by omega), tD_at (by omega), Int.toNat_natCast]
  exact tot_ap hp hok ht (mem_cells.2 (mem_dgn.1 hf).1) hr q
theorem RwC.cx {lo hi : Nat} {W : World} {u : Value} {p : Int} {ds : List Int} {ms : List (List (List Int))} (h : RwC lo hi W u (p, ds, ms)) : ∃ ad cd am cm, u = .agg #[.int .i64 p, .slice ad ds.length cd, .slice am ms.length cm] ∧ Cx 0 W (.slice ad ds.length cd) (.slice am ms.length cm) ds ms := by
  obtain ⟨ad, cd, am, cm, rfl, h1, _⟩ := h
  exact ⟨ad, cd, am, cm, rfl, h1.1.l1.lower (Nat.zero_le _), h1.2.l3.lower (Nat.zero_le _)⟩

set_option maxRecDepth 100000 in
set_option maxHeartbeats 4000000 in
theorem isDouble_any (p : Int) (dv av vv : Value) (ds : List (List Int)) (ac dn : List (List (List (List Int)))) (w : World) (h : Dx 0 w dv av vv ds ac dn) (hbd : Bd2 1048576 ds) (hba : Bd4 1048576 ac) (hbv : Bd4 1048576 dn) :
    Calls Try.prog 13 #[.agg #[.int .i64 p, dv, av, vv]] w (BB (IsDb p ds ac dn) w) := by
  have HX0 := Lib.hid (DBx.start (p := p) 28 h)
  have HBD := Lib.hid hbd
  have HBA := Lib.hid hba
  have HBV := Lib.hid hbv
  clear h hbd hba hbv
  go_enter Try.func13, Try.ntmps13
  go_wp2_with fail
  refine (hasCells_any p dv av vv ds ac dn _ HX0.out.dx HBD.out).mono ?_
  rintro e w' ⟨b1, rfl, hb1, hbb1⟩
  have HX1 := Lib.hid (HX0.out.next hb1)
  have HBB := Lib.hid hbb1
  clear hb1 hbb1 HX0
  have c0 := HX1.out.c0
  have c1 := HX1.out.c1
  have c2 := HX1.out.c2
  have c3 := HX1.out.c3
  cases b1
  · go_wp2
    go_ret
    exact ⟨false, rfl, HX1.out.below, ⟨fun h => (by cases h), fun h => absurd (HBB.out.2 ⟨h.prime, h.cel⟩) (by simp)⟩⟩
  · have HPC := Lib.hid (HBB.out.1 (by simp))
    clear HBB
    go_wp2_with fail
    refine (hasTables_any p dv av vv ds ac dn _ HX1.out.dx HPC.out.1 HPC.out.2 HBA.out HBV.out).mono ?_
    rintro e w' ⟨b2, rfl, hb2, hbb2⟩
    have HX2 := Lib.hid (HX1.out.next hb2)
    have HBB2 := Lib.hid hbb2
    clear hb2 hbb2 HX1 c0 c1 c2 c3
    have c0 := HX2.out.c0
    have c1 := HX2.out.c1
    have c2 := HX2.out.c2
    have c3 := HX2.out.c3
    cases b2
    · go_wp2
      go_ret
      exact ⟨false, rfl, HX2.out.below, ⟨fun h => (by cases h), fun h => absurd (HBB2.out.2 h.tbs) (by simp)⟩⟩
    · have HTB := Lib.hid (HBB2.out.1 (by simp))
      clear HBB2
      go_wp2_with fail
      refine (totalComplex_any p HPC.out.1 dv av vv ds ac dn _ HX2.out.dx HPC.out.2 HTB.out).mono ?_
      rintro e w' ⟨u, rfl, hrc, hb3⟩
      obtain ⟨ad, cd, am, cm, rfl, hcx⟩ := hrc.cx
      have HX3 := Lib.hid (HX2.out.next hb3)
      have HSQ : Hid (∀ W, Cx 0 W (.slice ad (tD ds).length cd) (.slice am (tM ds ac dn).length cm) (tD ds) (tM ds ac dn) → Calls Try.prog 47 #[.agg #[.int .i64 p, .slice ad (tD ds).length cd, .slice am (tM ds ac dn).length cm]] W (BB (SqB (apT p) (tD ds) (tM ds ac dn)) W)) := Lib.hid (fun W hc =>
        squaresB_any p (apT p) (ApOk p) (fun c v t ok => apT_length ok) (fun c va vt v t w ok ha hv hvl hc => applyTable_any p c va vt v t w ok ha hv hvl hc) _ _ _ _ W hc (tot_sz HPC.out.1 HPC.out.2 HTB.out) (tot_apo HPC.out.1 HPC.out.2 HTB.out))
      have HCX := Lib.hid hcx
      obtain ⟨l1, hl1⟩ : ∃ l, l = (tD ds).length := ⟨_, rfl⟩
      obtain ⟨l2, hl2⟩ : ∃ l, l = (tM ds ac dn).length := ⟨_, rfl⟩
      rw [← hl1, ← hl2] at HSQ HCX ⊢
      clear hcx hrc hb3 hl1 hl2 c0 c1 c2 c3 HX2
      go_wp2_with fail
      refine (HSQ.out _ HCX.out).mono ?_
      rintro e w' ⟨b3, rfl, hb4, hbb3⟩
      have HX4 := Lib.hid (HX3.out.next hb4)
      have HBB3 := Lib.hid hbb3
      clear hb4 hbb3 HX3
      go_wp2
      go_ret
      exact ⟨b3, rfl, HX4.out.below, HBB3.out.trans ((tot_sq HPC.out.1 HPC.out.2 HTB.out).trans ⟨fun h => ⟨HPC.out.1, HPC.out.2, HTB.out, h⟩, fun h => h.cnd⟩)⟩
end Go.Proofs.Ytlopenephgabhaa


namespace Go.Proofs.Ytlopenephgabhaa
open Go.RowKit

/-- While a table is being made row by row: k rows are there. -/
structure Sc (w w' : World) (r c k : Nat) (Z : Nat → Nat → Int) : Prop where
  below : Below w.heap.size w w'
  size : w'.heap.size = w.heap.size + 1 + k
  top : w'.rowIs w.heap.size 35 r (fun j => if j < k then .slice (some ⟨w.heap.size + 1 + j, 0, none⟩) c c else .slice none 0 0)
  rows : ∀ j, j < k → w'.rowIs (w.heap.size + 1 + j) 2 c (fun i => .int .i64 (Z j i))
theorem Sc.start (w : World) (r c : Nat) (Z : Nat → Nat → Int) : Sc w (w.alloc (.cells (madeCells #[.slice none 0 0] r) 35)) r c 0 Z :=
  ⟨(Below.refl _ _).alloc (Nat.le_refl _) _, by simp, (World.rowIs_made w _ r _).congr (fun j _ => by simp), fun j hj => absurd hj (Nat.not_lt_zero _)⟩
theorem Sc.congr {w w' : World} {r c k : Nat} {Z Z' : Nat → Nat → Int} (h : Sc w w' r c k Z) (e : ∀ j, j < k → ∀ i, i < c → Z j i = Z' j i) : Sc w w' r c k Z' :=
  ⟨h.below, h.size, h.top, fun j hj => (h.rows j hj).congr (fun i hi => by rw [e j hj i hi])⟩
theorem Sc.drew {w w' : World} {r c k : Nat} {Z : Nat → Nat → Int} (h : Sc w w' r c k Z) : Sc w w'.drew r c k Z := ⟨h.below.drew, h.size, h.top.drew, fun j hj => (h.rows j hj).drew⟩
theorem Sc.step {w w' : World} {r c k : Nat} {Z : Nat → Nat → Int} (h : Sc w w' r c k Z) : Sc w ((w'.alloc (.cells (madeCells #[.int .i64 0] c) 2)).setCell ⟨w.heap.size, k, none⟩ (.slice (some ⟨w'.heap.size, 0, none⟩) c c)) r c (k + 1) (fun j i => if j < k then Z j i else 0) := by
  have hnew := World.rowIs_made w' (.int .i64 0) c 2
  have hs := h.size
  refine ⟨(h.below.alloc (by omega) _).setCell (Nat.le_refl _) _, by simp [h.size]; omega, ((h.top.alloc _).set k _).congr (fun j _ => ?_), fun j hj => ?_⟩
  · by_cases e : j = k
    · subst e
      rw [if_pos rfl, if_pos (Nat.lt_succ_self _), hs]
    · rw [if_neg e]
      by_cases h2 : j < k
      · rw [if_pos h2, if_pos (by omega)]
      · rw [if_neg h2, if_neg (by omega)]
  · by_cases e : j = k
    · subst e
      rw [← hs]
      exact (hnew.setOther (by show w'.heap.size ≠ w.heap.size; omega) _).congr (fun i _ => by simp)
    · exact (((h.rows j (by omega)).alloc _).setOther (by show w.heap.size + 1 + j ≠ w.heap.size; omega) _).congr (fun i _ => by rw [if_pos (show j < k by omega)])
theorem Sc.put {w w' : World} {r c k : Nat} {Z : Nat → Nat → Int} (h : Sc w w' r c k Z) {j i : Nat} (hj : j < k) (x : Int) :
    Sc w (w'.setCell ⟨w.heap.size + 1 + j, i, none⟩ (.int .i64 x)) r c k (fun j2 i2 => if j2 = j ∧ i2 = i then x else Z j2 i2) := by
  refine ⟨h.below.setCell (by show w.heap.size ≤ w.heap.size + 1 + j; omega) _, by simp [h.size], h.top.setOther (by show w.heap.size ≠ w.heap.size + 1 + j; omega) _, fun j2 hj2 => ?_⟩
  by_cases e : j2 = j
  · subst e
    exact ((h.rows j2 hj2).set i _).congr (fun i2 _ => by by_cases e2 : i2 = i <;> simp [e2])
  · exact ((h.rows j2 hj2).setOther (by show w.heap.size + 1 + j2 ≠ w.heap.size + 1 + j; omega) _).congr (fun i2 _ => by simp [e])
theorem Sc.done {w w' : World} {r c : Nat} {Z : Nat → Nat → Int} (h : Sc w w' r c r Z) : Mat w w' r c Z :=
  ⟨h.below, h.size, h.top.congr (fun j hj => by rw [if_pos hj]), h.rows⟩

def scZ (p x : Int) (t : List (List Int)) (j i : Nat) : Int := x * (t.getD j []).getD i 0 % p

theorem mulB {x z : Int} (h0 : -1048576 ≤ x) (h1 : x ≤ 1048576) (h2 : -1048576 ≤ z) (h3 : z ≤ 1048576) : -1099511627776 ≤ x * z ∧ x * z ≤ 1099511627776 := by
  have h : (x * z).natAbs ≤ 1048576 * 1048576 := by
    rw [Int.natAbs_mul]
    exact Nat.mul_le_mul (by omega) (by omega)
  omega
theorem tmod_up (m p : Int) (hp : 0 < p) : (m.tmod p + p).tmod p = m % p := by
  have h1 := Int.lt_tmod_of_pos m hp
  rw [Int.tmod_eq_emod_of_nonneg (by omega)]
  have h2 := Int.tmod_add_mul_tdiv m p
  have e : m.tmod p + p = m + p * (1 - m.tdiv p) := by rw [Int.mul_sub]; omega
  rw [e, Int.add_mul_emod_self_left]

set_option maxHeartbeats 1600000 in
set_option maxRecDepth 100000 in
theorem scaledTableW_any (p x : Int) (c : Nat) (vt : Value) (t : List (List Int)) (w : World) (hp0 : 0 < p) (hp1 : p ≤ 1048576) (hx : -1048576 ≤ x ∧ x ≤ 1048576) (ht : L2 0 w vt t) (hr : t.length ≤ 1048576) (hc : c ≤ 1048576) (hrow : ∀ y ∈ t, y.length = c ∧ ∀ z ∈ y, -1048576 ≤ z ∧ z ≤ 1048576) :
    Calls Try.prog 82 #[.int .i64 p, .int .i64 x, vt] w (MatR t.length c (scZ p x t) w) := by
  have hmk := run_make_row' (P := Try.prog) 22 35 (.slice none 0 0) 24 Try.underlying22 Try.infoS rfl .i64 .i64 t.length (by omega) (by omega)
  have hmk2 := run_make_row' (P := Try.prog) 35 2 (.int .i64 0) 8 Try.underlying35 Try.infoI rfl .i64 .i64 c (by omega) (by omega)
  obtain ⟨at', ct, rfl⟩ := Sl.shape ht
  have HT : Hid (∀ W, Below w.heap.size w W → L2 0 W (.slice at' t.length ct) t) := Lib.hid (fun W h => ht.below h)
  have HROW := Lib.hid hrow
  clear ht hrow
  go_enter Try.func82, Try.ntmps82
  go_wp2
  clear hmk
  go_loopw [8, 9, 10, 11, 17, 30] (fun _ _ _ _ i _ wr => ∃ (k : Nat), k ≤ t.length ∧ i = .int .i64 k ∧ Hid (Sc w wr t.length c k (scZ p x t))) (fun _ _ _ _ i _ _ => t.length - (intOf i).toNat)
  case atStart => exact ⟨0, Nat.zero_le _, rfl, Lib.hid (Sc.start _ _ _ _)⟩
  case round =>
    obtain ⟨k, hk, rfl, HS⟩ := hrel
    obtain ⟨wx, hwx⟩ : ∃ wx : World, wx = wr := ⟨_, rfl⟩
    subst hwx
    by_cases hlt : k < t.length
    · have hkl : (k : Int) < (t.length : Int) := by omega
      refine Sl.cases (HT.out _ (Below.refl _ _)) (fun _ _ hx _ => absurd hlt (by simp [hx])) (fun bt ot ct2 hvt _ _ hcl => ?_)
      injection hvt with e1 e2 e3
      clear e2
      subst e1 e3
      obtain ⟨ur, hur0, hrr⟩ := hcl k hlt
      have hur : wx.cell? ⟨bt, ot + k, none⟩ = some ur := later HS.out.below (Nat.le_refl _) hur0
      obtain ⟨y, hy⟩ : ∃ y, y = t[k] := ⟨_, rfl⟩
      rw [← hy] at hrr
      obtain ⟨ar, cr, hus⟩ := Sl.shape hrr
      have hyr := HROW.out y (by rw [hy]; exact List.getElem_mem hlt)
      rw [hyr.1] at hus
      subst hus
      have HY : Hid (t.getD k [] = y) := Lib.hid (by rw [getD_of_lt _ hlt, hy])
      have HYR := Lib.hid hyr
      have HRL : Hid (∀ W, Below w.heap.size w W → L1 0 W (.slice ar c cr) y) := Lib.hid (fun W hW => hrr.below hW)
      have h0 : ∀ o, (wx.alloc o).cell? ⟨w.heap.size, k, none⟩ = some (.slice none 0 0) := fun o => by rw [(HS.out.top.alloc o).cell hlt, if_neg (Nat.lt_irrefl _)]
      have hf : ∀ o, (wx.alloc o).frozen? ⟨w.heap.size, k, none⟩ = false := fun o => (HS.out.top.alloc o).frozen k
      have hsz := HS.out.size
      have hst := HS.out.step
      rw [hsz] at hst
      have HS1 := Lib.hid hst
      clear hcl hrr hyr hy HS hur0 hst
      go_wp2
      clear h0 hf hur
      go_loopw [10, 11, 30] (fun _ _ i wr => ∃ (q : Nat), q ≤ c ∧ i = .int .i64 q ∧ Hid (Sc w wr t.length c (k + 1) (fun j i => if j < k then scZ p x t j i else if i < q then scZ p x t k i else 0))) (fun _ _ i _ => c - (intOf i).toNat)
      case atStart => exact ⟨0, Nat.zero_le _, rfl, Lib.hid (HS1.out.congr (fun j _ i _ => by by_cases e : j < k <;> simp [e]))⟩
      case round =>
        clear HS1
        obtain ⟨q, hq, rfl, HQ⟩ := hrel
        obtain ⟨wy, hwy⟩ : ∃ wy : World, wy = wr := ⟨_, rfl⟩
        subst hwy
        by_cases hlq : q < c
        · have hql : (q : Int) < (c : Int) := by omega
          have hqy : q < y.length := by rw [HYR.out.1]; exact hlq
          obtain ⟨z, hz⟩ : ∃ z, z = y.getD q 0 := ⟨_, rfl⟩
          have hzb := HYR.out.2 z (by rw [hz, getD_of_lt _ hqy]; exact List.getElem_mem hqy)
          refine Sl.cases (HRL.out _ HQ.out.below) (fun _ _ hx _ => absurd hqy (by simp [hx])) (fun br orr cr2 hvr _ _ hcr => ?_)
          injection hvr with e1 e2 e3
          clear e2
          subst e1 e3
          obtain ⟨uz, huz, hrz⟩ := hcr q hqy
          have hnum : wy.cell? ⟨br, orr + q, none⟩ = some (.int .i64 z) := by rw [huz, hrz, hz, getD_of_lt _ hqy]
          have htop : wy.cell? ⟨w.heap.size, k, none⟩ = some (.slice (some ⟨w.heap.size + 1 + k, 0, none⟩) c c) := by rw [HQ.out.top.cell hlt, if_pos (Nat.lt_succ_self _)]
          have hrk := HQ.out.rows k (Nat.lt_succ_self _)
          have hold := hrk.cell hlq
          have hfz := hrk.frozen q
          obtain ⟨hm0, hmb⟩ := mulB hx.1 hx.2 hzb.1 hzb.2
          have hmul : IntKind.i64.wrap (x * z) = x * z := IntWalk.i64_in _ (by omega)
          have hr1 := Int.lt_tmod_of_pos (x * z) hp0
          have hr2 := Int.tmod_lt_of_pos (x * z) hp0
          have hr3 := tmod_up (x * z) p hp0
          obtain ⟨rr, hrr2⟩ : ∃ rr, rr = (x * z).tmod p := ⟨_, rfl⟩
          have hrem : (x * z).tmod p = rr := hrr2.symm
          rw [hrem] at hr1 hr2 hr3
          have HRR := Lib.hid hrr2
          clear hrr2
          have hwr0 : IntKind.i64.wrap rr = rr := IntWalk.i64_in _ (by omega)
          have hadd : IntKind.i64.wrap (rr + p) = rr + p := IntWalk.i64_in _ (by omega)
          have hm1 := Int.emod_nonneg (x * z) (show p ≠ 0 by omega)
          have hm2 := Int.emod_lt_of_pos (x * z) hp0
          have hwr : IntKind.i64.wrap (x * z % p) = x * z % p := IntWalk.i64_in _ (by omega)
          have hpz : (p == 0) = false := by simp; omega
          have hpz2 : ¬ p = 0 := by omega
          have hpm : (p == -1) = false := by simp; omega
          have HS2 : Hid (Sc w (wy.setCell ⟨w.heap.size + 1 + k, q, none⟩ (.int .i64 (x * z % p))) t.length c (k + 1) (fun j i => if j < k then scZ p x t j i else if i < q + 1 then scZ p x t k i else 0)) := Lib.hid ((HQ.out.put (j := k) (i := q) (Nat.lt_succ_self _) (x * z % p)).congr (fun j hj i hi => by
            by_cases e : j = k
            · subst e
              by_cases e2 : i = q
              · subst e2
                have e5 : scZ p x t j i = x * z % p := by unfold scZ; rw [HY.out, hz]
                simp [e5]
              · have e3 : (i < q + 1) ↔ (i < q) := by omega
                simp [e2, e3]
            · have e4 : j < k := by omega
              simp [e, e4]))
          clear huz hrz hcr hrk hz
          go_wp2
          go_region
          all_goals go_wp2
          all_goals go_roundw
          case rel => exact ⟨q + 1, by omega, by go_num, Lib.hid HS2.out.drew⟩
          case measure => simp [intOf]; omega
        · have hqn : ¬ (q : Int) < (c : Int) := by omega
          obtain rfl : q = c := by omega
          have HK1 : Hid (Sc w wy t.length q (k + 1) (scZ p x t)) := Lib.hid (HQ.out.congr (fun j hj i hi => by
            by_cases e : j < k
            · simp [e]
            · have e2 : j = k := by omega
              subst e2
              simp [hi]))
          go_wp2
          go_roundw
          case rel => first | exact ⟨k + 1, by omega, by go_num, HK1⟩ | ((repeat apply Exists.intro); exact ⟨⟨k + 1, by omega, by go_num, HK1⟩, rfl⟩)
          case measure => simp [intOf]; omega
    · have hkn : ¬ (k : Int) < (t.length : Int) := by omega
      obtain rfl : k = t.length := by omega
      go_wp2
      go_ret
      exact ⟨rfl, HS.out.done⟩
theorem scaledTable_any (p x : Int) (c : Nat) (vt : Value) (t : List (List Int)) (w : World) (hp0 : 0 < p) (hp1 : p ≤ 1048576) (hx : 0 ≤ x ∧ x ≤ p - 1) (ht : L2 0 w vt t) (hr : t.length ≤ 1048576) (hc : c ≤ 1048576) (hrow : ∀ y ∈ t, y.length = c ∧ ∀ z ∈ y, 0 ≤ z ∧ z ≤ p - 1) :
    Calls Try.prog 82 #[.int .i64 p, .int .i64 x, vt] w (MatR t.length c (scZ p x t) w) :=
  scaledTableW_any p x c vt t w hp0 hp1 ⟨by omega, by omega⟩ ht hr hc (fun y hy => ⟨(hrow y hy).1, fun z hz => by have := (hrow y hy).2 z hz; omega⟩)
end Go.Proofs.Ytlopenephgabhaa


namespace Go.Proofs.Ytlopenephgabhaa
open Go.ChangeShapes Go.WideShapes Go.ChangeAt Go.RowKit Go.Deep
theorem Try.infoSSS : (Try.prog.info? 36).map (fun i => (i.zero, i.size, i.bytes)) = some (some (.slice none 0 0), 1, 24) := by kernel_rfl
theorem Try.cellsSSS : Try.prog.cellsOf 36 = 1 := by kernel_rfl
theorem L4.lower {lo lo' : Nat} (hl : lo' ≤ lo) {w : World} {v : Value} {xs : List (List (List (List Int)))} (h : L4 lo w v xs) : L4 lo' w v xs := Sl.lower hl (fun _ _ _ h => L3.lower hl h) h

set_option maxHeartbeats 800000 in
theorem to4_any (v : Value) (xs : List (List (List (List Int)))) (w : World) (h : L4 0 w v xs) (hm : Bd4 1048576 xs) :
    Calls Try.prog 44 #[v] w (ToR L4 xs w) := by
  have hml : xs.length ≤ 1048576 := hm.1
  have HM := Lib.hid hm
  clear hm
  have hmk := run_make_row' (P := Try.prog) 23 36 (.slice none 0 0) 24 Try.underlying23 Try.infoSSS rfl .i64 .i64 xs.length (by omega) (by omega)
  refine Sl.cases h (fun ad cap hx hv => ?_) (fun b o cap hv _ hpos hc => ?_)
  · subst hx hv
    have hmk0 : ∀ w, (Instr.makeSlice 23 (.int .i64 0) (.int .i64 0)).run Try.prog w = .ok (.slice (some ⟨w.heap.size, 0, none⟩) 0 0) (w.alloc (.cells #[] 36)) := fun _ => by kernel_rfl
    clear hmk
    go_enter Try.func44, Try.ntmps44
    go_wp2
    refine wp_loop_rounds 1 ?_
    rw [rounds_succ]
    go_wp2
    go_ret
    exact ⟨_, rfl, Or.inl ⟨rfl, _, _, rfl⟩, (Below.refl _ _).alloc (Nat.le_refl _) _⟩
  · subst hv
    clear h
    have HC := Lib.hid hc
    clear hc
    go_enter Try.func44, Try.ntmps44
    go_wp2
    clear hmk
    go_loopw [4] (fun i wr => ∃ (k : Nat) (f : Nat → Value), k ≤ xs.length ∧ i = .int .i64 k ∧ Fill w wr 36 xs.length k (.slice none 0 0) (L3 (w.heap.size + 1)) xs f) (fun i _ => xs.length - (intOf i).toNat)
    case atStart => exact ⟨0, _, Nat.zero_le _, rfl, Fill.start _ _ _ _ _ _⟩
    case round =>
      obtain ⟨k, f, hk, rfl, HF⟩ := hrel
      by_cases hlt2 : k < xs.length
      · obtain ⟨u, hu, hr⟩ := HC.out k hlt2
        have hu' : wr.cell? ⟨b, o + k, none⟩ = some u := by
          rw [HF.below.cell (p := ⟨b, o + k, none⟩) (cell_lt hu), hu]
        have hr' : L3 0 wr u xs[k] := hr.below HF.below
        have hmx : Bd3 1048576 xs[k] := HM.out.2 _ (List.getElem_mem hlt2)
        have HF' := Lib.hid HF
        have HR' := Lib.hid hr'
        clear HF hu hr hr'
        go_wp2_with fail
        refine (to3_any u xs[k] _ HR'.out hmx).mono ?_
        rintro e w1 ⟨u1, rfl, hr1, hb1⟩
        obtain ⟨ad1, cap1, rfl⟩ := Sl.shape hr1
        have hlr := HF'.out.row.lt
        have hc1 : w1.cell? ⟨w.heap.size, k, none⟩ = some (f k) := (hb1.cell (p := ⟨w.heap.size, k, none⟩) hlr).trans (HF'.out.row.cell hlt2)
        have hc2 : w1.frozen? ⟨w.heap.size, k, none⟩ = false := (hb1.frozen (p := ⟨w.heap.size, k, none⟩) hlr).trans (HF'.out.row.frozen k)
        have HS := Lib.hid (HF'.out.step (w1 := w1) (u := _) (stable3 _) hb1 hlt2 (hr1.lower hlr))
        clear hr1 hb1 hlr
        go_wp2
        go_roundw
        case rel => exact ⟨k + 1, _, by omega, by go_num, HS.out⟩
        case measure => simp [intOf]; omega
      · obtain rfl : k = xs.length := by omega
        have HF' := Lib.hid HF
        clear HF
        go_wp2
        go_ret
        exact ⟨_, rfl, Sl.lower (Nat.le_refl _) (fun _ _ _ h => h.lower (Nat.le_succ _)) (HF'.out.sl (Nat.le_refl _)), HF'.out.below⟩

def W4 (lo hi : Nat) := Sw lo hi (W3 lo hi)
theorem steady4 (lo hi : Nat) : Steady lo hi (W4 lo hi) := (steady3 lo hi).sw
theorem W4.wider {lo hi lo' hi' : Nat} (hl : lo' ≤ lo) (hh : hi ≤ hi') {w : World} {v : Value} {xs : List (List (List (List Int)))} (h : W4 lo hi w v xs) : W4 lo' hi' w v xs := Sw.wider hl hh (fun _ _ _ h => h.wider hl hh) h
theorem W4.l4 {lo hi : Nat} {w : World} {v : Value} {xs : List (List (List (List Int)))} (h : W4 lo hi w v xs) : L4 lo w v xs := Sw.sl (fun _ _ _ h => h.l3) h
theorem W4.same {lo hi : Nat} {w w' : World} {v : Value} {xs : List (List (List (List Int)))} (h : W4 lo hi w v xs) (hs : Same lo hi w w') : W4 lo hi w' v xs := steady4 lo hi _ _ _ _ hs h

set_option maxHeartbeats 800000 in
theorem to4w_any (v : Value) (xs : List (List (List (List Int)))) (w : World) (h : L4 0 w v xs) (hm : Bd4 1048576 xs) :
    Calls Try.prog 44 #[v] w (ToW W4 xs w) := by
  have hml : xs.length ≤ 1048576 := hm.1
  have HM := Lib.hid hm
  clear hm
  have hmk := run_make_row' (P := Try.prog) 23 36 (.slice none 0 0) 24 Try.underlying23 Try.infoSSS rfl .i64 .i64 xs.length (by omega) (by omega)
  refine Sl.cases h (fun ad cap hx hv => ?_) (fun b o cap hv _ hpos hc => ?_)
  · subst hx hv
    have hmk0 : ∀ w, (Instr.makeSlice 23 (.int .i64 0) (.int .i64 0)).run Try.prog w = .ok (.slice (some ⟨w.heap.size, 0, none⟩) 0 0) (w.alloc (.cells #[] 36)) := fun _ => by kernel_rfl
    clear hmk
    go_enter Try.func44, Try.ntmps44
    go_wp2
    refine wp_loop_rounds 1 ?_
    rw [rounds_succ]
    go_wp2
    go_ret
    exact ⟨_, rfl, Or.inl ⟨rfl, _, _, rfl⟩, (Below.refl _ _).alloc (Nat.le_refl _) _⟩
  · subst hv
    clear h
    have HC := Lib.hid hc
    clear hc
    go_enter Try.func44, Try.ntmps44
    go_wp2
    clear hmk
    go_loopw [4] (fun i wr => ∃ (k : Nat) (f : Nat → Value), k ≤ xs.length ∧ i = .int .i64 k ∧ FillW w wr 36 xs.length k (.slice none 0 0) W3 xs f) (fun i _ => xs.length - (intOf i).toNat)
    case atStart => exact ⟨0, _, Nat.zero_le _, rfl, FillW.start _ _ _ _ _ _⟩
    case round =>
      obtain ⟨k, f, hk, rfl, HF⟩ := hrel
      by_cases hlt2 : k < xs.length
      · obtain ⟨u, hu, hr⟩ := HC.out k hlt2
        have hu' : wr.cell? ⟨b, o + k, none⟩ = some u := by
          rw [HF.below.cell (p := ⟨b, o + k, none⟩) (cell_lt hu), hu]
        have hr' : L3 0 wr u xs[k] := hr.below HF.below
        have hmx : Bd3 1048576 xs[k] := HM.out.2 _ (List.getElem_mem hlt2)
        have HF' := Lib.hid HF
        have HR' := Lib.hid hr'
        clear HF hu hr hr'
        go_wp2_with fail
        refine (to3w_any u xs[k] _ HR'.out hmx).mono ?_
        rintro e w1 ⟨u1, rfl, hr1, hb1⟩
        obtain ⟨ad1, cap1, rfl⟩ := Sw.shape hr1
        have hlr := HF'.out.row.lt
        have hc1 : w1.cell? ⟨w.heap.size, k, none⟩ = some (f k) := (hb1.cell (p := ⟨w.heap.size, k, none⟩) hlr).trans (HF'.out.row.cell hlt2)
        have hc2 : w1.frozen? ⟨w.heap.size, k, none⟩ = false := (hb1.frozen (p := ⟨w.heap.size, k, none⟩) hlr).trans (HF'.out.row.frozen k)
        have HS := Lib.hid (HF'.out.step (w1 := w1) (u := _) steady3 (fun _ _ _ _ _ _ _ h1 h2 h => W3.wider h1 h2 h) hb1 hlt2 hr1)
        clear hr1 hb1 hlr
        go_wp2
        go_roundw
        case rel => exact ⟨k + 1, _, by omega, by go_num, HS.out⟩
        case measure => simp [intOf]; omega
      · obtain rfl : k = xs.length := by omega
        have HF' := Lib.hid HF
        clear HF
        go_wp2
        go_ret
        exact ⟨_, rfl, HF'.out.sw (fun _ _ _ _ _ _ _ h1 h2 h => W3.wider h1 h2 h), HF'.out.below⟩

set_option maxHeartbeats 800000 in
theorem eq4_any (va vb : Value) (xs ys : List (List (List (List Int)))) (w : World) (ha : L4 0 w va xs) (hb : L4 0 w vb ys) (hm : Bd4 1048576 xs) (hn : Bd4 1048576 ys) :
    Calls Try.prog 49 #[va, vb] w (QR (.bool (decide (xs = ys))) w) := by
  have hm0 : xs.length ≤ 1048576 := hm.1
  have hn0 : ys.length ≤ 1048576 := hn.1
  have HM := Lib.hid hm
  have HN := Lib.hid hn
  clear hm hn
  by_cases hl : ys.length = xs.length
  · refine Sl.cases ha (fun ad cap hx hv => ?_) (fun b o cap hv _ hpos hc => ?_)
    · subst hx hv
      obtain ⟨ad2, cap2, hv2⟩ := Sl.shape hb
      rw [hl] at hv2
      obtain rfl : ys = [] := List.eq_nil_of_length_eq_zero hl
      subst hv2
      clear ha hb hl
      go_enter Try.func49, Try.ntmps49
      go_wp2
      refine wp_loop_rounds 1 ?_
      rw [rounds_succ]
      go_wp2
      go_ret
      exact ⟨rfl, 0, rfl⟩
    · refine Sl.cases hb (fun ad cap hx hv => absurd hl (by subst hx; simp; omega)) (fun b2 o2 cap2 hv2 _ hpos2 hc2 => ?_)
      rw [hl] at hv2
      subst hv hv2
      clear ha hb
      have HL := Lib.hid hl
      have HC := Lib.hid hc
      have HC2 := Lib.hid hc2
      clear hl hc hc2
      go_enter Try.func49, Try.ntmps49
      go_wp2
      go_loopw [5] (fun i wr => ∃ (k m : Nat), k ≤ xs.length ∧ i = .int .i64 k ∧ wr = w.drewN m ∧ Hid (∀ j (h1 : j < xs.length) (h2 : j < ys.length), j < k → xs[j] = ys[j])) (fun i _ => xs.length - (intOf i).toNat)
      case atStart => exact ⟨0, 0, Nat.zero_le _, rfl, rfl, Lib.hid (fun _ _ _ h => absurd h (Nat.not_lt_zero _))⟩
      case round =>
        obtain ⟨k, m, hk, rfl, hw, HD⟩ := hrel
        have HW := Lib.hid hw
        clear hw
        by_cases hlt2 : k < xs.length
        · have hlt3 : k < ys.length := by have := HL.out; omega
          obtain ⟨u, hu, hr⟩ := HC.out k hlt2
          obtain ⟨u2, hu2, hr2⟩ := HC2.out k hlt3
          have hu' : wr.cell? ⟨b, o + k, none⟩ = some u := by rw [HW.out]; exact hu
          have hu2' : wr.cell? ⟨b2, o2 + k, none⟩ = some u2 := by rw [HW.out]; exact hu2
          have HE := Lib.hid (fun (m2 : Nat) => eq3_any u u2 xs[k] ys[k] (wr.drewN m2) (by rw [HW.out]; exact (hr.below (drewN_below w m)).below (drewN_below _ m2)) (by rw [HW.out]; exact (hr2.below (drewN_below w m)).below (drewN_below _ m2)) (HM.out.2 _ (List.getElem_mem hlt2)) (HN.out.2 _ (List.getElem_mem hlt3)))
          clear hr hr2 hu hu2
          by_cases hxy : xs[k] = ys[k]
          · have HXY := Lib.hid hxy
            have HE' : Hid (∀ m2 : Nat, Calls Try.prog 62 #[u, u2] (wr.drewN m2) (QR (.bool true) (wr.drewN m2))) := Lib.hid (fun m2 => by have := HE.out m2; rwa [decide_eq_true hxy] at this)
            clear hxy HE
            go_wp2
            go_quiet ((go_at_call 62; exact Calls.quiet_of (HE'.out _)))
            go_wp2
            go_roundw
            case rel => exact ⟨k + 1, m + nq, by omega, by go_num, by rw [HW.out, World.drewN_drewN], Lib.hid (fun j h1 h2 hjk => by
              by_cases e : j = k
              · subst e; exact HXY.out
              · exact HD.out j h1 h2 (by omega))⟩
            case measure => simp [intOf]; omega
          · have HXY := Lib.hid hxy
            have HE' : Hid (∀ m2 : Nat, Calls Try.prog 62 #[u, u2] (wr.drewN m2) (QR (.bool false) (wr.drewN m2))) := Lib.hid (fun m2 => by have := HE.out m2; rwa [decide_eq_false hxy] at this)
            clear hxy HE
            go_wp2
            go_quiet ((go_at_call 62; exact Calls.quiet_of (HE'.out _)))
            go_wp2
            go_ret
            refine ⟨ret_bool ?_, m + nq, by rw [HW.out, World.drewN_drewN]⟩
            have hne : ¬ xs = ys := fun e => HXY.out (by subst e; rfl)
            simp [hne]
        · go_wp2
          go_ret
          refine ⟨ret_bool ?_, m, HW.out⟩
          have := list_eq_take HL.out (by omega) HD.out
          simp [this]
  · obtain ⟨ad, cap, rfl⟩ := Sl.shape ha
    obtain ⟨ad2, cap2, rfl⟩ := Sl.shape hb
    clear ha hb
    have hq : ((xs.length : Int) != (ys.length : Int)) = true := by simp; omega
    have hq2 : ((xs.length : Int) == (ys.length : Int)) = false := by simp; omega
    have HL := Lib.hid hl
    clear hl
    go_enter Try.func49, Try.ntmps49
    go_wp2
    go_ret
    refine ⟨ret_bool ?_, 0, rfl⟩
    have hne : ¬ xs = ys := fun e => HL.out (by rw [e])
    simp [hne]

section
variable {H : Type} {enc : TypeId × Value → H} {w : World} {base : Nat} {held : Bool}
theorem l4_of_trod {fuel : Nat} {v : Value} {x : DataW H × List MemPlace} (h : DataW.trod enc Try.prog w base (fun _ => true) held fuel 23 [v] = some x) : ∃ xs, L4 0 w v xs ∧ Bd4 9223372036854775807 xs := by
  obtain ⟨xs, h1, h2, h3⟩ := sl_of_trod (R := L3 0) (B := Bd3 9223372036854775807) Try.underlying23 Try.cellsSSS (fun fuel v x hh => l3_of_trod hh) h
  exact ⟨xs, h1, h2, h3⟩
end
end Go.Proofs.Ytlopenephgabhaa


namespace Go.Proofs.Ytlopenephgabhaa
open Go.ChangeShapes Go.WideShapes Go.ChangeAt Go.RowKit Go.Deep
def CapOk (v : Value) : Prop := ∃ a n c, v = .slice a n c ∧ n ≤ c
def L3c (lo : Nat) (w : World) (v : Value) (x : List (List (List Int))) : Prop := L3 lo w v x ∧ CapOk v
def L5 (lo : Nat) := Sl lo (L3c lo)
theorem stable3c (lo : Nat) : Stable lo (L3c lo) := fun _ _ _ _ hk h => ⟨stable3 lo _ _ _ _ hk h.1, h.2⟩
theorem stable5 (lo : Nat) : Stable lo (L5 lo) := (stable3c lo).sl
theorem L5.below {lo : Nat} {w w' : World} {v : Value} {xs : List (List (List (List Int)))} (h : L5 lo w v xs) (hb : Below w.heap.size w w') : L5 lo w' v xs := stable5 lo _ _ _ _ (Keep.of_below hb) h
theorem L5.lower {lo lo' : Nat} (hl : lo' ≤ lo) {w : World} {v : Value} {xs : List (List (List (List Int)))} (h : L5 lo w v xs) : L5 lo' w v xs := Sl.lower hl (fun _ _ _ h => ⟨L3.lower hl h.1, h.2⟩) h
theorem L5.l4 {lo : Nat} {w : World} {v : Value} {xs : List (List (List (List Int)))} (h : L5 lo w v xs) : L4 lo w v xs := Sl.lower (Nat.le_refl _) (fun _ _ _ h => h.1) h
def W3c (lo hi : Nat) (w : World) (v : Value) (x : List (List (List Int))) : Prop := W3 lo hi w v x ∧ CapOk v
def W5 (lo hi : Nat) := Sw lo hi (W3c lo hi)
theorem steady3c (lo hi : Nat) : Steady lo hi (W3c lo hi) := fun _ _ _ _ hs h => ⟨steady3 lo hi _ _ _ _ hs h.1, h.2⟩
theorem steady5 (lo hi : Nat) : Steady lo hi (W5 lo hi) := (steady3c lo hi).sw
theorem W3c.wider {lo hi lo' hi' : Nat} (hl : lo' ≤ lo) (hh : hi ≤ hi') {w : World} {v : Value} {xs : List (List (List Int))} (h : W3c lo hi w v xs) : W3c lo' hi' w v xs := ⟨W3.wider hl hh h.1, h.2⟩
theorem W5.wider {lo hi lo' hi' : Nat} (hl : lo' ≤ lo) (hh : hi ≤ hi') {w : World} {v : Value} {xs : List (List (List (List Int)))} (h : W5 lo hi w v xs) : W5 lo' hi' w v xs := Sw.wider hl hh (fun _ _ _ h => W3c.wider hl hh h) h
theorem W5.l5 {lo hi : Nat} {w : World} {v : Value} {xs : List (List (List (List Int)))} (h : W5 lo hi w v xs) : L5 lo w v xs := Sw.sl (fun _ _ _ h => ⟨h.1.l3, h.2⟩) h
theorem W5.same {lo hi : Nat} {w w' : World} {v : Value} {xs : List (List (List (List Int)))} (h : W5 lo hi w v xs) (hs : Same lo hi w w') : W5 lo hi w' v xs := steady5 lo hi _ _ _ _ hs h
abbrev Bd5 (n : Nat) (xs : List (List (List (List Int)))) : Prop := Bd4 n xs
theorem eq5_any (va vb : Value) (xs ys : List (List (List (List Int)))) (w : World) (ha : L5 0 w va xs) (hb : L5 0 w vb ys) (hm : Bd5 1048576 xs) (hn : Bd5 1048576 ys) :
    Calls Try.prog 49 #[va, vb] w (QR (.bool (decide (xs = ys))) w) := eq4_any va vb xs ys w ha.l4 hb.l4 hm hn

set_option maxHeartbeats 800000 in
theorem to3wc_any (v : Value) (xs : List (List (List Int))) (w : World) (h : L3 0 w v xs) (hm : Bd3 1048576 xs) :
    Calls Try.prog 78 #[v] w (ToW W3c xs w) := by
  have hml : xs.length ≤ 1048576 := hm.1
  have HM := Lib.hid hm
  clear hm
  have hmk := run_make_row' (P := Try.prog) 36 22 (.slice none 0 0) 24 Try.underlying36 Try.infoSS rfl .i64 .i64 xs.length (by omega) (by omega)
  refine Sl.cases h (fun ad cap hx hv => ?_) (fun b o cap hv _ hpos hc => ?_)
  · subst hx hv
    have hmk0 : ∀ w, (Instr.makeSlice 36 (.int .i64 0) (.int .i64 0)).run Try.prog w = .ok (.slice (some ⟨w.heap.size, 0, none⟩) 0 0) (w.alloc (.cells #[] 22)) := fun _ => by kernel_rfl
    clear hmk
    go_enter Try.func78, Try.ntmps78
    go_wp2
    refine wp_loop_rounds 1 ?_
    rw [rounds_succ]
    go_wp2
    go_ret
    exact ⟨_, rfl, ⟨Or.inl ⟨rfl, _, _, rfl⟩, _, _, _, rfl, Nat.le_refl _⟩, (Below.refl _ _).alloc (Nat.le_refl _) _⟩
  · subst hv
    clear h
    have HC := Lib.hid hc
    clear hc
    go_enter Try.func78, Try.ntmps78
    go_wp2
    clear hmk
    go_loopw [4] (fun i wr => ∃ (k : Nat) (f : Nat → Value), k ≤ xs.length ∧ i = .int .i64 k ∧ FillW w wr 22 xs.length k (.slice none 0 0) W2 xs f) (fun i _ => xs.length - (intOf i).toNat)
    case atStart => exact ⟨0, _, Nat.zero_le _, rfl, FillW.start _ _ _ _ _ _⟩
    case round =>
      obtain ⟨k, f, hk, rfl, HF⟩ := hrel
      by_cases hlt2 : k < xs.length
      · obtain ⟨u, hu, hr⟩ := HC.out k hlt2
        have hu' : wr.cell? ⟨b, o + k, none⟩ = some u := by
          rw [HF.below.cell (p := ⟨b, o + k, none⟩) (cell_lt hu), hu]
        have hr' : L2 0 wr u xs[k] := hr.below HF.below
        have hmx : Bd2 1048576 xs[k] := HM.out.2 _ (List.getElem_mem hlt2)
        have HF' := Lib.hid HF
        have HR' := Lib.hid hr'
        clear HF hu hr hr'
        go_wp2_with fail
        refine (to2w_any u xs[k] _ HR'.out hmx).mono ?_
        rintro e w1 ⟨u1, rfl, hr1, hb1⟩
        obtain ⟨ad1, cap1, rfl⟩ := Sw.shape hr1
        have hlr := HF'.out.row.lt
        have hc1 : w1.cell? ⟨w.heap.size, k, none⟩ = some (f k) := (hb1.cell (p := ⟨w.heap.size, k, none⟩) hlr).trans (HF'.out.row.cell hlt2)
        have hc2 : w1.frozen? ⟨w.heap.size, k, none⟩ = false := (hb1.frozen (p := ⟨w.heap.size, k, none⟩) hlr).trans (HF'.out.row.frozen k)
        have HS := Lib.hid (HF'.out.step (w1 := w1) (u := _) steady2 (fun _ _ _ _ _ _ _ h1 h2 h => W2.wider h1 h2 h) hb1 hlt2 hr1)
        clear hr1 hb1 hlr
        go_wp2
        go_roundw
        case rel => exact ⟨k + 1, _, by omega, by go_num, HS.out⟩
        case measure => simp [intOf]; omega
      · obtain rfl : k = xs.length := by omega
        have HF' := Lib.hid HF
        clear HF
        go_wp2
        go_ret
        exact ⟨_, rfl, ⟨HF'.out.sw (fun _ _ _ _ _ _ _ h1 h2 h => W2.wider h1 h2 h), _, _, _, rfl, Nat.le_refl _⟩, HF'.out.below⟩

set_option maxHeartbeats 800000 in
theorem to5w_any (v : Value) (xs : List (List (List (List Int)))) (w : World) (h0 : L5 0 w v xs) (hm : Bd5 1048576 xs) :
    Calls Try.prog 44 #[v] w (ToW W5 xs w) := by
  have h := h0.l4
  clear h0
  have hml : xs.length ≤ 1048576 := hm.1
  have HM := Lib.hid hm
  clear hm
  have hmk := run_make_row' (P := Try.prog) 23 36 (.slice none 0 0) 24 Try.underlying23 Try.infoSSS rfl .i64 .i64 xs.length (by omega) (by omega)
  refine Sl.cases h (fun ad cap hx hv => ?_) (fun b o cap hv _ hpos hc => ?_)
  · subst hx hv
    have hmk0 : ∀ w, (Instr.makeSlice 23 (.int .i64 0) (.int .i64 0)).run Try.prog w = .ok (.slice (some ⟨w.heap.size, 0, none⟩) 0 0) (w.alloc (.cells #[] 36)) := fun _ => by kernel_rfl
    clear hmk
    go_enter Try.func44, Try.ntmps44
    go_wp2
    refine wp_loop_rounds 1 ?_
    rw [rounds_succ]
    go_wp2
    go_ret
    exact ⟨_, rfl, Or.inl ⟨rfl, _, _, rfl⟩, (Below.refl _ _).alloc (Nat.le_refl _) _⟩
  · subst hv
    clear h
    have HC := Lib.hid hc
    clear hc
    go_enter Try.func44, Try.ntmps44
    go_wp2
    clear hmk
    go_loopw [4] (fun i wr => ∃ (k : Nat) (f : Nat → Value), k ≤ xs.length ∧ i = .int .i64 k ∧ FillW w wr 36 xs.length k (.slice none 0 0) W3c xs f) (fun i _ => xs.length - (intOf i).toNat)
    case atStart => exact ⟨0, _, Nat.zero_le _, rfl, FillW.start _ _ _ _ _ _⟩
    case round =>
      obtain ⟨k, f, hk, rfl, HF⟩ := hrel
      by_cases hlt2 : k < xs.length
      · obtain ⟨u, hu, hr⟩ := HC.out k hlt2
        have hu' : wr.cell? ⟨b, o + k, none⟩ = some u := by
          rw [HF.below.cell (p := ⟨b, o + k, none⟩) (cell_lt hu), hu]
        have hr' : L3 0 wr u xs[k] := hr.below HF.below
        have hmx : Bd3 1048576 xs[k] := HM.out.2 _ (List.getElem_mem hlt2)
        have HF' := Lib.hid HF
        have HR' := Lib.hid hr'
        clear HF hu hr hr'
        go_wp2_with fail
        refine (to3wc_any u xs[k] _ HR'.out hmx).mono ?_
        rintro e w1 ⟨u1, rfl, hr1, hb1⟩
        obtain ⟨ad1, cap1, rfl⟩ := Sw.shape hr1.1
        have hlr := HF'.out.row.lt
        have hc1 : w1.cell? ⟨w.heap.size, k, none⟩ = some (f k) := (hb1.cell (p := ⟨w.heap.size, k, none⟩) hlr).trans (HF'.out.row.cell hlt2)
        have hc2 : w1.frozen? ⟨w.heap.size, k, none⟩ = false := (hb1.frozen (p := ⟨w.heap.size, k, none⟩) hlr).trans (HF'.out.row.frozen k)
        have HS := Lib.hid (HF'.out.step (w1 := w1) (u := _) steady3c (fun _ _ _ _ _ _ _ h1 h2 h => W3c.wider h1 h2 h) hb1 hlt2 hr1)
        clear hr1 hb1 hlr
        go_wp2
        go_roundw
        case rel => exact ⟨k + 1, _, by omega, by go_num, HS.out⟩
        case measure => simp [intOf]; omega
      · obtain rfl : k = xs.length := by omega
        have HF' := Lib.hid HF
        clear HF
        go_wp2
        go_ret
        exact ⟨_, rfl, HF'.out.sw (fun _ _ _ _ _ _ _ h1 h2 h => W3c.wider h1 h2 h), HF'.out.below⟩

theorem to5_any (v : Value) (xs : List (List (List (List Int)))) (w : World) (h : L5 0 w v xs) (hm : Bd5 1048576 xs) :
    Calls Try.prog 44 #[v] w (ToR L5 xs w) := (to5w_any v xs w h hm).mono fun _ _ ⟨u, he, hr, hb⟩ => ⟨u, he, hr.l5, hb⟩
section
variable {H : Type} {enc : TypeId × Value → H} {w : World} {base : Nat} {held : Bool}
theorem cap_of_trod {fuel : Nat} {v : Value} {x : DataW H × List MemPlace} (h : DataW.trod enc Try.prog w base (fun _ => true) held fuel 36 [v] = some x) : CapOk v := by
  rcases open_slice1 Try.underlying36 Try.cellsSS h with ⟨hcs, _⟩ | ⟨a, len, cap, m, n, V, D, Pl, hcs, _, hl, hm, hmm, _, hx⟩
  · obtain rfl : v = .slice none 0 0 := by simpa using hcs
    exact ⟨_, _, _, rfl, Nat.le_refl _⟩
  · obtain rfl : v = .slice (some a) len cap := by simpa using hcs
    exact ⟨_, _, _, rfl, hl⟩
theorem l5_of_trod {fuel : Nat} {v : Value} {x : DataW H × List MemPlace} (h : DataW.trod enc Try.prog w base (fun _ => true) held fuel 23 [v] = some x) : ∃ xs, L5 0 w v xs ∧ Bd5 9223372036854775807 xs := by
  obtain ⟨xs, h1, h2, h3⟩ := sl_of_trod (R := L3c 0) (B := Bd3 9223372036854775807) Try.underlying23 Try.cellsSSS (fun fuel v x hh => by
    obtain ⟨a, ha, hb⟩ := l3_of_trod hh
    exact ⟨a, ⟨ha, cap_of_trod hh⟩, hb⟩) h
  exact ⟨xs, h1, h2, h3⟩
end
end Go.Proofs.Ytlopenephgabhaa


namespace Go.Proofs.Ytlopenephgabhaa
open Go.RowKit

def clD (ds : List (List Int)) (i : Nat) : List Int := ds.getD i []
section
variable {p : Int} {ds : List (List Int)} {ac dn : List (List (List (List Int)))} {i : Nat}
end
section
variable {P : Program} {ops : Array Oper} {S : World → Prop}
end
theorem hidx2s (b o : Nat) {k n : Nat} (cap : Nat) (hk : k < n) (w : World) : (Instr.indexAt 22 (.slice (some ⟨b, o, none⟩) n cap) (.int .i64 k)).run Try.prog w = .ok (.pointer (some ⟨b, o + k, none⟩)) w := by
  have h2 : (0 : Int) ≤ (k : Int) := by omega
  have h3 : (k : Int) < (n : Int) := by omega
  go_simp
theorem hload1s (w : World) {b o : Nat} {x : Value} (h : w.cell? ⟨b, o, none⟩ = some x) : (Instr.loadAt 35 (.pointer (some ⟨b, o, none⟩))).run Try.prog w = .ok x w := by go_simp

end Go.Proofs.Ytlopenephgabhaa


namespace Go.Proofs.Ytlopenephgabhaa
open Go.RowKit

section
variable {ops : Array Oper} {Q : Exit → Act → World → Prop} {n : Nat}
theorem lastQ_storeL {on : Oper} {a : Act} {w : World} (hn : ops[n]? = some on) (hg : on.guard = none) (_ : on.dst = none) (x y : Operand) (ho : on.op = .store 36 x y)
    (b o : Nat) (ad : Option Addr) (l c : Nat) (u : Value) (hx : a.eval x = .pointer (some ⟨b, o, none⟩)) (hy : a.eval y = .slice ad l c) (hc : w.cell? ⟨b, o, none⟩ = some u) (hf : w.frozen? ⟨b, o, none⟩ = false)
    (h : Q .normal a (w.setCell ⟨b, o, none⟩ (.slice ad l c))) : lastQ Try.prog ops n Q .normal a w :=
  lastQ_of hn hg (by
    unfold Oper.wp execOp
    simp only [ho, hx, hy]
    go_simp
    exact h)
end
set_option maxRecDepth 100000 in
set_option maxHeartbeats 6400000 in
theorem addCell_any (p : Int) (L0 : Nat → Nat) (base D A V n G i : Nat) (dim : Int) (ua uv : Value) (dvs avs vvs : List Value) (d2 : List (List Int)) (a2 v2 : List (List (List (List Int)))) (ta tv : List (List Int)) (X0 : World) (hF : Fl L0 base X0 D A V n dvs avs vvs d2 a2 v2) (hn : n ≤ 20) (hi20 : i < n)
    (hGB : X0.heap[G]? = some (.cells #[.int .i64 p, .slice (some ⟨D, 0, none⟩) n n, .slice (some ⟨A, 0, none⟩) n n, .slice (some ⟨V, 0, none⟩) n n] 28 (0, 0))) (hGL : L0 G = 0) (hia : i < a2.length) (hiv : i < v2.length) (hid : i < d2.length)
    (hta : TTab L0 (100 + 200 * i + a2[i].length) base X0 ua ta) (htv : TTab L0 (200 + 200 * i + v2[i].length) base X0 uv tv) (hd50 : (d2[i]).length ≤ 1000) (ha50 : (a2[i]).length ≤ 1000) (hv50 : (v2[i]).length ≤ 1000) :
    Calls Try.prog 87 #[.pointer (some ⟨G, 0, none⟩), .int .i64 (i : Int), .int .i64 dim, ua, uv] X0 fun e W' => e = .returned (.tuple #[]) ∧ ∃ (L' : Nat → Nat) (dvs' avs' vvs' : List Value), Fl L' base W' D A V n dvs' avs' vvs' (d2.set i (d2[i] ++ [dim])) (a2.set i (a2[i] ++ [ta])) (v2.set i (v2[i] ++ [tv])) ∧ Frm L0 L' X0 W' := by
  have hres : Try.f87.results = #[] := by kernel_rfl
  have HRES := Lib.hid hres
  have him : i < n := hi20
  obtain ⟨xa, ya, rfl⟩ := Sl.shape hta.l2
  obtain ⟨xv, yv, rfl⟩ := Sl.shape htv.l2
  obtain ⟨na, hna⟩ : ∃ q, q = ta.length := ⟨_, rfl⟩
  obtain ⟨nv, hnv⟩ : ∃ q, q = tv.length := ⟨_, rfl⟩
  rw [← hna] at hta ⊢
  rw [← hnv] at htv ⊢
  clear hna hnv
  have HF0 := Lib.hid hF
  have HTA0 := Lib.hid hta
  have HTV0 := Lib.hid htv
  have HGB0 := Lib.hid hGB
  have HGL0 := Lib.hid hGL
  have HGC0 : Hid (X0.cell? ⟨G, 1, none⟩ = some (.slice (some ⟨D, 0, none⟩) n n) ∧ X0.cell? ⟨G, 2, none⟩ = some (.slice (some ⟨A, 0, none⟩) n n) ∧ X0.cell? ⟨G, 3, none⟩ = some (.slice (some ⟨V, 0, none⟩) n n)) := Lib.hid ⟨by simp [World.cell?, hGB], by simp [World.cell?, hGB], by simp [World.cell?, hGB]⟩
  clear hF hta htv hGB hGL hres
  go_enter Try.func87, Try.ntmps87
  have hi0 : i < dvs.length := by have := HF0.out.lens; omega
  have hrow0 := HF0.out.dr i hi0 hid
  obtain ⟨hcl0, hfz0, hLB0, _⟩ := HF0.out.d0.at' hi0
  obtain ⟨aw0, cw0, hsh0⟩ := Sl.shape hrow0.1.l1
  obtain ⟨nw0, hnw0⟩ : ∃ q, q = (d2[i]).length := ⟨_, rfl⟩
  rw [← hnw0] at hsh0
  clear hnw0
  rw [hsh0] at hrow0 hcl0
  clear hsh0
  have HGO0 : Hid (∀ X, X0.grownBy X (Value.slice aw0 nw0 cw0).ownBlock → X.cell? ⟨G, 1, none⟩ = some (.slice (some ⟨D, 0, none⟩) n n) ∧ X.cell? ⟨D, i, none⟩ = some (.slice aw0 nw0 cw0) ∧ X.frozen? ⟨D, i, none⟩ = false) := Lib.hid (fun X hg => by
    have hnB : some D ≠ (Value.slice aw0 nw0 cw0).ownBlock := fun e => by have := hrow0.2 D e.symm; omega
    have hnG : some G ≠ (Value.slice aw0 nw0 cw0).ownBlock := fun e => by have := hrow0.2 G e.symm; have := HGL0.out; omega
    have hlB := (X0.block_lt_of_cell? ⟨D, i, none⟩ hcl0)
    exact ⟨hg.cell HGC0.out.1 hnG, hg.cell hcl0 hnB, (World.frozen?_of_block (hg.block D hlB hnB)).trans hfz0⟩)
  have HROW0 := Lib.hid hrow0
  clear hcl0 hfz0
  go_upto_region 0 with fail
  refine wp_region_last (fun X => X0.grownBy X (Value.slice aw0 nw0 cw0).ownBlock) 16 (by kernel_rfl) rfl (by kernel_rfl) ?_
  have S0 : X0.grownBy X0.drew (Value.slice aw0 nw0 cw0).ownBlock := ⟨rfl, rfl, rfl, Nat.le_refl _, fun _ _ _ => rfl⟩
  have hbd : Below X0.heap.size X0 X0.drew := (Below.refl _ _).drew
  change wpAnyH _ _ _ _ _ _ _ _ X0.drew
  obtain ⟨wd, hwd⟩ : ∃ wd, wd = X0.drew := ⟨_, rfl⟩
  rw [← hwd] at S0 hbd ⊢
  clear hwd
  refine held_take (i := 0) (v := (.pointer (some ⟨G, 0, none⟩))) (some 10) rfl rfl (by kernel_rfl) (by kernel_rfl) (by kernel_rfl) (fun _ _ _ h => h) (yieldsIf_move (by kernel_rfl) rfl (by kernel_rfl)) S0 ?_
  refine held_take (i := 1) (v := (.pointer (some ⟨G, 0, none⟩))) (some 11) rfl rfl (by kernel_rfl) (by kernel_rfl) (by kernel_rfl) (fun _ _ _ h => h) (yieldsIf_run (by kernel_rfl) (fun W _ => by kernel_rfl)) S0 ?_
  refine held_take (i := 2) (v := (.pointer (some ⟨G, 1, none⟩))) (some 12) rfl rfl (by kernel_rfl) (by kernel_rfl) (by kernel_rfl) (fun _ _ _ h => h) (yieldsIf_run (by kernel_rfl) (fun W _ => by kernel_rfl)) S0 ?_
  refine held_take (i := 3) (v := (.slice (some ⟨D, 0, none⟩) n n)) (some 13) rfl rfl (by kernel_rfl) (by kernel_rfl) (by kernel_rfl) (fun _ _ _ h => h) (yieldsIf_cell (by kernel_rfl) rfl (by kernel_rfl) (fun W h => hload2s W (HGO0.out W h).1)) S0 ?_
  refine held_take (i := 4) (v := (.int .i64 (i : Int))) (some 14) rfl rfl (by kernel_rfl) (by kernel_rfl) (by kernel_rfl) (fun _ _ _ h => h) (yieldsIf_move (by kernel_rfl) rfl (by kernel_rfl)) S0 ?_
  refine held_take (i := 5) (v := (.pointer (some ⟨G, 0, none⟩))) (some 15) rfl rfl (by kernel_rfl) (by kernel_rfl) (by kernel_rfl) (fun _ _ _ h => h) (yieldsIf_move (by kernel_rfl) rfl (by kernel_rfl)) S0 ?_
  refine held_take (i := 6) (v := (.pointer (some ⟨G, 0, none⟩))) (some 16) rfl rfl (by kernel_rfl) (by kernel_rfl) (by kernel_rfl) (fun _ _ _ h => h) (yieldsIf_run (by kernel_rfl) (fun W _ => by kernel_rfl)) S0 ?_
  refine held_take (i := 7) (v := (.pointer (some ⟨G, 1, none⟩))) (some 17) rfl rfl (by kernel_rfl) (by kernel_rfl) (by kernel_rfl) (fun _ _ _ h => h) (yieldsIf_run (by kernel_rfl) (fun W _ => by kernel_rfl)) S0 ?_
  refine held_take (i := 8) (v := (.slice (some ⟨D, 0, none⟩) n n)) (some 18) rfl rfl (by kernel_rfl) (by kernel_rfl) (by kernel_rfl) (fun _ _ _ h => h) (yieldsIf_cell (by kernel_rfl) rfl (by kernel_rfl) (fun W h => hload2s W (HGO0.out W h).1)) S0 ?_
  refine held_take (i := 9) (v := (.int .i64 (i : Int))) (some 19) rfl rfl (by kernel_rfl) (by kernel_rfl) (by kernel_rfl) (fun _ _ _ h => h) (yieldsIf_move (by kernel_rfl) rfl (by kernel_rfl)) S0 ?_
  refine held_take (i := 10) (v := (.pointer (some ⟨D, 0 + i, none⟩))) (some 20) rfl rfl (by kernel_rfl) (by kernel_rfl) (by kernel_rfl) (fun _ _ _ h => h) (yieldsIf_index (by kernel_rfl) rfl (by kernel_rfl) (by kernel_rfl) (hidx2s D 0 n him)) S0 ?_
  refine held_take (i := 11) (v := (.slice aw0 nw0 cw0)) (some 21) rfl rfl (by kernel_rfl) (by kernel_rfl) (by kernel_rfl) (fun _ _ _ h => h) (yieldsIf_cell (by kernel_rfl) rfl (by kernel_rfl) (fun W h => hload1s (b := D) (o := 0 + i) W (by rw [Nat.zero_add]; exact (HGO0.out W h).2.1))) S0 ?_
  refine held_take (i := 12) (v := (.int .i64 dim)) (some 22) rfl rfl (by kernel_rfl) (by kernel_rfl) (by kernel_rfl) (fun _ _ _ h => h) (yieldsIf_move (by kernel_rfl) rfl (by kernel_rfl)) S0 ?_
  obtain ⟨w7, hw7⟩ : ∃ w7, w7 = wd.alloc (.cells #[.int .i64 dim] 2) := ⟨_, rfl⟩
  have hb7 : Below X0.heap.size X0 w7 := hbd.trans ((by rw [hw7]; exact below_alloc1 _ _ : Below wd.heap.size wd w7).mono hbd.size)
  have hc7 : w7.cell? ⟨wd.heap.size, 0, none⟩ = some (.int .i64 dim) := by rw [hw7]; exact cell_alloc1 _ _ _
  have S7 : X0.grownBy w7 (Value.slice aw0 nw0 cw0).ownBlock := ⟨hb7.os, hb7.tape, hb7.output, hb7.size, fun k hk _ => hb7.block k hk⟩
  refine held_mem (i := 13) (v := .slice (some ⟨wd.heap.size, 0, none⟩) 1 1) (w' := w7) (some 23) (by kernel_rfl) rfl rfl rfl (by rw [hw7]; go_simp) S7 ?_
  have st7 : Stp1 L0 L0 0 X0 w7 := Stp1.of_below hb7 (fun _ _ => rfl) 0
  have hbs7 : base ≤ w7.heap.size := by have := HF0.out.base_le; have := hb7.size; omega
  obtain ⟨g9, c9, W9, hrun, hgr9, hg9, hL9⟩ := (HROW0.out.kept st7 (by omega)).append wd.heap.size dim hc7 hd50 hbs7
  obtain ⟨L1, hLd⟩ : ∃ M : Nat → Nat, M = fun b => if b < w7.heap.size then L0 b else (4 + 3 * i) := ⟨_, rfl⟩
  have hLo : ∀ b, b < w7.heap.size → L1 b = L0 b := fun b hb => by rw [hLd]; exact if_pos hb
  have hLn : ∀ b, w7.heap.size ≤ b → L1 b = (4 + 3 * i) := fun b hb => by rw [hLd]; exact if_neg (by omega)
  clear hLd
  have hr9 := hL9 L1 hLo hLn
  have S9 : X0.grownBy W9 (Value.slice aw0 nw0 cw0).ownBlock := ⟨hgr9.os.trans S7.os, hgr9.tape.trans S7.tape, hgr9.output.trans S7.output, Nat.le_trans S7.size hgr9.size, fun k hk hne => (hgr9.block k (Nat.lt_of_lt_of_le hk S7.size) hne).trans (S7.block k hk hne)⟩
  have st9 : Stp1 L0 L1 (4 + 3 * i) X0 W9 := ⟨⟨_, S9, fun q e _ => .inl (HROW0.out.2 q e)⟩, fun b hb => hLo b (Nat.lt_of_lt_of_le hb hb7.size)⟩
  refine held_app (i := 14) (v := .slice (some ⟨g9, 0, none⟩) ((d2[i]).length + 1) c9) (w' := W9) (x := .slice aw0 nw0 cw0) (y := .slice (some ⟨wd.heap.size, 0, none⟩) 1 1) (some 24) #[35, 35] (.tmp 21) (.tmp 23) (by kernel_rfl) rfl rfl rfl rfl (by kernel_rfl) (by kernel_rfl) (fun _ => hrun) S9 ?_
  refine held_take (i := 15) (v := (.pointer (some ⟨D, 0 + i, none⟩))) (some 25) rfl rfl (by kernel_rfl) (by kernel_rfl) (by kernel_rfl) (fun _ _ _ h => h) (yieldsIf_index (by kernel_rfl) rfl (by kernel_rfl) (by kernel_rfl) (hidx2s D 0 n him)) S9 ?_
  refine held_none (i := 16) (v := .bool false) rfl rfl (by kernel_rfl) (by kernel_rfl) (by kernel_rfl) (fun _ _ _ h => h) (yieldsIf_move (by kernel_rfl) rfl (by kernel_rfl)) S9 ?_
  refine wpAnyH_done (by kernel_rfl) (lastQ_storeN rfl (by kernel_rfl) (by kernel_rfl) (.tmp 25) (.tmp 24) (by kernel_rfl) D (0 + i) (some ⟨g9, 0, none⟩) ((d2[i]).length + 1) c9 (.slice aw0 nw0 cw0) (by kernel_rfl) (by kernel_rfl) (by rw [Nat.zero_add]; exact (HGO0.out W9 S9).2.1) (by rw [Nat.zero_add]; exact (HGO0.out W9 S9).2.2) ?_) _
  simp only [Act.put, List.setIfInBounds_toArray, List.set_cons_zero, List.set_cons_succ]
  rw [Nat.zero_add]
  have hfl := HF0.out.growD hi20 hn st9 hr9
  have hk9 : (4 + 3 * i) ≠ 0 := by omega
  have hLB9 : L1 D = 1 := by rw [st9.old D (by have := (HF0.out.d0.1.lt D rfl).2; exact this)]; exact hLB0
  have hfr1 : Frm L0 L1 X0 W9 := Frm.grow (HROW0.out.tr) hk9 S9 (fun b hb => hLo b (Nat.lt_of_lt_of_le hb hb7.size))
  have hfr2 : Frm L1 L1 W9 (W9.setCell ⟨D, i, none⟩ (.slice (some ⟨g9, 0, none⟩) ((d2[i]).length + 1) c9)) := Frm.of_set hLB9 (by omega) _ _
  have s2 : Stp1 L1 L1 1 W9 (W9.setCell ⟨D, i, none⟩ (.slice (some ⟨g9, 0, none⟩) ((d2[i]).length + 1) c9)) := Stp1.of_set hLB9 _ _ _
  have HTA1 : Hid (TTab L1 (100 + 200 * i + a2[i].length) base (W9.setCell ⟨D, i, none⟩ (.slice (some ⟨g9, 0, none⟩) ((d2[i]).length + 1) c9)) (.slice xa na ya) ta) := Lib.hid ((HTA0.out.kept st9 (by omega)).kept s2 (by omega))
  have HTV1 : Hid (TTab L1 (200 + 200 * i + v2[i].length) base (W9.setCell ⟨D, i, none⟩ (.slice (some ⟨g9, 0, none⟩) ((d2[i]).length + 1) c9)) (.slice xv nv yv) tv) := Lib.hid ((HTV0.out.kept st9 (by omega)).kept s2 (by omega))
  have hfrm := hfr1.trans hfr2
  have HGB1 : Hid ((W9.setCell ⟨D, i, none⟩ (.slice (some ⟨g9, 0, none⟩) ((d2[i]).length + 1) c9)).heap[G]? = some (.cells #[.int .i64 p, .slice (some ⟨D, 0, none⟩) n n, .slice (some ⟨A, 0, none⟩) n n, .slice (some ⟨V, 0, none⟩) n n] 28 (0, 0))) := Lib.hid ((hfrm.blk G (Array.getElem?_eq_some_iff.1 HGB0.out).1 HGL0.out).trans HGB0.out)
  have HGL1 : Hid (L1 G = 0) := Lib.hid ((hfrm.old G (Array.getElem?_eq_some_iff.1 HGB0.out).1).trans HGL0.out)
  have HFR1 := Lib.hid (hfrm)
  have HF1 := Lib.hid hfl
  obtain ⟨X1, hX⟩ : ∃ X, X = W9.setCell ⟨D, i, none⟩ (.slice (some ⟨g9, 0, none⟩) ((d2[i]).length + 1) c9) := ⟨_, rfl⟩
  rw [← hX] at HGB1 HFR1 HF1 HTV1 HTA1 ⊢
  have HGC1 : Hid (X1.cell? ⟨G, 1, none⟩ = some (.slice (some ⟨D, 0, none⟩) n n) ∧ X1.cell? ⟨G, 2, none⟩ = some (.slice (some ⟨A, 0, none⟩) n n) ∧ X1.cell? ⟨G, 3, none⟩ = some (.slice (some ⟨V, 0, none⟩) n n)) := Lib.hid ⟨by simp [World.cell?, HGB1.out], by simp [World.cell?, HGB1.out], by simp [World.cell?, HGB1.out]⟩
  clear hX hfl hfrm hfr1 hfr2 s2 st9 S0 S7 S9 hbd hb7 hc7 st7 hrun hgr9 hL9 hLo hLn hr9 hLB9 hLB0 hrow0 hw7 hg9 hbs7 hk9
  have hi1 : i < avs.length := by have := HF1.out.lens; omega
  have hrow1 := HF1.out.ar i hi1 hia
  obtain ⟨hcl1, hfz1, hLB1, _⟩ := HF1.out.a0.at' hi1
  obtain ⟨aw1, nw1, cw1, hsh1, _⟩ := hrow1.cap
  rw [hsh1] at hrow1 hcl1
  clear hsh1
  have hown1 : ∀ g, (Value.slice aw1 nw1 cw1).ownBlock = some g → L1 g = (5 + 3 * i) := by obtain ⟨_, ho, _⟩ := hrow1; exact ho.2
  have HGO1 : Hid (∀ X, X1.grownBy X (Value.slice aw1 nw1 cw1).ownBlock → X.cell? ⟨G, 2, none⟩ = some (.slice (some ⟨A, 0, none⟩) n n) ∧ X.cell? ⟨A, i, none⟩ = some (.slice aw1 nw1 cw1) ∧ X.frozen? ⟨A, i, none⟩ = false) := Lib.hid (fun X hg => by
    have hnB : some A ≠ (Value.slice aw1 nw1 cw1).ownBlock := fun e => by have := hown1 A e.symm; omega
    have hnG : some G ≠ (Value.slice aw1 nw1 cw1).ownBlock := fun e => by have := hown1 G e.symm; have := HGL1.out; omega
    have hlB := (X1.block_lt_of_cell? ⟨A, i, none⟩ hcl1)
    exact ⟨hg.cell HGC1.out.2.1 hnG, hg.cell hcl1 hnB, (World.frozen?_of_block (hg.block A hlB hnB)).trans hfz1⟩)
  have HROW1 := Lib.hid hrow1
  clear hcl1 hfz1
  go_upto_region 1 with fail
  refine wp_region_last (fun X => X1.grownBy X (Value.slice aw1 nw1 cw1).ownBlock) 16 (by kernel_rfl) rfl (by kernel_rfl) ?_
  have S0 : X1.grownBy X1.drew (Value.slice aw1 nw1 cw1).ownBlock := ⟨rfl, rfl, rfl, Nat.le_refl _, fun _ _ _ => rfl⟩
  have hbd : Below X1.heap.size X1 X1.drew := (Below.refl _ _).drew
  change wpAnyH _ _ _ _ _ _ _ _ X1.drew
  obtain ⟨wd, hwd⟩ : ∃ wd, wd = X1.drew := ⟨_, rfl⟩
  rw [← hwd] at S0 hbd ⊢
  clear hwd
  refine held_take (i := 0) (v := (.pointer (some ⟨G, 0, none⟩))) (some 26) rfl rfl (by kernel_rfl) (by kernel_rfl) (by kernel_rfl) (fun _ _ _ h => h) (yieldsIf_move (by kernel_rfl) rfl (by kernel_rfl)) S0 ?_
  refine held_take (i := 1) (v := (.pointer (some ⟨G, 0, none⟩))) (some 27) rfl rfl (by kernel_rfl) (by kernel_rfl) (by kernel_rfl) (fun _ _ _ h => h) (yieldsIf_run (by kernel_rfl) (fun W _ => by kernel_rfl)) S0 ?_
  refine held_take (i := 2) (v := (.pointer (some ⟨G, 2, none⟩))) (some 28) rfl rfl (by kernel_rfl) (by kernel_rfl) (by kernel_rfl) (fun _ _ _ h => h) (yieldsIf_run (by kernel_rfl) (fun W _ => by kernel_rfl)) S0 ?_
  refine held_take (i := 3) (v := (.slice (some ⟨A, 0, none⟩) n n)) (some 29) rfl rfl (by kernel_rfl) (by kernel_rfl) (by kernel_rfl) (fun _ _ _ h => h) (yieldsIf_cell (by kernel_rfl) rfl (by kernel_rfl) (fun W h => hload4 W (HGO1.out W h).1)) S0 ?_
  refine held_take (i := 4) (v := (.int .i64 (i : Int))) (some 30) rfl rfl (by kernel_rfl) (by kernel_rfl) (by kernel_rfl) (fun _ _ _ h => h) (yieldsIf_move (by kernel_rfl) rfl (by kernel_rfl)) S0 ?_
  refine held_take (i := 5) (v := (.pointer (some ⟨G, 0, none⟩))) (some 31) rfl rfl (by kernel_rfl) (by kernel_rfl) (by kernel_rfl) (fun _ _ _ h => h) (yieldsIf_move (by kernel_rfl) rfl (by kernel_rfl)) S0 ?_
  refine held_take (i := 6) (v := (.pointer (some ⟨G, 0, none⟩))) (some 32) rfl rfl (by kernel_rfl) (by kernel_rfl) (by kernel_rfl) (fun _ _ _ h => h) (yieldsIf_run (by kernel_rfl) (fun W _ => by kernel_rfl)) S0 ?_
  refine held_take (i := 7) (v := (.pointer (some ⟨G, 2, none⟩))) (some 33) rfl rfl (by kernel_rfl) (by kernel_rfl) (by kernel_rfl) (fun _ _ _ h => h) (yieldsIf_run (by kernel_rfl) (fun W _ => by kernel_rfl)) S0 ?_
  refine held_take (i := 8) (v := (.slice (some ⟨A, 0, none⟩) n n)) (some 34) rfl rfl (by kernel_rfl) (by kernel_rfl) (by kernel_rfl) (fun _ _ _ h => h) (yieldsIf_cell (by kernel_rfl) rfl (by kernel_rfl) (fun W h => hload4 W (HGO1.out W h).1)) S0 ?_
  refine held_take (i := 9) (v := (.int .i64 (i : Int))) (some 35) rfl rfl (by kernel_rfl) (by kernel_rfl) (by kernel_rfl) (fun _ _ _ h => h) (yieldsIf_move (by kernel_rfl) rfl (by kernel_rfl)) S0 ?_
  refine held_take (i := 10) (v := (.pointer (some ⟨A, 0 + i, none⟩))) (some 36) rfl rfl (by kernel_rfl) (by kernel_rfl) (by kernel_rfl) (fun _ _ _ h => h) (yieldsIf_index (by kernel_rfl) rfl (by kernel_rfl) (by kernel_rfl) (hidx4 (cap := n) rfl him)) S0 ?_
  refine held_take (i := 11) (v := (.slice aw1 nw1 cw1)) (some 37) rfl rfl (by kernel_rfl) (by kernel_rfl) (by kernel_rfl) (fun _ _ _ h => h) (yieldsIf_cell (by kernel_rfl) rfl (by kernel_rfl) (fun W h => hload3s (b := A) (o := 0 + i) W (by rw [Nat.zero_add]; exact (HGO1.out W h).2.1))) S0 ?_
  refine held_take (i := 12) (v := (.slice xa na ya)) (some 38) rfl rfl (by kernel_rfl) (by kernel_rfl) (by kernel_rfl) (fun _ _ _ h => h) (yieldsIf_move (by kernel_rfl) rfl (by kernel_rfl)) S0 ?_
  obtain ⟨w7, hw7⟩ : ∃ w7, w7 = wd.alloc (.cells #[.slice xa na ya] 22) := ⟨_, rfl⟩
  have hb7 : Below X1.heap.size X1 w7 := hbd.trans ((by rw [hw7]; exact below_alloc1 _ _ : Below wd.heap.size wd w7).mono hbd.size)
  have hc7 : w7.cell? ⟨wd.heap.size, 0, none⟩ = some (.slice xa na ya) := by rw [hw7]; exact cell_alloc1 _ _ _
  have S7 : X1.grownBy w7 (Value.slice aw1 nw1 cw1).ownBlock := ⟨hb7.os, hb7.tape, hb7.output, hb7.size, fun k hk _ => hb7.block k hk⟩
  refine held_mem (i := 13) (v := .slice (some ⟨wd.heap.size, 0, none⟩) 1 1) (w' := w7) (some 39) (by kernel_rfl) rfl rfl rfl (by rw [hw7]; go_simp) S7 ?_
  have st7 : Stp1 L1 L1 0 X1 w7 := Stp1.of_below hb7 (fun _ _ => rfl) 0
  have hbs7 : base ≤ w7.heap.size := by have := HF1.out.base_le; have := hb7.size; omega
  obtain ⟨g9, c9, W9, hrun, hgr9, hg9, hL9⟩ := (HROW1.out.kept st7 (by omega) (fun x _ => by show 100 + 200 * i + x ≠ 0; omega)).append (fun x _ => by show 100 + 200 * i + x ≠ (5 + 3 * i); omega) (HTA1.out.kept st7 (by omega)) wd.heap.size hc7 ha50 hbs7
  obtain ⟨L2, hLd⟩ : ∃ M : Nat → Nat, M = fun b => if b < w7.heap.size then L1 b else (5 + 3 * i) := ⟨_, rfl⟩
  have hLo : ∀ b, b < w7.heap.size → L2 b = L1 b := fun b hb => by rw [hLd]; exact if_pos hb
  have hLn : ∀ b, w7.heap.size ≤ b → L2 b = (5 + 3 * i) := fun b hb => by rw [hLd]; exact if_neg (by omega)
  clear hLd
  have hr9 := hL9 L2 hLo hLn
  have S9 : X1.grownBy W9 (Value.slice aw1 nw1 cw1).ownBlock := ⟨hgr9.os.trans S7.os, hgr9.tape.trans S7.tape, hgr9.output.trans S7.output, Nat.le_trans S7.size hgr9.size, fun k hk hne => (hgr9.block k (Nat.lt_of_lt_of_le hk S7.size) hne).trans (S7.block k hk hne)⟩
  have st9 : Stp1 L1 L2 (5 + 3 * i) X1 W9 := ⟨⟨_, S9, fun q e _ => .inl (hown1 q e)⟩, fun b hb => hLo b (Nat.lt_of_lt_of_le hb hb7.size)⟩
  refine held_app (i := 14) (v := .slice (some ⟨g9, 0, none⟩) ((a2[i]).length + 1) c9) (w' := W9) (x := .slice aw1 nw1 cw1) (y := .slice (some ⟨wd.heap.size, 0, none⟩) 1 1) (some 40) #[36, 36] (.tmp 37) (.tmp 39) (by kernel_rfl) rfl rfl rfl rfl (by kernel_rfl) (by kernel_rfl) (fun _ => hrun) S9 ?_
  refine held_take (i := 15) (v := (.pointer (some ⟨A, 0 + i, none⟩))) (some 41) rfl rfl (by kernel_rfl) (by kernel_rfl) (by kernel_rfl) (fun _ _ _ h => h) (yieldsIf_index (by kernel_rfl) rfl (by kernel_rfl) (by kernel_rfl) (hidx4 (cap := n) rfl him)) S9 ?_
  refine held_none (i := 16) (v := .bool false) rfl rfl (by kernel_rfl) (by kernel_rfl) (by kernel_rfl) (fun _ _ _ h => h) (yieldsIf_move (by kernel_rfl) rfl (by kernel_rfl)) S9 ?_
  refine wpAnyH_done (by kernel_rfl) (lastQ_storeL rfl (by kernel_rfl) (by kernel_rfl) (.tmp 41) (.tmp 40) (by kernel_rfl) A (0 + i) (some ⟨g9, 0, none⟩) ((a2[i]).length + 1) c9 (.slice aw1 nw1 cw1) (by kernel_rfl) (by kernel_rfl) (by rw [Nat.zero_add]; exact (HGO1.out W9 S9).2.1) (by rw [Nat.zero_add]; exact (HGO1.out W9 S9).2.2) ?_) _
  simp only [Act.put, List.setIfInBounds_toArray, List.set_cons_zero, List.set_cons_succ]
  rw [Nat.zero_add]
  have hfl := HF1.out.growA hi20 hn st9 hr9
  have hk9 : (5 + 3 * i) ≠ 0 := by omega
  have hLB9 : L2 A = 2 := by rw [st9.old A (by have := (HF1.out.a0.1.lt A rfl).2; exact this)]; exact hLB1
  have hfr1 : Frm L1 L2 X1 W9 := Frm.grow (HROW1.out.choose_spec.1) hk9 S9 (fun b hb => hLo b (Nat.lt_of_lt_of_le hb hb7.size))
  have hfr2 : Frm L2 L2 W9 (W9.setCell ⟨A, i, none⟩ (.slice (some ⟨g9, 0, none⟩) ((a2[i]).length + 1) c9)) := Frm.of_set hLB9 (by omega) _ _
  have s2 : Stp1 L2 L2 2 W9 (W9.setCell ⟨A, i, none⟩ (.slice (some ⟨g9, 0, none⟩) ((a2[i]).length + 1) c9)) := Stp1.of_set hLB9 _ _ _
  have HTV2 : Hid (TTab L2 (200 + 200 * i + v2[i].length) base (W9.setCell ⟨A, i, none⟩ (.slice (some ⟨g9, 0, none⟩) ((a2[i]).length + 1) c9)) (.slice xv nv yv) tv) := Lib.hid ((HTV1.out.kept st9 (by omega)).kept s2 (by omega))
  have hfrm := hfr1.trans hfr2
  have HGB2 : Hid ((W9.setCell ⟨A, i, none⟩ (.slice (some ⟨g9, 0, none⟩) ((a2[i]).length + 1) c9)).heap[G]? = some (.cells #[.int .i64 p, .slice (some ⟨D, 0, none⟩) n n, .slice (some ⟨A, 0, none⟩) n n, .slice (some ⟨V, 0, none⟩) n n] 28 (0, 0))) := Lib.hid ((hfrm.blk G (Array.getElem?_eq_some_iff.1 HGB1.out).1 HGL1.out).trans HGB1.out)
  have HGL2 : Hid (L2 G = 0) := Lib.hid ((hfrm.old G (Array.getElem?_eq_some_iff.1 HGB1.out).1).trans HGL1.out)
  have HFR2 := Lib.hid (HFR1.out.trans hfrm)
  have HF2 := Lib.hid hfl
  obtain ⟨X2, hX⟩ : ∃ X, X = W9.setCell ⟨A, i, none⟩ (.slice (some ⟨g9, 0, none⟩) ((a2[i]).length + 1) c9) := ⟨_, rfl⟩
  rw [← hX] at HGB2 HFR2 HF2 HTV2 ⊢
  have HGC2 : Hid (X2.cell? ⟨G, 1, none⟩ = some (.slice (some ⟨D, 0, none⟩) n n) ∧ X2.cell? ⟨G, 2, none⟩ = some (.slice (some ⟨A, 0, none⟩) n n) ∧ X2.cell? ⟨G, 3, none⟩ = some (.slice (some ⟨V, 0, none⟩) n n)) := Lib.hid ⟨by simp [World.cell?, HGB2.out], by simp [World.cell?, HGB2.out], by simp [World.cell?, HGB2.out]⟩
  clear hX hfl hfrm hfr1 hfr2 s2 st9 S0 S7 S9 hbd hb7 hc7 st7 hrun hgr9 hL9 hLo hLn hr9 hLB9 hLB1 hrow1 hw7 hg9 hbs7 hk9 hown1
  have hi2 : i < vvs.length := by have := HF2.out.lens; omega
  have hrow2 := HF2.out.vr i hi2 hiv
  obtain ⟨hcl2, hfz2, hLB2, _⟩ := HF2.out.v0.at' hi2
  obtain ⟨aw2, nw2, cw2, hsh2, _⟩ := hrow2.cap
  rw [hsh2] at hrow2 hcl2
  clear hsh2
  have hown2 : ∀ g, (Value.slice aw2 nw2 cw2).ownBlock = some g → L2 g = (6 + 3 * i) := by obtain ⟨_, ho, _⟩ := hrow2; exact ho.2
  have HGO2 : Hid (∀ X, X2.grownBy X (Value.slice aw2 nw2 cw2).ownBlock → X.cell? ⟨G, 3, none⟩ = some (.slice (some ⟨V, 0, none⟩) n n) ∧ X.cell? ⟨V, i, none⟩ = some (.slice aw2 nw2 cw2) ∧ X.frozen? ⟨V, i, none⟩ = false) := Lib.hid (fun X hg => by
    have hnB : some V ≠ (Value.slice aw2 nw2 cw2).ownBlock := fun e => by have := hown2 V e.symm; omega
    have hnG : some G ≠ (Value.slice aw2 nw2 cw2).ownBlock := fun e => by have := hown2 G e.symm; have := HGL2.out; omega
    have hlB := (X2.block_lt_of_cell? ⟨V, i, none⟩ hcl2)
    exact ⟨hg.cell HGC2.out.2.2 hnG, hg.cell hcl2 hnB, (World.frozen?_of_block (hg.block V hlB hnB)).trans hfz2⟩)
  have HROW2 := Lib.hid hrow2
  clear hcl2 hfz2
  go_upto_region 2 with fail
  refine wp_region_last (fun X => X2.grownBy X (Value.slice aw2 nw2 cw2).ownBlock) 16 (by kernel_rfl) rfl (by kernel_rfl) ?_
  have S0 : X2.grownBy X2.drew (Value.slice aw2 nw2 cw2).ownBlock := ⟨rfl, rfl, rfl, Nat.le_refl _, fun _ _ _ => rfl⟩
  have hbd : Below X2.heap.size X2 X2.drew := (Below.refl _ _).drew
  change wpAnyH _ _ _ _ _ _ _ _ X2.drew
  obtain ⟨wd, hwd⟩ : ∃ wd, wd = X2.drew := ⟨_, rfl⟩
  rw [← hwd] at S0 hbd ⊢
  clear hwd
  refine held_take (i := 0) (v := (.pointer (some ⟨G, 0, none⟩))) (some 42) rfl rfl (by kernel_rfl) (by kernel_rfl) (by kernel_rfl) (fun _ _ _ h => h) (yieldsIf_move (by kernel_rfl) rfl (by kernel_rfl)) S0 ?_
  refine held_take (i := 1) (v := (.pointer (some ⟨G, 0, none⟩))) (some 43) rfl rfl (by kernel_rfl) (by kernel_rfl) (by kernel_rfl) (fun _ _ _ h => h) (yieldsIf_run (by kernel_rfl) (fun W _ => by kernel_rfl)) S0 ?_
  refine held_take (i := 2) (v := (.pointer (some ⟨G, 3, none⟩))) (some 44) rfl rfl (by kernel_rfl) (by kernel_rfl) (by kernel_rfl) (fun _ _ _ h => h) (yieldsIf_run (by kernel_rfl) (fun W _ => by kernel_rfl)) S0 ?_
  refine held_take (i := 3) (v := (.slice (some ⟨V, 0, none⟩) n n)) (some 45) rfl rfl (by kernel_rfl) (by kernel_rfl) (by kernel_rfl) (fun _ _ _ h => h) (yieldsIf_cell (by kernel_rfl) rfl (by kernel_rfl) (fun W h => hload4 W (HGO2.out W h).1)) S0 ?_
  refine held_take (i := 4) (v := (.int .i64 (i : Int))) (some 46) rfl rfl (by kernel_rfl) (by kernel_rfl) (by kernel_rfl) (fun _ _ _ h => h) (yieldsIf_move (by kernel_rfl) rfl (by kernel_rfl)) S0 ?_
  refine held_take (i := 5) (v := (.pointer (some ⟨G, 0, none⟩))) (some 47) rfl rfl (by kernel_rfl) (by kernel_rfl) (by kernel_rfl) (fun _ _ _ h => h) (yieldsIf_move (by kernel_rfl) rfl (by kernel_rfl)) S0 ?_
  refine held_take (i := 6) (v := (.pointer (some ⟨G, 0, none⟩))) (some 48) rfl rfl (by kernel_rfl) (by kernel_rfl) (by kernel_rfl) (fun _ _ _ h => h) (yieldsIf_run (by kernel_rfl) (fun W _ => by kernel_rfl)) S0 ?_
  refine held_take (i := 7) (v := (.pointer (some ⟨G, 3, none⟩))) (some 49) rfl rfl (by kernel_rfl) (by kernel_rfl) (by kernel_rfl) (fun _ _ _ h => h) (yieldsIf_run (by kernel_rfl) (fun W _ => by kernel_rfl)) S0 ?_
  refine held_take (i := 8) (v := (.slice (some ⟨V, 0, none⟩) n n)) (some 50) rfl rfl (by kernel_rfl) (by kernel_rfl) (by kernel_rfl) (fun _ _ _ h => h) (yieldsIf_cell (by kernel_rfl) rfl (by kernel_rfl) (fun W h => hload4 W (HGO2.out W h).1)) S0 ?_
  refine held_take (i := 9) (v := (.int .i64 (i : Int))) (some 51) rfl rfl (by kernel_rfl) (by kernel_rfl) (by kernel_rfl) (fun _ _ _ h => h) (yieldsIf_move (by kernel_rfl) rfl (by kernel_rfl)) S0 ?_
  refine held_take (i := 10) (v := (.pointer (some ⟨V, 0 + i, none⟩))) (some 52) rfl rfl (by kernel_rfl) (by kernel_rfl) (by kernel_rfl) (fun _ _ _ h => h) (yieldsIf_index (by kernel_rfl) rfl (by kernel_rfl) (by kernel_rfl) (hidx4 (cap := n) rfl him)) S0 ?_
  refine held_take (i := 11) (v := (.slice aw2 nw2 cw2)) (some 53) rfl rfl (by kernel_rfl) (by kernel_rfl) (by kernel_rfl) (fun _ _ _ h => h) (yieldsIf_cell (by kernel_rfl) rfl (by kernel_rfl) (fun W h => hload3s (b := V) (o := 0 + i) W (by rw [Nat.zero_add]; exact (HGO2.out W h).2.1))) S0 ?_
  refine held_take (i := 12) (v := (.slice xv nv yv)) (some 54) rfl rfl (by kernel_rfl) (by kernel_rfl) (by kernel_rfl) (fun _ _ _ h => h) (yieldsIf_move (by kernel_rfl) rfl (by kernel_rfl)) S0 ?_
  obtain ⟨w7, hw7⟩ : ∃ w7, w7 = wd.alloc (.cells #[.slice xv nv yv] 22) := ⟨_, rfl⟩
  have hb7 : Below X2.heap.size X2 w7 := hbd.trans ((by rw [hw7]; exact below_alloc1 _ _ : Below wd.heap.size wd w7).mono hbd.size)
  have hc7 : w7.cell? ⟨wd.heap.size, 0, none⟩ = some (.slice xv nv yv) := by rw [hw7]; exact cell_alloc1 _ _ _
  have S7 : X2.grownBy w7 (Value.slice aw2 nw2 cw2).ownBlock := ⟨hb7.os, hb7.tape, hb7.output, hb7.size, fun k hk _ => hb7.block k hk⟩
  refine held_mem (i := 13) (v := .slice (some ⟨wd.heap.size, 0, none⟩) 1 1) (w' := w7) (some 55) (by kernel_rfl) rfl rfl rfl (by rw [hw7]; go_simp) S7 ?_
  have st7 : Stp1 L2 L2 0 X2 w7 := Stp1.of_below hb7 (fun _ _ => rfl) 0
  have hbs7 : base ≤ w7.heap.size := by have := HF2.out.base_le; have := hb7.size; omega
  obtain ⟨g9, c9, W9, hrun, hgr9, hg9, hL9⟩ := (HROW2.out.kept st7 (by omega) (fun x _ => by show 200 + 200 * i + x ≠ 0; omega)).append (fun x _ => by show 200 + 200 * i + x ≠ (6 + 3 * i); omega) (HTV2.out.kept st7 (by omega)) wd.heap.size hc7 hv50 hbs7
  obtain ⟨L3, hLd⟩ : ∃ M : Nat → Nat, M = fun b => if b < w7.heap.size then L2 b else (6 + 3 * i) := ⟨_, rfl⟩
  have hLo : ∀ b, b < w7.heap.size → L3 b = L2 b := fun b hb => by rw [hLd]; exact if_pos hb
  have hLn : ∀ b, w7.heap.size ≤ b → L3 b = (6 + 3 * i) := fun b hb => by rw [hLd]; exact if_neg (by omega)
  clear hLd
  have hr9 := hL9 L3 hLo hLn
  have S9 : X2.grownBy W9 (Value.slice aw2 nw2 cw2).ownBlock := ⟨hgr9.os.trans S7.os, hgr9.tape.trans S7.tape, hgr9.output.trans S7.output, Nat.le_trans S7.size hgr9.size, fun k hk hne => (hgr9.block k (Nat.lt_of_lt_of_le hk S7.size) hne).trans (S7.block k hk hne)⟩
  have st9 : Stp1 L2 L3 (6 + 3 * i) X2 W9 := ⟨⟨_, S9, fun q e _ => .inl (hown2 q e)⟩, fun b hb => hLo b (Nat.lt_of_lt_of_le hb hb7.size)⟩
  refine held_app (i := 14) (v := .slice (some ⟨g9, 0, none⟩) ((v2[i]).length + 1) c9) (w' := W9) (x := .slice aw2 nw2 cw2) (y := .slice (some ⟨wd.heap.size, 0, none⟩) 1 1) (some 56) #[36, 36] (.tmp 53) (.tmp 55) (by kernel_rfl) rfl rfl rfl rfl (by kernel_rfl) (by kernel_rfl) (fun _ => hrun) S9 ?_
  refine held_take (i := 15) (v := (.pointer (some ⟨V, 0 + i, none⟩))) (some 57) rfl rfl (by kernel_rfl) (by kernel_rfl) (by kernel_rfl) (fun _ _ _ h => h) (yieldsIf_index (by kernel_rfl) rfl (by kernel_rfl) (by kernel_rfl) (hidx4 (cap := n) rfl him)) S9 ?_
  refine held_none (i := 16) (v := .bool false) rfl rfl (by kernel_rfl) (by kernel_rfl) (by kernel_rfl) (fun _ _ _ h => h) (yieldsIf_move (by kernel_rfl) rfl (by kernel_rfl)) S9 ?_
  refine wpAnyH_done (by kernel_rfl) (lastQ_storeL rfl (by kernel_rfl) (by kernel_rfl) (.tmp 57) (.tmp 56) (by kernel_rfl) V (0 + i) (some ⟨g9, 0, none⟩) ((v2[i]).length + 1) c9 (.slice aw2 nw2 cw2) (by kernel_rfl) (by kernel_rfl) (by rw [Nat.zero_add]; exact (HGO2.out W9 S9).2.1) (by rw [Nat.zero_add]; exact (HGO2.out W9 S9).2.2) ?_) _
  simp only [Act.put, List.setIfInBounds_toArray, List.set_cons_zero, List.set_cons_succ]
  rw [Nat.zero_add]
  have hfl := HF2.out.growV hi20 hn st9 hr9
  have hk9 : (6 + 3 * i) ≠ 0 := by omega
  have hLB9 : L3 V = 3 := by rw [st9.old V (by have := (HF2.out.v0.1.lt V rfl).2; exact this)]; exact hLB2
  have hfr1 : Frm L2 L3 X2 W9 := Frm.grow (HROW2.out.choose_spec.1) hk9 S9 (fun b hb => hLo b (Nat.lt_of_lt_of_le hb hb7.size))
  have hfr2 : Frm L3 L3 W9 (W9.setCell ⟨V, i, none⟩ (.slice (some ⟨g9, 0, none⟩) ((v2[i]).length + 1) c9)) := Frm.of_set hLB9 (by omega) _ _
  have s2 : Stp1 L3 L3 3 W9 (W9.setCell ⟨V, i, none⟩ (.slice (some ⟨g9, 0, none⟩) ((v2[i]).length + 1) c9)) := Stp1.of_set hLB9 _ _ _
  have hfrm := hfr1.trans hfr2
  have HGB3 : Hid ((W9.setCell ⟨V, i, none⟩ (.slice (some ⟨g9, 0, none⟩) ((v2[i]).length + 1) c9)).heap[G]? = some (.cells #[.int .i64 p, .slice (some ⟨D, 0, none⟩) n n, .slice (some ⟨A, 0, none⟩) n n, .slice (some ⟨V, 0, none⟩) n n] 28 (0, 0))) := Lib.hid ((hfrm.blk G (Array.getElem?_eq_some_iff.1 HGB2.out).1 HGL2.out).trans HGB2.out)
  have HGL3 : Hid (L3 G = 0) := Lib.hid ((hfrm.old G (Array.getElem?_eq_some_iff.1 HGB2.out).1).trans HGL2.out)
  have HFR3 := Lib.hid (HFR2.out.trans hfrm)
  have HF3 := Lib.hid hfl
  obtain ⟨X3, hX⟩ : ∃ X, X = W9.setCell ⟨V, i, none⟩ (.slice (some ⟨g9, 0, none⟩) ((v2[i]).length + 1) c9) := ⟨_, rfl⟩
  rw [← hX] at HGB3 HFR3 HF3 ⊢
  have HGC3 : Hid (X3.cell? ⟨G, 1, none⟩ = some (.slice (some ⟨D, 0, none⟩) n n) ∧ X3.cell? ⟨G, 2, none⟩ = some (.slice (some ⟨A, 0, none⟩) n n) ∧ X3.cell? ⟨G, 3, none⟩ = some (.slice (some ⟨V, 0, none⟩) n n)) := Lib.hid ⟨by simp [World.cell?, HGB3.out], by simp [World.cell?, HGB3.out], by simp [World.cell?, HGB3.out]⟩
  clear hX hfl hfrm hfr1 hfr2 s2 st9 S0 S7 S9 hbd hb7 hc7 st7 hrun hgr9 hL9 hLo hLn hr9 hLB9 hLB2 hrow2 hw7 hg9 hbs7 hk9 hown2
  go_wp2
  exact Go.Great.bodyPost_end0 HRES.out rfl ⟨rfl, L3, _, _, _, HF3.out, HFR3.out⟩
end Go.Proofs.Ytlopenephgabhaa


namespace Go.Proofs.Ytlopenephgabhaa
open Go.RowKit

theorem infoDb (a b c d : Value) : (Try.prog.info? 28).map (·.size) = some (#[a, b, c, d] : Array Value).size := by kernel_rfl
/-- What emptyDouble answers: three lists of blocks of their own. -/
def EdR (p : Int) (n : Nat) (w : World) (e : Ending) (w' : World) : Prop := ∃ D A V : Nat, e = .returned (.agg #[.int .i64 p, .slice (some ⟨D, 0, none⟩) n n, .slice (some ⟨A, 0, none⟩) n n, .slice (some ⟨V, 0, none⟩) n n]) ∧ (w.heap.size < D ∧ w.heap.size < A ∧ w.heap.size < V) ∧ (D ≠ A ∧ D ≠ V ∧ A ≠ V) ∧
  Rz w' D 35 (madeCells #[.slice none 0 0] n) ∧ Rz w' A 36 (madeCells #[.slice none 0 0] n) ∧ Rz w' V 36 (madeCells #[.slice none 0 0] n) ∧ Below w.heap.size w w'
set_option maxRecDepth 100000 in
set_option maxHeartbeats 6400000 in
theorem emptyDouble_any (p : Int) (n : Nat) (w : World) (hn : n ≤ 1048576) : Calls Try.prog 80 #[.int .i64 p, .int .i64 (n : Int)] w (EdR p n w) := by
  have hres : Try.f80.results = #[.cell 4 28] := by kernel_rfl
  have HRES := Lib.hid hres
  have hmkD := run_make_row' (P := Try.prog) 22 35 (.slice none 0 0) 24 Try.underlying22 Try.infoS rfl .i64 .i64 n (by omega) (by omega)
  have hmkL := run_make_row' (P := Try.prog) 23 36 (.slice none 0 0) 24 Try.underlying23 Try.infoSSS rfl .i64 .i64 n (by omega) (by omega)
  obtain ⟨wi, hwi⟩ : ∃ wi, wi = w.alloc (.cells #[.int .i64 0, .slice none 0 0, .slice none 0 0, .slice none 0 0] 28) := ⟨_, rfl⟩
  obtain ⟨w1, hw1⟩ : ∃ w1, w1 = wi.drew := ⟨_, rfl⟩
  have hs1 : w1.heap.size = w.heap.size + 1 := by rw [hw1]; show wi.heap.size = _; rw [hwi]; simp
  have hb1 : Below w.heap.size w w1 := by rw [hw1, hwi]; exact (below_alloc1 _ _).drew
  have hR1 : Rz w1 w.heap.size 28 #[.int .i64 0, .slice none 0 0, .slice none 0 0, .slice none 0 0] := by
    have h0 : Rz wi w.heap.size 28 #[.int .i64 0, .slice none 0 0, .slice none 0 0, .slice none 0 0] := by rw [hwi]; exact Rz.new _ _ _
    rw [hw1]
    exact h0.next (Below.refl _ _).drew
  clear hres
  go_enter Try.func80, Try.ntmps80
  go_upto_region 1 with fail
  rw [← hwi]
  refine wp_region_held (S := fun _ => True) (by kernel_rfl) ?_
  change wpAnyH _ _ _ _ _ _ _ _ wi.drew
  rw [← hw1]
  clear hwi hw1
  have S0 : (fun _ : World => True) w1 := trivial
  refine held_take (i := 0) (v := (.int .i64 p)) (some 5) rfl rfl (by kernel_rfl) (by kernel_rfl) (by kernel_rfl) (fun _ _ _ h => h) (yieldsIf_move (by kernel_rfl) rfl (by kernel_rfl)) S0 ?_
  refine held_take (i := 1) (v := (.int .i64 (n : Int))) (some 6) rfl rfl (by kernel_rfl) (by kernel_rfl) (by kernel_rfl) (fun _ _ _ h => h) (yieldsIf_move (by kernel_rfl) rfl (by kernel_rfl)) S0 ?_
  refine held_take (i := 3) (v := (.int .i64 (n : Int))) (some 8) rfl rfl (by kernel_rfl) (by kernel_rfl) (by kernel_rfl) (fun _ _ _ h => h) (yieldsIf_move (by kernel_rfl) rfl (by kernel_rfl)) S0 ?_
  refine held_take (i := 5) (v := (.int .i64 (n : Int))) (some 10) rfl rfl (by kernel_rfl) (by kernel_rfl) (by kernel_rfl) (fun _ _ _ h => h) (yieldsIf_move (by kernel_rfl) rfl (by kernel_rfl)) S0 ?_
  refine held_three (i := 2) (j := 4) (l := 6) (by kernel_rfl) ?_ ?_ ?_
  · obtain ⟨W1, hW1⟩ : ∃ W', W' = w1.alloc (.cells (madeCells #[.slice none 0 0] n) 35) := ⟨_, rfl⟩
    have hq1 : Below w1.heap.size w1 W1 := by rw [hW1]; exact below_alloc1 _ _
    have hy1 : W1.heap.size = w1.heap.size + 1 := by rw [hW1]; simp
    have hD1 : Rz W1 w1.heap.size 35 (madeCells #[.slice none 0 0] n) := by rw [hW1]; exact Rz.new _ _ _
    have hx1 : Below w.heap.size w W1 := hb1.trans (hq1.mono (by omega))
    have hR1 := hR1.next hq1
    refine op_make (i := 2) (v := .slice (some ⟨w1.heap.size, 0, none⟩) n n) (w' := W1) (x := .int .i64 (n : Int)) (y := .int .i64 (n : Int)) (some 7) 22 (.tmp 6) (.tmp 6) rfl rfl rfl rfl (by kernel_rfl) (by kernel_rfl) (by rw [hW1]; exact hmkD _) ?_
    refine ⟨trivial, ?_⟩
    refine held_two (i := 4) (j := 6) (by kernel_rfl) ?_ ?_
    · obtain ⟨W2, hW2⟩ : ∃ W', W' = W1.alloc (.cells (madeCells #[.slice none 0 0] n) 36) := ⟨_, rfl⟩
      have hq2 : Below W1.heap.size W1 W2 := by rw [hW2]; exact below_alloc1 _ _
      have hy2 : W2.heap.size = W1.heap.size + 1 := by rw [hW2]; simp
      have hA2 : Rz W2 W1.heap.size 36 (madeCells #[.slice none 0 0] n) := by rw [hW2]; exact Rz.new _ _ _
      have hx2 : Below w.heap.size w W2 := hx1.trans (hq2.mono (by omega))
      have hR2 := hR1.next hq2
      have hD2 := hD1.next hq2
      refine op_make (i := 4) (v := .slice (some ⟨W1.heap.size, 0, none⟩) n n) (w' := W2) (x := .int .i64 (n : Int)) (y := .int .i64 (n : Int)) (some 9) 23 (.tmp 8) (.tmp 8) rfl rfl rfl rfl (by kernel_rfl) (by kernel_rfl) (by rw [hW2]; exact hmkL _) ?_
      refine ⟨trivial, ?_⟩
      refine held_one (i := 6) (by kernel_rfl) ?_
      · obtain ⟨W3, hW3⟩ : ∃ W', W' = W2.alloc (.cells (madeCells #[.slice none 0 0] n) 36) := ⟨_, rfl⟩
        have hq3 : Below W2.heap.size W2 W3 := by rw [hW3]; exact below_alloc1 _ _
        have hy3 : W3.heap.size = W2.heap.size + 1 := by rw [hW3]; simp
        have hV3 : Rz W3 W2.heap.size 36 (madeCells #[.slice none 0 0] n) := by rw [hW3]; exact Rz.new _ _ _
        have hx3 : Below w.heap.size w W3 := hx2.trans (hq3.mono (by omega))
        have hR3 := hR2.next hq3
        have hD3 := hD2.next hq3
        have hA3 := hA2.next hq3
        refine op_make (i := 6) (v := .slice (some ⟨W2.heap.size, 0, none⟩) n n) (w' := W3) (x := .int .i64 (n : Int)) (y := .int .i64 (n : Int)) (some 11) 23 (.tmp 10) (.tmp 10) rfl rfl rfl rfl (by kernel_rfl) (by kernel_rfl) (by rw [hW3]; exact hmkL _) ?_
        refine ⟨trivial, ?_⟩
        refine held_take (i := 7) (v := (.agg #[.int .i64 p, .slice (some ⟨w1.heap.size, 0, none⟩) n n, .slice (some ⟨W1.heap.size, 0, none⟩) n n, .slice (some ⟨W2.heap.size, 0, none⟩) n n])) (some 12) rfl rfl (by kernel_rfl) (by kernel_rfl) (by kernel_rfl) (fun _ _ _ h => h) (yieldsIf_run (by kernel_rfl) (fun W _ => by kernel_rfl)) trivial ?_
        have S9 : Below (w.heap.size + 1) w1 (W3.setRow w.heap.size #[.int .i64 p, .slice (some ⟨w1.heap.size, 0, none⟩) n n, .slice (some ⟨W1.heap.size, 0, none⟩) n n, .slice (some ⟨W2.heap.size, 0, none⟩) n n]) ∨ True := .inr trivial
        refine held_one (i := 8) (by kernel_rfl) ?_
        refine op_row (i := 8) rfl rfl rfl 28 (.tmp 4) (.tmp 12) rfl w.heap.size #[.int .i64 p, .slice (some ⟨w1.heap.size, 0, none⟩) n n, .slice (some ⟨W1.heap.size, 0, none⟩) n n, .slice (some ⟨W2.heap.size, 0, none⟩) n n] (by kernel_rfl) (by kernel_rfl) 28 _ hR3 (infoDb _ _ _ _) (by kernel_rfl) (by kernel_rfl) ?_
        refine ⟨trivial, ?_⟩
        refine wpAnyH_done (by kernel_rfl) ?_ _
        simp only [Act.put, List.setIfInBounds_toArray, List.set_cons_zero, List.set_cons_succ]
        obtain ⟨WF, hWF⟩ : ∃ WF, WF = (W3.setRow w.heap.size #[.int .i64 p, .slice (some ⟨w1.heap.size, 0, none⟩) n n, .slice (some ⟨W1.heap.size, 0, none⟩) n n, .slice (some ⟨W2.heap.size, 0, none⟩) n n]) := ⟨_, rfl⟩
        have hRF : Rz WF w.heap.size 28 #[.int .i64 p, .slice (some ⟨w1.heap.size, 0, none⟩) n n, .slice (some ⟨W1.heap.size, 0, none⟩) n n, .slice (some ⟨W2.heap.size, 0, none⟩) n n] := by rw [hWF]; exact Rz.set hR3 _
        have HBF : Hid (Below w.heap.size w WF) := Lib.hid (by rw [hWF]; exact below_setRow hx3 (Nat.le_refl _) _)
        have HDF : Hid (Rz WF (w1.heap.size) 35 (madeCells #[.slice none 0 0] n)) := Lib.hid (by rw [hWF]; exact Rz.off hD3 (by omega) _)
        have HAF : Hid (Rz WF (W1.heap.size) 36 (madeCells #[.slice none 0 0] n)) := Lib.hid (by rw [hWF]; exact Rz.off hA3 (by omega) _)
        have HVF : Hid (Rz WF (W2.heap.size) 36 (madeCells #[.slice none 0 0] n)) := Lib.hid (by rw [hWF]; exact Rz.off hV3 (by omega) _)
        have HNE : Hid ((w.heap.size < w1.heap.size ∧ w.heap.size < W1.heap.size ∧ w.heap.size < W2.heap.size) ∧ w1.heap.size ≠ W1.heap.size ∧ w1.heap.size ≠ W2.heap.size ∧ W1.heap.size ≠ W2.heap.size) := Lib.hid (by omega)
        have f0 := hRF.cell (i := 0) (v := _) rfl
        have f1 := hRF.cell (i := 1) (v := _) rfl
        have f2 := hRF.cell (i := 2) (v := _) rfl
        have f3 := hRF.cell (i := 3) (v := _) rfl
        rw [← hWF]
        clear hWF hRF
        go_wp2
        refine bodyPost_ret (v := .agg #[.int .i64 p, .slice (some ⟨w1.heap.size, 0, none⟩) n n, .slice (some ⟨W1.heap.size, 0, none⟩) n n, .slice (some ⟨W2.heap.size, 0, none⟩) n n]) ?_ rfl ⟨_, _, _, rfl, HNE.out.1, HNE.out.2, HDF.out, HAF.out, HVF.out, HBF.out⟩
        simp only [results, HRES.out]
        go_simp
    · obtain ⟨W4, hW4⟩ : ∃ W', W' = W1.alloc (.cells (madeCells #[.slice none 0 0] n) 36) := ⟨_, rfl⟩
      have hq4 : Below W1.heap.size W1 W4 := by rw [hW4]; exact below_alloc1 _ _
      have hy4 : W4.heap.size = W1.heap.size + 1 := by rw [hW4]; simp
      have hV4 : Rz W4 W1.heap.size 36 (madeCells #[.slice none 0 0] n) := by rw [hW4]; exact Rz.new _ _ _
      have hx4 : Below w.heap.size w W4 := hx1.trans (hq4.mono (by omega))
      have hR4 := hR1.next hq4
      have hD4 := hD1.next hq4
      refine op_make (i := 6) (v := .slice (some ⟨W1.heap.size, 0, none⟩) n n) (w' := W4) (x := .int .i64 (n : Int)) (y := .int .i64 (n : Int)) (some 11) 23 (.tmp 10) (.tmp 10) rfl rfl rfl rfl (by kernel_rfl) (by kernel_rfl) (by rw [hW4]; exact hmkL _) ?_
      refine ⟨trivial, ?_⟩
      refine held_one (i := 4) (by kernel_rfl) ?_
      · obtain ⟨W5, hW5⟩ : ∃ W', W' = W4.alloc (.cells (madeCells #[.slice none 0 0] n) 36) := ⟨_, rfl⟩
        have hq5 : Below W4.heap.size W4 W5 := by rw [hW5]; exact below_alloc1 _ _
        have hy5 : W5.heap.size = W4.heap.size + 1 := by rw [hW5]; simp
        have hA5 : Rz W5 W4.heap.size 36 (madeCells #[.slice none 0 0] n) := by rw [hW5]; exact Rz.new _ _ _
        have hx5 : Below w.heap.size w W5 := hx4.trans (hq5.mono (by omega))
        have hR5 := hR4.next hq5
        have hD5 := hD4.next hq5
        have hV5 := hV4.next hq5
        refine op_make (i := 4) (v := .slice (some ⟨W4.heap.size, 0, none⟩) n n) (w' := W5) (x := .int .i64 (n : Int)) (y := .int .i64 (n : Int)) (some 9) 23 (.tmp 8) (.tmp 8) rfl rfl rfl rfl (by kernel_rfl) (by kernel_rfl) (by rw [hW5]; exact hmkL _) ?_
        refine ⟨trivial, ?_⟩
        refine held_take (i := 7) (v := (.agg #[.int .i64 p, .slice (some ⟨w1.heap.size, 0, none⟩) n n, .slice (some ⟨W4.heap.size, 0, none⟩) n n, .slice (some ⟨W1.heap.size, 0, none⟩) n n])) (some 12) rfl rfl (by kernel_rfl) (by kernel_rfl) (by kernel_rfl) (fun _ _ _ h => h) (yieldsIf_run (by kernel_rfl) (fun W _ => by kernel_rfl)) trivial ?_
        have S9 : Below (w.heap.size + 1) w1 (W5.setRow w.heap.size #[.int .i64 p, .slice (some ⟨w1.heap.size, 0, none⟩) n n, .slice (some ⟨W4.heap.size, 0, none⟩) n n, .slice (some ⟨W1.heap.size, 0, none⟩) n n]) ∨ True := .inr trivial
        refine held_one (i := 8) (by kernel_rfl) ?_
        refine op_row (i := 8) rfl rfl rfl 28 (.tmp 4) (.tmp 12) rfl w.heap.size #[.int .i64 p, .slice (some ⟨w1.heap.size, 0, none⟩) n n, .slice (some ⟨W4.heap.size, 0, none⟩) n n, .slice (some ⟨W1.heap.size, 0, none⟩) n n] (by kernel_rfl) (by kernel_rfl) 28 _ hR5 (infoDb _ _ _ _) (by kernel_rfl) (by kernel_rfl) ?_
        refine ⟨trivial, ?_⟩
        refine wpAnyH_done (by kernel_rfl) ?_ _
        simp only [Act.put, List.setIfInBounds_toArray, List.set_cons_zero, List.set_cons_succ]
        obtain ⟨WF, hWF⟩ : ∃ WF, WF = (W5.setRow w.heap.size #[.int .i64 p, .slice (some ⟨w1.heap.size, 0, none⟩) n n, .slice (some ⟨W4.heap.size, 0, none⟩) n n, .slice (some ⟨W1.heap.size, 0, none⟩) n n]) := ⟨_, rfl⟩
        have hRF : Rz WF w.heap.size 28 #[.int .i64 p, .slice (some ⟨w1.heap.size, 0, none⟩) n n, .slice (some ⟨W4.heap.size, 0, none⟩) n n, .slice (some ⟨W1.heap.size, 0, none⟩) n n] := by rw [hWF]; exact Rz.set hR5 _
        have HBF : Hid (Below w.heap.size w WF) := Lib.hid (by rw [hWF]; exact below_setRow hx5 (Nat.le_refl _) _)
        have HDF : Hid (Rz WF (w1.heap.size) 35 (madeCells #[.slice none 0 0] n)) := Lib.hid (by rw [hWF]; exact Rz.off hD5 (by omega) _)
        have HAF : Hid (Rz WF (W4.heap.size) 36 (madeCells #[.slice none 0 0] n)) := Lib.hid (by rw [hWF]; exact Rz.off hA5 (by omega) _)
        have HVF : Hid (Rz WF (W1.heap.size) 36 (madeCells #[.slice none 0 0] n)) := Lib.hid (by rw [hWF]; exact Rz.off hV5 (by omega) _)
        have HNE : Hid ((w.heap.size < w1.heap.size ∧ w.heap.size < W4.heap.size ∧ w.heap.size < W1.heap.size) ∧ w1.heap.size ≠ W4.heap.size ∧ w1.heap.size ≠ W1.heap.size ∧ W4.heap.size ≠ W1.heap.size) := Lib.hid (by omega)
        have f0 := hRF.cell (i := 0) (v := _) rfl
        have f1 := hRF.cell (i := 1) (v := _) rfl
        have f2 := hRF.cell (i := 2) (v := _) rfl
        have f3 := hRF.cell (i := 3) (v := _) rfl
        rw [← hWF]
        clear hWF hRF
        go_wp2
        refine bodyPost_ret (v := .agg #[.int .i64 p, .slice (some ⟨w1.heap.size, 0, none⟩) n n, .slice (some ⟨W4.heap.size, 0, none⟩) n n, .slice (some ⟨W1.heap.size, 0, none⟩) n n]) ?_ rfl ⟨_, _, _, rfl, HNE.out.1, HNE.out.2, HDF.out, HAF.out, HVF.out, HBF.out⟩
        simp only [results, HRES.out]
        go_simp
  · obtain ⟨W6, hW6⟩ : ∃ W', W' = w1.alloc (.cells (madeCells #[.slice none 0 0] n) 36) := ⟨_, rfl⟩
    have hq6 : Below w1.heap.size w1 W6 := by rw [hW6]; exact below_alloc1 _ _
    have hy6 : W6.heap.size = w1.heap.size + 1 := by rw [hW6]; simp
    have hA6 : Rz W6 w1.heap.size 36 (madeCells #[.slice none 0 0] n) := by rw [hW6]; exact Rz.new _ _ _
    have hx6 : Below w.heap.size w W6 := hb1.trans (hq6.mono (by omega))
    have hR6 := hR1.next hq6
    refine op_make (i := 4) (v := .slice (some ⟨w1.heap.size, 0, none⟩) n n) (w' := W6) (x := .int .i64 (n : Int)) (y := .int .i64 (n : Int)) (some 9) 23 (.tmp 8) (.tmp 8) rfl rfl rfl rfl (by kernel_rfl) (by kernel_rfl) (by rw [hW6]; exact hmkL _) ?_
    refine ⟨trivial, ?_⟩
    refine held_two (i := 2) (j := 6) (by kernel_rfl) ?_ ?_
    · obtain ⟨W7, hW7⟩ : ∃ W', W' = W6.alloc (.cells (madeCells #[.slice none 0 0] n) 35) := ⟨_, rfl⟩
      have hq7 : Below W6.heap.size W6 W7 := by rw [hW7]; exact below_alloc1 _ _
      have hy7 : W7.heap.size = W6.heap.size + 1 := by rw [hW7]; simp
      have hD7 : Rz W7 W6.heap.size 35 (madeCells #[.slice none 0 0] n) := by rw [hW7]; exact Rz.new _ _ _
      have hx7 : Below w.heap.size w W7 := hx6.trans (hq7.mono (by omega))
      have hR7 := hR6.next hq7
      have hA7 := hA6.next hq7
      refine op_make (i := 2) (v := .slice (some ⟨W6.heap.size, 0, none⟩) n n) (w' := W7) (x := .int .i64 (n : Int)) (y := .int .i64 (n : Int)) (some 7) 22 (.tmp 6) (.tmp 6) rfl rfl rfl rfl (by kernel_rfl) (by kernel_rfl) (by rw [hW7]; exact hmkD _) ?_
      refine ⟨trivial, ?_⟩
      refine held_one (i := 6) (by kernel_rfl) ?_
      · obtain ⟨W8, hW8⟩ : ∃ W', W' = W7.alloc (.cells (madeCells #[.slice none 0 0] n) 36) := ⟨_, rfl⟩
        have hq8 : Below W7.heap.size W7 W8 := by rw [hW8]; exact below_alloc1 _ _
        have hy8 : W8.heap.size = W7.heap.size + 1 := by rw [hW8]; simp
        have hV8 : Rz W8 W7.heap.size 36 (madeCells #[.slice none 0 0] n) := by rw [hW8]; exact Rz.new _ _ _
        have hx8 : Below w.heap.size w W8 := hx7.trans (hq8.mono (by omega))
        have hR8 := hR7.next hq8
        have hA8 := hA7.next hq8
        have hD8 := hD7.next hq8
        refine op_make (i := 6) (v := .slice (some ⟨W7.heap.size, 0, none⟩) n n) (w' := W8) (x := .int .i64 (n : Int)) (y := .int .i64 (n : Int)) (some 11) 23 (.tmp 10) (.tmp 10) rfl rfl rfl rfl (by kernel_rfl) (by kernel_rfl) (by rw [hW8]; exact hmkL _) ?_
        refine ⟨trivial, ?_⟩
        refine held_take (i := 7) (v := (.agg #[.int .i64 p, .slice (some ⟨W6.heap.size, 0, none⟩) n n, .slice (some ⟨w1.heap.size, 0, none⟩) n n, .slice (some ⟨W7.heap.size, 0, none⟩) n n])) (some 12) rfl rfl (by kernel_rfl) (by kernel_rfl) (by kernel_rfl) (fun _ _ _ h => h) (yieldsIf_run (by kernel_rfl) (fun W _ => by kernel_rfl)) trivial ?_
        have S9 : Below (w.heap.size + 1) w1 (W8.setRow w.heap.size #[.int .i64 p, .slice (some ⟨W6.heap.size, 0, none⟩) n n, .slice (some ⟨w1.heap.size, 0, none⟩) n n, .slice (some ⟨W7.heap.size, 0, none⟩) n n]) ∨ True := .inr trivial
        refine held_one (i := 8) (by kernel_rfl) ?_
        refine op_row (i := 8) rfl rfl rfl 28 (.tmp 4) (.tmp 12) rfl w.heap.size #[.int .i64 p, .slice (some ⟨W6.heap.size, 0, none⟩) n n, .slice (some ⟨w1.heap.size, 0, none⟩) n n, .slice (some ⟨W7.heap.size, 0, none⟩) n n] (by kernel_rfl) (by kernel_rfl) 28 _ hR8 (infoDb _ _ _ _) (by kernel_rfl) (by kernel_rfl) ?_
        refine ⟨trivial, ?_⟩
        refine wpAnyH_done (by kernel_rfl) ?_ _
        simp only [Act.put, List.setIfInBounds_toArray, List.set_cons_zero, List.set_cons_succ]
        obtain ⟨WF, hWF⟩ : ∃ WF, WF = (W8.setRow w.heap.size #[.int .i64 p, .slice (some ⟨W6.heap.size, 0, none⟩) n n, .slice (some ⟨w1.heap.size, 0, none⟩) n n, .slice (some ⟨W7.heap.size, 0, none⟩) n n]) := ⟨_, rfl⟩
        have hRF : Rz WF w.heap.size 28 #[.int .i64 p, .slice (some ⟨W6.heap.size, 0, none⟩) n n, .slice (some ⟨w1.heap.size, 0, none⟩) n n, .slice (some ⟨W7.heap.size, 0, none⟩) n n] := by rw [hWF]; exact Rz.set hR8 _
        have HBF : Hid (Below w.heap.size w WF) := Lib.hid (by rw [hWF]; exact below_setRow hx8 (Nat.le_refl _) _)
        have HDF : Hid (Rz WF (W6.heap.size) 35 (madeCells #[.slice none 0 0] n)) := Lib.hid (by rw [hWF]; exact Rz.off hD8 (by omega) _)
        have HAF : Hid (Rz WF (w1.heap.size) 36 (madeCells #[.slice none 0 0] n)) := Lib.hid (by rw [hWF]; exact Rz.off hA8 (by omega) _)
        have HVF : Hid (Rz WF (W7.heap.size) 36 (madeCells #[.slice none 0 0] n)) := Lib.hid (by rw [hWF]; exact Rz.off hV8 (by omega) _)
        have HNE : Hid ((w.heap.size < W6.heap.size ∧ w.heap.size < w1.heap.size ∧ w.heap.size < W7.heap.size) ∧ W6.heap.size ≠ w1.heap.size ∧ W6.heap.size ≠ W7.heap.size ∧ w1.heap.size ≠ W7.heap.size) := Lib.hid (by omega)
        have f0 := hRF.cell (i := 0) (v := _) rfl
        have f1 := hRF.cell (i := 1) (v := _) rfl
        have f2 := hRF.cell (i := 2) (v := _) rfl
        have f3 := hRF.cell (i := 3) (v := _) rfl
        rw [← hWF]
        clear hWF hRF
        go_wp2
        refine bodyPost_ret (v := .agg #[.int .i64 p, .slice (some ⟨W6.heap.size, 0, none⟩) n n, .slice (some ⟨w1.heap.size, 0, none⟩) n n, .slice (some ⟨W7.heap.size, 0, none⟩) n n]) ?_ rfl ⟨_, _, _, rfl, HNE.out.1, HNE.out.2, HDF.out, HAF.out, HVF.out, HBF.out⟩
        simp only [results, HRES.out]
        go_simp
    · obtain ⟨W9, hW9⟩ : ∃ W', W' = W6.alloc (.cells (madeCells #[.slice none 0 0] n) 36) := ⟨_, rfl⟩
      have hq9 : Below W6.heap.size W6 W9 := by rw [hW9]; exact below_alloc1 _ _
      have hy9 : W9.heap.size = W6.heap.size + 1 := by rw [hW9]; simp
      have hV9 : Rz W9 W6.heap.size 36 (madeCells #[.slice none 0 0] n) := by rw [hW9]; exact Rz.new _ _ _
      have hx9 : Below w.heap.size w W9 := hx6.trans (hq9.mono (by omega))
      have hR9 := hR6.next hq9
      have hA9 := hA6.next hq9
      refine op_make (i := 6) (v := .slice (some ⟨W6.heap.size, 0, none⟩) n n) (w' := W9) (x := .int .i64 (n : Int)) (y := .int .i64 (n : Int)) (some 11) 23 (.tmp 10) (.tmp 10) rfl rfl rfl rfl (by kernel_rfl) (by kernel_rfl) (by rw [hW9]; exact hmkL _) ?_
      refine ⟨trivial, ?_⟩
      refine held_one (i := 2) (by kernel_rfl) ?_
      · obtain ⟨W10, hW10⟩ : ∃ W', W' = W9.alloc (.cells (madeCells #[.slice none 0 0] n) 35) := ⟨_, rfl⟩
        have hq10 : Below W9.heap.size W9 W10 := by rw [hW10]; exact below_alloc1 _ _
        have hy10 : W10.heap.size = W9.heap.size + 1 := by rw [hW10]; simp
        have hD10 : Rz W10 W9.heap.size 35 (madeCells #[.slice none 0 0] n) := by rw [hW10]; exact Rz.new _ _ _
        have hx10 : Below w.heap.size w W10 := hx9.trans (hq10.mono (by omega))
        have hR10 := hR9.next hq10
        have hA10 := hA9.next hq10
        have hV10 := hV9.next hq10
        refine op_make (i := 2) (v := .slice (some ⟨W9.heap.size, 0, none⟩) n n) (w' := W10) (x := .int .i64 (n : Int)) (y := .int .i64 (n : Int)) (some 7) 22 (.tmp 6) (.tmp 6) rfl rfl rfl rfl (by kernel_rfl) (by kernel_rfl) (by rw [hW10]; exact hmkD _) ?_
        refine ⟨trivial, ?_⟩
        refine held_take (i := 7) (v := (.agg #[.int .i64 p, .slice (some ⟨W9.heap.size, 0, none⟩) n n, .slice (some ⟨w1.heap.size, 0, none⟩) n n, .slice (some ⟨W6.heap.size, 0, none⟩) n n])) (some 12) rfl rfl (by kernel_rfl) (by kernel_rfl) (by kernel_rfl) (fun _ _ _ h => h) (yieldsIf_run (by kernel_rfl) (fun W _ => by kernel_rfl)) trivial ?_
        have S9 : Below (w.heap.size + 1) w1 (W10.setRow w.heap.size #[.int .i64 p, .slice (some ⟨W9.heap.size, 0, none⟩) n n, .slice (some ⟨w1.heap.size, 0, none⟩) n n, .slice (some ⟨W6.heap.size, 0, none⟩) n n]) ∨ True := .inr trivial
        refine held_one (i := 8) (by kernel_rfl) ?_
        refine op_row (i := 8) rfl rfl rfl 28 (.tmp 4) (.tmp 12) rfl w.heap.size #[.int .i64 p, .slice (some ⟨W9.heap.size, 0, none⟩) n n, .slice (some ⟨w1.heap.size, 0, none⟩) n n, .slice (some ⟨W6.heap.size, 0, none⟩) n n] (by kernel_rfl) (by kernel_rfl) 28 _ hR10 (infoDb _ _ _ _) (by kernel_rfl) (by kernel_rfl) ?_
        refine ⟨trivial, ?_⟩
        refine wpAnyH_done (by kernel_rfl) ?_ _
        simp only [Act.put, List.setIfInBounds_toArray, List.set_cons_zero, List.set_cons_succ]
        obtain ⟨WF, hWF⟩ : ∃ WF, WF = (W10.setRow w.heap.size #[.int .i64 p, .slice (some ⟨W9.heap.size, 0, none⟩) n n, .slice (some ⟨w1.heap.size, 0, none⟩) n n, .slice (some ⟨W6.heap.size, 0, none⟩) n n]) := ⟨_, rfl⟩
        have hRF : Rz WF w.heap.size 28 #[.int .i64 p, .slice (some ⟨W9.heap.size, 0, none⟩) n n, .slice (some ⟨w1.heap.size, 0, none⟩) n n, .slice (some ⟨W6.heap.size, 0, none⟩) n n] := by rw [hWF]; exact Rz.set hR10 _
        have HBF : Hid (Below w.heap.size w WF) := Lib.hid (by rw [hWF]; exact below_setRow hx10 (Nat.le_refl _) _)
        have HDF : Hid (Rz WF (W9.heap.size) 35 (madeCells #[.slice none 0 0] n)) := Lib.hid (by rw [hWF]; exact Rz.off hD10 (by omega) _)
        have HAF : Hid (Rz WF (w1.heap.size) 36 (madeCells #[.slice none 0 0] n)) := Lib.hid (by rw [hWF]; exact Rz.off hA10 (by omega) _)
        have HVF : Hid (Rz WF (W6.heap.size) 36 (madeCells #[.slice none 0 0] n)) := Lib.hid (by rw [hWF]; exact Rz.off hV10 (by omega) _)
        have HNE : Hid ((w.heap.size < W9.heap.size ∧ w.heap.size < w1.heap.size ∧ w.heap.size < W6.heap.size) ∧ W9.heap.size ≠ w1.heap.size ∧ W9.heap.size ≠ W6.heap.size ∧ w1.heap.size ≠ W6.heap.size) := Lib.hid (by omega)
        have f0 := hRF.cell (i := 0) (v := _) rfl
        have f1 := hRF.cell (i := 1) (v := _) rfl
        have f2 := hRF.cell (i := 2) (v := _) rfl
        have f3 := hRF.cell (i := 3) (v := _) rfl
        rw [← hWF]
        clear hWF hRF
        go_wp2
        refine bodyPost_ret (v := .agg #[.int .i64 p, .slice (some ⟨W9.heap.size, 0, none⟩) n n, .slice (some ⟨w1.heap.size, 0, none⟩) n n, .slice (some ⟨W6.heap.size, 0, none⟩) n n]) ?_ rfl ⟨_, _, _, rfl, HNE.out.1, HNE.out.2, HDF.out, HAF.out, HVF.out, HBF.out⟩
        simp only [results, HRES.out]
        go_simp
  · obtain ⟨W11, hW11⟩ : ∃ W', W' = w1.alloc (.cells (madeCells #[.slice none 0 0] n) 36) := ⟨_, rfl⟩
    have hq11 : Below w1.heap.size w1 W11 := by rw [hW11]; exact below_alloc1 _ _
    have hy11 : W11.heap.size = w1.heap.size + 1 := by rw [hW11]; simp
    have hV11 : Rz W11 w1.heap.size 36 (madeCells #[.slice none 0 0] n) := by rw [hW11]; exact Rz.new _ _ _
    have hx11 : Below w.heap.size w W11 := hb1.trans (hq11.mono (by omega))
    have hR11 := hR1.next hq11
    refine op_make (i := 6) (v := .slice (some ⟨w1.heap.size, 0, none⟩) n n) (w' := W11) (x := .int .i64 (n : Int)) (y := .int .i64 (n : Int)) (some 11) 23 (.tmp 10) (.tmp 10) rfl rfl rfl rfl (by kernel_rfl) (by kernel_rfl) (by rw [hW11]; exact hmkL _) ?_
    refine ⟨trivial, ?_⟩
    refine held_two (i := 2) (j := 4) (by kernel_rfl) ?_ ?_
    · obtain ⟨W12, hW12⟩ : ∃ W', W' = W11.alloc (.cells (madeCells #[.slice none 0 0] n) 35) := ⟨_, rfl⟩
      have hq12 : Below W11.heap.size W11 W12 := by rw [hW12]; exact below_alloc1 _ _
      have hy12 : W12.heap.size = W11.heap.size + 1 := by rw [hW12]; simp
      have hD12 : Rz W12 W11.heap.size 35 (madeCells #[.slice none 0 0] n) := by rw [hW12]; exact Rz.new _ _ _
      have hx12 : Below w.heap.size w W12 := hx11.trans (hq12.mono (by omega))
      have hR12 := hR11.next hq12
      have hV12 := hV11.next hq12
      refine op_make (i := 2) (v := .slice (some ⟨W11.heap.size, 0, none⟩) n n) (w' := W12) (x := .int .i64 (n : Int)) (y := .int .i64 (n : Int)) (some 7) 22 (.tmp 6) (.tmp 6) rfl rfl rfl rfl (by kernel_rfl) (by kernel_rfl) (by rw [hW12]; exact hmkD _) ?_
      refine ⟨trivial, ?_⟩
      refine held_one (i := 4) (by kernel_rfl) ?_
      · obtain ⟨W13, hW13⟩ : ∃ W', W' = W12.alloc (.cells (madeCells #[.slice none 0 0] n) 36) := ⟨_, rfl⟩
        have hq13 : Below W12.heap.size W12 W13 := by rw [hW13]; exact below_alloc1 _ _
        have hy13 : W13.heap.size = W12.heap.size + 1 := by rw [hW13]; simp
        have hA13 : Rz W13 W12.heap.size 36 (madeCells #[.slice none 0 0] n) := by rw [hW13]; exact Rz.new _ _ _
        have hx13 : Below w.heap.size w W13 := hx12.trans (hq13.mono (by omega))
        have hR13 := hR12.next hq13
        have hV13 := hV12.next hq13
        have hD13 := hD12.next hq13
        refine op_make (i := 4) (v := .slice (some ⟨W12.heap.size, 0, none⟩) n n) (w' := W13) (x := .int .i64 (n : Int)) (y := .int .i64 (n : Int)) (some 9) 23 (.tmp 8) (.tmp 8) rfl rfl rfl rfl (by kernel_rfl) (by kernel_rfl) (by rw [hW13]; exact hmkL _) ?_
        refine ⟨trivial, ?_⟩
        refine held_take (i := 7) (v := (.agg #[.int .i64 p, .slice (some ⟨W11.heap.size, 0, none⟩) n n, .slice (some ⟨W12.heap.size, 0, none⟩) n n, .slice (some ⟨w1.heap.size, 0, none⟩) n n])) (some 12) rfl rfl (by kernel_rfl) (by kernel_rfl) (by kernel_rfl) (fun _ _ _ h => h) (yieldsIf_run (by kernel_rfl) (fun W _ => by kernel_rfl)) trivial ?_
        have S9 : Below (w.heap.size + 1) w1 (W13.setRow w.heap.size #[.int .i64 p, .slice (some ⟨W11.heap.size, 0, none⟩) n n, .slice (some ⟨W12.heap.size, 0, none⟩) n n, .slice (some ⟨w1.heap.size, 0, none⟩) n n]) ∨ True := .inr trivial
        refine held_one (i := 8) (by kernel_rfl) ?_
        refine op_row (i := 8) rfl rfl rfl 28 (.tmp 4) (.tmp 12) rfl w.heap.size #[.int .i64 p, .slice (some ⟨W11.heap.size, 0, none⟩) n n, .slice (some ⟨W12.heap.size, 0, none⟩) n n, .slice (some ⟨w1.heap.size, 0, none⟩) n n] (by kernel_rfl) (by kernel_rfl) 28 _ hR13 (infoDb _ _ _ _) (by kernel_rfl) (by kernel_rfl) ?_
        refine ⟨trivial, ?_⟩
        refine wpAnyH_done (by kernel_rfl) ?_ _
        simp only [Act.put, List.setIfInBounds_toArray, List.set_cons_zero, List.set_cons_succ]
        obtain ⟨WF, hWF⟩ : ∃ WF, WF = (W13.setRow w.heap.size #[.int .i64 p, .slice (some ⟨W11.heap.size, 0, none⟩) n n, .slice (some ⟨W12.heap.size, 0, none⟩) n n, .slice (some ⟨w1.heap.size, 0, none⟩) n n]) := ⟨_, rfl⟩
        have hRF : Rz WF w.heap.size 28 #[.int .i64 p, .slice (some ⟨W11.heap.size, 0, none⟩) n n, .slice (some ⟨W12.heap.size, 0, none⟩) n n, .slice (some ⟨w1.heap.size, 0, none⟩) n n] := by rw [hWF]; exact Rz.set hR13 _
        have HBF : Hid (Below w.heap.size w WF) := Lib.hid (by rw [hWF]; exact below_setRow hx13 (Nat.le_refl _) _)
        have HDF : Hid (Rz WF (W11.heap.size) 35 (madeCells #[.slice none 0 0] n)) := Lib.hid (by rw [hWF]; exact Rz.off hD13 (by omega) _)
        have HAF : Hid (Rz WF (W12.heap.size) 36 (madeCells #[.slice none 0 0] n)) := Lib.hid (by rw [hWF]; exact Rz.off hA13 (by omega) _)
        have HVF : Hid (Rz WF (w1.heap.size) 36 (madeCells #[.slice none 0 0] n)) := Lib.hid (by rw [hWF]; exact Rz.off hV13 (by omega) _)
        have HNE : Hid ((w.heap.size < W11.heap.size ∧ w.heap.size < W12.heap.size ∧ w.heap.size < w1.heap.size) ∧ W11.heap.size ≠ W12.heap.size ∧ W11.heap.size ≠ w1.heap.size ∧ W12.heap.size ≠ w1.heap.size) := Lib.hid (by omega)
        have f0 := hRF.cell (i := 0) (v := _) rfl
        have f1 := hRF.cell (i := 1) (v := _) rfl
        have f2 := hRF.cell (i := 2) (v := _) rfl
        have f3 := hRF.cell (i := 3) (v := _) rfl
        rw [← hWF]
        clear hWF hRF
        go_wp2
        refine bodyPost_ret (v := .agg #[.int .i64 p, .slice (some ⟨W11.heap.size, 0, none⟩) n n, .slice (some ⟨W12.heap.size, 0, none⟩) n n, .slice (some ⟨w1.heap.size, 0, none⟩) n n]) ?_ rfl ⟨_, _, _, rfl, HNE.out.1, HNE.out.2, HDF.out, HAF.out, HVF.out, HBF.out⟩
        simp only [results, HRES.out]
        go_simp
    · obtain ⟨W14, hW14⟩ : ∃ W', W' = W11.alloc (.cells (madeCells #[.slice none 0 0] n) 36) := ⟨_, rfl⟩
      have hq14 : Below W11.heap.size W11 W14 := by rw [hW14]; exact below_alloc1 _ _
      have hy14 : W14.heap.size = W11.heap.size + 1 := by rw [hW14]; simp
      have hA14 : Rz W14 W11.heap.size 36 (madeCells #[.slice none 0 0] n) := by rw [hW14]; exact Rz.new _ _ _
      have hx14 : Below w.heap.size w W14 := hx11.trans (hq14.mono (by omega))
      have hR14 := hR11.next hq14
      have hV14 := hV11.next hq14
      refine op_make (i := 4) (v := .slice (some ⟨W11.heap.size, 0, none⟩) n n) (w' := W14) (x := .int .i64 (n : Int)) (y := .int .i64 (n : Int)) (some 9) 23 (.tmp 8) (.tmp 8) rfl rfl rfl rfl (by kernel_rfl) (by kernel_rfl) (by rw [hW14]; exact hmkL _) ?_
      refine ⟨trivial, ?_⟩
      refine held_one (i := 2) (by kernel_rfl) ?_
      · obtain ⟨W15, hW15⟩ : ∃ W', W' = W14.alloc (.cells (madeCells #[.slice none 0 0] n) 35) := ⟨_, rfl⟩
        have hq15 : Below W14.heap.size W14 W15 := by rw [hW15]; exact below_alloc1 _ _
        have hy15 : W15.heap.size = W14.heap.size + 1 := by rw [hW15]; simp
        have hD15 : Rz W15 W14.heap.size 35 (madeCells #[.slice none 0 0] n) := by rw [hW15]; exact Rz.new _ _ _
        have hx15 : Below w.heap.size w W15 := hx14.trans (hq15.mono (by omega))
        have hR15 := hR14.next hq15
        have hV15 := hV14.next hq15
        have hA15 := hA14.next hq15
        refine op_make (i := 2) (v := .slice (some ⟨W14.heap.size, 0, none⟩) n n) (w' := W15) (x := .int .i64 (n : Int)) (y := .int .i64 (n : Int)) (some 7) 22 (.tmp 6) (.tmp 6) rfl rfl rfl rfl (by kernel_rfl) (by kernel_rfl) (by rw [hW15]; exact hmkD _) ?_
        refine ⟨trivial, ?_⟩
        refine held_take (i := 7) (v := (.agg #[.int .i64 p, .slice (some ⟨W14.heap.size, 0, none⟩) n n, .slice (some ⟨W11.heap.size, 0, none⟩) n n, .slice (some ⟨w1.heap.size, 0, none⟩) n n])) (some 12) rfl rfl (by kernel_rfl) (by kernel_rfl) (by kernel_rfl) (fun _ _ _ h => h) (yieldsIf_run (by kernel_rfl) (fun W _ => by kernel_rfl)) trivial ?_
        have S9 : Below (w.heap.size + 1) w1 (W15.setRow w.heap.size #[.int .i64 p, .slice (some ⟨W14.heap.size, 0, none⟩) n n, .slice (some ⟨W11.heap.size, 0, none⟩) n n, .slice (some ⟨w1.heap.size, 0, none⟩) n n]) ∨ True := .inr trivial
        refine held_one (i := 8) (by kernel_rfl) ?_
        refine op_row (i := 8) rfl rfl rfl 28 (.tmp 4) (.tmp 12) rfl w.heap.size #[.int .i64 p, .slice (some ⟨W14.heap.size, 0, none⟩) n n, .slice (some ⟨W11.heap.size, 0, none⟩) n n, .slice (some ⟨w1.heap.size, 0, none⟩) n n] (by kernel_rfl) (by kernel_rfl) 28 _ hR15 (infoDb _ _ _ _) (by kernel_rfl) (by kernel_rfl) ?_
        refine ⟨trivial, ?_⟩
        refine wpAnyH_done (by kernel_rfl) ?_ _
        simp only [Act.put, List.setIfInBounds_toArray, List.set_cons_zero, List.set_cons_succ]
        obtain ⟨WF, hWF⟩ : ∃ WF, WF = (W15.setRow w.heap.size #[.int .i64 p, .slice (some ⟨W14.heap.size, 0, none⟩) n n, .slice (some ⟨W11.heap.size, 0, none⟩) n n, .slice (some ⟨w1.heap.size, 0, none⟩) n n]) := ⟨_, rfl⟩
        have hRF : Rz WF w.heap.size 28 #[.int .i64 p, .slice (some ⟨W14.heap.size, 0, none⟩) n n, .slice (some ⟨W11.heap.size, 0, none⟩) n n, .slice (some ⟨w1.heap.size, 0, none⟩) n n] := by rw [hWF]; exact Rz.set hR15 _
        have HBF : Hid (Below w.heap.size w WF) := Lib.hid (by rw [hWF]; exact below_setRow hx15 (Nat.le_refl _) _)
        have HDF : Hid (Rz WF (W14.heap.size) 35 (madeCells #[.slice none 0 0] n)) := Lib.hid (by rw [hWF]; exact Rz.off hD15 (by omega) _)
        have HAF : Hid (Rz WF (W11.heap.size) 36 (madeCells #[.slice none 0 0] n)) := Lib.hid (by rw [hWF]; exact Rz.off hA15 (by omega) _)
        have HVF : Hid (Rz WF (w1.heap.size) 36 (madeCells #[.slice none 0 0] n)) := Lib.hid (by rw [hWF]; exact Rz.off hV15 (by omega) _)
        have HNE : Hid ((w.heap.size < W14.heap.size ∧ w.heap.size < W11.heap.size ∧ w.heap.size < w1.heap.size) ∧ W14.heap.size ≠ W11.heap.size ∧ W14.heap.size ≠ w1.heap.size ∧ W11.heap.size ≠ w1.heap.size) := Lib.hid (by omega)
        have f0 := hRF.cell (i := 0) (v := _) rfl
        have f1 := hRF.cell (i := 1) (v := _) rfl
        have f2 := hRF.cell (i := 2) (v := _) rfl
        have f3 := hRF.cell (i := 3) (v := _) rfl
        rw [← hWF]
        clear hWF hRF
        go_wp2
        refine bodyPost_ret (v := .agg #[.int .i64 p, .slice (some ⟨W14.heap.size, 0, none⟩) n n, .slice (some ⟨W11.heap.size, 0, none⟩) n n, .slice (some ⟨w1.heap.size, 0, none⟩) n n]) ?_ rfl ⟨_, _, _, rfl, HNE.out.1, HNE.out.2, HDF.out, HAF.out, HVF.out, HBF.out⟩
        simp only [results, HRES.out]
        go_simp

theorem made_row {lo : Nat} {w : World} {g n : Nat} {e : TypeId} (h : Rz w g e (madeCells #[.slice none 0 0] n)) (hb : lo ≤ g) (hn : n ≤ maxLen) : w.ownsRow lo e 1 (.slice (some ⟨g, 0, none⟩) n n) n (List.replicate n (.slice none 0 0)) := by
  have hl : (madeCells #[(.slice none 0 0 : Value)] n).toList = List.replicate n (.slice none 0 0) := List.ext_getElem (by simp [size_madeCells]) (fun i h1 h2 => by simp [madeCells, Nat.mod_one])
  refine ⟨by simp, .inr ⟨g, n, _, rfl, hb, h, Nat.le_refl _, hn, by simp [size_madeCells], ?_⟩⟩
  rw [hl, Nat.mul_one, List.take_replicate, Nat.min_self]
/-- The tags of a made double complex. -/
def tg0 (D A V : Nat) (b : Nat) : Nat := if b = D then 1 else if b = A then 2 else if b = V then 3 else 0
theorem fl_made {base n D A V : Nat} {w : World} (hb : base ≤ D ∧ base ≤ A ∧ base ≤ V) (hne : D ≠ A ∧ D ≠ V ∧ A ≠ V) (hD : Rz w D 35 (madeCells #[.slice none 0 0] n)) (hA : Rz w A 36 (madeCells #[.slice none 0 0] n)) (hV : Rz w V 36 (madeCells #[.slice none 0 0] n)) (hn : n ≤ maxLen) :
    Fl (tg0 D A V) base w D A V n (List.replicate n (.slice none 0 0)) (List.replicate n (.slice none 0 0)) (List.replicate n (.slice none 0 0)) (List.replicate n []) (List.replicate n []) (List.replicate n []) := by
  refine ⟨⟨made_row hD hb.1 hn, fun g hg => ?_⟩, ⟨made_row hA hb.2.1 hn, fun g hg => ?_⟩, ⟨made_row hV hb.2.2 hn, fun g hg => ?_⟩, by simp, by simp, by simp, fun i h1 h2 => ?_, fun i h1 h2 => ?_, fun i h1 h2 => ?_, fun b hbb => ?_⟩
  · have e : D = g := by simpa [Value.ownBlock] using hg
    rw [← e]
    exact if_pos rfl
  · have e : A = g := by simpa [Value.ownBlock] using hg
    rw [← e]
    unfold tg0
    rw [if_neg (fun h => hne.1 h.symm), if_pos rfl]
  · have e : V = g := by simpa [Value.ownBlock] using hg
    rw [← e]
    unfold tg0
    rw [if_neg (fun h => hne.2.1 h.symm), if_neg (fun h => hne.2.2 h.symm), if_pos rfl]
  · rw [List.getElem_replicate, List.getElem_replicate]
    exact TI.nil _ _ _ _
  · rw [List.getElem_replicate, List.getElem_replicate]
    exact TTabs.nil _ _ _ _ _
  · rw [List.getElem_replicate, List.getElem_replicate]
    exact TTabs.nil _ _ _ _ _
  · unfold tg0
    rw [if_neg (by omega), if_neg (by omega), if_neg (by omega)]
end Go.Proofs.Ytlopenephgabhaa


namespace Go.Proofs.Ytlopenephgabhaa
open Go.RowKit

/-- The dimension of a cell, 0 beyond all cells. -/
def dco (ds : List (List Int)) (i j : Int) : Int := if 0 ≤ i ∧ i < ds.length ∧ 0 ≤ j ∧ j < (ds.getD 0 []).length then (ds.getD i.toNat []).getD j.toNat 0 else 0

set_option maxRecDepth 100000 in
set_option maxHeartbeats 4000000 in
theorem l03Dim_any (p i j : Int) (dv av vv : Value) (ds : List (List Int)) (w : World) (h : L2 0 w dv ds) (hok : DclOk ds) (hi : -1000 ≤ i ∧ i ≤ 1000) (hj : -1000 ≤ j ∧ j ≤ 1000) :
    Calls Try.prog 90 #[.agg #[.int .i64 p, dv, av, vv], .int .i64 i, .int .i64 j] w fun e w' => e = .returned (.int .i64 (dco ds i j)) ∧ Below w.heap.size w w' := by
  have HOK := Lib.hid hok
  have hm4 := hok.len1
  have hm1 := hok.len0
  have hq1 := hok.h0
  have hq4 := hok.h1
  clear hok
  rcases h with ⟨hx, _⟩ | ⟨bb, o, cd, rfl, _, hpos, hc⟩
  · subst hx; simp at hm1
  obtain ⟨u0, hu0, hr0⟩ := hc 0 hpos
  rw [Nat.add_zero] at hu0
  obtain ⟨a0, z0, rfl⟩ := Sl.shape hr0
  rw [← getD_of_lt [] hpos] at hu0
  have HC := Lib.hid hc
  clear hc hr0
  obtain ⟨m, hm⟩ : ∃ m, m = ds.length := ⟨_, rfl⟩
  obtain ⟨q, hq⟩ : ∃ q, q = (ds.getD 0 []).length := ⟨_, rfl⟩
  have HM := Lib.hid hm
  have HQ := Lib.hid hq
  rw [← hm] at hm4 hm1 hpos ⊢
  rw [← hq] at hq1 hq4 hu0
  clear hm hq
  have hB : Below w.heap.size w (w.alloc (.cells #[.int .i64 p, .slice (some ⟨bb, o, none⟩) m cd, av, vv] 28)) := (Below.refl _ _).alloc (Nat.le_refl _) _
  have hu0' := later hB (Nat.le_refl _) hu0
  have HBL := Lib.hid hB
  clear hu0
  by_cases h1 : 0 ≤ i ∧ i ≤ (m : Int) - 1
  · have HI1 : Hid (∀ W, Calls Try.prog 54 #[.int .i64 i, .int .i64 0, .int .i64 ((m : Int) - 1)] W (QW (.bool true) W)) := Lib.hid (fun W => spin_yes h1 W)
    by_cases h2 : 0 ≤ j ∧ j ≤ (q : Int) - 1
    · have HI2 : Hid (∀ W, Calls Try.prog 54 #[.int .i64 j, .int .i64 0, .int .i64 ((q : Int) - 1)] W (QW (.bool true) W)) := Lib.hid (fun W => spin_yes h2 W)
      have HV : Hid (dco ds i j = (ds.getD i.toNat []).getD j.toNat 0) := Lib.hid (if_pos ⟨h1.1, by have := HM.out; omega, h2.1, by have := HQ.out; omega⟩)
      rw [HV.out]
      obtain ⟨a, rfl⟩ := Int.eq_ofNat_of_zero_le h1.1
      obtain ⟨b, rfl⟩ := Int.eq_ofNat_of_zero_le h2.1
      simp only [Int.toNat_natCast]
      have ha : a < ds.length := by have := HM.out; omega
      have ham : a < m := by omega
      obtain ⟨u, hu, hr⟩ := HC.out a ha
      have hcol : (ds[a]).length = q := by rw [HQ.out]; exact (HOK.out.col _ (List.getElem_mem ha)).1
      have hb' : b < (ds[a]).length := by omega
      rw [getD_of_lt _ ha]
      rcases hr with ⟨hx, _⟩ | ⟨b2, o2, cd2, rfl, _, hpos2, hc2⟩
      · rw [hx] at hb'; simp at hb'
      obtain ⟨u2, hu2, hr2⟩ := hc2 b hb'
      have hr2' : u2 = .int .i64 ((ds[a])[b]) := hr2
      subst hr2'
      rw [getD_of_lt _ hb']
      obtain ⟨z, hz⟩ : ∃ z, z = (ds[a])[b] := ⟨_, rfl⟩
      rw [← hz] at hu2 ⊢
      rw [hcol] at hu
      have hbq : b < q := by omega
      have hu' := later HBL.out (Nat.le_refl _) hu
      have hu2' := later HBL.out (Nat.le_refl _) hu2
      clear hz hc2 hr2 hpos2 hcol ha hb' hu hu2 hi hj hB
      go_enter Try.func90, Try.ntmps90
      go_wp2_with fail
      refine (HI1.out _).mono ?_
      rintro e w' ⟨rfl, rfl⟩
      go_wp2_with fail
      refine (HI2.out _).mono ?_
      rintro e w' ⟨rfl, rfl⟩
      clear h1 h2
      go_wp2
      go_ret
      exact ⟨rfl, HBL.out⟩
    · have HI2 : Hid (∀ W, Calls Try.prog 54 #[.int .i64 j, .int .i64 0, .int .i64 ((q : Int) - 1)] W (QW (.bool false) W)) := Lib.hid (fun W => spin_no h2 W)
      have HV : Hid (dco ds i j = 0) := Lib.hid (if_neg (fun h => h2 ⟨h.2.2.1, by have := HQ.out; omega⟩))
      rw [HV.out]
      clear hi hj hB
      go_enter Try.func90, Try.ntmps90
      go_wp2_with fail
      refine (HI1.out _).mono ?_
      rintro e w' ⟨rfl, rfl⟩
      go_wp2_with fail
      refine (HI2.out _).mono ?_
      rintro e w' ⟨rfl, rfl⟩
      go_wp2
      go_ret
      exact ⟨rfl, HBL.out⟩
  · have HI1 : Hid (∀ W, Calls Try.prog 54 #[.int .i64 i, .int .i64 0, .int .i64 ((m : Int) - 1)] W (QW (.bool false) W)) := Lib.hid (fun W => spin_no h1 W)
    have HV : Hid (dco ds i j = 0) := Lib.hid (if_neg (fun h => h1 ⟨h.1, by have := HM.out; omega⟩))
    rw [HV.out]
    clear hi hj hB
    go_enter Try.func90, Try.ntmps90
    go_wp2_with fail
    refine (HI1.out _).mono ?_
    rintro e w' ⟨rfl, rfl⟩
    go_wp2
    go_ret
    exact ⟨rfl, HBL.out⟩
end Go.Proofs.Ytlopenephgabhaa

