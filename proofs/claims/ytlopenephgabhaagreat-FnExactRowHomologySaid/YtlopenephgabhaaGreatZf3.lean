/-
  Texts that ProofRhl needs, part 3.
-/
import Derived.Test.YtlopenephgabhaaGreatZf2
import Derived.RangeFuncNested
import Derived.RangeFuncLeaves
import Derived.Deep.Strs
namespace Go.Proofs.YtlopenephgabhaaGreat
open Go.RowKit Go.Shelf
attribute [local go_sem] Oper.semAt_some

/-- The two tables that lead from a cell have their sizes. -/
def DTab (p : Int) (ds : List (List Int)) (ac dn : List (List (List (List Int)))) (c : Nat × Nat) : Prop :=
  TabOk p (dcl ds c.1 c.2) (dcl ds ((c.1 : Int) - 1) c.2) ((ac.getD c.1 []).getD c.2 []) ∧ TabOk p (dcl ds c.1 c.2) (dcl ds c.1 ((c.2 : Int) - 1)) ((dn.getD c.1 []).getD c.2 [])
structure TbsOk (p : Int) (ds : List (List Int)) (ac dn : List (List (List (List Int)))) : Prop where
  la : ac.length = ds.length
  ld : dn.length = ds.length
  ca : ∀ i, i < ds.length → (ac.getD i []).length = (ds.getD i []).length
  cd : ∀ i, i < ds.length → (dn.getD i []).length = (ds.getD i []).length
  tab : ∀ c ∈ cellsTo ds ds.length, DTab p ds ac dn c
def Bd4 (n : Nat) (xs : List (List (List (List Int)))) : Prop := xs.length ≤ n ∧ ∀ x ∈ xs, Bd3 n x

section
variable {P : Program} {ops : Array Oper} {S : World → Prop}
theorem yieldsIf_binD {o : Oper} {a : Act} {x y : Operand} {v u i : Value} {b : BinOp} {t t' : TypeId} (hg : o.guard = none) (ho : o.op = .binOp b t x y t') (hx : a.eval x = u) (hy : a.eval y = i) (hge : ∀ w, (eqGuard b t x y u i).run P w = .ok () w) (hrun : ∀ w, (binOp b t u i).run P w = .ok v w) : YieldsIf P ops S o v a :=
  Or.inl ⟨by unfold Region.wanted; rw [hg], fun w _ => by
    unfold execOp
    simp only [ho, hx, hy, Sem.run_bind, hge w, hrun w, Result.andThen_ok]
    rfl⟩
theorem yieldsIf_indexD {o : Oper} {a : Act} {x y : Operand} {v u i : Value} {t : TypeId} (hw : Region.wanted o (yielded ops a.tmps) = true) (ho : o.op = .indexAddr t x y) (hx : a.eval x = u) (hy : a.eval y = i) (hrun : ∀ w, (Instr.indexAt t u i).run P w = .ok v w) : YieldsIf P ops S o v a :=
  Or.inl ⟨hw, fun w _ => by
    unfold execOp
    simp only [ho, hx, hy, Sem.run_bind, hrun w, Result.andThen_ok]
    rfl⟩
end
theorem hsubB {n : Nat} (hn : n ≤ 1000) (_ : 0 ≤ n) (w : World) : (binOp .sub 2 (.int .i64 (n : Int)) (.int .i64 1)).run Tryz.prog w = .ok (.int .i64 ((n : Int) - 1)) w := by
  have hz : IntKind.i64.wrap ((n : Int) - 1) = (n : Int) - 1 := IntWalk.i64_in _ (by omega)
  go_simp
theorem hloadDb (w : World) {w0 : World} {b : Nat} {p : Int} {dv av vv : Value} {ds : List (List Int)} {ac dn : List (List (List (List Int)))} (h : DBx w0 w b p dv av vv ds ac dn) : (Instr.loadAt 29 (.pointer (some ⟨b, 0, none⟩))).run Tryz.prog w = .ok (.agg #[.int .i64 p, dv, av, vv]) w := by
  have c0 := h.c0
  have c1 := h.c1
  have c2 := h.c2
  have c3 := h.c3
  go_simp
theorem hloadCe (w : World) {b : Nat} {x y : Value} (c0 : w.cell? ⟨b, 0, none⟩ = some x) (c1 : w.cell? ⟨b, 1, none⟩ = some y) : (Instr.loadAt 63 (.pointer (some ⟨b, 0, none⟩))).run Tryz.prog w = .ok (.agg #[x, y]) w := by go_simp
theorem hloadIn (w : World) {b o : Nat} {x : Value} (h : w.cell? ⟨b, o, none⟩ = some x) : (Instr.loadAt 2 (.pointer (some ⟨b, o, none⟩))).run Tryz.prog w = .ok x w := by go_simp

theorem hidx4 {aa : Option Addr} {b o k n cap : Nat} (haa : aa = some ⟨b, o, none⟩) (hk : k < n) (w : World) : (Instr.indexAt 23 (.slice aa n cap) (.int .i64 k)).run Tryz.prog w = .ok (.pointer (some ⟨b, o + k, none⟩)) w := by
  subst haa
  have h2 : (0 : Int) ≤ (k : Int) := by omega
  have h3 : (k : Int) < (n : Int) := by omega
  go_simp
theorem hidx3 (b o : Nat) {k n : Nat} (cap : Nat) (hk : k < n) (w : World) : (Instr.indexAt 51 (.slice (some ⟨b, o, none⟩) n cap) (.int .i64 k)).run Tryz.prog w = .ok (.pointer (some ⟨b, o + k, none⟩)) w := by
  have h2 : (0 : Int) ≤ (k : Int) := by omega
  have h3 : (k : Int) < (n : Int) := by omega
  go_simp
theorem hload4 (w : World) {b o : Nat} {x : Value} (h : w.cell? ⟨b, o, none⟩ = some x) : (Instr.loadAt 23 (.pointer (some ⟨b, o, none⟩))).run Tryz.prog w = .ok x w := by go_simp
theorem hload3s (w : World) {b o : Nat} {x : Value} (h : w.cell? ⟨b, o, none⟩ = some x) : (Instr.loadAt 51 (.pointer (some ⟨b, o, none⟩))).run Tryz.prog w = .ok x w := by go_simp
theorem hload2s (w : World) {b o : Nat} {x : Value} (h : w.cell? ⟨b, o, none⟩ = some x) : (Instr.loadAt 22 (.pointer (some ⟨b, o, none⟩))).run Tryz.prog w = .ok x w := by go_simp

theorem results_bool {fn : Func} {t : Tmp} (h : fn.results = #[.cell t 4]) (tmps : Array Value) (B : Nat) (b : Bool) (W : World) (ht : tmps.getD t undef = .pointer (some ⟨B, 0, none⟩)) (hc : W.cell? ⟨B, 0, none⟩ = some (.bool b)) :
    (results fn tmps).run Tryz.prog W = .ok (.bool b) W := by
  simp only [Array.getD_eq_getD_getElem?] at ht
  simp [results, h, ht, go_sem, hc]

set_option maxRecDepth 100000 in
set_option maxHeartbeats 8000000 in
theorem hasTables_any (p : Int) (dv av vv : Value) (ds : List (List Int)) (ac dn : List (List (List (List Int)))) (w : World) (h : Dx 0 w dv av vv ds ac dn) (hp : IsP p) (hok : DclOk ds) (hba : Bd4 1048576 ac) (hbd : Bd4 1048576 dn) :
    Calls Tryz.prog 66 #[.agg #[.int .i64 p, dv, av, vv]] w (BB (TbsOk p ds ac dn) w) := by
  have HP := Lib.hid hp
  have hp0 := hp.lo
  have hp1 := hp.hi
  have HOK := Lib.hid hok
  have HBA := Lib.hid hba
  have HBD := Lib.hid hbd
  have hm4 := hok.len1
  have hla8 := hba.1
  have hld8 := hbd.1
  clear hp hok hba hbd
  have hx0 := DBx.start (p := p) 29 h
  obtain ⟨ad, cd, rfl⟩ := Sl.shape h.dims
  obtain ⟨aa, ca, rfl⟩ := Sl.shape h.across
  obtain ⟨av, cv, rfl⟩ := Sl.shape h.down
  clear h
  obtain ⟨m, hm⟩ : ∃ m, m = ds.length := ⟨_, rfl⟩
  obtain ⟨ma, hma⟩ : ∃ m, m = ac.length := ⟨_, rfl⟩
  obtain ⟨md, hmd⟩ : ∃ m, m = dn.length := ⟨_, rfl⟩
  have HM := Lib.hid hm
  have HMA := Lib.hid hma
  have HMD := Lib.hid hmd
  rw [← hm] at hx0 hm4 ⊢
  rw [← hma] at hx0 hla8 ⊢
  rw [← hmd] at hx0 hld8 ⊢
  clear hm hma hmd
  have hx1 := hx0.next (w' := (w.alloc (.cells #[.int .i64 p, .slice ad m cd, .slice aa ma ca, .slice av md cv] 29)).alloc (.cells #[.bool false] 4)) ((Below.refl _ _).alloc (Nat.le_refl _) _)
  clear hx0
  have br := Boxed.new (w.alloc (.cells #[.int .i64 p, .slice ad m cd, .slice aa ma ca, .slice av md cv] 29)) 4 (.bool false)
  rw [World.size_alloc] at br
  have hsz : ((w.alloc (.cells #[.int .i64 p, .slice ad m cd, .slice aa ma ca, .slice av md cv] 29)).alloc (.cells #[.bool false] 4)).heap.size = w.heap.size + 1 + 1 := by simp
  obtain ⟨w1, hw1⟩ : ∃ w1, w1 = (w.alloc (.cells #[.int .i64 p, .slice ad m cd, .slice aa ma ca, .slice av md cv] 29)).alloc (.cells #[.bool false] 4) := ⟨_, rfl⟩
  rw [← hw1] at hx1 br hsz
  have HX1 := Lib.hid hx1
  have c0 := hx1.c0
  have c1 := hx1.c1
  have c2 := hx1.c2
  have c3 := hx1.c3
  have cr := br.cell
  have fr := br.frozen
  have HBR := Lib.hid br
  clear hx1 br
  have hres : Tryz.f66.results = #[.cell 2 4] := by kernel_rfl
  have HRES := Lib.hid hres
  clear hres
  by_cases hea : ma = m
  · by_cases hed : md = m
    · subst hea
      subst hed
      refine (callsIn_wide (n := 6)).1 ?_
      refine callsIn_of_wp_marks Tryz.func66 rfl trivial ?_
      simp only [Tryz.ntmps66, List.size_toArray, List.length_cons, List.length_nil, Nat.reduceAdd, Nat.reduceSub, Array.replicate_succ, Array.replicate_zero, List.push_toArray, List.append_toArray, List.nil_append, List.cons_append]
      have hq1 : ((md : Int) != (md : Int)) = false := by simp
      gi_wp2
      rw [← hw1]
      clear hw1 hq1
      gi_loopw [28] (fun i wr => ∃ (k : Nat), k ≤ md ∧ i = .int .i64 k ∧ wr = w1 ∧ Hid (∀ i, i < k → (ac.getD i []).length = (ds.getD i []).length ∧ (dn.getD i []).length = (ds.getD i []).length)) (fun i _ => md - (intOf i).toNat)
      case atStart => exact ⟨0, Nat.zero_le _, rfl, rfl, Lib.hid (fun _ h => absurd h (Nat.not_lt_zero _))⟩
      case round =>
        obtain ⟨k, hk, rfl, rfl, HC⟩ := hrel
        by_cases hlt : k < md
        · have hlt' : k < ds.length := by rw [← HM.out]; exact hlt
          have hlta : k < ac.length := by rw [← HMA.out]; exact hlt
          have hltd : k < dn.length := by rw [← HMD.out]; exact hlt
          rcases HX1.out.dx.dims with ⟨hx, _⟩ | ⟨b, o, c2', hv, _, _, hcl⟩
          · exact absurd (hx ▸ hlt') (Nat.not_lt_zero _)
          injection hv with e1 e2 e3
          subst e1 e3
          rcases HX1.out.dx.across with ⟨hx, _⟩ | ⟨ba, oa, ca', hva, _, _, hcla⟩
          · exact absurd (hx ▸ hlta) (Nat.not_lt_zero _)
          injection hva with e4 e5 e6
          subst e4 e6
          rcases HX1.out.dx.down with ⟨hx, _⟩ | ⟨bd, od, cd', hvd, _, _, hcld⟩
          · exact absurd (hx ▸ hltd) (Nat.not_lt_zero _)
          injection hvd with e7 e8 e9
          subst e7 e9
          obtain ⟨ur, hur, hrr⟩ := hcl k hlt'
          obtain ⟨ua, hua, hra⟩ := hcla k hlta
          obtain ⟨ud, hud, hrd⟩ := hcld k hltd
          obtain ⟨a1, z1, rfl⟩ := Sl.shape hrr
          obtain ⟨a2, z2, rfl⟩ := Sl.shape hra
          obtain ⟨a3, z3, rfl⟩ := Sl.shape hrd
          rw [← getD_of_lt [] hlt'] at hur
          rw [← getD_of_lt [] hlta] at hua
          rw [← getD_of_lt [] hltd] at hud
          have hqa8 : (ac.getD k []).length ≤ 1048576 := by rw [getD_of_lt _ hlta]; exact (HBA.out.2 _ (List.getElem_mem _)).1
          have hqd8 : (dn.getD k []).length ≤ 1048576 := by rw [getD_of_lt _ hltd]; exact (HBD.out.2 _ (List.getElem_mem _)).1
          have hq4 : (ds.getD k []).length ≤ 4 := by rw [getD_of_lt _ hlt', (HOK.out.col _ (List.getElem_mem hlt')).1]; exact HOK.out.h1
          clear hcl hcla hcld hrr hra hrd e2 e5 e8 hlta hltd hlt'
          obtain ⟨q, hq⟩ : ∃ q, q = (ds.getD k []).length := ⟨_, rfl⟩
          obtain ⟨qa, hqa⟩ : ∃ q, q = (ac.getD k []).length := ⟨_, rfl⟩
          obtain ⟨qd, hqd⟩ : ∃ q, q = (dn.getD k []).length := ⟨_, rfl⟩
          rw [← hq] at hur hq4
          rw [← hqa] at hua hqa8
          rw [← hqd] at hud hqd8
          have HQ := Lib.hid hq
          have HQA := Lib.hid hqa
          have HQD := Lib.hid hqd
          clear hq hqa hqd
          by_cases h1 : qa = q
          · have hq1 : ((qa : Int) != (q : Int)) = false := by rw [h1]; simp
            by_cases h2 : qd = q
            · have hq2 : ((qd : Int) != (q : Int)) = false := by rw [h2]; simp
              gi_wp2
              go_roundw
              case rel => exact ⟨k + 1, by omega, by go_num, by simp, Lib.hid (fun i hi => by
                by_cases e : i = k
                · subst e; exact ⟨by rw [← HQA.out, ← HQ.out]; exact h1, by rw [← HQD.out, ← HQ.out]; exact h2⟩
                · exact HC.out i (by omega))⟩
              case measure => simp [intOf]; omega
            · have hq2 : ((qd : Int) != (q : Int)) = true := by have hz : (qd : Int) ≠ (q : Int) := (by omega); simp [hz]
              have HNO : Hid (¬ TbsOk p ds ac dn) := Lib.hid (fun h => h2 (by rw [HQD.out, HQ.out]; exact h.cd k (by rw [← HM.out]; exact hlt)))
              clear HC
              gi_wp2
              exact ⟨_, results_bool HRES.out _ _ _ _ rfl (HBR.out.set _).cell, bb_false (HX1.out.below.setCell (p := ⟨w.heap.size + 1, 0, none⟩) (Nat.le_succ _) _) HNO.out⟩
          · have hq1 : ((qa : Int) != (q : Int)) = true := by have hz : (qa : Int) ≠ (q : Int) := (by omega); simp [hz]
            have HNO : Hid (¬ TbsOk p ds ac dn) := Lib.hid (fun h => h1 (by rw [HQA.out, HQ.out]; exact h.ca k (by rw [← HM.out]; exact hlt)))
            clear HC
            gi_wp2
            exact ⟨_, results_bool HRES.out _ _ _ _ rfl (HBR.out.set _).cell, bb_false (HX1.out.below.setCell (p := ⟨w.heap.size + 1, 0, none⟩) (Nat.le_succ _) _) HNO.out⟩
        · obtain rfl : k = md := by omega
          gi_wp2_with fail
          refine ⟨trivial, (callsIn_wide.2 (cellsOf_any p _ _ _ _)).mono ?_⟩
          rintro e w2 ⟨rfl, rfl⟩
          dsimp only
          gi_wp2
          have hB0 : Below wr.heap.size wr (wr.alloc (.cells #[.int .i64 p, .slice ad k cd, .slice aa k ca, .slice av k cv] 29)) := (Below.refl _ _).alloc (Nat.le_refl _) _
          have hd0 : (wr.alloc (.cells #[.int .i64 p, .slice ad k cd, .slice aa k ca, .slice av k cv] 29)).cell? ⟨wr.heap.size, 1, none⟩ = some (.slice ad k cd) := by simp
          have hs0 : (wr.alloc (.cells #[.int .i64 p, .slice ad k cd, .slice aa k ca, .slice av k cv] 29)).heap.size = wr.heap.size + 1 := by simp
          have hwb := HX1.out.below.size
          obtain ⟨W0, hW0⟩ : ∃ W0, W0 = wr.alloc (.cells #[.int .i64 p, .slice ad k cd, .slice aa k ca, .slice av k cv] 29) := ⟨_, rfl⟩
          rw [← hW0] at hB0 hd0 hs0 ⊢
          clear hW0
          have hst := cells_stops Fence.wide 5 trivial rfl (by decide) wr.heap.size _ ds (by have := HM.out; omega) (fun r hr => by have := (HOK.out.col r hr).1; have := HOK.out.h1; omega) wr W0 (by omega) hd0 HX1.out.dx.dims hB0
          refine wpIn_rangeFunc_cell rfl (by decide : 1 ≤ 6) (gf := 93) (lb := #[.pointer (some ⟨wr.heap.size, 0, none⟩)]) rfl trivial (enters_of Tryz.func93 (by kernel_rfl) rfl)
            hst belowK_t (belowK_b (by omega)) (Below.refl _ _) (fun _ => rfl)
            (fun pre W => (∀ c ∈ pre, DTab p ds ac dn c.1) ∧ Below wr.heap.size wr W)
            (fun c _ W => ((c = .ret ∧ ¬ TbsOk p ds ac dn) ∧ Boxed W (w.heap.size + 1) 4 (.bool false)) ∧ Below w.heap.size w W)
            (OwnFrom.and (ownFrom_pure (β := List (CellIn ds)) _ (fun pre => ∀ c ∈ pre, DTab p ds ac dn c.1)) (ownFrom_below (Nat.le_refl _) (by omega)))
            (fun c => OwnFrom.and (OwnFrom.and (ownFrom_pure (β := List (CellIn ds)) _ (fun _ => c = .ret ∧ ¬ TbsOk p ds ac dn)) (Own.from (boxed_own (β := List (CellIn ds)) _ _ (fun _ => Value.bool false)) _)) (ownFrom_below (Nat.le_refl _) (by omega)))
            ⟨fun c h => absurd h (by simp), hB0⟩
            (fun x => #[.int .i64 (x.1.1 : Int), .int .i64 (x.1.2 : Int)]) 5 63 wr.heap.size
            ?assign ?body ?done ?stop
          case assign =>
            rintro l pre x W K ⟨hI, hB1⟩ hK
            simp only [cellV] at hK ⊢
            gi_wp2
            have hk := hK W.heap.size _ hB1.size (World.alloc_heap_new W _) ((KeepsOthers.alloc _ _).from _) ((Below.refl _ W).alloc hB1.size _) ⟨hI, hB1.alloc hB1.size _⟩
            simp at hk
            refine Eq.mp ?_ hk
            congr 1
            all_goals (try congr 1)
            simp
          case body =>
            rintro l pre x Bx W hl ⟨r, hr⟩ ⟨hI, hB1⟩ hBx hX hlt
            obtain ⟨⟨i, j⟩, hxm⟩ := x
            dsimp only at hX
            have hxc := cells_fst hxm
            dsimp only at hxc
            have HX2 := Lib.hid (HX1.out.next hB1)
            have x0 : W.cell? ⟨Bx, 0, none⟩ = some (.int .i64 (i : Int)) := by simp [World.cell?, hX]
            have x1 : W.cell? ⟨Bx, 1, none⟩ = some (.int .i64 (j : Int)) := by simp [World.cell?, hX]
            have HI := Lib.hid hI
            have HB1 := Lib.hid hB1
            clear hI hB1
            have hil : ds.length ≤ 4 := HOK.out.len1
            have hi4 : i < 4 := by have := hxc.1; omega
            have hr1 : (ds.getD i []).length = (ds.getD 0 []).length := by rw [getD_of_lt _ hxc.1]; exact (HOK.out.col _ (List.getElem_mem hxc.1)).1
            have hj4 : j < 4 := by have := hxc.2; have := HOK.out.h1; omega
            have hid : (i : Int) < ds.length := by have := hxc.1; omega
            have HJ0 : Hid (0 ≤ (i : Int) → (j : Int) < (ds.getD (i : Int).toNat []).length) := Lib.hid (fun _ => by rw [Int.toNat_natCast]; have := hxc.2; omega)
            have HJ1 : Hid (0 ≤ (i : Int) - 1 → (j : Int) < (ds.getD ((i : Int) - 1).toNat []).length) := Lib.hid (fun h0 => by
              have hlt1 : ((i : Int) - 1).toNat < ds.length := by omega
              have := (HOK.out.col _ (List.getElem_mem hlt1)).1
              rw [getD_of_lt _ hlt1]
              have := hxc.2
              omega)
            have HJ2 : Hid (0 ≤ (i : Int) → (j : Int) < (ds.getD (i : Int).toNat []).length) := HJ0
            have HNX : Hid (∀ W2, Below W.heap.size W W2 → DBx w W2 w.heap.size p (.slice ad k cd) (.slice aa k ca) (.slice av k cv) ds ac dn) := Lib.hid (fun W2 h => HX2.out.next h)
            have HC0 : Hid (∀ W2, Below W.heap.size W W2 → W2.cell? ⟨Bx, 0, none⟩ = some (.int .i64 (i : Int))) := Lib.hid (fun W2 h => later h (Nat.le_refl _) x0)
            have HC1 : Hid (∀ W2, Below W.heap.size W W2 → W2.cell? ⟨Bx, 1, none⟩ = some (.int .i64 (j : Int))) := Lib.hid (fun W2 h => later h (Nat.le_refl _) x1)
            clear x0 x1 hX
            have HCALL : Hid (∀ W' : World, Below W.heap.size W W' → ∀ i j : Int, -1 ≤ i → -1 ≤ j → i < ds.length → (0 ≤ i → j < (ds.getD i.toNat []).length) → Calls Tryz.prog 75 #[.agg #[.int .i64 p, .slice ad k cd, .slice aa k ca, .slice av k cv], .agg #[.int .i64 i, .int .i64 j]] W' fun e w' => e = .returned (.int .i64 (dcl ds i j)) ∧ Below W.heap.size W w') :=
              Lib.hid (fun W' hb i j h1 h2 h3 h4 => (dimOfCell_any p i j _ _ _ ds W' (HX2.out.dx.dims.below hb) ⟨by omega, fun r hr => by have := (HOK.out.col r hr).1; have := HOK.out.h1; show r.length ≤ _; omega⟩ h1 h2 h3 h4).mono fun _ _ h => ⟨h.1, hb.trans (h.2.mono hb.size)⟩)
            have HNOUT : Hid (∀ (K : Act → World → Prop) (b : Nat) (xs : List (CellIn ds)), ¬ LetsOut (Exit.then K (Exit.inBlock b (ownPostG W0.heap.size (Below wr.heap.size) (fun pre W => (∀ c ∈ pre, DTab p ds ac dn c.1) ∧ Below wr.heap.size wr W)
              (fun c _ W => ((c = .ret ∧ ¬ TbsOk p ds ac dn) ∧ Boxed W (w.heap.size + 1) 4 (.bool false)) ∧ Below w.heap.size w W) xs W)))) := Lib.hid (fun _ _ _ ⟨_, _, h⟩ => h)
            have hik : i < k := by have := HM.out; omega
            have hia : i < ac.length := by have := HMA.out; omega
            have hiv : i < dn.length := by have := HMD.out; omega
            have hca := (HC.out i hik).1
            have hcv := (HC.out i hik).2
            rcases HX2.out.dx.across with ⟨hx, _⟩ | ⟨ba, oa, ca', hva, _, _, hcla⟩
            · exact absurd (hx ▸ hia) (Nat.not_lt_zero _)
            injection hva with haa _ _
            rcases HX2.out.dx.down with ⟨hx, _⟩ | ⟨bd, od, cd', hvd, _, _, hcld⟩
            · exact absurd (hx ▸ hiv) (Nat.not_lt_zero _)
            injection hvd with hvv _ _
            obtain ⟨ua, hA1, hra⟩ := hcla i hia
            obtain ⟨ud, hD1, hrd⟩ := hcld i hiv
            rw [getD_of_lt _ hia] at hca
            rw [getD_of_lt _ hiv] at hcv
            have hja' : j < (ac[i]).length := by have := hxc.2; omega
            have hjd' : j < (dn[i]).length := by have := hxc.2; omega
            have hT1b : Bd2 1048576 (ac[i])[j] := (HBA.out.2 _ (List.getElem_mem hia)).2 _ (List.getElem_mem hja')
            have hT2b : Bd2 1048576 (dn[i])[j] := (HBD.out.2 _ (List.getElem_mem hiv)).2 _ (List.getElem_mem hjd')
            rcases hra with ⟨hx, _⟩ | ⟨b2, o2, c2, rfl, _, _, hcl2⟩
            · rw [hx] at hja'; exact absurd hja' (Nat.not_lt_zero _)
            rcases hrd with ⟨hx, _⟩ | ⟨b3, o3, c3, rfl, _, _, hcl3⟩
            · rw [hx] at hjd'; exact absurd hjd' (Nat.not_lt_zero _)
            obtain ⟨u2, hA2, hT1l⟩ := hcl2 j hja'
            obtain ⟨u3', hD2, hT2l⟩ := hcl3 j hjd'
            have HDT : Hid ((TabOk p (dcl ds i j) (dcl ds ((i : Int) - 1) j) (ac[i])[j] ∧ TabOk p (dcl ds i j) (dcl ds i ((j : Int) - 1)) (dn[i])[j]) ↔ DTab p ds ac dn (i, j)) := Lib.hid (by
              show _ ↔ (TabOk p _ _ ((ac.getD i []).getD j []) ∧ TabOk p _ _ ((dn.getD i []).getD j []))
              rw [getD_of_lt _ hia, getD_of_lt _ hiv, getD_of_lt _ hja', getD_of_lt _ hjd'])
            have HT1l := Lib.hid hT1l
            have HT2l := Lib.hid hT2l
            obtain ⟨t2a, t2c, rfl⟩ := Sl.shape hT1l
            obtain ⟨t3a, t3c, rfl⟩ := Sl.shape hT2l
            have HT1 : Hid (∀ W2, Below W.heap.size W W2 → Calls Tryz.prog 90 #[.int .i64 p, .slice t2a ((ac[i])[j]).length t2c, .int .i64 (dcl ds i j), .int .i64 (dcl ds ((i : Int) - 1) j)] W2 (BW (TabOk p (dcl ds i j) (dcl ds ((i : Int) - 1) j) (ac[i])[j]) W2)) := Lib.hid (fun W2 h => isTable_any p _ _ _ _ W2 HP.out (HT1l.out.below h) hT1b)
            have HT2 : Hid (∀ W2, Below W.heap.size W W2 → Calls Tryz.prog 90 #[.int .i64 p, .slice t3a ((dn[i])[j]).length t3c, .int .i64 (dcl ds i j), .int .i64 (dcl ds i ((j : Int) - 1))] W2 (BW (TabOk p (dcl ds i j) (dcl ds i ((j : Int) - 1)) (dn[i])[j]) W2)) := Lib.hid (fun W2 h => isTable_any p _ _ _ _ W2 HP.out (HT2l.out.below h) hT2b)
            have HYES : Hid (TabOk p (dcl ds i j) (dcl ds ((i : Int) - 1) j) (ac[i])[j] → TabOk p (dcl ds i j) (dcl ds i ((j : Int) - 1)) (dn[i])[j] → ∀ z : CellIn ds, z.1 = (i, j) → ∀ c ∈ pre ++ [z], DTab p ds ac dn c.1) := Lib.hid (fun h1 h2 z hz c hc => by
              rcases List.mem_append.1 hc with hc | hc
              · exact HI.out c hc
              · rw [List.mem_singleton.1 hc, hz]; exact HDT.out.1 ⟨h1, h2⟩)
            have HNO : Hid (¬ (TabOk p (dcl ds i j) (dcl ds ((i : Int) - 1) j) (ac[i])[j] ∧ TabOk p (dcl ds i j) (dcl ds i ((j : Int) - 1)) (dn[i])[j]) → ¬ TbsOk p ds ac dn) := Lib.hid (fun hn h => hn (HDT.out.2 (h.tab _ hxm)))
            have HBX : Hid (∀ W2, Below W.heap.size W W2 → Boxed W2 (w.heap.size + 1) 4 (.bool false)) := Lib.hid (fun W2 h => ((HB1.out.trans (h.mono HB1.out.size)).block _ (by omega)).trans HBR.out)
            obtain ⟨t2n, ht2n⟩ : ∃ n, n = ((ac[i])[j]).length := ⟨_, rfl⟩
            obtain ⟨t3n, ht3n⟩ : ∃ n, n = ((dn[i])[j]).length := ⟨_, rfl⟩
            obtain ⟨TA, hTA⟩ : ∃ t, t = (ac[i])[j] := ⟨_, rfl⟩
            obtain ⟨TD, hTD⟩ : ∃ t, t = (dn[i])[j] := ⟨_, rfl⟩
            rw [← ht2n] at HT1 hA2
            rw [← ht3n] at HT2 hD2
            rw [← hTA] at HT1 HYES HNO
            rw [← hTD] at HT2 HYES HNO
            obtain ⟨qa, hqa⟩ : ∃ n, n = (ac[i]).length := ⟨_, rfl⟩
            obtain ⟨qd, hqd⟩ : ∃ n, n = (dn[i]).length := ⟨_, rfl⟩
            rw [← hqa] at hA1
            rw [← hqd] at hD1
            have hja : j < qa := by omega
            have hjd : j < qd := by omega
            clear hsz hcla hcld hcl2 hcl3 hT1l hT2l ht2n ht3n hTA hTD hqa hqd hT1b hT2b hja' hjd' hca hcv HDT HT1l HT2l
            gi_wp2_with fail
            -- ROUND
            refine wpIn_region_held (S := fun W2 => Below W.heap.size W W2) (by kernel_rfl) (by kernel_rfl) (HNOUT.out _ _ _) ?_
            have S0 : Below W.heap.size W W.drew := (Below.refl _ _).drew
            change wpAnyH _ _ _ _ _ _ _ _ W.drew
            generalize W.drew = wd at *
            refine held_take (i := 0) (v := .agg #[.int .i64 p, .slice ad k cd, .slice aa k ca, .slice av k cv]) (some 57) rfl rfl (by kernel_rfl) (by kernel_rfl) (by kernel_rfl) (fun _ _ _ h => h) (yieldsIf_cell (by kernel_rfl) rfl (by kernel_rfl) (fun W2 h => hloadDb W2 (HNX.out W2 h))) S0 ?_
            refine held_take (i := 1) (v := .agg #[.int .i64 (i : Int), .int .i64 (j : Int)]) (some 58) rfl rfl (by kernel_rfl) (by kernel_rfl) (by kernel_rfl) (fun _ _ _ h => h) (yieldsIf_cell (by kernel_rfl) rfl (by kernel_rfl) (fun W2 h => hloadCe W2 (HC0.out W2 h) (HC1.out W2 h))) S0 ?_
            refine held_take (i := 3) (v := .agg #[.int .i64 p, .slice ad k cd, .slice aa k ca, .slice av k cv]) (some 60) rfl rfl (by kernel_rfl) (by kernel_rfl) (by kernel_rfl) (fun _ _ _ h => h) (yieldsIf_cell (by kernel_rfl) rfl (by kernel_rfl) (fun W2 h => hloadDb W2 (HNX.out W2 h))) S0 ?_
            refine held_take (i := 4) (v := .pointer (some ⟨Bx, 0, none⟩)) (some 61) rfl rfl (by kernel_rfl) (by kernel_rfl) (by kernel_rfl) (fun _ _ _ h => h) (yieldsIf_run0 (by kernel_rfl) (fun W _ => by kernel_rfl)) S0 ?_
            refine held_take (i := 5) (v := .int .i64 (i : Int)) (some 62) rfl rfl (by kernel_rfl) (by kernel_rfl) (by kernel_rfl) (fun _ _ _ h => h) (yieldsIf_cell (by kernel_rfl) rfl (by kernel_rfl) (fun W2 h => hloadIn W2 (HC0.out W2 h))) S0 ?_
            refine held_take (i := 6) (v := .int .i64 ((i : Int) - 1)) (some 63) rfl rfl (by kernel_rfl) (by kernel_rfl) (by kernel_rfl) (fun _ _ _ h => h) (yieldsIf_binD (by kernel_rfl) rfl (by kernel_rfl) (by kernel_rfl) (fun _ => by kernel_rfl) (fun W2 => hsubB (by omega) (by omega) W2)) S0 ?_
            refine held_take (i := 7) (v := .pointer (some ⟨Bx, 1, none⟩)) (some 64) rfl rfl (by kernel_rfl) (by kernel_rfl) (by kernel_rfl) (fun _ _ _ h => h) (yieldsIf_run0 (by kernel_rfl) (fun W _ => by kernel_rfl)) S0 ?_
            refine held_take (i := 8) (v := .int .i64 (j : Int)) (some 65) rfl rfl (by kernel_rfl) (by kernel_rfl) (by kernel_rfl) (fun _ _ _ h => h) (yieldsIf_cell (by kernel_rfl) rfl (by kernel_rfl) (fun W2 h => hloadIn W2 (HC1.out W2 h))) S0 ?_
            refine held_take (i := 9) (v := .agg #[.int .i64 ((i : Int) - 1), .int .i64 (j : Int)]) (some 66) rfl rfl (by kernel_rfl) (by kernel_rfl) (by kernel_rfl) (fun _ _ _ h => h) (yieldsIf_run0 (by kernel_rfl) (fun W _ => by kernel_rfl)) S0 ?_
            refine held_take (i := 11) (v := .agg #[.int .i64 p, .slice ad k cd, .slice aa k ca, .slice av k cv]) (some 68) rfl rfl (by kernel_rfl) (by kernel_rfl) (by kernel_rfl) (fun _ _ _ h => h) (yieldsIf_cell (by kernel_rfl) rfl (by kernel_rfl) (fun W2 h => hloadDb W2 (HNX.out W2 h))) S0 ?_
            refine held_take (i := 12) (v := .pointer (some ⟨Bx, 0, none⟩)) (some 69) rfl rfl (by kernel_rfl) (by kernel_rfl) (by kernel_rfl) (fun _ _ _ h => h) (yieldsIf_run0 (by kernel_rfl) (fun W _ => by kernel_rfl)) S0 ?_
            refine held_take (i := 13) (v := .int .i64 (i : Int)) (some 70) rfl rfl (by kernel_rfl) (by kernel_rfl) (by kernel_rfl) (fun _ _ _ h => h) (yieldsIf_cell (by kernel_rfl) rfl (by kernel_rfl) (fun W2 h => hloadIn W2 (HC0.out W2 h))) S0 ?_
            refine held_take (i := 14) (v := .pointer (some ⟨Bx, 1, none⟩)) (some 71) rfl rfl (by kernel_rfl) (by kernel_rfl) (by kernel_rfl) (fun _ _ _ h => h) (yieldsIf_run0 (by kernel_rfl) (fun W _ => by kernel_rfl)) S0 ?_
            refine held_take (i := 15) (v := .int .i64 (j : Int)) (some 72) rfl rfl (by kernel_rfl) (by kernel_rfl) (by kernel_rfl) (fun _ _ _ h => h) (yieldsIf_cell (by kernel_rfl) rfl (by kernel_rfl) (fun W2 h => hloadIn W2 (HC1.out W2 h))) S0 ?_
            refine held_take (i := 16) (v := .int .i64 ((j : Int) - 1)) (some 73) rfl rfl (by kernel_rfl) (by kernel_rfl) (by kernel_rfl) (fun _ _ _ h => h) (yieldsIf_binD (by kernel_rfl) rfl (by kernel_rfl) (by kernel_rfl) (fun _ => by kernel_rfl) (fun W2 => hsubB (by omega) (by omega) W2)) S0 ?_
            refine held_take (i := 17) (v := .agg #[.int .i64 (i : Int), .int .i64 ((j : Int) - 1)]) (some 74) rfl rfl (by kernel_rfl) (by kernel_rfl) (by kernel_rfl) (fun _ _ _ h => h) (yieldsIf_run0 (by kernel_rfl) (fun W _ => by kernel_rfl)) S0 ?_
            refine held_enter (i := 2) (some 59) (f := 75) (args := #[.agg #[.int .i64 p, .slice ad k cd, .slice aa k ca, .slice av k cv], .agg #[.int .i64 (i : Int), .int .i64 (j : Int)]]) (by kernel_rfl) rfl rfl rfl (by kernel_rfl) (HCALL.out wd S0 (i : Int) (j : Int) (by omega) (by omega) (by omega) (fun h0 => by have := HJ0.out h0; omega)) ?_ (fun c w' h => by obtain ⟨h, _⟩ := h; cases h) (fun w' h => by obtain ⟨h, _⟩ := h; cases h)
            rintro v0 wa ⟨hv0, S1⟩
            injection hv0 with hv0
            subst hv0
            refine ⟨S1, ?_⟩
            refine held_enter (i := 10) (some 67) (f := 75) (args := #[.agg #[.int .i64 p, .slice ad k cd, .slice aa k ca, .slice av k cv], .agg #[.int .i64 ((i : Int) - 1), .int .i64 (j : Int)]]) (by kernel_rfl) rfl rfl rfl (by kernel_rfl) (HCALL.out wa S1 ((i : Int) - 1) (j : Int) (by omega) (by omega) (by omega) (fun h0 => by have := HJ1.out h0; omega)) ?_ (fun c w' h => by obtain ⟨h, _⟩ := h; cases h) (fun w' h => by obtain ⟨h, _⟩ := h; cases h)
            rintro v1 wb ⟨hv1, S2⟩
            injection hv1 with hv1
            subst hv1
            refine ⟨S2, ?_⟩
            refine held_enter (i := 18) (some 75) (f := 75) (args := #[.agg #[.int .i64 p, .slice ad k cd, .slice aa k ca, .slice av k cv], .agg #[.int .i64 (i : Int), .int .i64 ((j : Int) - 1)]]) (by kernel_rfl) rfl rfl rfl (by kernel_rfl) (HCALL.out wb S2 (i : Int) ((j : Int) - 1) (by omega) (by omega) (by omega) (fun h0 => by have := HJ2.out h0; omega)) ?_ (fun c w' h => by obtain ⟨h, _⟩ := h; cases h) (fun w' h => by obtain ⟨h, _⟩ := h; cases h)
            rintro v2 wc ⟨hv2, S3⟩
            injection hv2 with hv2
            subst hv2
            refine ⟨S3, ?_⟩
            refine held_take (i := 19) (v := .int .i64 (dcl ds i j)) (some 6) rfl rfl (by kernel_rfl) (by kernel_rfl) (by kernel_rfl) (fun _ _ _ h => h) (yieldsIf_run0 (by kernel_rfl) (fun W _ => by kernel_rfl)) S3 ?_
            refine held_take (i := 20) (v := .int .i64 (dcl ds ((i : Int) - 1) j)) (some 7) rfl rfl (by kernel_rfl) (by kernel_rfl) (by kernel_rfl) (fun _ _ _ h => h) (yieldsIf_run0 (by kernel_rfl) (fun W _ => by kernel_rfl)) S3 ?_
            refine held_take (i := 21) (v := .int .i64 (dcl ds i ((j : Int) - 1))) (some 8) rfl rfl (by kernel_rfl) (by kernel_rfl) (by kernel_rfl) (fun _ _ _ h => h) (yieldsIf_run0 (by kernel_rfl) (fun W _ => by kernel_rfl)) S3 ?_
            refine wpAnyH_done (by kernel_rfl) ?_ _
            simp only [Act.put, List.setIfInBounds_toArray, List.set_cons_zero, List.set_cons_succ]
            clear S0 S1 S2
            gi_wp2_with fail
            have HS3 := Lib.hid S3
            clear S3
            have hcr := fun W2 (h : Below W.heap.size W W2) => (HBX.out W2 h).cell
            clear hcr
            refine wpIn_region_held (S := fun W2 => Below W.heap.size W W2) (by kernel_rfl) (by kernel_rfl) (HNOUT.out _ _ _) ?_
            have S4 : Below W.heap.size W wc.drew := HS3.out.drew
            change wpAnyH _ _ _ _ _ _ _ _ wc.drew
            generalize wc.drew = we at *
            refine held_take (i := 0) (v := .pointer (some ⟨w.heap.size, 0, none⟩)) (some 76) rfl rfl (by kernel_rfl) (by kernel_rfl) (by kernel_rfl) (fun _ _ _ h => h) (yieldsIf_run0 (by kernel_rfl) (fun W _ => by kernel_rfl)) S4 ?_
            refine held_take (i := 1) (v := .int .i64 p) (some 77) rfl rfl (by kernel_rfl) (by kernel_rfl) (by kernel_rfl) (fun _ _ _ h => h) (yieldsIf_cell (by kernel_rfl) rfl (by kernel_rfl) (fun W2 h => hloadIn W2 ((HNX.out W2 h).c0))) S4 ?_
            refine held_take (i := 2) (v := .pointer (some ⟨w.heap.size, 2, none⟩)) (some 78) rfl rfl (by kernel_rfl) (by kernel_rfl) (by kernel_rfl) (fun _ _ _ h => h) (yieldsIf_run0 (by kernel_rfl) (fun W _ => by kernel_rfl)) S4 ?_
            refine held_take (i := 3) (v := .slice aa k ca) (some 79) rfl rfl (by kernel_rfl) (by kernel_rfl) (by kernel_rfl) (fun _ _ _ h => h) (yieldsIf_cell (by kernel_rfl) rfl (by kernel_rfl) (fun W2 h => hload4 W2 ((HNX.out W2 h).c2))) S4 ?_
            refine held_take (i := 4) (v := .pointer (some ⟨Bx, 0, none⟩)) (some 80) rfl rfl (by kernel_rfl) (by kernel_rfl) (by kernel_rfl) (fun _ _ _ h => h) (yieldsIf_run0 (by kernel_rfl) (fun W _ => by kernel_rfl)) S4 ?_
            refine held_take (i := 5) (v := .int .i64 (i : Int)) (some 81) rfl rfl (by kernel_rfl) (by kernel_rfl) (by kernel_rfl) (fun _ _ _ h => h) (yieldsIf_cell (by kernel_rfl) rfl (by kernel_rfl) (fun W2 h => hloadIn W2 (HC0.out W2 h))) S4 ?_
            refine held_take (i := 6) (v := .pointer (some ⟨ba, oa + i, none⟩)) (some 82) rfl rfl (by kernel_rfl) (by kernel_rfl) (by kernel_rfl) (fun _ _ _ h => h) (yieldsIf_index (u := .slice aa k ca) (i := .int .i64 (i : Int)) (by kernel_rfl) rfl (by kernel_rfl) (by kernel_rfl) (fun W2 => hidx4 haa hik W2)) S4 ?_
            refine held_take (i := 7) (v := .slice (some ⟨b2, o2, none⟩) qa c2) (some 83) rfl rfl (by kernel_rfl) (by kernel_rfl) (by kernel_rfl) (fun _ _ _ h => h) (yieldsIf_cell (by kernel_rfl) rfl (by kernel_rfl) (fun W2 h => hload3s W2 (later h (Nat.le_refl _) hA1))) S4 ?_
            refine held_take (i := 8) (v := .pointer (some ⟨Bx, 1, none⟩)) (some 84) rfl rfl (by kernel_rfl) (by kernel_rfl) (by kernel_rfl) (fun _ _ _ h => h) (yieldsIf_run0 (by kernel_rfl) (fun W _ => by kernel_rfl)) S4 ?_
            refine held_take (i := 9) (v := .int .i64 (j : Int)) (some 85) rfl rfl (by kernel_rfl) (by kernel_rfl) (by kernel_rfl) (fun _ _ _ h => h) (yieldsIf_cell (by kernel_rfl) rfl (by kernel_rfl) (fun W2 h => hloadIn W2 (HC1.out W2 h))) S4 ?_
            refine held_take (i := 10) (v := .pointer (some ⟨b2, o2 + j, none⟩)) (some 86) rfl rfl (by kernel_rfl) (by kernel_rfl) (by kernel_rfl) (fun _ _ _ h => h) (yieldsIf_index (u := .slice (some ⟨b2, o2, none⟩) qa c2) (i := .int .i64 (j : Int)) (by kernel_rfl) rfl (by kernel_rfl) (by kernel_rfl) (fun W2 => hidx3 b2 o2 c2 hja W2)) S4 ?_
            refine held_take (i := 11) (v := .slice t2a t2n t2c) (some 87) rfl rfl (by kernel_rfl) (by kernel_rfl) (by kernel_rfl) (fun _ _ _ h => h) (yieldsIf_cell (by kernel_rfl) rfl (by kernel_rfl) (fun W2 h => hload2s W2 (later h (Nat.le_refl _) hA2))) S4 ?_
            refine held_take (i := 12) (v := .int .i64 (dcl ds i j)) (some 88) rfl rfl (by kernel_rfl) (by kernel_rfl) (by kernel_rfl) (fun _ _ _ h => h) (yieldsIf_move (by kernel_rfl) rfl (by kernel_rfl)) S4 ?_
            refine held_take (i := 13) (v := .int .i64 (dcl ds ((i : Int) - 1) j)) (some 89) rfl rfl (by kernel_rfl) (by kernel_rfl) (by kernel_rfl) (fun _ _ _ h => h) (yieldsIf_move (by kernel_rfl) rfl (by kernel_rfl)) S4 ?_
            refine held_enter (i := 14) (some 90) (f := 90) (args := #[.int .i64 p, .slice t2a t2n t2c, .int .i64 (dcl ds i j), .int .i64 (dcl ds ((i : Int) - 1) j)]) (by kernel_rfl) rfl rfl rfl (by kernel_rfl) (HT1.out we S4) ?_ (fun c w' h => by obtain ⟨_, h, _⟩ := h; cases h) (fun w' h => by obtain ⟨_, h, _⟩ := h; cases h)
            rintro v5 w5 ⟨bb, hv5, hw5, hbb⟩
            injection hv5 with hv5
            subst hv5
            subst hw5
            refine ⟨S4, ?_⟩
            have HBB := Lib.hid hbb
            clear hbb
            cases bb with
            | true =>
              refine held_take (i := 15) (v := .bool false) (some 91) rfl rfl (by kernel_rfl) (by kernel_rfl) (by kernel_rfl) (fun _ _ _ h => h) (yieldsIf_run0 (by kernel_rfl) (fun W _ => by kernel_rfl)) S4 ?_
              refine held_take (i := 16) (v := .bool false) (some 92) rfl rfl (by kernel_rfl) (by kernel_rfl) (by kernel_rfl) (fun _ _ _ h => h) (yieldsIf_move (by kernel_rfl) rfl (by kernel_rfl)) S4 ?_
              refine held_take (i := 17) (v := .pointer (some ⟨w.heap.size, 0, none⟩)) (some 93) rfl rfl (by kernel_rfl) (by kernel_rfl) (by kernel_rfl) (fun _ _ _ h => h) (yieldsIf_runG (by kernel_rfl) (fun W _ => by kernel_rfl)) S4 ?_
              refine held_take (i := 18) (v := .int .i64 p) (some 94) rfl rfl (by kernel_rfl) (by kernel_rfl) (by kernel_rfl) (fun _ _ _ h => h) (yieldsIf_cellG (by kernel_rfl) rfl (by kernel_rfl) (fun W2 h => hloadIn W2 ((HNX.out W2 h).c0))) S4 ?_
              refine held_take (i := 19) (v := .pointer (some ⟨w.heap.size, 3, none⟩)) (some 95) rfl rfl (by kernel_rfl) (by kernel_rfl) (by kernel_rfl) (fun _ _ _ h => h) (yieldsIf_runG (by kernel_rfl) (fun W _ => by kernel_rfl)) S4 ?_
              refine held_take (i := 20) (v := .slice av k cv) (some 96) rfl rfl (by kernel_rfl) (by kernel_rfl) (by kernel_rfl) (fun _ _ _ h => h) (yieldsIf_cellG (by kernel_rfl) rfl (by kernel_rfl) (fun W2 h => hload4 W2 ((HNX.out W2 h).c3))) S4 ?_
              refine held_take (i := 21) (v := .pointer (some ⟨Bx, 0, none⟩)) (some 97) rfl rfl (by kernel_rfl) (by kernel_rfl) (by kernel_rfl) (fun _ _ _ h => h) (yieldsIf_runG (by kernel_rfl) (fun W _ => by kernel_rfl)) S4 ?_
              refine held_take (i := 22) (v := .int .i64 (i : Int)) (some 98) rfl rfl (by kernel_rfl) (by kernel_rfl) (by kernel_rfl) (fun _ _ _ h => h) (yieldsIf_cellG (by kernel_rfl) rfl (by kernel_rfl) (fun W2 h => hloadIn W2 (HC0.out W2 h))) S4 ?_
              refine held_take (i := 23) (v := .pointer (some ⟨bd, od + i, none⟩)) (some 99) rfl rfl (by kernel_rfl) (by kernel_rfl) (by kernel_rfl) (fun _ _ _ h => h) (yieldsIf_indexD (u := .slice av k cv) (i := .int .i64 (i : Int)) (by kernel_rfl) rfl (by kernel_rfl) (by kernel_rfl) (fun W2 => hidx4 hvv hik W2)) S4 ?_
              refine held_take (i := 24) (v := .slice (some ⟨b3, o3, none⟩) qd c3) (some 100) rfl rfl (by kernel_rfl) (by kernel_rfl) (by kernel_rfl) (fun _ _ _ h => h) (yieldsIf_cellG (by kernel_rfl) rfl (by kernel_rfl) (fun W2 h => hload3s W2 (later h (Nat.le_refl _) hD1))) S4 ?_
              refine held_take (i := 25) (v := .pointer (some ⟨Bx, 1, none⟩)) (some 101) rfl rfl (by kernel_rfl) (by kernel_rfl) (by kernel_rfl) (fun _ _ _ h => h) (yieldsIf_runG (by kernel_rfl) (fun W _ => by kernel_rfl)) S4 ?_
              refine held_take (i := 26) (v := .int .i64 (j : Int)) (some 102) rfl rfl (by kernel_rfl) (by kernel_rfl) (by kernel_rfl) (fun _ _ _ h => h) (yieldsIf_cellG (by kernel_rfl) rfl (by kernel_rfl) (fun W2 h => hloadIn W2 (HC1.out W2 h))) S4 ?_
              refine held_take (i := 27) (v := .pointer (some ⟨b3, o3 + j, none⟩)) (some 103) rfl rfl (by kernel_rfl) (by kernel_rfl) (by kernel_rfl) (fun _ _ _ h => h) (yieldsIf_indexD (u := .slice (some ⟨b3, o3, none⟩) qd c3) (i := .int .i64 (j : Int)) (by kernel_rfl) rfl (by kernel_rfl) (by kernel_rfl) (fun W2 => hidx3 b3 o3 c3 hjd W2)) S4 ?_
              refine held_take (i := 28) (v := .slice t3a t3n t3c) (some 104) rfl rfl (by kernel_rfl) (by kernel_rfl) (by kernel_rfl) (fun _ _ _ h => h) (yieldsIf_cellG (by kernel_rfl) rfl (by kernel_rfl) (fun W2 h => hload2s W2 (later h (Nat.le_refl _) hD2))) S4 ?_
              refine held_take (i := 29) (v := .int .i64 (dcl ds i j)) (some 105) rfl rfl (by kernel_rfl) (by kernel_rfl) (by kernel_rfl) (fun _ _ _ h => h) (yieldsIf_runG (by kernel_rfl) (fun W _ => by kernel_rfl)) S4 ?_
              refine held_take (i := 30) (v := .int .i64 (dcl ds i ((j : Int) - 1))) (some 106) rfl rfl (by kernel_rfl) (by kernel_rfl) (by kernel_rfl) (fun _ _ _ h => h) (yieldsIf_runG (by kernel_rfl) (fun W _ => by kernel_rfl)) S4 ?_
              refine held_enterG (i := 31) (some 107) (f := 90) (args := #[.int .i64 p, .slice t3a t3n t3c, .int .i64 (dcl ds i j), .int .i64 (dcl ds i ((j : Int) - 1))]) (by kernel_rfl) rfl (by kernel_rfl) rfl (by kernel_rfl) (HT2.out we S4) ?_ (fun c w' h => by obtain ⟨_, h, _⟩ := h; cases h) (fun w' h => by obtain ⟨_, h, _⟩ := h; cases h)
              rintro v6 w6 ⟨bc, hv6, hw6, hbc⟩
              injection hv6 with hv6
              subst hv6
              subst hw6
              refine ⟨S4, ?_⟩
              have HBC := Lib.hid hbc
              clear hbc
              cases bc with
              | true =>
                refine held_take (i := 32) (v := .bool false) (some 108) rfl rfl (by kernel_rfl) (by kernel_rfl) (by kernel_rfl) (fun _ _ _ h => h) (yieldsIf_runG (by kernel_rfl) (fun W _ => by kernel_rfl)) S4 ?_
                refine held_take (i := 33) (v := .bool false) (some 109) rfl rfl (by kernel_rfl) (by kernel_rfl) (by kernel_rfl) (fun _ _ _ h => h) (yieldsIf_run0 (by kernel_rfl) (fun W _ => by kernel_rfl)) S4 ?_
                refine wpAnyH_done (by kernel_rfl) ?_ _
                simp only [Act.put, List.setIfInBounds_toArray, List.set_cons_zero, List.set_cons_succ]
                have HS4 := Lib.hid S4
                clear S4
                gi_wp2
                exact ⟨keepsFrom_below HS4.out, HS4.out.mono HB1.out.size, HYES.out (HBB.out.1 (by simp)) (HBC.out.1 (by simp)) _ rfl, HB1.out.trans (HS4.out.mono HB1.out.size)⟩
              | false =>
                refine held_take (i := 32) (v := .bool true) (some 108) rfl rfl (by kernel_rfl) (by kernel_rfl) (by kernel_rfl) (fun _ _ _ h => h) (yieldsIf_runG (by kernel_rfl) (fun W _ => by kernel_rfl)) S4 ?_
                refine held_take (i := 33) (v := .bool true) (some 109) rfl rfl (by kernel_rfl) (by kernel_rfl) (by kernel_rfl) (fun _ _ _ h => h) (yieldsIf_run0 (by kernel_rfl) (fun W _ => by kernel_rfl)) S4 ?_
                refine wpAnyH_done (by kernel_rfl) ?_ _
                simp only [Act.put, List.setIfInBounds_toArray, List.set_cons_zero, List.set_cons_succ]
                have cr2 := (HBX.out we S4).cell
                have fr2 := (HBX.out we S4).frozen
                have HS4 := Lib.hid S4
                clear S4
                gi_wp2
                exact ⟨(keepsFrom_below HS4.out).trans ((KeepsOthers.setCell _ _ _).from _), ⟨⟨rfl, HNO.out (fun h => absurd (HBC.out.2 h.2) (by simp))⟩, (HBX.out we HS4.out).set _⟩, ((HNX.out we HS4.out).below).setCell (p := ⟨w.heap.size + 1, 0, none⟩) (Nat.le_succ _) _⟩
            | false =>
              refine held_take (i := 15) (v := .bool true) (some 91) rfl rfl (by kernel_rfl) (by kernel_rfl) (by kernel_rfl) (fun _ _ _ h => h) (yieldsIf_run0 (by kernel_rfl) (fun W _ => by kernel_rfl)) S4 ?_
              refine held_take (i := 16) (v := .bool true) (some 92) rfl rfl (by kernel_rfl) (by kernel_rfl) (by kernel_rfl) (fun _ _ _ h => h) (yieldsIf_move (by kernel_rfl) rfl (by kernel_rfl)) S4 ?_
              refine held_skip0 (i := 17) (some 93) rfl rfl (by kernel_rfl) (by kernel_rfl) (by kernel_rfl) (fun _ _ _ h => h) (by kernel_rfl) S4 ?_
              refine held_skip0 (i := 18) (some 94) rfl rfl (by kernel_rfl) (by kernel_rfl) (by kernel_rfl) (fun _ _ _ h => h) (by kernel_rfl) S4 ?_
              refine held_skip0 (i := 19) (some 95) rfl rfl (by kernel_rfl) (by kernel_rfl) (by kernel_rfl) (fun _ _ _ h => h) (by kernel_rfl) S4 ?_
              refine held_skip0 (i := 20) (some 96) rfl rfl (by kernel_rfl) (by kernel_rfl) (by kernel_rfl) (fun _ _ _ h => h) (by kernel_rfl) S4 ?_
              refine held_skip0 (i := 21) (some 97) rfl rfl (by kernel_rfl) (by kernel_rfl) (by kernel_rfl) (fun _ _ _ h => h) (by kernel_rfl) S4 ?_
              refine held_skip0 (i := 22) (some 98) rfl rfl (by kernel_rfl) (by kernel_rfl) (by kernel_rfl) (fun _ _ _ h => h) (by kernel_rfl) S4 ?_
              refine held_skip0 (i := 23) (some 99) rfl rfl (by kernel_rfl) (by kernel_rfl) (by kernel_rfl) (fun _ _ _ h => h) (by kernel_rfl) S4 ?_
              refine held_skip0 (i := 24) (some 100) rfl rfl (by kernel_rfl) (by kernel_rfl) (by kernel_rfl) (fun _ _ _ h => h) (by kernel_rfl) S4 ?_
              refine held_skip0 (i := 25) (some 101) rfl rfl (by kernel_rfl) (by kernel_rfl) (by kernel_rfl) (fun _ _ _ h => h) (by kernel_rfl) S4 ?_
              refine held_skip0 (i := 26) (some 102) rfl rfl (by kernel_rfl) (by kernel_rfl) (by kernel_rfl) (fun _ _ _ h => h) (by kernel_rfl) S4 ?_
              refine held_skip0 (i := 27) (some 103) rfl rfl (by kernel_rfl) (by kernel_rfl) (by kernel_rfl) (fun _ _ _ h => h) (by kernel_rfl) S4 ?_
              refine held_skip0 (i := 28) (some 104) rfl rfl (by kernel_rfl) (by kernel_rfl) (by kernel_rfl) (fun _ _ _ h => h) (by kernel_rfl) S4 ?_
              refine held_skip0 (i := 29) (some 105) rfl rfl (by kernel_rfl) (by kernel_rfl) (by kernel_rfl) (fun _ _ _ h => h) (by kernel_rfl) S4 ?_
              refine held_skip0 (i := 30) (some 106) rfl rfl (by kernel_rfl) (by kernel_rfl) (by kernel_rfl) (fun _ _ _ h => h) (by kernel_rfl) S4 ?_
              refine held_skip0 (i := 31) (some 107) rfl rfl (by kernel_rfl) (by kernel_rfl) (by kernel_rfl) (fun _ _ _ h => h) (by kernel_rfl) S4 ?_
              refine held_skip0 (i := 32) (some 108) rfl rfl (by kernel_rfl) (by kernel_rfl) (by kernel_rfl) (fun _ _ _ h => h) (by kernel_rfl) S4 ?_
              refine held_take (i := 33) (v := .bool true) (some 109) rfl rfl (by kernel_rfl) (by kernel_rfl) (by kernel_rfl) (fun _ _ _ h => h) (yieldsIf_run0 (by kernel_rfl) (fun W _ => by kernel_rfl)) S4 ?_
              refine wpAnyH_done (by kernel_rfl) ?_ _
              simp only [Act.put, List.setIfInBounds_toArray, List.set_cons_zero, List.set_cons_succ]
              have cr2 := (HBX.out we S4).cell
              have fr2 := (HBX.out we S4).frozen
              have HS4 := Lib.hid S4
              clear S4
              gi_wp2
              exact ⟨(keepsFrom_below HS4.out).trans ((KeepsOthers.setCell _ _ _).from _), ⟨⟨rfl, HNO.out (fun h => absurd (HBB.out.2 h.1) (by simp))⟩, (HBX.out we HS4.out).set _⟩, ((HNX.out we HS4.out).below).setCell (p := ⟨w.heap.size + 1, 0, none⟩) (Nat.le_succ _) _⟩
          case done =>
            rintro D zs W hD hS ⟨hI, hB1⟩ hK
            have hDw : w.heap.size ≤ D := by omega
            have hbw : Boxed W (w.heap.size + 1) 4 (.bool false) := (hB1.block _ (by omega)).trans HBR.out
            have cr2 := hbw.cell
            have fr2 := hbw.frozen
            have HOK2 : Hid (TbsOk p ds ac dn) := Lib.hid ⟨by rw [← HMA.out, ← HM.out], by rw [← HMD.out, ← HM.out], fun i hi => (HC.out i (by rw [HM.out]; exact hi)).1, fun i hi => (HC.out i (by rw [HM.out]; exact hi)).2, fun c hc => by
              rw [← hS] at hc
              obtain ⟨z, hz, rfl⟩ := List.mem_map.1 hc
              exact hI z hz⟩
            have HK := Lib.hid hK
            have HBW := Lib.hid (hbw.set (.bool true))
            have HB2 : Hid (Below w.heap.size w (W.setCell ⟨w.heap.size + 1, 0, none⟩ (.bool true))) := Lib.hid ((HX1.out.below.trans (hB1.mono (by omega))).setCell (p := ⟨w.heap.size + 1, 0, none⟩) (Nat.le_succ _) _)
            clear hsz hI hS hbw hB1 hK
            gi_wp2
            have hK2 : (W.setCell ⟨w.heap.size + 1, 0, none⟩ (.bool true)).heap[D]? = some (.deferred (some [])) := (KeepsOthers.setCell W _ _).same D _ HK.out rfl
            refine ⟨by simp, .inl ⟨_, _, rfl, run_takeDeferred hK2, ?_⟩⟩
            exact ⟨_, results_bool HRES.out _ _ _ _ rfl (cell_kept HBW.out.cell (grownBy_putObj' _ D (.deferred none)) (fun r e => by cases e; exact ⟨_, hK2, rfl⟩)),
              bb_true (HB2.out.trans (belowK_b (w := w) (Nat.le_refl _) _ D _ _ hDw hK2 rfl rfl)) HOK2.out⟩
          case stop =>
            rintro D c pre W hD _ ⟨⟨⟨rfl, hno⟩, hbx⟩, hB1⟩ hK
            have hDw : w.heap.size ≤ D := by omega
            have HK := Lib.hid hK
            have HNO := Lib.hid hno
            clear hsz hno hK
            gi_wp2
            refine ⟨by simp, .inl ⟨_, _, rfl, run_takeDeferred HK.out, ?_⟩⟩
            exact ⟨_, results_bool HRES.out _ _ _ _ rfl (cell_kept hbx.cell (grownBy_putObj' _ D (.deferred none)) (fun r e => by cases e; exact ⟨_, HK.out, rfl⟩)),
              bb_false (hB1.trans (belowK_b (w := w) (Nat.le_refl _) _ D _ _ hDw HK.out rfl rfl)) HNO.out⟩
    · subst hea
      have hq2 : ((md : Int) != (ma : Int)) = true := by have hz : (md : Int) ≠ (ma : Int) := (by omega); simp [hz]
      refine (callsIn_wide (n := 6)).1 ?_
      refine callsIn_of_wp_marks Tryz.func66 rfl trivial ?_
      simp only [Tryz.ntmps66, List.size_toArray, List.length_cons, List.length_nil, Nat.reduceAdd, Nat.reduceSub, Array.replicate_succ, Array.replicate_zero, List.push_toArray, List.append_toArray, List.nil_append, List.cons_append]
      gi_wp2
      rw [← hw1]
      exact ⟨_, results_bool HRES.out _ _ _ _ rfl cr, bb_false HX1.out.below (fun h => hed (by rw [HMD.out, HM.out]; exact h.ld))⟩
  · have hq1 : ((ma : Int) != (m : Int)) = true := by have hz : (ma : Int) ≠ (m : Int) := (by omega); simp [hz]
    refine (callsIn_wide (n := 6)).1 ?_
    refine callsIn_of_wp_marks Tryz.func66 rfl trivial ?_
    simp only [Tryz.ntmps66, List.size_toArray, List.length_cons, List.length_nil, Nat.reduceAdd, Nat.reduceSub, Array.replicate_succ, Array.replicate_zero, List.push_toArray, List.append_toArray, List.nil_append, List.cons_append]
    gi_wp2
    rw [← hw1]
    exact ⟨_, results_bool HRES.out _ _ _ _ rfl cr, bb_false HX1.out.below (fun h => hea (by rw [HMA.out, HM.out]; exact h.la))⟩
end Go.Proofs.YtlopenephgabhaaGreat


namespace Go.Proofs.YtlopenephgabhaaGreat
open Go.ChangeShapes Go.WideShapes Go.ChangeAt Go.RowKit Go.Deep
theorem Tryz.infoSSS : (Tryz.prog.info? 51).map (fun i => (i.zero, i.size, i.bytes)) = some (some (.slice none 0 0), 1, 24) := by kernel_rfl
theorem Tryz.cellsSSS : Tryz.prog.cellsOf 51 = 1 := by kernel_rfl
theorem L4.lower {lo lo' : Nat} (hl : lo' ≤ lo) {w : World} {v : Value} {xs : List (List (List (List Int)))} (h : L4 lo w v xs) : L4 lo' w v xs := Sl.lower hl (fun _ _ _ h => L3.lower hl h) h

set_option maxHeartbeats 800000 in
theorem to4_any (v : Value) (xs : List (List (List (List Int)))) (w : World) (h : L4 0 w v xs) (hm : Bd4 1048576 xs) :
    Calls Tryz.prog 23 #[v] w (ToR L4 xs w) := by
  have hml : xs.length ≤ 1048576 := hm.1
  have HM := Lib.hid hm
  clear hm
  have hmk := run_make_row' (P := Tryz.prog) 23 51 (.slice none 0 0) 24 Tryz.underlying23 Tryz.infoSSS rfl .i64 .i64 xs.length (by omega) (by omega)
  refine Sl.cases h (fun ad cap hx hv => ?_) (fun b o cap hv _ hpos hc => ?_)
  · subst hx hv
    have hmk0 : ∀ w, (Instr.makeSlice 23 (.int .i64 0) (.int .i64 0)).run Tryz.prog w = .ok (.slice (some ⟨w.heap.size, 0, none⟩) 0 0) (w.alloc (.cells #[] 51)) := fun _ => by kernel_rfl
    clear hmk
    go_enter Tryz.func23, Tryz.ntmps23
    go_wp2
    refine wp_loop_rounds 1 ?_
    rw [rounds_succ]
    go_wp2
    go_ret
    exact ⟨_, rfl, Or.inl ⟨rfl, _, _, rfl⟩, (Below.refl _ _).alloc (Nat.le_refl _) _⟩
  · subst hv
    clear h
    have HC := Lib.hid hc
    clear hc
    go_enter Tryz.func23, Tryz.ntmps23
    go_wp2
    clear hmk
    go_loopw [4] (fun i wr => ∃ (k : Nat) (f : Nat → Value), k ≤ xs.length ∧ i = .int .i64 k ∧ Fill w wr 51 xs.length k (.slice none 0 0) (L3 (w.heap.size + 1)) xs f) (fun i _ => xs.length - (intOf i).toNat)
    case atStart => exact ⟨0, _, Nat.zero_le _, rfl, Fill.start _ _ _ _ _ _⟩
    case round =>
      obtain ⟨k, f, hk, rfl, HF⟩ := hrel
      by_cases hlt2 : k < xs.length
      · obtain ⟨u, hu, hr⟩ := HC.out k hlt2
        have hu' : wr.cell? ⟨b, o + k, none⟩ = some u := by
          rw [HF.below.cell (p := ⟨b, o + k, none⟩) (cell_lt hu), hu]
        have hr' : L3 0 wr u xs[k] := hr.below HF.below
        have hmx : Bd3 1048576 xs[k] := HM.out.2 _ (List.getElem_mem hlt2)
        have HF' := Lib.hid HF
        have HR' := Lib.hid hr'
        clear HF hu hr hr'
        go_wp2_with fail
        refine (to3_any u xs[k] _ HR'.out hmx).mono ?_
        rintro e w1 ⟨u1, rfl, hr1, hb1⟩
        obtain ⟨ad1, cap1, rfl⟩ := Sl.shape hr1
        have hlr := HF'.out.row.lt
        have hc1 : w1.cell? ⟨w.heap.size, k, none⟩ = some (f k) := (hb1.cell (p := ⟨w.heap.size, k, none⟩) hlr).trans (HF'.out.row.cell hlt2)
        have hc2 : w1.frozen? ⟨w.heap.size, k, none⟩ = false := (hb1.frozen (p := ⟨w.heap.size, k, none⟩) hlr).trans (HF'.out.row.frozen k)
        have HS := Lib.hid (HF'.out.step (w1 := w1) (u := _) (stable3 _) hb1 hlt2 (hr1.lower hlr))
        clear hr1 hb1 hlr
        go_wp2
        go_roundw
        case rel => exact ⟨k + 1, _, by omega, by go_num, HS.out⟩
        case measure => simp [intOf]; omega
      · obtain rfl : k = xs.length := by omega
        have HF' := Lib.hid HF
        clear HF
        go_wp2
        go_ret
        exact ⟨_, rfl, Sl.lower (Nat.le_refl _) (fun _ _ _ h => h.lower (Nat.le_succ _)) (HF'.out.sl (Nat.le_refl _)), HF'.out.below⟩

def W4 (lo hi : Nat) := Sw lo hi (W3 lo hi)
theorem steady4 (lo hi : Nat) : Steady lo hi (W4 lo hi) := (steady3 lo hi).sw
theorem W4.wider {lo hi lo' hi' : Nat} (hl : lo' ≤ lo) (hh : hi ≤ hi') {w : World} {v : Value} {xs : List (List (List (List Int)))} (h : W4 lo hi w v xs) : W4 lo' hi' w v xs := Sw.wider hl hh (fun _ _ _ h => h.wider hl hh) h
theorem W4.l4 {lo hi : Nat} {w : World} {v : Value} {xs : List (List (List (List Int)))} (h : W4 lo hi w v xs) : L4 lo w v xs := Sw.sl (fun _ _ _ h => h.l3) h
theorem W4.same {lo hi : Nat} {w w' : World} {v : Value} {xs : List (List (List (List Int)))} (h : W4 lo hi w v xs) (hs : Same lo hi w w') : W4 lo hi w' v xs := steady4 lo hi _ _ _ _ hs h

set_option maxHeartbeats 800000 in
theorem to4w_any (v : Value) (xs : List (List (List (List Int)))) (w : World) (h : L4 0 w v xs) (hm : Bd4 1048576 xs) :
    Calls Tryz.prog 23 #[v] w (ToW W4 xs w) := by
  have hml : xs.length ≤ 1048576 := hm.1
  have HM := Lib.hid hm
  clear hm
  have hmk := run_make_row' (P := Tryz.prog) 23 51 (.slice none 0 0) 24 Tryz.underlying23 Tryz.infoSSS rfl .i64 .i64 xs.length (by omega) (by omega)
  refine Sl.cases h (fun ad cap hx hv => ?_) (fun b o cap hv _ hpos hc => ?_)
  · subst hx hv
    have hmk0 : ∀ w, (Instr.makeSlice 23 (.int .i64 0) (.int .i64 0)).run Tryz.prog w = .ok (.slice (some ⟨w.heap.size, 0, none⟩) 0 0) (w.alloc (.cells #[] 51)) := fun _ => by kernel_rfl
    clear hmk
    go_enter Tryz.func23, Tryz.ntmps23
    go_wp2
    refine wp_loop_rounds 1 ?_
    rw [rounds_succ]
    go_wp2
    go_ret
    exact ⟨_, rfl, Or.inl ⟨rfl, _, _, rfl⟩, (Below.refl _ _).alloc (Nat.le_refl _) _⟩
  · subst hv
    clear h
    have HC := Lib.hid hc
    clear hc
    go_enter Tryz.func23, Tryz.ntmps23
    go_wp2
    clear hmk
    go_loopw [4] (fun i wr => ∃ (k : Nat) (f : Nat → Value), k ≤ xs.length ∧ i = .int .i64 k ∧ FillW w wr 51 xs.length k (.slice none 0 0) W3 xs f) (fun i _ => xs.length - (intOf i).toNat)
    case atStart => exact ⟨0, _, Nat.zero_le _, rfl, FillW.start _ _ _ _ _ _⟩
    case round =>
      obtain ⟨k, f, hk, rfl, HF⟩ := hrel
      by_cases hlt2 : k < xs.length
      · obtain ⟨u, hu, hr⟩ := HC.out k hlt2
        have hu' : wr.cell? ⟨b, o + k, none⟩ = some u := by
          rw [HF.below.cell (p := ⟨b, o + k, none⟩) (cell_lt hu), hu]
        have hr' : L3 0 wr u xs[k] := hr.below HF.below
        have hmx : Bd3 1048576 xs[k] := HM.out.2 _ (List.getElem_mem hlt2)
        have HF' := Lib.hid HF
        have HR' := Lib.hid hr'
        clear HF hu hr hr'
        go_wp2_with fail
        refine (to3w_any u xs[k] _ HR'.out hmx).mono ?_
        rintro e w1 ⟨u1, rfl, hr1, hb1⟩
        obtain ⟨ad1, cap1, rfl⟩ := Sw.shape hr1
        have hlr := HF'.out.row.lt
        have hc1 : w1.cell? ⟨w.heap.size, k, none⟩ = some (f k) := (hb1.cell (p := ⟨w.heap.size, k, none⟩) hlr).trans (HF'.out.row.cell hlt2)
        have hc2 : w1.frozen? ⟨w.heap.size, k, none⟩ = false := (hb1.frozen (p := ⟨w.heap.size, k, none⟩) hlr).trans (HF'.out.row.frozen k)
        have HS := Lib.hid (HF'.out.step (w1 := w1) (u := _) steady3 (fun _ _ _ _ _ _ _ h1 h2 h => W3.wider h1 h2 h) hb1 hlt2 hr1)
        clear hr1 hb1 hlr
        go_wp2
        go_roundw
        case rel => exact ⟨k + 1, _, by omega, by go_num, HS.out⟩
        case measure => simp [intOf]; omega
      · obtain rfl : k = xs.length := by omega
        have HF' := Lib.hid HF
        clear HF
        go_wp2
        go_ret
        exact ⟨_, rfl, HF'.out.sw (fun _ _ _ _ _ _ _ h1 h2 h => W3.wider h1 h2 h), HF'.out.below⟩

set_option maxHeartbeats 800000 in
theorem eq4_any (va vb : Value) (xs ys : List (List (List (List Int)))) (w : World) (ha : L4 0 w va xs) (hb : L4 0 w vb ys) (hm : Bd4 1048576 xs) (hn : Bd4 1048576 ys) :
    Calls Tryz.prog 27 #[va, vb] w (QR (.bool (decide (xs = ys))) w) := by
  have hm0 : xs.length ≤ 1048576 := hm.1
  have hn0 : ys.length ≤ 1048576 := hn.1
  have HM := Lib.hid hm
  have HN := Lib.hid hn
  clear hm hn
  by_cases hl : ys.length = xs.length
  · refine Sl.cases ha (fun ad cap hx hv => ?_) (fun b o cap hv _ hpos hc => ?_)
    · subst hx hv
      obtain ⟨ad2, cap2, hv2⟩ := Sl.shape hb
      rw [hl] at hv2
      obtain rfl : ys = [] := List.eq_nil_of_length_eq_zero hl
      subst hv2
      clear ha hb hl
      go_enter Tryz.func27, Tryz.ntmps27
      go_wp2
      refine wp_loop_rounds 1 ?_
      rw [rounds_succ]
      go_wp2
      go_ret
      exact ⟨rfl, 0, rfl⟩
    · refine Sl.cases hb (fun ad cap hx hv => absurd hl (by subst hx; simp; omega)) (fun b2 o2 cap2 hv2 _ hpos2 hc2 => ?_)
      rw [hl] at hv2
      subst hv hv2
      clear ha hb
      have HL := Lib.hid hl
      have HC := Lib.hid hc
      have HC2 := Lib.hid hc2
      clear hl hc hc2
      go_enter Tryz.func27, Tryz.ntmps27
      go_wp2
      go_loopw [5] (fun i wr => ∃ (k m : Nat), k ≤ xs.length ∧ i = .int .i64 k ∧ wr = w.drewN m ∧ Hid (∀ j (h1 : j < xs.length) (h2 : j < ys.length), j < k → xs[j] = ys[j])) (fun i _ => xs.length - (intOf i).toNat)
      case atStart => exact ⟨0, 0, Nat.zero_le _, rfl, rfl, Lib.hid (fun _ _ _ h => absurd h (Nat.not_lt_zero _))⟩
      case round =>
        obtain ⟨k, m, hk, rfl, hw, HD⟩ := hrel
        have HW := Lib.hid hw
        clear hw
        by_cases hlt2 : k < xs.length
        · have hlt3 : k < ys.length := by have := HL.out; omega
          obtain ⟨u, hu, hr⟩ := HC.out k hlt2
          obtain ⟨u2, hu2, hr2⟩ := HC2.out k hlt3
          have hu' : wr.cell? ⟨b, o + k, none⟩ = some u := by rw [HW.out]; exact hu
          have hu2' : wr.cell? ⟨b2, o2 + k, none⟩ = some u2 := by rw [HW.out]; exact hu2
          have HE := Lib.hid (fun (m2 : Nat) => eq3_any u u2 xs[k] ys[k] (wr.drewN m2) (by rw [HW.out]; exact (hr.below (drewN_below w m)).below (drewN_below _ m2)) (by rw [HW.out]; exact (hr2.below (drewN_below w m)).below (drewN_below _ m2)) (HM.out.2 _ (List.getElem_mem hlt2)) (HN.out.2 _ (List.getElem_mem hlt3)))
          clear hr hr2 hu hu2
          by_cases hxy : xs[k] = ys[k]
          · have HXY := Lib.hid hxy
            have HE' : Hid (∀ m2 : Nat, Calls Tryz.prog 52 #[u, u2] (wr.drewN m2) (QR (.bool true) (wr.drewN m2))) := Lib.hid (fun m2 => by have := HE.out m2; rwa [decide_eq_true hxy] at this)
            clear hxy HE
            go_wp2
            go_quiet ((go_at_call 52; exact Calls.quiet_of (HE'.out _)))
            go_wp2
            go_roundw
            case rel => exact ⟨k + 1, m + nq, by omega, by go_num, by rw [HW.out, World.drewN_drewN], Lib.hid (fun j h1 h2 hjk => by
              by_cases e : j = k
              · subst e; exact HXY.out
              · exact HD.out j h1 h2 (by omega))⟩
            case measure => simp [intOf]; omega
          · have HXY := Lib.hid hxy
            have HE' : Hid (∀ m2 : Nat, Calls Tryz.prog 52 #[u, u2] (wr.drewN m2) (QR (.bool false) (wr.drewN m2))) := Lib.hid (fun m2 => by have := HE.out m2; rwa [decide_eq_false hxy] at this)
            clear hxy HE
            go_wp2
            go_quiet ((go_at_call 52; exact Calls.quiet_of (HE'.out _)))
            go_wp2
            go_ret
            refine ⟨ret_bool ?_, m + nq, by rw [HW.out, World.drewN_drewN]⟩
            have hne : ¬ xs = ys := fun e => HXY.out (by subst e; rfl)
            simp [hne]
        · go_wp2
          go_ret
          refine ⟨ret_bool ?_, m, HW.out⟩
          have := list_eq_take HL.out (by omega) HD.out
          simp [this]
  · obtain ⟨ad, cap, rfl⟩ := Sl.shape ha
    obtain ⟨ad2, cap2, rfl⟩ := Sl.shape hb
    clear ha hb
    have hq : ((xs.length : Int) != (ys.length : Int)) = true := by simp; omega
    have hq2 : ((xs.length : Int) == (ys.length : Int)) = false := by simp; omega
    have HL := Lib.hid hl
    clear hl
    go_enter Tryz.func27, Tryz.ntmps27
    go_wp2
    go_ret
    refine ⟨ret_bool ?_, 0, rfl⟩
    have hne : ¬ xs = ys := fun e => HL.out (by rw [e])
    simp [hne]

section
variable {H : Type} {enc : TypeId × Value → H} {w : World} {base : Nat} {held : Bool}
theorem l4_of_trod {fuel : Nat} {v : Value} {x : DataW H × List MemPlace} (h : DataW.trod enc Tryz.prog w base (fun _ => true) held fuel 23 [v] = some x) : ∃ xs, L4 0 w v xs ∧ Bd4 9223372036854775807 xs := by
  obtain ⟨xs, h1, h2, h3⟩ := sl_of_trod (R := L3 0) (B := Bd3 9223372036854775807) Tryz.underlying23 Tryz.cellsSSS (fun fuel v x hh => l3_of_trod hh) h
  exact ⟨xs, h1, h2, h3⟩
end
end Go.Proofs.YtlopenephgabhaaGreat


namespace Go.Proofs.YtlopenephgabhaaGreat
open Go.ChangeShapes Go.WideShapes Go.ChangeAt Go.RowKit Go.Deep
def CapOk (v : Value) : Prop := ∃ a n c, v = .slice a n c ∧ n ≤ c
def L3c (lo : Nat) (w : World) (v : Value) (x : List (List (List Int))) : Prop := L3 lo w v x ∧ CapOk v
def L5 (lo : Nat) := Sl lo (L3c lo)
theorem stable3c (lo : Nat) : Stable lo (L3c lo) := fun _ _ _ _ hk h => ⟨stable3 lo _ _ _ _ hk h.1, h.2⟩
theorem stable5 (lo : Nat) : Stable lo (L5 lo) := (stable3c lo).sl
theorem L5.below {lo : Nat} {w w' : World} {v : Value} {xs : List (List (List (List Int)))} (h : L5 lo w v xs) (hb : Below w.heap.size w w') : L5 lo w' v xs := stable5 lo _ _ _ _ (Keep.of_below hb) h
theorem L5.lower {lo lo' : Nat} (hl : lo' ≤ lo) {w : World} {v : Value} {xs : List (List (List (List Int)))} (h : L5 lo w v xs) : L5 lo' w v xs := Sl.lower hl (fun _ _ _ h => ⟨L3.lower hl h.1, h.2⟩) h
theorem L5.l4 {lo : Nat} {w : World} {v : Value} {xs : List (List (List (List Int)))} (h : L5 lo w v xs) : L4 lo w v xs := Sl.lower (Nat.le_refl _) (fun _ _ _ h => h.1) h
def W3c (lo hi : Nat) (w : World) (v : Value) (x : List (List (List Int))) : Prop := W3 lo hi w v x ∧ CapOk v
def W5 (lo hi : Nat) := Sw lo hi (W3c lo hi)
theorem steady3c (lo hi : Nat) : Steady lo hi (W3c lo hi) := fun _ _ _ _ hs h => ⟨steady3 lo hi _ _ _ _ hs h.1, h.2⟩
theorem steady5 (lo hi : Nat) : Steady lo hi (W5 lo hi) := (steady3c lo hi).sw
theorem W3c.wider {lo hi lo' hi' : Nat} (hl : lo' ≤ lo) (hh : hi ≤ hi') {w : World} {v : Value} {xs : List (List (List Int))} (h : W3c lo hi w v xs) : W3c lo' hi' w v xs := ⟨W3.wider hl hh h.1, h.2⟩
theorem W5.wider {lo hi lo' hi' : Nat} (hl : lo' ≤ lo) (hh : hi ≤ hi') {w : World} {v : Value} {xs : List (List (List (List Int)))} (h : W5 lo hi w v xs) : W5 lo' hi' w v xs := Sw.wider hl hh (fun _ _ _ h => W3c.wider hl hh h) h
theorem W5.l5 {lo hi : Nat} {w : World} {v : Value} {xs : List (List (List (List Int)))} (h : W5 lo hi w v xs) : L5 lo w v xs := Sw.sl (fun _ _ _ h => ⟨h.1.l3, h.2⟩) h
theorem W5.same {lo hi : Nat} {w w' : World} {v : Value} {xs : List (List (List (List Int)))} (h : W5 lo hi w v xs) (hs : Same lo hi w w') : W5 lo hi w' v xs := steady5 lo hi _ _ _ _ hs h
abbrev Bd5 (n : Nat) (xs : List (List (List (List Int)))) : Prop := Bd4 n xs
theorem eq5_any (va vb : Value) (xs ys : List (List (List (List Int)))) (w : World) (ha : L5 0 w va xs) (hb : L5 0 w vb ys) (hm : Bd5 1048576 xs) (hn : Bd5 1048576 ys) :
    Calls Tryz.prog 27 #[va, vb] w (QR (.bool (decide (xs = ys))) w) := eq4_any va vb xs ys w ha.l4 hb.l4 hm hn

set_option maxHeartbeats 800000 in
theorem to3wc_any (v : Value) (xs : List (List (List Int))) (w : World) (h : L3 0 w v xs) (hm : Bd3 1048576 xs) :
    Calls Tryz.prog 44 #[v] w (ToW W3c xs w) := by
  have hml : xs.length ≤ 1048576 := hm.1
  have HM := Lib.hid hm
  clear hm
  have hmk := run_make_row' (P := Tryz.prog) 51 22 (.slice none 0 0) 24 Tryz.underlying51 Tryz.infoSS rfl .i64 .i64 xs.length (by omega) (by omega)
  refine Sl.cases h (fun ad cap hx hv => ?_) (fun b o cap hv _ hpos hc => ?_)
  · subst hx hv
    have hmk0 : ∀ w, (Instr.makeSlice 51 (.int .i64 0) (.int .i64 0)).run Tryz.prog w = .ok (.slice (some ⟨w.heap.size, 0, none⟩) 0 0) (w.alloc (.cells #[] 22)) := fun _ => by kernel_rfl
    clear hmk
    go_enter Tryz.func44, Tryz.ntmps44
    go_wp2
    refine wp_loop_rounds 1 ?_
    rw [rounds_succ]
    go_wp2
    go_ret
    exact ⟨_, rfl, ⟨Or.inl ⟨rfl, _, _, rfl⟩, _, _, _, rfl, Nat.le_refl _⟩, (Below.refl _ _).alloc (Nat.le_refl _) _⟩
  · subst hv
    clear h
    have HC := Lib.hid hc
    clear hc
    go_enter Tryz.func44, Tryz.ntmps44
    go_wp2
    clear hmk
    go_loopw [4] (fun i wr => ∃ (k : Nat) (f : Nat → Value), k ≤ xs.length ∧ i = .int .i64 k ∧ FillW w wr 22 xs.length k (.slice none 0 0) W2 xs f) (fun i _ => xs.length - (intOf i).toNat)
    case atStart => exact ⟨0, _, Nat.zero_le _, rfl, FillW.start _ _ _ _ _ _⟩
    case round =>
      obtain ⟨k, f, hk, rfl, HF⟩ := hrel
      by_cases hlt2 : k < xs.length
      · obtain ⟨u, hu, hr⟩ := HC.out k hlt2
        have hu' : wr.cell? ⟨b, o + k, none⟩ = some u := by
          rw [HF.below.cell (p := ⟨b, o + k, none⟩) (cell_lt hu), hu]
        have hr' : L2 0 wr u xs[k] := hr.below HF.below
        have hmx : Bd2 1048576 xs[k] := HM.out.2 _ (List.getElem_mem hlt2)
        have HF' := Lib.hid HF
        have HR' := Lib.hid hr'
        clear HF hu hr hr'
        go_wp2_with fail
        refine (to2w_any u xs[k] _ HR'.out hmx).mono ?_
        rintro e w1 ⟨u1, rfl, hr1, hb1⟩
        obtain ⟨ad1, cap1, rfl⟩ := Sw.shape hr1
        have hlr := HF'.out.row.lt
        have hc1 : w1.cell? ⟨w.heap.size, k, none⟩ = some (f k) := (hb1.cell (p := ⟨w.heap.size, k, none⟩) hlr).trans (HF'.out.row.cell hlt2)
        have hc2 : w1.frozen? ⟨w.heap.size, k, none⟩ = false := (hb1.frozen (p := ⟨w.heap.size, k, none⟩) hlr).trans (HF'.out.row.frozen k)
        have HS := Lib.hid (HF'.out.step (w1 := w1) (u := _) steady2 (fun _ _ _ _ _ _ _ h1 h2 h => W2.wider h1 h2 h) hb1 hlt2 hr1)
        clear hr1 hb1 hlr
        go_wp2
        go_roundw
        case rel => exact ⟨k + 1, _, by omega, by go_num, HS.out⟩
        case measure => simp [intOf]; omega
      · obtain rfl : k = xs.length := by omega
        have HF' := Lib.hid HF
        clear HF
        go_wp2
        go_ret
        exact ⟨_, rfl, ⟨HF'.out.sw (fun _ _ _ _ _ _ _ h1 h2 h => W2.wider h1 h2 h), _, _, _, rfl, Nat.le_refl _⟩, HF'.out.below⟩

set_option maxHeartbeats 800000 in
theorem to5w_any (v : Value) (xs : List (List (List (List Int)))) (w : World) (h0 : L5 0 w v xs) (hm : Bd5 1048576 xs) :
    Calls Tryz.prog 23 #[v] w (ToW W5 xs w) := by
  have h := h0.l4
  clear h0
  have hml : xs.length ≤ 1048576 := hm.1
  have HM := Lib.hid hm
  clear hm
  have hmk := run_make_row' (P := Tryz.prog) 23 51 (.slice none 0 0) 24 Tryz.underlying23 Tryz.infoSSS rfl .i64 .i64 xs.length (by omega) (by omega)
  refine Sl.cases h (fun ad cap hx hv => ?_) (fun b o cap hv _ hpos hc => ?_)
  · subst hx hv
    have hmk0 : ∀ w, (Instr.makeSlice 23 (.int .i64 0) (.int .i64 0)).run Tryz.prog w = .ok (.slice (some ⟨w.heap.size, 0, none⟩) 0 0) (w.alloc (.cells #[] 51)) := fun _ => by kernel_rfl
    clear hmk
    go_enter Tryz.func23, Tryz.ntmps23
    go_wp2
    refine wp_loop_rounds 1 ?_
    rw [rounds_succ]
    go_wp2
    go_ret
    exact ⟨_, rfl, Or.inl ⟨rfl, _, _, rfl⟩, (Below.refl _ _).alloc (Nat.le_refl _) _⟩
  · subst hv
    clear h
    have HC := Lib.hid hc
    clear hc
    go_enter Tryz.func23, Tryz.ntmps23
    go_wp2
    clear hmk
    go_loopw [4] (fun i wr => ∃ (k : Nat) (f : Nat → Value), k ≤ xs.length ∧ i = .int .i64 k ∧ FillW w wr 51 xs.length k (.slice none 0 0) W3c xs f) (fun i _ => xs.length - (intOf i).toNat)
    case atStart => exact ⟨0, _, Nat.zero_le _, rfl, FillW.start _ _ _ _ _ _⟩
    case round =>
      obtain ⟨k, f, hk, rfl, HF⟩ := hrel
      by_cases hlt2 : k < xs.length
      · obtain ⟨u, hu, hr⟩ := HC.out k hlt2
        have hu' : wr.cell? ⟨b, o + k, none⟩ = some u := by
          rw [HF.below.cell (p := ⟨b, o + k, none⟩) (cell_lt hu), hu]
        have hr' : L3 0 wr u xs[k] := hr.below HF.below
        have hmx : Bd3 1048576 xs[k] := HM.out.2 _ (List.getElem_mem hlt2)
        have HF' := Lib.hid HF
        have HR' := Lib.hid hr'
        clear HF hu hr hr'
        go_wp2_with fail
        refine (to3wc_any u xs[k] _ HR'.out hmx).mono ?_
        rintro e w1 ⟨u1, rfl, hr1, hb1⟩
        obtain ⟨ad1, cap1, rfl⟩ := Sw.shape hr1.1
        have hlr := HF'.out.row.lt
        have hc1 : w1.cell? ⟨w.heap.size, k, none⟩ = some (f k) := (hb1.cell (p := ⟨w.heap.size, k, none⟩) hlr).trans (HF'.out.row.cell hlt2)
        have hc2 : w1.frozen? ⟨w.heap.size, k, none⟩ = false := (hb1.frozen (p := ⟨w.heap.size, k, none⟩) hlr).trans (HF'.out.row.frozen k)
        have HS := Lib.hid (HF'.out.step (w1 := w1) (u := _) steady3c (fun _ _ _ _ _ _ _ h1 h2 h => W3c.wider h1 h2 h) hb1 hlt2 hr1)
        clear hr1 hb1 hlr
        go_wp2
        go_roundw
        case rel => exact ⟨k + 1, _, by omega, by go_num, HS.out⟩
        case measure => simp [intOf]; omega
      · obtain rfl : k = xs.length := by omega
        have HF' := Lib.hid HF
        clear HF
        go_wp2
        go_ret
        exact ⟨_, rfl, HF'.out.sw (fun _ _ _ _ _ _ _ h1 h2 h => W3c.wider h1 h2 h), HF'.out.below⟩

theorem to5_any (v : Value) (xs : List (List (List (List Int)))) (w : World) (h : L5 0 w v xs) (hm : Bd5 1048576 xs) :
    Calls Tryz.prog 23 #[v] w (ToR L5 xs w) := (to5w_any v xs w h hm).mono fun _ _ ⟨u, he, hr, hb⟩ => ⟨u, he, hr.l5, hb⟩
section
variable {H : Type} {enc : TypeId × Value → H} {w : World} {base : Nat} {held : Bool}
theorem cap_of_trod {fuel : Nat} {v : Value} {x : DataW H × List MemPlace} (h : DataW.trod enc Tryz.prog w base (fun _ => true) held fuel 51 [v] = some x) : CapOk v := by
  rcases open_slice1 Tryz.underlying51 Tryz.cellsSS h with ⟨hcs, _⟩ | ⟨a, len, cap, m, n, V, D, Pl, hcs, _, hl, hm, hmm, _, hx⟩
  · obtain rfl : v = .slice none 0 0 := by simpa using hcs
    exact ⟨_, _, _, rfl, Nat.le_refl _⟩
  · obtain rfl : v = .slice (some a) len cap := by simpa using hcs
    exact ⟨_, _, _, rfl, hl⟩
theorem l5_of_trod {fuel : Nat} {v : Value} {x : DataW H × List MemPlace} (h : DataW.trod enc Tryz.prog w base (fun _ => true) held fuel 23 [v] = some x) : ∃ xs, L5 0 w v xs ∧ Bd5 9223372036854775807 xs := by
  obtain ⟨xs, h1, h2, h3⟩ := sl_of_trod (R := L3c 0) (B := Bd3 9223372036854775807) Tryz.underlying23 Tryz.cellsSSS (fun fuel v x hh => by
    obtain ⟨a, ha, hb⟩ := l3_of_trod hh
    exact ⟨a, ⟨ha, cap_of_trod hh⟩, hb⟩) h
  exact ⟨xs, h1, h2, h3⟩
end
end Go.Proofs.YtlopenephgabhaaGreat


namespace Go.Proofs.YtlopenephgabhaaGreat
open Go.ChangeShapes Go.WideShapes Go.ChangeAt Go.RowKit Go.Deep

structure Dc (lo : Nat) (w : World) (dv av vv : Value) (dl : List (List Int)) (al : List (List (List (List Int)))) (vl : List (List (List (List Int)))) : Prop where
  fd : L2 lo w dv dl
  fa : L4 lo w av al
  fv : L5 lo w vv vl
theorem Dc.below {lo : Nat} {w w' : World} {dv av vv : Value} {dl : List (List Int)} {al : List (List (List (List Int)))} {vl : List (List (List (List Int)))} (h : Dc lo w dv av vv dl al vl) (hb : Below w.heap.size w w') : Dc lo w' dv av vv dl al vl := ⟨h.fd.below hb, h.fa.below hb, h.fv.below hb⟩
theorem Dc.lower {lo lo' : Nat} (hl : lo' ≤ lo) {w : World} {dv av vv : Value} {dl : List (List Int)} {al : List (List (List (List Int)))} {vl : List (List (List (List Int)))} (h : Dc lo w dv av vv dl al vl) : Dc lo' w dv av vv dl al vl := ⟨h.fd.lower hl, h.fa.lower hl, h.fv.lower hl⟩
theorem Dc.zero {lo : Nat} {w : World} {dv av vv : Value} {dl : List (List Int)} {al : List (List (List (List Int)))} {vl : List (List (List (List Int)))} (h : Dc lo w dv av vv dl al vl) : Dc 0 w dv av vv dl al vl := h.lower (Nat.zero_le _)
theorem Dc.drew {lo : Nat} {w : World} {dv av vv : Value} {dl : List (List Int)} {al : List (List (List (List Int)))} {vl : List (List (List (List Int)))} (h : Dc lo w dv av vv dl al vl) : Dc lo w.drew dv av vv dl al vl := h.below (Below.refl _ _).drew
theorem Dc.shapes {lo : Nat} {w : World} {dv av vv : Value} {dl : List (List Int)} {al : List (List (List (List Int)))} {vl : List (List (List (List Int)))} (h : Dc lo w dv av vv dl al vl) : (∃ a c, dv = .slice a dl.length c) ∧ (∃ a c, av = .slice a al.length c) ∧ (∃ a c, vv = .slice a vl.length c) := ⟨Sl.shape h.fd, Sl.shape h.fa, Sl.shape h.fv⟩
structure DcB (n : Nat) (dl : List (List Int)) (al : List (List (List (List Int)))) (vl : List (List (List (List Int)))) : Prop where
  bd : Bd2 n dl
  ba : Bd4 n al
  bv : Bd5 n vl
structure DcW (lo hi : Nat) (w : World) (dv av vv : Value) (dl : List (List Int)) (al : List (List (List (List Int)))) (vl : List (List (List (List Int)))) : Prop where
  fd : W2 lo hi w dv dl
  fa : W4 lo hi w av al
  fv : W5 lo hi w vv vl
theorem DcW.same {lo hi : Nat} {w w' : World} {dv av vv : Value} {dl : List (List Int)} {al : List (List (List (List Int)))} {vl : List (List (List (List Int)))} (h : DcW lo hi w dv av vv dl al vl) (s : Same lo hi w w') : DcW lo hi w' dv av vv dl al vl := ⟨h.fd.same s, h.fa.same s, h.fv.same s⟩
theorem DcW.cx {lo hi : Nat} {w : World} {dv av vv : Value} {dl : List (List Int)} {al : List (List (List (List Int)))} {vl : List (List (List (List Int)))} (h : DcW lo hi w dv av vv dl al vl) : Dc lo w dv av vv dl al vl := ⟨h.fd.l2, h.fa.l4, h.fv.l5⟩
/-- The box of one, in whatever later world. -/
structure BxDc (w wr : World) (b : Nat) (p : Int) (dv av vv : Value) (dl : List (List Int)) (al : List (List (List (List Int)))) (vl : List (List (List (List Int)))) : Prop where
  below : Below w.heap.size w wr
  c0 : wr.cell? ⟨b, 0, none⟩ = some (.int .i64 p)
  c1 : wr.cell? ⟨b, 1, none⟩ = some (dv)
  c2 : wr.cell? ⟨b, 2, none⟩ = some (av)
  c3 : wr.cell? ⟨b, 3, none⟩ = some (vv)
  lt : b < wr.heap.size
  cx : Dc 0 wr dv av vv dl al vl
theorem BxDc.next {w wr w' : World} {b : Nat} {p : Int} {dv av vv : Value} {dl : List (List Int)} {al : List (List (List (List Int)))} {vl : List (List (List (List Int)))} (h : BxDc w wr b p dv av vv dl al vl) (hb : Below wr.heap.size wr w') : BxDc w w' b p dv av vv dl al vl :=
  ⟨h.below.trans (hb.mono h.below.size), later hb (Nat.le_refl _) h.c0, later hb (Nat.le_refl _) h.c1, later hb (Nat.le_refl _) h.c2, later hb (Nat.le_refl _) h.c3, Nat.lt_of_lt_of_le h.lt hb.size, h.cx.below hb⟩
theorem BxDc.start {w : World} {p : Int} {dv av vv : Value} {dl : List (List Int)} {al : List (List (List (List Int)))} {vl : List (List (List (List Int)))} (t : TypeId) (h : Dc 0 w dv av vv dl al vl) : BxDc w (w.alloc (.cells #[.int .i64 p, dv, av, vv] t)) w.heap.size p dv av vv dl al vl :=
  ⟨(Below.refl _ _).alloc (Nat.le_refl _) _, by simp, by simp, by simp, by simp, by simp, h.below ((Below.refl _ _).alloc (Nat.le_refl _) _)⟩
structure BqDc (wr : World) (b : Nat) (p : Int) (dv av vv : Value) (dl : List (List Int)) (al : List (List (List (List Int)))) (vl : List (List (List (List Int)))) : Prop where
  c0 : wr.cell? ⟨b, 0, none⟩ = some (.int .i64 p)
  c1 : wr.cell? ⟨b, 1, none⟩ = some (dv)
  c2 : wr.cell? ⟨b, 2, none⟩ = some (av)
  c3 : wr.cell? ⟨b, 3, none⟩ = some (vv)
  lt : b < wr.heap.size
  cx : Dc 0 wr dv av vv dl al vl
theorem BxDc.bq {w wr : World} {b : Nat} {p : Int} {dv av vv : Value} {dl : List (List Int)} {al : List (List (List (List Int)))} {vl : List (List (List (List Int)))} (h : BxDc w wr b p dv av vv dl al vl) : BqDc wr b p dv av vv dl al vl := ⟨h.c0, h.c1, h.c2, h.c3, h.lt, h.cx⟩
theorem BqDc.next {wr w' : World} {b : Nat} {p : Int} {dv av vv : Value} {dl : List (List Int)} {al : List (List (List (List Int)))} {vl : List (List (List (List Int)))} (h : BqDc wr b p dv av vv dl al vl) (hb : Below wr.heap.size wr w') : BqDc w' b p dv av vv dl al vl :=
  ⟨later hb (Nat.le_refl _) h.c0, later hb (Nat.le_refl _) h.c1, later hb (Nat.le_refl _) h.c2, later hb (Nat.le_refl _) h.c3, Nat.lt_of_lt_of_le h.lt hb.size, h.cx.below hb⟩
def ToDc (p : Int) (dl : List (List Int)) (al : List (List (List (List Int)))) (vl : List (List (List (List Int)))) (w : World) (e' : Ending) (w' : World) : Prop := ∃ dv av vv, e' = .returned (.agg #[.int .i64 p, dv, av, vv]) ∧ Dc w.heap.size w' dv av vv dl al vl ∧ Below w.heap.size w w'

set_option maxHeartbeats 1600000 in
theorem toDoublec_any (p : Int) (dv av vv : Value) (dl : List (List Int)) (al : List (List (List (List Int)))) (vl : List (List (List (List Int)))) (w : World) (h : Dc 0 w dv av vv dl al vl) (hm : DcB 1048576 dl al vl) :
    Calls Tryz.prog 7 #[.agg #[.int .i64 p, dv, av, vv]] w (ToDc p dl al vl w) := by
  have H := Lib.hid h
  have HM := Lib.hid hm
  clear h hm
  have hres : Tryz.f7.results = #[.cell 2 29] := by kernel_rfl
  have HRES := Lib.hid hres
  clear hres
  have HB0 : Hid (Below w.heap.size w (((w.alloc (.cells #[.int .i64 p, dv, av, vv] 25)).alloc (.cells #[.int .i64 0, .slice none 0 0, .slice none 0 0, .slice none 0 0] 29)).alloc (.cells #[.int .i64 p, .slice none 0 0, .slice none 0 0, .slice none 0 0] 29))) := Lib.hid ((((Below.refl _ _).alloc (Nat.le_refl _) _).alloc (by simp) _).alloc (by simp; omega) _)
  have hz0 : w.heap.size + 3 = (((w.alloc (.cells #[.int .i64 p, dv, av, vv] 25)).alloc (.cells #[.int .i64 0, .slice none 0 0, .slice none 0 0, .slice none 0 0] 29)).alloc (.cells #[.int .i64 p, .slice none 0 0, .slice none 0 0, .slice none 0 0] 29)).heap.size := by simp
  have HZ0 := Lib.hid hz0
  clear hz0
  go_enter Tryz.func7, Tryz.ntmps7
  go_wp2_with fail
  refine (to2_any dv dl _ (H.out.fd.below HB0.out) HM.out.bd).mono ?_
  rintro ee w1 ⟨u0, rfl, hr, hb⟩
  obtain ⟨ad, cd, rfl⟩ := Sl.shape hr
  have hs0 : w.heap.size + 3 ≤ w1.heap.size := by have := hb.size; simp at this; omega
  obtain ⟨hc0, hf0⟩ := bcell hb
  have HB0b := Lib.hid (HB0.out.trans (hb.mono (by first | omega | (simp; omega) | simp)))
  have HRd : Hid (L2 (w.heap.size + 1 + 1 + 1) w1 (.slice ad dl.length cd) dl) := Lib.hid (hr.lower (by first | omega | (simp; omega) | simp))
  clear hr hb
  have hzx0 : w.heap.size < w1.heap.size := by omega
  have hzz0 : w.heap.size + 1 < w1.heap.size := by omega
  have hzy0 : w.heap.size + 1 + 1 < w1.heap.size := by omega
  have HB0c : Hid (Below w.heap.size w (w1.setCell ⟨w.heap.size + 1 + 1, 1, none⟩ (.slice ad dl.length cd))) := Lib.hid (HB0b.out.setCell (by show w.heap.size ≤ w.heap.size + 1 + 1; omega) _)
  have HRd' : Hid (L2 (w.heap.size + 1 + 1 + 1) (w1.setCell ⟨w.heap.size + 1 + 1, 1, none⟩ (.slice ad dl.length cd)) (.slice ad dl.length cd) dl) := Lib.hid (stable2 _ _ _ _ _ (Keep.set _ (Nat.lt_succ_self _)) HRd.out)
  clear HRd
  have HRd := HRd'
  clear HRd'
  go_wp2_with fail
  refine (to4_any av al _ (H.out.fa.below HB0c.out) HM.out.ba).mono ?_
  rintro ee w2 ⟨u1, rfl, hr, hb⟩
  obtain ⟨aa, ca, rfl⟩ := Sl.shape hr
  have hs1 : w1.heap.size ≤ w2.heap.size := by have := hb.size; simpa using this
  obtain ⟨hc1, hf1⟩ := bcell hb
  have HB1b := Lib.hid (HB0c.out.trans (hb.mono (by first | omega | (simp; omega) | simp)))
  have HRd' := Lib.hid (HRd.out.below hb)
  clear HRd
  have HRd := HRd'
  clear HRd'
  have HRa : Hid (L4 (w.heap.size + 1 + 1 + 1) w2 (.slice aa al.length ca) al) := Lib.hid (hr.lower (by first | omega | (simp; omega) | simp))
  clear hr hb
  have hzx1 : w.heap.size < w2.heap.size := by omega
  have hzz1 : w.heap.size + 1 < w2.heap.size := by omega
  have hzy1 : w.heap.size + 1 + 1 < w2.heap.size := by omega
  have HB1c : Hid (Below w.heap.size w (w2.setCell ⟨w.heap.size + 1 + 1, 2, none⟩ (.slice aa al.length ca))) := Lib.hid (HB1b.out.setCell (by show w.heap.size ≤ w.heap.size + 1 + 1; omega) _)
  have HRd' : Hid (L2 (w.heap.size + 1 + 1 + 1) (w2.setCell ⟨w.heap.size + 1 + 1, 2, none⟩ (.slice aa al.length ca)) (.slice ad dl.length cd) dl) := Lib.hid (stable2 _ _ _ _ _ (Keep.set _ (Nat.lt_succ_self _)) HRd.out)
  clear HRd
  have HRd := HRd'
  clear HRd'
  have HRa' : Hid (L4 (w.heap.size + 1 + 1 + 1) (w2.setCell ⟨w.heap.size + 1 + 1, 2, none⟩ (.slice aa al.length ca)) (.slice aa al.length ca) al) := Lib.hid (stable4 _ _ _ _ _ (Keep.set _ (Nat.lt_succ_self _)) HRa.out)
  clear HRa
  have HRa := HRa'
  clear HRa'
  go_wp2_with fail
  refine (to5_any vv vl _ (H.out.fv.below HB1c.out) HM.out.bv).mono ?_
  rintro ee w3 ⟨u2, rfl, hr, hb⟩
  obtain ⟨av, cv, rfl⟩ := Sl.shape hr
  have hs2 : w2.heap.size ≤ w3.heap.size := by have := hb.size; simpa using this
  obtain ⟨hc2, hf2⟩ := bcell hb
  have HB2b := Lib.hid (HB1c.out.trans (hb.mono (by first | omega | (simp; omega) | simp)))
  have HRd' := Lib.hid (HRd.out.below hb)
  have HRa' := Lib.hid (HRa.out.below hb)
  clear HRd
  have HRd := HRd'
  clear HRd'
  clear HRa
  have HRa := HRa'
  clear HRa'
  have HRv : Hid (L5 (w.heap.size + 1 + 1 + 1) w3 (.slice av vl.length cv) vl) := Lib.hid (hr.lower (by first | omega | (simp; omega) | simp))
  clear hr hb
  have hzx2 : w.heap.size < w3.heap.size := by omega
  have hzz2 : w.heap.size + 1 < w3.heap.size := by omega
  have hzy2 : w.heap.size + 1 + 1 < w3.heap.size := by omega
  go_wp2
  refine bodyPost_ret (v := .agg #[.int .i64 p, .slice ad dl.length cd, .slice aa al.length ca, .slice av vl.length cv]) ?_ rfl ?_
  · simp only [results, HRES.out]
    go_simp
  · have hk : Keep (w.heap.size + 1 + 1 + 1) w3 (((((w3.setCell ⟨w.heap.size + 1 + 1, 3, none⟩ (.slice av vl.length cv)).setCell ⟨w.heap.size + 1, 0, none⟩ (.int .i64 p)).setCell ⟨w.heap.size + 1, 1, none⟩ (.slice ad dl.length cd)).setCell ⟨w.heap.size + 1, 2, none⟩ (.slice aa al.length ca)).setCell ⟨w.heap.size + 1, 3, none⟩ (.slice av vl.length cv)) := (((((Keep.set _ (by omega)).trans (Keep.set _ (by omega))).trans (Keep.set _ (by omega))).trans (Keep.set _ (by omega))).trans (Keep.set _ (by omega)))
    refine ⟨_, _, _, rfl, ⟨?_, ?_, ?_⟩, ?_⟩
    · exact (stable2 _ _ _ _ _ hk HRd.out).lower (by omega)
    · exact (stable4 _ _ _ _ _ hk HRa.out).lower (by omega)
    · exact (stable5 _ _ _ _ _ hk HRv.out).lower (by omega)
    · exact (((((HB2b.out.setCell (by show w.heap.size ≤ w.heap.size + 1 + 1; omega) _).setCell (by show w.heap.size ≤ w.heap.size + 1; omega) _).setCell (by show w.heap.size ≤ w.heap.size + 1; omega) _).setCell (by show w.heap.size ≤ w.heap.size + 1; omega) _).setCell (by show w.heap.size ≤ w.heap.size + 1; omega) _)
def ToDcW (p : Int) (dl : List (List Int)) (al : List (List (List (List Int)))) (vl : List (List (List (List Int)))) (w : World) (e' : Ending) (w' : World) : Prop := ∃ dv av vv, e' = .returned (.agg #[.int .i64 p, dv, av, vv]) ∧ DcW w.heap.size w'.heap.size w' dv av vv dl al vl ∧ Below w.heap.size w w'

set_option maxHeartbeats 1600000 in
theorem toDoublecw_any (p : Int) (dv av vv : Value) (dl : List (List Int)) (al : List (List (List (List Int)))) (vl : List (List (List (List Int)))) (w : World) (h : Dc 0 w dv av vv dl al vl) (hm : DcB 1048576 dl al vl) :
    Calls Tryz.prog 7 #[.agg #[.int .i64 p, dv, av, vv]] w (ToDcW p dl al vl w) := by
  have H := Lib.hid h
  have HM := Lib.hid hm
  clear h hm
  have hres : Tryz.f7.results = #[.cell 2 29] := by kernel_rfl
  have HRES := Lib.hid hres
  clear hres
  have HB0 : Hid (Below w.heap.size w (((w.alloc (.cells #[.int .i64 p, dv, av, vv] 25)).alloc (.cells #[.int .i64 0, .slice none 0 0, .slice none 0 0, .slice none 0 0] 29)).alloc (.cells #[.int .i64 p, .slice none 0 0, .slice none 0 0, .slice none 0 0] 29))) := Lib.hid ((((Below.refl _ _).alloc (Nat.le_refl _) _).alloc (by simp) _).alloc (by simp; omega) _)
  have hz0 : w.heap.size + 3 = (((w.alloc (.cells #[.int .i64 p, dv, av, vv] 25)).alloc (.cells #[.int .i64 0, .slice none 0 0, .slice none 0 0, .slice none 0 0] 29)).alloc (.cells #[.int .i64 p, .slice none 0 0, .slice none 0 0, .slice none 0 0] 29)).heap.size := by simp
  have HZ0 := Lib.hid hz0
  clear hz0
  go_enter Tryz.func7, Tryz.ntmps7
  go_wp2_with fail
  refine (to2w_any dv dl _ (H.out.fd.below HB0.out) HM.out.bd).mono ?_
  rintro ee w1 ⟨u0, rfl, hr, hb⟩
  obtain ⟨ad, cd, rfl⟩ := Sw.shape hr
  have hs0 : w.heap.size + 3 ≤ w1.heap.size := by have := hb.size; simp at this; omega
  obtain ⟨hc0, hf0⟩ := bcell hb
  have HB0b := Lib.hid (HB0.out.trans (hb.mono (by first | omega | (simp; omega) | simp)))
  have HRd : Hid (W2 (w.heap.size + 1 + 1 + 1) (w1.heap.size) w1 (.slice ad dl.length cd) dl) := Lib.hid (hr.wider (by first | omega | (simp; omega) | simp) (Nat.le_refl _))
  clear hr hb
  have hzx0 : w.heap.size < w1.heap.size := by omega
  have hzz0 : w.heap.size + 1 < w1.heap.size := by omega
  have hzy0 : w.heap.size + 1 + 1 < w1.heap.size := by omega
  have HB0c : Hid (Below w.heap.size w (w1.setCell ⟨w.heap.size + 1 + 1, 1, none⟩ (.slice ad dl.length cd))) := Lib.hid (HB0b.out.setCell (by show w.heap.size ≤ w.heap.size + 1 + 1; omega) _)
  have HRd' : Hid (W2 (w.heap.size + 1 + 1 + 1) (w1.heap.size) (w1.setCell ⟨w.heap.size + 1 + 1, 1, none⟩ (.slice ad dl.length cd)) (.slice ad dl.length cd) dl) := Lib.hid (HRd.out.same (Same.set _ (Or.inl (Nat.lt_succ_self _))))
  clear HRd
  have HRd := HRd'
  clear HRd'
  go_wp2_with fail
  refine (to4w_any av al _ (H.out.fa.below HB0c.out) HM.out.ba).mono ?_
  rintro ee w2 ⟨u1, rfl, hr, hb⟩
  obtain ⟨aa, ca, rfl⟩ := Sw.shape hr
  have hs1 : w1.heap.size ≤ w2.heap.size := by have := hb.size; simpa using this
  obtain ⟨hc1, hf1⟩ := bcell hb
  have HB1b := Lib.hid (HB0c.out.trans (hb.mono (by first | omega | (simp; omega) | simp)))
  have HRd' := Lib.hid (HRd.out.same (Same.of_below hb (by simp)))
  clear HRd
  have HRd := HRd'
  clear HRd'
  have HRa : Hid (W4 (w.heap.size + 1 + 1 + 1) (w2.heap.size) w2 (.slice aa al.length ca) al) := Lib.hid (hr.wider (by first | omega | (simp; omega) | simp) (Nat.le_refl _))
  clear hr hb
  have hzx1 : w.heap.size < w2.heap.size := by omega
  have hzz1 : w.heap.size + 1 < w2.heap.size := by omega
  have hzy1 : w.heap.size + 1 + 1 < w2.heap.size := by omega
  have HRd' : Hid (W2 (w.heap.size + 1 + 1 + 1) (w2.heap.size) w2 (.slice ad dl.length cd) dl) := Lib.hid (HRd.out.wider (Nat.le_refl _) (by omega))
  clear HRd
  have HRd := HRd'
  clear HRd'
  have HB1c : Hid (Below w.heap.size w (w2.setCell ⟨w.heap.size + 1 + 1, 2, none⟩ (.slice aa al.length ca))) := Lib.hid (HB1b.out.setCell (by show w.heap.size ≤ w.heap.size + 1 + 1; omega) _)
  have HRd' : Hid (W2 (w.heap.size + 1 + 1 + 1) (w2.heap.size) (w2.setCell ⟨w.heap.size + 1 + 1, 2, none⟩ (.slice aa al.length ca)) (.slice ad dl.length cd) dl) := Lib.hid (HRd.out.same (Same.set _ (Or.inl (Nat.lt_succ_self _))))
  clear HRd
  have HRd := HRd'
  clear HRd'
  have HRa' : Hid (W4 (w.heap.size + 1 + 1 + 1) (w2.heap.size) (w2.setCell ⟨w.heap.size + 1 + 1, 2, none⟩ (.slice aa al.length ca)) (.slice aa al.length ca) al) := Lib.hid (HRa.out.same (Same.set _ (Or.inl (Nat.lt_succ_self _))))
  clear HRa
  have HRa := HRa'
  clear HRa'
  go_wp2_with fail
  refine (to5w_any vv vl _ (H.out.fv.below HB1c.out) HM.out.bv).mono ?_
  rintro ee w3 ⟨u2, rfl, hr, hb⟩
  obtain ⟨av, cv, rfl⟩ := Sw.shape hr
  have hs2 : w2.heap.size ≤ w3.heap.size := by have := hb.size; simpa using this
  obtain ⟨hc2, hf2⟩ := bcell hb
  have HB2b := Lib.hid (HB1c.out.trans (hb.mono (by first | omega | (simp; omega) | simp)))
  have HRd' := Lib.hid (HRd.out.same (Same.of_below hb (by simp)))
  have HRa' := Lib.hid (HRa.out.same (Same.of_below hb (by simp)))
  clear HRd
  have HRd := HRd'
  clear HRd'
  clear HRa
  have HRa := HRa'
  clear HRa'
  have HRv : Hid (W5 (w.heap.size + 1 + 1 + 1) (w3.heap.size) w3 (.slice av vl.length cv) vl) := Lib.hid (hr.wider (by first | omega | (simp; omega) | simp) (Nat.le_refl _))
  clear hr hb
  have hzx2 : w.heap.size < w3.heap.size := by omega
  have hzz2 : w.heap.size + 1 < w3.heap.size := by omega
  have hzy2 : w.heap.size + 1 + 1 < w3.heap.size := by omega
  have HRd' : Hid (W2 (w.heap.size + 1 + 1 + 1) (w3.heap.size) w3 (.slice ad dl.length cd) dl) := Lib.hid (HRd.out.wider (Nat.le_refl _) (by omega))
  clear HRd
  have HRd := HRd'
  clear HRd'
  have HRa' : Hid (W4 (w.heap.size + 1 + 1 + 1) (w3.heap.size) w3 (.slice aa al.length ca) al) := Lib.hid (HRa.out.wider (Nat.le_refl _) (by omega))
  clear HRa
  have HRa := HRa'
  clear HRa'
  go_wp2
  refine bodyPost_ret (v := .agg #[.int .i64 p, .slice ad dl.length cd, .slice aa al.length ca, .slice av vl.length cv]) ?_ rfl ?_
  · simp only [results, HRES.out]
    go_simp
  · have hk : ∀ hi, Same (w.heap.size + 1 + 1 + 1) hi w3 (((((w3.setCell ⟨w.heap.size + 1 + 1, 3, none⟩ (.slice av vl.length cv)).setCell ⟨w.heap.size + 1, 0, none⟩ (.int .i64 p)).setCell ⟨w.heap.size + 1, 1, none⟩ (.slice ad dl.length cd)).setCell ⟨w.heap.size + 1, 2, none⟩ (.slice aa al.length ca)).setCell ⟨w.heap.size + 1, 3, none⟩ (.slice av vl.length cv)) := fun hi => (((((Same.set _ (Or.inl (by omega))).trans (Same.set _ (Or.inl (by omega)))).trans (Same.set _ (Or.inl (by omega)))).trans (Same.set _ (Or.inl (by omega)))).trans (Same.set _ (Or.inl (by omega))))
    refine ⟨_, _, _, rfl, ⟨?_, ?_, ?_⟩, ?_⟩
    · exact (HRd.out.same (hk _)).wider (by omega) (by simp)
    · exact (HRa.out.same (hk _)).wider (by omega) (by simp)
    · exact (HRv.out.same (hk _)).wider (by omega) (by simp)
    · exact (((((HB2b.out.setCell (by show w.heap.size ≤ w.heap.size + 1 + 1; omega) _).setCell (by show w.heap.size ≤ w.heap.size + 1; omega) _).setCell (by show w.heap.size ≤ w.heap.size + 1; omega) _).setCell (by show w.heap.size ≤ w.heap.size + 1; omega) _).setCell (by show w.heap.size ≤ w.heap.size + 1; omega) _)

set_option maxHeartbeats 1600000 in
theorem eqDoublec_true (p : Int) (dv av vv : Value) (dv2 av2 vv2 : Value) (dl : List (List Int)) (al : List (List (List (List Int)))) (vl : List (List (List (List Int)))) (w : World) (h : Dc 0 w dv av vv dl al vl) (h2 : Dc 0 w dv2 av2 vv2 dl al vl) (hm : DcB 1048576 dl al vl) :
    Calls Tryz.prog 10 #[.agg #[.int .i64 p, dv, av, vv], .agg #[.int .i64 p, dv2, av2, vv2]] w (BR (.bool true) w) := by
  have HM := Lib.hid hm
  have HB0 : Hid (Below w.heap.size w ((w.alloc (.cells #[.int .i64 p, dv, av, vv] 29)).alloc (.cells #[.int .i64 p, dv2, av2, vv2] 29))) := Lib.hid (((Below.refl _ _).alloc (Nat.le_refl _) _).alloc (by simp) _)
  have H := Lib.hid (h.below HB0.out)
  have H2 := Lib.hid (h2.below HB0.out)
  clear hm h h2
  go_enter Tryz.func10, Tryz.ntmps10
  go_wp2_with fail
  have h1 := eq2_any dv dv2 dl dl _ H.out.fd H2.out.fd HM.out.bd HM.out.bd
  rw [decide_eq_true rfl] at h1
  refine h1.mono ?_
  clear h1
  rintro ee w' ⟨rfl, m0, rfl⟩
  go_wp2_with fail
  have h1 := eq4_any av av2 al al _ (H.out.fa.below (drewN_below _ (m0))) (H2.out.fa.below (drewN_below _ (m0))) HM.out.ba HM.out.ba
  rw [decide_eq_true rfl] at h1
  refine h1.mono ?_
  clear h1
  rintro ee w' ⟨rfl, m1, rfl⟩
  go_wp2_with fail
  have h1 := eq5_any vv vv2 vl vl _ (H.out.fv.below (drewN_below _ (m0 + m1))) (H2.out.fv.below (drewN_below _ (m0 + m1))) HM.out.bv HM.out.bv
  rw [decide_eq_true rfl] at h1
  refine h1.mono ?_
  clear h1
  rintro ee w' ⟨rfl, m2, rfl⟩
  go_wp2
  go_ret
  exact ⟨rfl, HB0.out.trans ((drewN_below _ (m0 + m1 + m2)).mono HB0.out.size)⟩
theorem array4c {α : Type} {cs : Array α} (h : cs.size = 4) : ∃ c0 c1 c2 c3, cs = #[c0, c1, c2, c3] := by
  obtain ⟨l⟩ := cs
  match l, h with
  | [c0, c1, c2, c3], _ => exact ⟨c0, c1, c2, c3, rfl⟩
theorem Tryz.cellsDc : Tryz.prog.cellsOf 25 = 4 := by kernel_rfl
section
variable {H : Type} {enc : TypeId × Value → H} {P : Program} {w : World} {base : Nat} {held : Bool} {spare : Nat → Bool}
theorem trod_struct4c {t : TypeId} {f0 f1 f2 f3 : Field} {fuel : Nat} {cs : List Value} {x : DataW H × List MemPlace} (ht : P.underlying t = some (.struct #[f0, f1, f2, f3])) (h : DataW.trod enc P w base (fun _ => true) held fuel t cs = some x) :
    ∃ y0 y1 y2 y3 m, DataW.trod enc P w base (fun _ => true) held m f0.type ((cs.drop f0.offset).take (P.cellsOf f0.type)) = some y0 ∧ DataW.trod enc P w base (fun _ => true) held m f1.type ((cs.drop f1.offset).take (P.cellsOf f1.type)) = some y1 ∧ DataW.trod enc P w base (fun _ => true) held m f2.type ((cs.drop f2.offset).take (P.cellsOf f2.type)) = some y2 ∧ DataW.trod enc P w base (fun _ => true) held m f3.type ((cs.drop f3.offset).take (P.cellsOf f3.type)) = some y3 := by
  obtain ⟨xs, m, _, rfl, hl, hlen, hf⟩ := DataW.trod_struct ht h
  match xs, hlen with
  | [y0, y1, y2, y3], _ => exact ⟨y0, y1, y2, y3, m, by simpa using hf 0 f0 rfl, by simpa using hf 1 f1 rfl, by simpa using hf 2 f2 rfl, by simpa using hf 3 f3 rfl⟩
set_option maxRecDepth 100000 in
theorem doublec_of_trod {r : Reach} {b0 : Nat} {v : Value} {d' : DataW H} {p' : List MemPlace} (hv : Value.okWide Tryz.prog w r b0 25 v) (h : DataW.Trod enc Tryz.prog w base (fun _ => true) held 25 v d' p') :
    ∃ (p : Int) (dv av vv : Value) (dl : List (List Int)) (al : List (List (List (List Int)))) (vl : List (List (List (List Int)))), v = .agg #[.int .i64 p, dv, av, vv] ∧ Dc 0 w dv av vv dl al vl ∧ DcB 9223372036854775807 dl al vl := by
  obtain ⟨cs, rfl, hsz⟩ := okWide_struct Tryz.underlying25 hv
  obtain ⟨c0, c1, c2, c3, rfl⟩ := array4c (hsz.trans Tryz.cellsDc)
  obtain ⟨fuel, hf⟩ := h
  obtain ⟨y0, y1, y2, y3, m, h0, h1, h2, h3⟩ := trod_struct4c Tryz.underlying25 hf
  have h0' : DataW.trod enc Tryz.prog w base (fun _ => true) held m 2 [c0] = some y0 := h0
  have h1' : DataW.trod enc Tryz.prog w base (fun _ => true) held m 22 [c1] = some y1 := h1
  have h2' : DataW.trod enc Tryz.prog w base (fun _ => true) held m 23 [c2] = some y2 := h2
  have h3' : DataW.trod enc Tryz.prog w base (fun _ => true) held m 23 [c3] = some y3 := h3
  obtain ⟨q0, e0, _, _⟩ := DataW.trod_int Tryz.underlying2 h0'
  obtain rfl : c0 = .int .i64 q0 := by simpa using e0
  obtain ⟨x1, hx1, hy1⟩ := l2_of_trod h1'
  obtain ⟨x2, hx2, hy2⟩ := l4_of_trod h2'
  obtain ⟨x3, hx3, hy3⟩ := l5_of_trod h3'
  exact ⟨q0, c1, c2, c3, x1, x2, x3, rfl, ⟨hx1, hx2, hx3⟩, ⟨hy1, hy2, hy3⟩⟩
end
end Go.Proofs.YtlopenephgabhaaGreat


namespace Go.Proofs.YtlopenephgabhaaGreat
open Go.RowKit

def smL {α : Type} (f : α → Nat) (xs : List α) : Nat := (xs.map f).sum
theorem smL_succ {α : Type} (f : α → Nat) (xs : List α) {j : Nat} (h : j < xs.length) : smL f (xs.take (j + 1)) = smL f (xs.take j) + f xs[j] := by
  show ((xs.take (j + 1)).map f).sum = ((xs.take j).map f).sum + f xs[j]
  rw [← List.take_append_getElem h, List.map_append, List.sum_append]
  simp only [List.map_cons, List.map_nil, List.sum_cons, List.sum_nil, Nat.add_zero]
theorem smL_full {α : Type} (f : α → Nat) (xs : List α) {j : Nat} (h : j = xs.length) : smL f (xs.take j) = smL f xs := by rw [h, List.take_length]
theorem smL_take {α : Type} (f : α → Nat) (xs : List α) (j : Nat) : smL f (xs.take j) ≤ smL f xs := by
  have h : smL f xs = smL f (xs.take j) + smL f (xs.drop j) := by simp only [smL]; rw [← List.sum_append, ← List.map_append, List.take_append_drop]
  omega
theorem smL_mono {α : Type} {f g : α → Nat} (xs : List α) (h : ∀ x, f x ≤ g x) : smL f xs ≤ smL g xs := by
  induction xs with
  | nil => simp [smL]
  | cons x xs ih => have := h x; simp only [smL, List.map_cons, List.sum_cons] at ih ⊢; omega
def tot1 (xs : List Int) : Nat := xs.length
def tot2 (xs : List (List Int)) : Nat := xs.length + smL tot1 xs
def tot3 (xs : List (List (List Int))) : Nat := xs.length + smL tot2 xs
def tot4 (xs : List (List (List (List Int)))) : Nat := xs.length + smL tot3 xs
def cnt1 (xs : List Int) : Nat := xs.length
def cnt2 (xs : List (List Int)) : Nat := smL cnt1 xs
def cnt3 (xs : List (List (List Int))) : Nat := smL cnt2 xs
def cnt4 (xs : List (List (List (List Int)))) : Nat := smL cnt3 xs
theorem cnt2_le (xs : List (List Int)) : cnt2 xs ≤ tot2 xs := by unfold cnt2 tot2; have := smL_mono (f := cnt1) (g := tot1) xs (fun _ => Nat.le_refl _); omega
theorem cnt3_le (xs : List (List (List Int))) : cnt3 xs ≤ tot3 xs := by unfold cnt3 tot3; have := smL_mono (f := cnt2) (g := tot2) xs cnt2_le; omega
theorem cnt4_le (xs : List (List (List (List Int)))) : cnt4 xs ≤ tot4 xs := by unfold cnt4 tot4; have := smL_mono (f := cnt3) (g := tot3) xs cnt3_le; omega
def T4 (lo hi : Nat) := Sw lo hi (T3 lo hi)

/-- A size: what is left is told, or there was too much. -/
def SzT (left : Int) (n : Nat) (w : World) (e : Ending) (w' : World) : Prop := ∃ r : Int, e = .returned (.int .i64 r) ∧ w = w' ∧ (r = -1 ∨ 0 ≤ r ∧ r = left - (n : Int))

set_option maxHeartbeats 800000 in
theorem szt1_any {lo : Nat} (v : Value) (xs : List Int) (left : Int) (w : World) (h : L1 lo w v xs) (h0 : 0 ≤ left) (h1 : left ≤ 1048576) (hm : xs.length ≤ 9223372036854775807) :
    Calls Tryz.prog 32 #[v, .int .i64 left] w (SzT left (tot1 xs) w) := by
  obtain ⟨ad, cap, rfl⟩ := Sl.shape h
  by_cases hlt : left - xs.length < 0
  · go_enter Tryz.func32, Tryz.ntmps32
    go_wp2
    go_ret
    exact ⟨_, rfl, rfl, Or.inl rfl⟩
  · go_enter Tryz.func32, Tryz.ntmps32
    go_wp2
    go_ret
    exact ⟨_, rfl, rfl, Or.inr ⟨by omega, by unfold tot1; omega⟩⟩

set_option maxHeartbeats 800000 in
theorem szt2_any {lo : Nat} (v : Value) (xs : List (List Int)) (left : Int) (w : World) (h : L2 lo w v xs) (h0 : 0 ≤ left) (h1 : left ≤ 1048576) (hm : Bd2 9223372036854775807 xs) :
    Calls Tryz.prog 16 #[v, .int .i64 left] w (SzT left (tot2 xs) w) := by
  have hm0 : xs.length ≤ 9223372036854775807 := hm.1
  refine Sl.cases h (fun ad cap hx hv => ?_) (fun b o cap hv _ hpos hc => ?_)
  · subst hx hv
    go_enter Tryz.func16, Tryz.ntmps16
    go_wp2
    refine wp_loop_rounds 1 ?_
    rw [rounds_succ]
    go_wp2
    go_ret
    exact ⟨_, rfl, rfl, Or.inr ⟨by omega, by simp [tot2, smL]⟩⟩
  · subst hv
    clear h
    by_cases hlt : left - xs.length < 0
    · go_enter Tryz.func16, Tryz.ntmps16
      go_wp2
      go_ret
      exact ⟨_, rfl, rfl, Or.inl rfl⟩
    · have HM := Lib.hid hm
      have HC := Lib.hid hc
      clear hm hc
      go_enter Tryz.func16, Tryz.ntmps16
      go_wp2
      go_loop [1, 5] (fun l i => ∃ (k : Nat) (r : Int), k ≤ xs.length ∧ i = .int .i64 k ∧ l = .int .i64 r ∧ 0 ≤ r ∧ r ≤ left ∧ Hid (r = left - (xs.length : Int) - (smL tot1 (xs.take k) : Int))) (fun _ i => xs.length - (intOf i).toNat)
      case atStart => exact ⟨0, _, Nat.zero_le _, rfl, rfl, by omega, by omega, Lib.hid (by simp [smL])⟩
      case round =>
        obtain ⟨k, r, hk, rfl, rfl, hr0, hr1, HR1⟩ := hrel
        by_cases hlt2 : k < xs.length
        · obtain ⟨u, hu, hr⟩ := HC.out k hlt2
          have hmu : (xs[k]).length ≤ 9223372036854775807 := HM.out.2 _ (List.getElem_mem hlt2)
          go_wp2_with fail
          refine (szt1_any u xs[k] r _ hr hr0 (by omega) hmu).mono ?_
          rintro e w' ⟨r2, rfl, rfl, hpost⟩
          rcases hpost with rfl | ⟨hp0, hp1⟩
          · go_wp2
            go_ret
            exact ⟨_, rfl, rfl, Or.inl rfl⟩
          · have hrn : Hid (r2 = left - (xs.length : Int) - (smL tot1 (xs.take (k + 1)) : Int)) := Lib.hid (by have := smL_succ tot1 xs hlt2; have := HR1.out; omega)
            have hrl : r2 ≤ left := by omega
            clear hp1 HR1
            go_wp2
            go_round
            case rel => exact ⟨k + 1, r2, by omega, by go_num, rfl, hp0, hrl, hrn⟩
            case measure => simp [intOf]; omega
        · have hfin : Hid (r = left - (tot2 xs : Int)) := Lib.hid (by have := smL_full tot1 xs (show k = xs.length by omega); have := HR1.out; unfold tot2; omega)
          clear HR1
          go_wp2
          go_ret
          exact ⟨_, rfl, rfl, Or.inr ⟨hr0, hfin.out⟩⟩

set_option maxHeartbeats 800000 in
theorem szt3_any {lo : Nat} (v : Value) (xs : List (List (List Int))) (left : Int) (w : World) (h : L3 lo w v xs) (h0 : 0 ≤ left) (h1 : left ≤ 1048576) (hm : Bd3 9223372036854775807 xs) :
    Calls Tryz.prog 33 #[v, .int .i64 left] w (SzT left (tot3 xs) w) := by
  have hm0 : xs.length ≤ 9223372036854775807 := hm.1
  refine Sl.cases h (fun ad cap hx hv => ?_) (fun b o cap hv _ hpos hc => ?_)
  · subst hx hv
    go_enter Tryz.func33, Tryz.ntmps33
    go_wp2
    refine wp_loop_rounds 1 ?_
    rw [rounds_succ]
    go_wp2
    go_ret
    exact ⟨_, rfl, rfl, Or.inr ⟨by omega, by simp [tot3, smL]⟩⟩
  · subst hv
    clear h
    by_cases hlt : left - xs.length < 0
    · go_enter Tryz.func33, Tryz.ntmps33
      go_wp2
      go_ret
      exact ⟨_, rfl, rfl, Or.inl rfl⟩
    · have HM := Lib.hid hm
      have HC := Lib.hid hc
      clear hm hc
      go_enter Tryz.func33, Tryz.ntmps33
      go_wp2
      go_loop [1, 5] (fun l i => ∃ (k : Nat) (r : Int), k ≤ xs.length ∧ i = .int .i64 k ∧ l = .int .i64 r ∧ 0 ≤ r ∧ r ≤ left ∧ Hid (r = left - (xs.length : Int) - (smL tot2 (xs.take k) : Int))) (fun _ i => xs.length - (intOf i).toNat)
      case atStart => exact ⟨0, _, Nat.zero_le _, rfl, rfl, by omega, by omega, Lib.hid (by simp [smL])⟩
      case round =>
        obtain ⟨k, r, hk, rfl, rfl, hr0, hr1, HR1⟩ := hrel
        by_cases hlt2 : k < xs.length
        · obtain ⟨u, hu, hr⟩ := HC.out k hlt2
          have hmu : Bd2 9223372036854775807 xs[k] := HM.out.2 _ (List.getElem_mem hlt2)
          go_wp2_with fail
          refine (szt2_any u xs[k] r _ hr hr0 (by omega) hmu).mono ?_
          rintro e w' ⟨r2, rfl, rfl, hpost⟩
          rcases hpost with rfl | ⟨hp0, hp1⟩
          · go_wp2
            go_ret
            exact ⟨_, rfl, rfl, Or.inl rfl⟩
          · have hrn : Hid (r2 = left - (xs.length : Int) - (smL tot2 (xs.take (k + 1)) : Int)) := Lib.hid (by have := smL_succ tot2 xs hlt2; have := HR1.out; omega)
            have hrl : r2 ≤ left := by omega
            clear hp1 HR1
            go_wp2
            go_round
            case rel => exact ⟨k + 1, r2, by omega, by go_num, rfl, hp0, hrl, hrn⟩
            case measure => simp [intOf]; omega
        · have hfin : Hid (r = left - (tot3 xs : Int)) := Lib.hid (by have := smL_full tot2 xs (show k = xs.length by omega); have := HR1.out; unfold tot3; omega)
          clear HR1
          go_wp2
          go_ret
          exact ⟨_, rfl, rfl, Or.inr ⟨hr0, hfin.out⟩⟩

set_option maxHeartbeats 800000 in
theorem szt4_any {lo : Nat} (v : Value) (xs : List (List (List (List Int)))) (left : Int) (w : World) (h : L4 lo w v xs) (h0 : 0 ≤ left) (h1 : left ≤ 1048576) (hm : Bd4 9223372036854775807 xs) :
    Calls Tryz.prog 17 #[v, .int .i64 left] w (SzT left (tot4 xs) w) := by
  have hm0 : xs.length ≤ 9223372036854775807 := hm.1
  refine Sl.cases h (fun ad cap hx hv => ?_) (fun b o cap hv _ hpos hc => ?_)
  · subst hx hv
    go_enter Tryz.func17, Tryz.ntmps17
    go_wp2
    refine wp_loop_rounds 1 ?_
    rw [rounds_succ]
    go_wp2
    go_ret
    exact ⟨_, rfl, rfl, Or.inr ⟨by omega, by simp [tot4, smL]⟩⟩
  · subst hv
    clear h
    by_cases hlt : left - xs.length < 0
    · go_enter Tryz.func17, Tryz.ntmps17
      go_wp2
      go_ret
      exact ⟨_, rfl, rfl, Or.inl rfl⟩
    · have HM := Lib.hid hm
      have HC := Lib.hid hc
      clear hm hc
      go_enter Tryz.func17, Tryz.ntmps17
      go_wp2
      go_loop [1, 5] (fun l i => ∃ (k : Nat) (r : Int), k ≤ xs.length ∧ i = .int .i64 k ∧ l = .int .i64 r ∧ 0 ≤ r ∧ r ≤ left ∧ Hid (r = left - (xs.length : Int) - (smL tot3 (xs.take k) : Int))) (fun _ i => xs.length - (intOf i).toNat)
      case atStart => exact ⟨0, _, Nat.zero_le _, rfl, rfl, by omega, by omega, Lib.hid (by simp [smL])⟩
      case round =>
        obtain ⟨k, r, hk, rfl, rfl, hr0, hr1, HR1⟩ := hrel
        by_cases hlt2 : k < xs.length
        · obtain ⟨u, hu, hr⟩ := HC.out k hlt2
          have hmu : Bd3 9223372036854775807 xs[k] := HM.out.2 _ (List.getElem_mem hlt2)
          go_wp2_with fail
          refine (szt3_any u xs[k] r _ hr hr0 (by omega) hmu).mono ?_
          rintro e w' ⟨r2, rfl, rfl, hpost⟩
          rcases hpost with rfl | ⟨hp0, hp1⟩
          · go_wp2
            go_ret
            exact ⟨_, rfl, rfl, Or.inl rfl⟩
          · have hrn : Hid (r2 = left - (xs.length : Int) - (smL tot3 (xs.take (k + 1)) : Int)) := Lib.hid (by have := smL_succ tot3 xs hlt2; have := HR1.out; omega)
            have hrl : r2 ≤ left := by omega
            clear hp1 HR1
            go_wp2
            go_round
            case rel => exact ⟨k + 1, r2, by omega, by go_num, rfl, hp0, hrl, hrn⟩
            case measure => simp [intOf]; omega
        · have hfin : Hid (r = left - (tot4 xs : Int)) := Lib.hid (by have := smL_full tot3 xs (show k = xs.length by omega); have := HR1.out; unfold tot4; omega)
          clear HR1
          go_wp2
          go_ret
          exact ⟨_, rfl, rfl, Or.inr ⟨hr0, hfin.out⟩⟩

set_option maxHeartbeats 800000 in
theorem mark2t_any {lo hi : Nat} (v : Value) (xs : List (List Int)) (k : Int) (w : World) (h : T2 lo hi w v xs) (hm : Bd2 1048576 xs) (hk0 : 0 ≤ k) (hk1 : k + (cnt2 xs : Int) ≤ 4611686018427387904) :
    Calls Tryz.prog 12 #[v, .int .i64 k] w (MarkD lo hi k (k + (cnt2 xs : Int)) w) := by
  have hml : xs.length ≤ 1048576 := hm.1
  have HM := Lib.hid hm
  have H := Lib.hid h
  clear hm
  refine Sw.cases h (fun ad cap hx hv => ?_) (fun b o cap hv hlo hhi hpos hc hf => ?_)
  · subst hx hv
    clear h
    go_enter Tryz.func12, Tryz.ntmps12
    go_wp2
    refine wp_loop_rounds 1 ?_
    rw [rounds_succ]
    go_wp2
    go_ret
    exact ⟨k, rfl, Int.le_refl _, by simp [cnt2, smL], Only.refl _ _ _, Tame.refl _⟩
  · subst hv
    clear h
    have HC := Lib.hid hc
    clear hc hf
    go_enter Tryz.func12, Tryz.ntmps12
    go_wp2
    go_loopw [1, 5] (fun kk i wr => ∃ (j : Nat) (r : Int), j ≤ xs.length ∧ i = .int .i64 j ∧ kk = .int .i64 r ∧ k ≤ r ∧ r ≤ k + (smL cnt1 (xs.take j) : Int) ∧ Hid (Only lo hi w wr ∧ Tame w wr)) (fun _ i _ => xs.length - (intOf i).toNat)
    case atStart => exact ⟨0, k, Nat.zero_le _, rfl, rfl, Int.le_refl _, by simp [smL], Lib.hid ⟨Only.refl _ _ _, Tame.refl _⟩⟩
    case round =>
      obtain ⟨j, r, hj, rfl, rfl, hr0, hr1, HO⟩ := hrel
      by_cases hlt : j < xs.length
      · obtain ⟨u, hu, hr⟩ := HC.out j hlt
        obtain ⟨a1, c1, hu1⟩ := Sw.shape hr
        rw [hu1] at hu hr
        have hu' := HO.out.2.slices _ _ _ _ _ hu
        have HR := Lib.hid (T1.tame hr HO.out.2)
        have hmx : (xs[j]).length ≤ 1048576 := HM.out.2 _ (List.getElem_mem hlt)
        clear hu hr hu1
        have hsm := smL_succ cnt1 xs hlt
        have hst := smL_take cnt1 xs (j + 1)
        have hct : cnt2 xs = smL cnt1 xs := rfl
        have hc1 : cnt1 xs[j] = (xs[j]).length := rfl
        go_wp2_with fail
        refine (mark1_any _ xs[j] r _ HR.out hmx (by omega) (by omega)).mono ?_
        rintro e w2 ⟨rfl, ho, ht, _⟩
        have HO2 := Lib.hid (And.intro (HO.out.1.trans ho) (HO.out.2.trans ht))
        clear ho ht
        go_wp2
        go_roundw
        case rel => exact ⟨j + 1, r + ((xs[j]).length : Int), by omega, by go_num, rfl, by omega, by omega, HO2⟩
        case measure => simp [intOf]; omega
      · have hjj : Hid (j = xs.length) := Lib.hid (by omega)
        have hsf := smL_full cnt1 xs hjj.out
        have hct : cnt2 xs = smL cnt1 xs := rfl
        go_wp2
        go_ret
        exact ⟨r, rfl, hr0, by have := hjj.out; omega, HO.out.1, HO.out.2⟩

set_option maxHeartbeats 800000 in
theorem mark3t_any {lo hi : Nat} (v : Value) (xs : List (List (List Int))) (k : Int) (w : World) (h : T3 lo hi w v xs) (hm : Bd3 1048576 xs) (hk0 : 0 ≤ k) (hk1 : k + (cnt3 xs : Int) ≤ 4611686018427387904) :
    Calls Tryz.prog 53 #[v, .int .i64 k] w (MarkD lo hi k (k + (cnt3 xs : Int)) w) := by
  have hml : xs.length ≤ 1048576 := hm.1
  have HM := Lib.hid hm
  refine Sw.cases h (fun ad cap hx hv => ?_) (fun b o cap hv hlo hhi hpos hc hf => ?_)
  · subst hx hv
    clear h hm
    go_enter Tryz.func53, Tryz.ntmps53
    go_wp2
    refine wp_loop_rounds 1 ?_
    rw [rounds_succ]
    go_wp2
    go_ret
    exact ⟨k, rfl, Int.le_refl _, by simp [cnt3, smL], Only.refl _ _ _, Tame.refl _⟩
  · subst hv
    clear h hm
    have HC := Lib.hid hc
    clear hc hf
    go_enter Tryz.func53, Tryz.ntmps53
    go_wp2
    go_loopw [1, 5] (fun kk i wr => ∃ (j : Nat) (r : Int), j ≤ xs.length ∧ i = .int .i64 j ∧ kk = .int .i64 r ∧ k ≤ r ∧ r ≤ k + (smL cnt2 (xs.take j) : Int) ∧ Hid (Only lo hi w wr ∧ Tame w wr)) (fun _ i _ => xs.length - (intOf i).toNat)
    case atStart => exact ⟨0, k, Nat.zero_le _, rfl, rfl, Int.le_refl _, by simp [smL], Lib.hid ⟨Only.refl _ _ _, Tame.refl _⟩⟩
    case round =>
      obtain ⟨j, r, hj, rfl, rfl, hr0, hr1, HO⟩ := hrel
      by_cases hlt : j < xs.length
      · obtain ⟨u, hu, hr⟩ := HC.out j hlt
        obtain ⟨a1, c1, hu1⟩ := Sw.shape hr
        rw [hu1] at hu hr
        have hu' := HO.out.2.slices _ _ _ _ _ hu
        have HR := Lib.hid (T2.tame hr HO.out.2)
        have hmy : (xs[j]).length ≤ 1048576 := (HM.out.2 _ (List.getElem_mem hlt)).1
        clear hu hr hu1
        have hsm := smL_succ cnt2 xs hlt
        have hst := smL_take cnt2 xs (j + 1)
        have hct : cnt3 xs = smL cnt2 xs := rfl
        have hmz : (xs[j]).length ≤ 1048576 := hmy
        go_wp2_with fail
        refine (mark2t_any _ xs[j] r _ HR.out (HM.out.2 _ (List.getElem_mem hlt)) (by omega) (by omega)).mono ?_
        rintro e w2 ⟨r2, rfl, hs0, hs1, ho, ht⟩
        have HO2 := Lib.hid (And.intro (HO.out.1.trans ho) (HO.out.2.trans ht))
        clear ho ht
        go_wp2
        go_roundw
        case rel => exact ⟨j + 1, r2, by omega, by go_num, rfl, by omega, by omega, HO2⟩
        case measure => simp [intOf]; omega
      · have hjj : Hid (j = xs.length) := Lib.hid (by omega)
        have hsf := smL_full cnt2 xs hjj.out
        have hct : cnt3 xs = smL cnt2 xs := rfl
        go_wp2
        go_ret
        exact ⟨r, rfl, hr0, by have := hjj.out; omega, HO.out.1, HO.out.2⟩

theorem W4.t4 {lo hi : Nat} {w : World} {v : Value} {xs : List (List (List (List Int)))} (h : W4 lo hi w v xs) : T4 lo hi w v xs := Sw.wider (Nat.le_refl _) (Nat.le_refl _) (fun _ _ _ h => h.t3) h

set_option maxHeartbeats 800000 in
theorem mark4t_any {lo hi : Nat} (v : Value) (xs : List (List (List (List Int)))) (k : Int) (w : World) (h : T4 lo hi w v xs) (hm : Bd4 1048576 xs) (hk0 : 0 ≤ k) (hk1 : k + (cnt4 xs : Int) ≤ 4611686018427387904) :
    Calls Tryz.prog 28 #[v, .int .i64 k] w (MarkD lo hi k (k + (cnt4 xs : Int)) w) := by
  have hml : xs.length ≤ 1048576 := hm.1
  have HM := Lib.hid hm
  refine Sw.cases h (fun ad cap hx hv => ?_) (fun b o cap hv hlo hhi hpos hc hf => ?_)
  · subst hx hv
    clear h hm
    go_enter Tryz.func28, Tryz.ntmps28
    go_wp2
    refine wp_loop_rounds 1 ?_
    rw [rounds_succ]
    go_wp2
    go_ret
    exact ⟨k, rfl, Int.le_refl _, by simp [cnt4, smL], Only.refl _ _ _, Tame.refl _⟩
  · subst hv
    clear h hm
    have HC := Lib.hid hc
    clear hc hf
    go_enter Tryz.func28, Tryz.ntmps28
    go_wp2
    go_loopw [1, 5] (fun kk i wr => ∃ (j : Nat) (r : Int), j ≤ xs.length ∧ i = .int .i64 j ∧ kk = .int .i64 r ∧ k ≤ r ∧ r ≤ k + (smL cnt3 (xs.take j) : Int) ∧ Hid (Only lo hi w wr ∧ Tame w wr)) (fun _ i _ => xs.length - (intOf i).toNat)
    case atStart => exact ⟨0, k, Nat.zero_le _, rfl, rfl, Int.le_refl _, by simp [smL], Lib.hid ⟨Only.refl _ _ _, Tame.refl _⟩⟩
    case round =>
      obtain ⟨j, r, hj, rfl, rfl, hr0, hr1, HO⟩ := hrel
      by_cases hlt : j < xs.length
      · obtain ⟨u, hu, hr⟩ := HC.out j hlt
        obtain ⟨a1, c1, hu1⟩ := Sw.shape hr
        rw [hu1] at hu hr
        have hu' := HO.out.2.slices _ _ _ _ _ hu
        have HR := Lib.hid (T3.tame hr HO.out.2)
        have hmy : (xs[j]).length ≤ 1048576 := (HM.out.2 _ (List.getElem_mem hlt)).1
        clear hu hr hu1
        have hsm := smL_succ cnt3 xs hlt
        have hst := smL_take cnt3 xs (j + 1)
        have hct : cnt4 xs = smL cnt3 xs := rfl
        have hmz : (xs[j]).length ≤ 1048576 := hmy
        go_wp2_with fail
        refine (mark3t_any _ xs[j] r _ HR.out (HM.out.2 _ (List.getElem_mem hlt)) (by omega) (by omega)).mono ?_
        rintro e w2 ⟨r2, rfl, hs0, hs1, ho, ht⟩
        have HO2 := Lib.hid (And.intro (HO.out.1.trans ho) (HO.out.2.trans ht))
        clear ho ht
        go_wp2
        go_roundw
        case rel => exact ⟨j + 1, r2, by omega, by go_num, rfl, by omega, by omega, HO2⟩
        case measure => simp [intOf]; omega
      · have hjj : Hid (j = xs.length) := Lib.hid (by omega)
        have hsf := smL_full cnt3 xs hjj.out
        have hct : cnt4 xs = smL cnt3 xs := rfl
        go_wp2
        go_ret
        exact ⟨r, rfl, hr0, by have := hjj.out; omega, HO.out.1, HO.out.2⟩

end Go.Proofs.YtlopenephgabhaaGreat


namespace Go.Proofs.YtlopenephgabhaaGreat
open Go.RowKit
theorem smL_mem {α : Type} (f : α → Nat) {xs : List α} {x : α} (h : x ∈ xs) : f x ≤ smL f xs := by
  induction xs with
  | nil => cases h
  | cons y xs ih =>
    have e : smL f (y :: xs) = f y + smL f xs := by simp [smL]
    rcases List.mem_cons.1 h with rfl | h
    · omega
    · have := ih h; omega
theorem bd1_tot {n : Nat} {xs : List Int} (h : tot1 xs ≤ n) : Bd1 n xs := h
theorem bd2_tot {n : Nat} {xs : List (List Int)} (h : tot2 xs ≤ n) : Bd2 n xs := by
  unfold tot2 at h
  exact ⟨by omega, fun x hx => bd1_tot (by have := smL_mem tot1 hx; omega)⟩
theorem bd3_tot {n : Nat} {xs : List (List (List Int))} (h : tot3 xs ≤ n) : Bd3 n xs := by
  unfold tot3 at h
  exact ⟨by omega, fun x hx => bd2_tot (by have := smL_mem tot2 hx; omega)⟩
theorem bd4_tot {n : Nat} {xs : List (List (List (List Int)))} (h : tot4 xs ≤ n) : Bd4 n xs := by
  unfold tot4 at h
  exact ⟨by omega, fun x hx => bd3_tot (by have := smL_mem tot3 hx; omega)⟩
theorem T4.tame {lo hi : Nat} {w w' : World} {v : Value} {xs : List (List (List (List Int)))} (h : T4 lo hi w v xs) (ht : Tame w w') : T4 lo hi w' v xs :=
  tame_sw (fun _ _ x h => by obtain ⟨a, c, e⟩ := Sw.shape h; exact ⟨a, _, c, e⟩) (fun _ _ h => T3.tame h ht) h ht
def tot5 (xs : List (List (List (List Int)))) : Nat := tot4 xs
def cnt5 (xs : List (List (List (List Int)))) : Nat := cnt4 xs
theorem cnt5_le (xs : List (List (List (List Int)))) : cnt5 xs ≤ tot5 xs := cnt4_le xs
theorem bd5_tot {n : Nat} {xs : List (List (List (List Int)))} (h : tot5 xs ≤ n) : Bd5 n xs := bd4_tot h
def T5 (lo hi : Nat) := T4 lo hi
theorem T5.tame {lo hi : Nat} {w w' : World} {v : Value} {xs : List (List (List (List Int)))} (h : T5 lo hi w v xs) (ht : Tame w w') : T5 lo hi w' v xs := T4.tame h ht
theorem W5.t5 {lo hi : Nat} {w : World} {v : Value} {xs : List (List (List (List Int)))} (h : W5 lo hi w v xs) : T5 lo hi w v xs := Sw.wider (Nat.le_refl _) (Nat.le_refl _) (fun _ _ _ h => h.1.t3) h
theorem szt5_any {lo : Nat} (v : Value) (xs : List (List (List (List Int)))) (left : Int) (w : World) (h : L5 lo w v xs) (h0 : 0 ≤ left) (h1 : left ≤ 1048576) (hm : Bd5 9223372036854775807 xs) :
    Calls Tryz.prog 17 #[v, .int .i64 left] w (SzT left (tot5 xs) w) := szt4_any v xs left w h.l4 h0 h1 hm
theorem mark5t_any {lo hi : Nat} (v : Value) (xs : List (List (List (List Int)))) (k : Int) (w : World) (h : T5 lo hi w v xs) (hm : Bd5 1048576 xs) (hk0 : 0 ≤ k) (hk1 : k + (cnt5 xs : Int) ≤ 4611686018427387904) :
    Calls Tryz.prog 28 #[v, .int .i64 k] w (MarkD lo hi k (k + (cnt5 xs : Int)) w) := mark4t_any v xs k w h hm hk0 hk1
end Go.Proofs.YtlopenephgabhaaGreat


namespace Go.Proofs.YtlopenephgabhaaGreat
open Go.ChangeShapes Go.WideShapes Go.ChangeAt Go.RowKit Go.Deep

structure DcS (n : Nat) (dl : List (List Int)) (al : List (List (List (List Int)))) (vl : List (List (List (List Int)))) : Prop where
  b : DcB n dl al vl
  tot : tot2 dl + tot4 al + tot5 vl ≤ n

set_option maxHeartbeats 800000 in
theorem sztDoublec_any (p : Int) (dv av vv : Value) (dl : List (List Int)) (al : List (List (List (List Int)))) (vl : List (List (List (List Int)))) (left : Int) (w : World) (h : Dc 0 w dv av vv dl al vl) (h0 : 0 ≤ left) (h1 : left ≤ 1048576) (hml : DcB 9223372036854775807 dl al vl) :
    Calls Tryz.prog 5 #[.agg #[.int .i64 p, dv, av, vv], .int .i64 left] w (SzB left (DcS 1048576 dl al vl) w) := by
  have H := Lib.hid h
  have HML := Lib.hid hml
  have HB : Hid (Below w.heap.size w (w.alloc (.cells #[.int .i64 p, dv, av, vv] 25))) := Lib.hid ((Below.refl _ _).alloc (Nat.le_refl _) _)
  clear h hml
  go_enter Tryz.func5, Tryz.ntmps5
  go_wp2_with fail
  refine (szt2_any (lo := 0) dv dl left _ (H.out.fd.below HB.out) h0 (by omega) HML.out.bd).mono ?_
  rintro ee w' ⟨r0, rfl, rfl, hpost⟩
  rcases hpost with rfl | ⟨hp0, hr0⟩
  · go_wp2
    go_ret
    exact ⟨_, rfl, HB.out, Or.inl rfl⟩
  have HR0 := Lib.hid hr0
  have hq0 : r0 ≤ left := by omega
  clear hr0
  go_wp2_with fail
  refine (szt4_any (lo := 0) av al r0 _ (H.out.fa.below HB.out) hp0 (by omega) HML.out.ba).mono ?_
  rintro ee w' ⟨r1, rfl, rfl, hpost⟩
  rcases hpost with rfl | ⟨hp1, hr1⟩
  · go_wp2
    go_ret
    exact ⟨_, rfl, HB.out, Or.inl rfl⟩
  have HR1 := Lib.hid hr1
  have hq1 : r1 ≤ r0 := by omega
  clear hr1
  go_wp2_with fail
  refine (szt5_any (lo := 0) vv vl r1 _ (H.out.fv.below HB.out) hp1 (by omega) HML.out.bv).mono ?_
  rintro ee w' ⟨r2, rfl, rfl, hpost⟩
  rcases hpost with rfl | ⟨hp2, hr2⟩
  · go_wp2
    go_ret
    exact ⟨_, rfl, HB.out, Or.inl rfl⟩
  have HR2 := Lib.hid hr2
  have hq2 : r2 ≤ r1 := by omega
  clear hr2
  have HT : Hid (tot2 dl + tot4 al + tot5 vl ≤ 1048576) := Lib.hid (by have e0 := HR0.out; have e1 := HR1.out; have e2 := HR2.out; omega)
  go_wp2
  go_ret
  exact ⟨_, rfl, HB.out, Or.inr ⟨hp2, by omega, ⟨⟨bd2_tot (by have := HT.out; omega), bd4_tot (by have := HT.out; omega), bd5_tot (by have := HT.out; omega)⟩, HT.out⟩⟩⟩
structure DcT (lo hi : Nat) (w : World) (dv av vv : Value) (dl : List (List Int)) (al : List (List (List (List Int)))) (vl : List (List (List (List Int)))) : Prop where
  fd : T2 lo hi w dv dl
  fa : T4 lo hi w av al
  fv : T5 lo hi w vv vl
theorem DcW.t {lo hi : Nat} {w : World} {dv av vv : Value} {dl : List (List Int)} {al : List (List (List (List Int)))} {vl : List (List (List (List Int)))} (h : DcW lo hi w dv av vv dl al vl) : DcT lo hi w dv av vv dl al vl := ⟨h.fd.t2, h.fa.t4, h.fv.t5⟩

set_option maxHeartbeats 1600000 in
theorem markDoublecK_any {lo hi : Nat} (kk : Int) (p : Int) (dv av vv : Value) (dl : List (List Int)) (al : List (List (List (List Int)))) (vl : List (List (List (List Int)))) (w : World) (h : DcW lo hi w dv av vv dl al vl) (hh : hi ≤ w.heap.size) (hm : DcS 1048576 dl al vl) (hk0 : 0 ≤ kk) (hk1 : kk ≤ 2305843009213693952) :
    Calls Tryz.prog 11 #[.agg #[.int .i64 p, dv, av, vv], .int .i64 kk] w (MarkC lo hi kk w) := by
  have hcn : cnt2 dl + cnt4 al + cnt5 vl ≤ 1048576 := by have := hm.tot; have ed := cnt2_le dl; have ea := cnt4_le al; have ev := cnt5_le vl; omega
  have HM := Lib.hid hm.b
  have hb0 : Below w.heap.size w (w.alloc (.cells #[.int .i64 p, dv, av, vv] 29)) := (Below.refl _ _).alloc (Nat.le_refl _) _
  have HC := Lib.hid (h.same (Same.of_below hb0 hh)).t
  have HB0 := Lib.hid hb0
  have hmld : dl.length ≤ 1048576 := hm.b.bd.1
  have hmla : al.length ≤ 1048576 := hm.b.ba.1
  have hmlv : vl.length ≤ 1048576 := hm.b.bv.1
  clear h hm hb0
  go_enter Tryz.func11, Tryz.ntmps11
  go_wp2_with fail
  refine (mark2t_any dv dl kk _ HC.out.fd HM.out.bd (by omega) (by omega)).mono ?_
  rintro ee w1 ⟨r0, rfl, hs00, hs01, ho, ht⟩
  have c02 : w1.cell? ⟨w.heap.size, 2, none⟩ = some av := (ho.cell (Or.inr hh)).trans (by simp)
  have c03 : w1.cell? ⟨w.heap.size, 3, none⟩ = some vv := (ho.cell (Or.inr hh)).trans (by simp)
  have HO0 := Lib.hid (And.intro ho ht)
  clear ho ht
  go_wp2_with fail
  refine (mark4t_any av al r0 _ (HC.out.fa.tame HO0.out.2) HM.out.ba (by omega) (by omega)).mono ?_
  rintro ee w2 ⟨r1, rfl, hs10, hs11, ho, ht⟩
  have c13 : w2.cell? ⟨w.heap.size, 3, none⟩ = some vv := (ho.cell (Or.inr hh)).trans c03
  clear c02 c03
  have HO1 := Lib.hid (And.intro (HO0.out.1.trans ho) (HO0.out.2.trans ht))
  clear ho ht
  go_wp2_with fail
  refine (mark5t_any vv vl r1 _ (HC.out.fv.tame HO1.out.2) HM.out.bv (by omega) (by omega)).mono ?_
  rintro ee w3 ⟨r2, rfl, hs20, hs21, ho, ht⟩
  clear c13
  have HO2 := Lib.hid (And.intro (HO1.out.1.trans ho) (HO1.out.2.trans ht))
  clear ho ht
  go_wp2
  go_ret
  exact ⟨r2, _, rfl, by omega, by omega, HB0.out, HO2.out.1, HO2.out.2⟩
end Go.Proofs.YtlopenephgabhaaGreat


namespace Go.Proofs.YtlopenephgabhaaGreat
open Go.RowKit

/-- The dimension of a cell, 0 beyond all cells. -/
def dco (ds : List (List Int)) (i j : Int) : Int := if 0 ≤ i ∧ i < ds.length ∧ 0 ≤ j ∧ j < (ds.getD 0 []).length then (ds.getD i.toNat []).getD j.toNat 0 else 0

set_option maxRecDepth 100000 in
set_option maxHeartbeats 4000000 in
theorem l03Dim_any (p i j : Int) (dv av vv : Value) (ds : List (List Int)) (w : World) (h : L2 0 w dv ds) (hok : DclOk ds) (hi : -1000 ≤ i ∧ i ≤ 1000) (hj : -1000 ≤ j ∧ j ≤ 1000) :
    Calls Tryz.prog 37 #[.agg #[.int .i64 p, dv, av, vv], .int .i64 i, .int .i64 j] w fun e w' => e = .returned (.int .i64 (dco ds i j)) ∧ Below w.heap.size w w' := by
  have HOK := Lib.hid hok
  have hm4 := hok.len1
  have hm1 := hok.len0
  have hq1 := hok.h0
  have hq4 := hok.h1
  clear hok
  rcases h with ⟨hx, _⟩ | ⟨bb, o, cd, rfl, _, hpos, hc⟩
  · subst hx; simp at hm1
  obtain ⟨u0, hu0, hr0⟩ := hc 0 hpos
  rw [Nat.add_zero] at hu0
  obtain ⟨a0, z0, rfl⟩ := Sl.shape hr0
  rw [← getD_of_lt [] hpos] at hu0
  have HC := Lib.hid hc
  clear hc hr0
  obtain ⟨m, hm⟩ : ∃ m, m = ds.length := ⟨_, rfl⟩
  obtain ⟨q, hq⟩ : ∃ q, q = (ds.getD 0 []).length := ⟨_, rfl⟩
  have HM := Lib.hid hm
  have HQ := Lib.hid hq
  rw [← hm] at hm4 hm1 hpos ⊢
  rw [← hq] at hq1 hq4 hu0
  clear hm hq
  have hB : Below w.heap.size w (w.alloc (.cells #[.int .i64 p, .slice (some ⟨bb, o, none⟩) m cd, av, vv] 29)) := (Below.refl _ _).alloc (Nat.le_refl _) _
  have hu0' := later hB (Nat.le_refl _) hu0
  have HBL := Lib.hid hB
  clear hu0
  by_cases h1 : 0 ≤ i ∧ i ≤ (m : Int) - 1
  · have HI1 : Hid (∀ W, Calls Tryz.prog 35 #[.int .i64 i, .int .i64 0, .int .i64 ((m : Int) - 1)] W (QW (.bool true) W)) := Lib.hid (fun W => spin_yes h1 W)
    by_cases h2 : 0 ≤ j ∧ j ≤ (q : Int) - 1
    · have HI2 : Hid (∀ W, Calls Tryz.prog 35 #[.int .i64 j, .int .i64 0, .int .i64 ((q : Int) - 1)] W (QW (.bool true) W)) := Lib.hid (fun W => spin_yes h2 W)
      have HV : Hid (dco ds i j = (ds.getD i.toNat []).getD j.toNat 0) := Lib.hid (if_pos ⟨h1.1, by have := HM.out; omega, h2.1, by have := HQ.out; omega⟩)
      rw [HV.out]
      obtain ⟨a, rfl⟩ := Int.eq_ofNat_of_zero_le h1.1
      obtain ⟨b, rfl⟩ := Int.eq_ofNat_of_zero_le h2.1
      simp only [Int.toNat_natCast]
      have ha : a < ds.length := by have := HM.out; omega
      have ham : a < m := by omega
      obtain ⟨u, hu, hr⟩ := HC.out a ha
      have hcol : (ds[a]).length = q := by rw [HQ.out]; exact (HOK.out.col _ (List.getElem_mem ha)).1
      have hb' : b < (ds[a]).length := by omega
      rw [getD_of_lt _ ha]
      rcases hr with ⟨hx, _⟩ | ⟨b2, o2, cd2, rfl, _, hpos2, hc2⟩
      · rw [hx] at hb'; simp at hb'
      obtain ⟨u2, hu2, hr2⟩ := hc2 b hb'
      have hr2' : u2 = .int .i64 ((ds[a])[b]) := hr2
      subst hr2'
      rw [getD_of_lt _ hb']
      obtain ⟨z, hz⟩ : ∃ z, z = (ds[a])[b] := ⟨_, rfl⟩
      rw [← hz] at hu2 ⊢
      rw [hcol] at hu
      have hbq : b < q := by omega
      have hu' := later HBL.out (Nat.le_refl _) hu
      have hu2' := later HBL.out (Nat.le_refl _) hu2
      clear hz hc2 hr2 hpos2 hcol ha hb' hu hu2 hi hj hB
      go_enter Tryz.func37, Tryz.ntmps37
      go_wp2_with fail
      refine (HI1.out _).mono ?_
      rintro e w' ⟨rfl, rfl⟩
      go_wp2_with fail
      refine (HI2.out _).mono ?_
      rintro e w' ⟨rfl, rfl⟩
      clear h1 h2
      go_wp2
      go_ret
      exact ⟨rfl, HBL.out⟩
    · have HI2 : Hid (∀ W, Calls Tryz.prog 35 #[.int .i64 j, .int .i64 0, .int .i64 ((q : Int) - 1)] W (QW (.bool false) W)) := Lib.hid (fun W => spin_no h2 W)
      have HV : Hid (dco ds i j = 0) := Lib.hid (if_neg (fun h => h2 ⟨h.2.2.1, by have := HQ.out; omega⟩))
      rw [HV.out]
      clear hi hj hB
      go_enter Tryz.func37, Tryz.ntmps37
      go_wp2_with fail
      refine (HI1.out _).mono ?_
      rintro e w' ⟨rfl, rfl⟩
      go_wp2_with fail
      refine (HI2.out _).mono ?_
      rintro e w' ⟨rfl, rfl⟩
      go_wp2
      go_ret
      exact ⟨rfl, HBL.out⟩
  · have HI1 : Hid (∀ W, Calls Tryz.prog 35 #[.int .i64 i, .int .i64 0, .int .i64 ((m : Int) - 1)] W (QW (.bool false) W)) := Lib.hid (fun W => spin_no h1 W)
    have HV : Hid (dco ds i j = 0) := Lib.hid (if_neg (fun h => h1 ⟨h.1, by have := HM.out; omega⟩))
    rw [HV.out]
    clear hi hj hB
    go_enter Tryz.func37, Tryz.ntmps37
    go_wp2_with fail
    refine (HI1.out _).mono ?_
    rintro e w' ⟨rfl, rfl⟩
    go_wp2
    go_ret
    exact ⟨rfl, HBL.out⟩
end Go.Proofs.YtlopenephgabhaaGreat


namespace Go.Proofs.YtlopenephgabhaaGreat
open Go.RowKit

section
variable {F : Fence} {n : Nat} {P : Program} {α : Type}

/-- The contract of an iterator that lays records and turns them: what lay as no cells at its call must be kept by the rounds, and the caller's word abides turns beyond the call. -/
def SeqO (F : Fence) (n : Nat) (P : Program) (g : Nat) (lb : Array Value) (encs : α → Array Value) (Kp : World → World → Prop) (S Sp : List α → Prop) (N : Nat) (w : World) : Prop :=
  ∀ (l : Nat) (J Jx : List α → World → Prop) (W : World), Below w.heap.size w W → OwnFrom W.heap.size J → OwnFrom W.heap.size Jx →
    (∀ pre x W1, J pre W1 → pre.length < N → YieldAt F (n - 1) P l (encs x) W1 fun e W' =>
      KeepsFrom W.heap.size W1 W' ∧ ((e = .returned (.bool true) ∧ J (pre ++ [x]) W' ∧ Kp W1 W') ∨ (e = .returned (.bool false) ∧ Jx (pre ++ [x]) W'))) →
    J [] W →
    CallsIn F n P g (#[.func (.yield l) #[] #[]] ++ lb) W fun e W' => (∃ v, e = .returned v) ∧ ((∃ xs, S xs ∧ J xs W') ∨ (∃ pre, Sp pre ∧ Jx pre W'))

theorem SeqO.inRound {g : Nat} {lb : Array Value} {encs : α → Array Value} {Kp : World → World → Prop} {S Sp : List α → Prop} {N : Nat} {w0 : World} (l : Nat) (h : SeqO F n P g lb encs Kp S Sp N w0) : SeqO (F.inRound l) n P g lb encs Kp S Sp N w0 := h

theorem keepsFrom_putObj {B l : Nat} (h : l < B) (W : World) (o : Obj) : KeepsFrom B W (W.putObj l o) :=
  ⟨by simp, fun _ _ hk h0 _ => (World.putObj_heap_other (by omega)).trans h0⟩
theorem kf_narrow {B B' : Nat} {W W' : World} (h : KeepsFrom B W W') (hb : B ≤ B') : KeepsFrom B' W W' := ⟨h.size, fun k o hk h0 ho => h.same k o (Nat.le_trans hb hk) h0 ho⟩
theorem ownFrom_at {β : Type} {B k : Nat} {o : Obj} (h : k < B) : OwnFrom B (fun (_ : β) W => W.heap[k]? = some o) := fun _ X _ _ hs hg hr =>
  (hg.block k (Array.getElem?_eq_some_iff.1 hs).1 (fun e => by have := (hr k e.symm).1; omega)).trans hs
theorem of_wide {β : Type} {B B' : Nat} {I : β → World → Prop} (h : OwnFrom B I) (hb : B ≤ B') : OwnFrom B' I := fun s W W' row hs hg hr => h s W W' row hs hg (fun r e => ⟨Nat.le_trans hb (hr r e).1, (hr r e).2⟩)

/-- A loop's record by its state. -/
def recO (fn : FuncId) (a : Act) (ps : Array Tmp) (assign body : Code) (df : Nat) (st : LoopState) (pe : Option Code) : Loop := { state := st, pending := pe, fn, tmps := a.tmps, params := ps, assign, body, defers := df }

/-- The statement, once the record's block is told. -/
theorem wpIn_range_core {g : Operand} {ps : Array Tmp} {assign body : Code} {Q : Exit → Act → World → Prop} {a : Act} {w W0 : World} {mark : List Deferred}
    (hlay : ∀ fn, ∃ df, (Instr.enterLoop fn a.tmps ps assign body F.round).run P w = .ok (W0.heap.size, mark) (W0.alloc (.loop (recO fn a ps assign body df .ready none))))
    (h1 : 1 ≤ n) {gf : Nat} {lb : Array Value} (hg : a.eval g = .func (.func gf) #[] lb) (hFg : F.fn gf) (eg : ∀ args w, (callFunc gf args).run P w = .ok (.enter gf args) w)
    {encs : α → Array Value} {Kp : World → World → Prop} {S Sp : List α → Prop} {N : Nat} {w0 : World} (hseq : SeqO F (n - 1) P gf lb encs Kp S Sp N w0)
    (hKt : ∀ {A B C : World}, Kp A B → Kp B C → Kp A C) (hKb : ∀ (W : World) (o o' : Obj), W.heap[W0.heap.size]? = some o → o.isCells = false → Kp W (W.putObj W0.heap.size o')) (hb0 : Below w0.heap.size w0 W0) (hps : ∀ x, (encs x).size = ps.size)
    (I : List α → World → Prop) (Ix : Code → List α → World → Prop) (hI : OwnFrom W0.heap.size I) (hIx : ∀ c, OwnFrom W0.heap.size (Ix c)) (h0 : I [] W0) (Ax : α → Act → World → Prop) (hAx : ∀ x a', OwnFrom W0.heap.size (fun (_ : Unit) W => Ax x a' W))
    (hassign : ∀ (pre : List α) (x : α) (W : World) (K : Act → World → Prop), I pre W → (∀ a' W', KeepsFrom W0.heap.size W W' → Kp W W' → I pre W' → Ax x a' W' → K a' W') →
      assign.wpIn (F.inRound W0.heap.size) (n - 1 - 1) P (Exit.then K (fun _ _ _ => False)) { tmps := (ps.zip (encs x)).foldl (fun t (p, v) => t.setIfInBounds p v) a.tmps, defers := [] } W)
    (hbody : ∀ (pre : List α) (x : α) (a' : Act) (W : World), (∃ r, W.heap[W0.heap.size]? = some (.loop r)) → I pre W → Ax x a' W → pre.length < N → body.wpIn (F.inRound W0.heap.size) (n - 1 - 1) P (ownPostG W0.heap.size Kp I Ix (pre ++ [x]) W) a' W)
    (hdone : ∀ (xs : List α) (W : World), S xs → I xs W → Q .normal { a with defers := mark ++ a.defers } W)
    (hstop : ∀ (c : Code) (pre : List α) (W : World), Sp pre → Ix c pre W → c.wpIn F n P Q { a with defers := mark ++ a.defers } W) :
    (Code.rangeFunc g ps assign body).wpIn F n P Q a w := by
  refine wpIn_rangeFunc fun fn hfn => ?_
  obtain ⟨df, he⟩ := hlay fn
  have hsz : (W0.alloc (.loop (recO fn a ps assign body df .ready none))).heap.size = W0.heap.size + 1 := by simp
  have hL : (W0.alloc (.loop (recO fn a ps assign body df .ready none))).heap[W0.heap.size]? = some (.loop (recO fn a ps assign body df .ready none)) := World.alloc_heap_new W0 _
  refine ⟨_, mark, _, { target := .fn (.func gf) lb, args := #[.func (.yield W0.heap.size) #[] #[]] }, W0.alloc (.loop (recO fn a ps assign body df .ready none)), gf, #[.func (.yield W0.heap.size) #[] #[]] ++ lb, W0.alloc (.loop (recO fn a ps assign body df .ready none)), he, ?_, ?_, ?_, fun _ => h1, ?_⟩
  · simp only [resolve, hg]
    simp [go_sem]
  · intro f' hf'
    simp [Target.leads] at hf'
    exact hf' ▸ hFg
  · simp [invoke, go_sem, eg]
  refine (hseq W0.heap.size (fun pre W => I pre W ∧ W.heap[W0.heap.size]? = some (.loop (recO fn a ps assign body df .ready none)))
    (fun pre W => ∃ c, Ix c pre W ∧ W.heap[W0.heap.size]? = some (.loop (recO fn a ps assign body df .done (some c)))) _
    (hb0.trans (((Below.refl _ W0).alloc (Nat.le_refl _) _).mono hb0.size))
    (OwnFrom.and (of_wide hI (by omega)) (ownFrom_at (by omega)))
    (fun s A B row ⟨c, hc, hl⟩ hgr hr => ⟨c, of_wide (hIx c) (by omega) s A B row hc hgr hr, ownFrom_at (β := Unit) (by omega) () A B row hl hgr hr⟩)
    ?_ ⟨hI.alloc _ h0, hL⟩).mono ?_
  · rw [hsz]
    rintro pre x W ⟨hi, hl⟩ hlen
    refine ⟨fn, _, assign, body, run_yield hl (hps x), roundIn_of_wpIn hfn (hassign pre x W _ hi fun a' Wa hka hpa hia hax => ?_)⟩
    have hla := hka.same _ _ (Nat.le_refl _) hl rfl
    refine ⟨_, run_beginRound hla rfl, ?_⟩
    have hlb : (Wa.putObj W0.heap.size (.loop { recO fn a ps assign body df .ready none with state := .busy })).heap[W0.heap.size]? = some (.loop { recO fn a ps assign body df .ready none with state := .busy }) := World.putObj_heap_same (Array.getElem?_eq_some_iff.1 hla).1
    have hk1 : KeepsFrom (W0.heap.size + 1) W (Wa.putObj W0.heap.size (.loop { recO fn a ps assign body df .ready none with state := .busy })) := (kf_narrow hka (Nat.le_succ _)).trans (keepsFrom_putObj (Nat.lt_succ_self _) _ _)
    have hkp1 := hKt hpa (hKb Wa _ (.loop { recO fn a ps assign body df .ready none with state := .busy }) hla rfl)
    have hout : ∀ {j : Option Code} {W3 : World}, KeepsFrom W0.heap.size (Wa.putObj W0.heap.size (.loop { recO fn a ps assign body df .ready none with state := .busy })) W3 →
        (Instr.endRound W0.heap.size j).run P W3 = .ok (.bool j.isNone) (W3.putObj W0.heap.size (.loop (recO fn a ps assign body df (if j.isNone then .ready else .done) j))) ∧
        W3.heap[W0.heap.size]? = some (.loop { recO fn a ps assign body df .ready none with state := .busy }) ∧
        (W3.putObj W0.heap.size (.loop (recO fn a ps assign body df (if j.isNone then .ready else .done) j))).heap[W0.heap.size]? = some (.loop (recO fn a ps assign body df (if j.isNone then .ready else .done) j)) ∧
        KeepsFrom (W0.heap.size + 1) W (W3.putObj W0.heap.size (.loop (recO fn a ps assign body df (if j.isNone then .ready else .done) j))) := fun {j W3} hk3 =>
      have hl3 := hk3.same _ _ (Nat.le_refl _) hlb rfl
      ⟨run_endRound j hl3, hl3, World.putObj_heap_same (Array.getElem?_eq_some_iff.1 hl3).1, hk1.trans ((kf_narrow hk3 (Nat.le_succ _)).trans (keepsFrom_putObj (Nat.lt_succ_self _) _ _))⟩
    refine wpIn_mono (hbody pre x a' _ ⟨_, hlb⟩ (hI.putObj _ hia (Nat.le_refl _) hla rfl) ((hAx x a').putObj (s := ()) _ hax (Nat.le_refl _) hla rfl) hlen) ?_
    have hgone : ∀ {c : Code} {W3 : World}, KeepsFrom W0.heap.size (Wa.putObj W0.heap.size (.loop { recO fn a ps assign body df .ready none with state := .busy })) W3 → Ix c (pre ++ [x]) W3 →
        ∃ v w', (Instr.endRound W0.heap.size (some c)).run P W3 = .ok v w' ∧ (KeepsFrom (W0.heap.size + 1) W w' ∧
          ((Ending.returned v = .returned (.bool true) ∧ (I (pre ++ [x]) w' ∧ w'.heap[W0.heap.size]? = some (.loop (recO fn a ps assign body df .ready none))) ∧ Kp W w') ∨
           (Ending.returned v = .returned (.bool false) ∧ ∃ c, Ix c (pre ++ [x]) w' ∧ w'.heap[W0.heap.size]? = some (.loop (recO fn a ps assign body df .done (some c)))))) := fun {c W3} hk3 hi3 => by
      obtain ⟨hr, hl3, hl4, hk4⟩ := hout (j := some c) hk3
      exact ⟨_, _, hr, hk4, .inr ⟨rfl, c, (hIx c).putObj _ hi3 (Nat.le_refl _) hl3 rfl, hl4⟩⟩
    rintro e a3 W3 hp
    cases e with
    | normal =>
      obtain ⟨hk3, hkp3, hi3⟩ := hp
      obtain ⟨hr, hl3, hl4, hk4⟩ := hout (j := none) hk3
      exact ⟨_, _, hr, hk4, .inl ⟨rfl, ⟨hI.putObj _ hi3 (Nat.le_refl _) hl3 rfl, hl4⟩, hKt (hKt hkp1 hkp3) (hKb _ _ _ hl3 rfl)⟩⟩
    | ret => exact hgone hp.1 hp.2
    | exit id => exact hgone hp.1 hp.2
    | goto t => exact hgone hp.1 hp.2
    | panic ch => exact hp.elim
    | outgrown => exact hp.elim
  · rintro e W2 ⟨⟨v, rfl⟩, (⟨xs, hS, hi, hl⟩ | ⟨pre, hSp, c, hi, hl⟩)⟩
    · exact ⟨none, _, run_endLoop (P := P) hl (by simp [recO]), hdone xs _ hS (hI.putObj _ hi (Nat.le_refl _) hl rfl)⟩
    · exact ⟨some c, _, run_endLoop (P := P) hl (by simp [recO]), hstop c pre _ hSp ((hIx c).putObj _ hi (Nat.le_refl _) hl rfl)⟩

/-- No loop around it. -/
theorem wpIn_rangeO {g : Operand} {ps : Array Tmp} {assign body : Code} {Q : Exit → Act → World → Prop} {a : Act} {w : World}
    (hro : F.round = none) (h1 : 1 ≤ n) {gf : Nat} {lb : Array Value} (hg : a.eval g = .func (.func gf) #[] lb) (hFg : F.fn gf) (eg : ∀ args w, (callFunc gf args).run P w = .ok (.enter gf args) w)
    {encs : α → Array Value} {Kp : World → World → Prop} {S Sp : List α → Prop} {N : Nat} {w0 : World} (hseq : SeqO F (n - 1) P gf lb encs Kp S Sp N w0)
    (hKt : ∀ {A B C : World}, Kp A B → Kp B C → Kp A C) (hKb : ∀ (W : World) (l : Nat) (o o' : Obj), w.heap.size ≤ l → W.heap[l]? = some o → o.isCells = false → Kp W (W.putObj l o')) (hb0 : Below w0.heap.size w0 w) (hps : ∀ x, (encs x).size = ps.size)
    (I : List α → World → Prop) (Ix : Code → List α → World → Prop) (hI : OwnFrom w.heap.size I) (hIx : ∀ c, OwnFrom w.heap.size (Ix c)) (h0 : I [] w) (Ax : α → Act → World → Prop) (hAx : ∀ x a', OwnFrom w.heap.size (fun (_ : Unit) W => Ax x a' W))
    (hassign : ∀ (l : Nat) (pre : List α) (x : α) (W : World) (K : Act → World → Prop), I pre W → (∀ a' W', KeepsFrom w.heap.size W W' → Kp W W' → I pre W' → Ax x a' W' → K a' W') →
      assign.wpIn (F.inRound l) (n - 1 - 1) P (Exit.then K (fun _ _ _ => False)) { tmps := (ps.zip (encs x)).foldl (fun t (p, v) => t.setIfInBounds p v) a.tmps, defers := [] } W)
    (hbody : ∀ (l : Nat) (pre : List α) (x : α) (a' : Act) (W : World), w.heap.size ≤ l → (∃ r, W.heap[l]? = some (.loop r)) → I pre W → Ax x a' W → pre.length < N → body.wpIn (F.inRound l) (n - 1 - 1) P (ownPostG w.heap.size Kp I Ix (pre ++ [x]) W) a' W)
    (hdone : ∀ (D : Nat) (xs : List α) (W : World), w.heap.size ≤ D → S xs → I xs W → W.heap[D]? = some (.deferred (some [])) → Q .normal { a with defers := { target := .collected D, args := #[] } :: a.defers } W)
    (hstop : ∀ (D : Nat) (c : Code) (pre : List α) (W : World), w.heap.size ≤ D → Sp pre → Ix c pre W → W.heap[D]? = some (.deferred (some [])) → c.wpIn F n P Q { a with defers := { target := .collected D, args := #[] } :: a.defers } W) :
    (Code.rangeFunc g ps assign body).wpIn F n P Q a w := by
  have hs : (w.alloc (.deferred (some []))).heap.size = w.heap.size + 1 := by simp
  have hw : OwnFrom (w.heap.size + 1) (fun (_ : List α) W => W.heap[w.heap.size]? = some (.deferred (some []))) := ownFrom_at (Nat.lt_succ_self _)
  have hkf : ∀ {W W' : World}, KeepsFrom w.heap.size W W' → W.heap[w.heap.size]? = some (.deferred (some [])) → W'.heap[w.heap.size]? = some (.deferred (some [])) := fun hk h => hk.same _ _ (Nat.le_refl _) h rfl
  refine wpIn_range_core (W0 := w.alloc (.deferred (some []))) (mark := [{ target := .collected w.heap.size, args := #[] }])
    (fun fn => ⟨w.heap.size, by rw [hro, hs]; exact run_enterLoop_outer _ _ _ _ _⟩) h1 hg hFg eg hseq hKt (fun W o o' ho hc => hKb W _ o o' (by omega) ho hc)
    (hb0.trans (((Below.refl _ w).alloc (Nat.le_refl _) _).mono hb0.size)) hps
    (fun pre W => I pre W ∧ W.heap[w.heap.size]? = some (.deferred (some []))) (fun c pre W => Ix c pre W ∧ W.heap[w.heap.size]? = some (.deferred (some [])))
    (by rw [hs]; exact OwnFrom.and (of_wide hI (Nat.le_succ _)) hw) (fun c => by rw [hs]; exact OwnFrom.and (of_wide (hIx c) (Nat.le_succ _)) hw) ⟨hI.alloc _ h0, World.alloc_heap_new w _⟩ Ax (fun x a' => by rw [hs]; exact of_wide (hAx x a') (Nat.le_succ _))
    (fun pre x W K hi hK => ?_) (fun pre x a' W hr hi hax hlen => ?_) (fun xs W hS hi => hdone _ xs W (Nat.le_refl _) hS hi.1 hi.2) (fun c pre W hS hi => hstop _ c pre W (Nat.le_refl _) hS hi.1 hi.2)
  · rw [hs] at hK ⊢
    exact hassign _ pre x W K hi.1 (fun a' W' hk hp hi' hax => hK a' W' (kf_narrow hk (Nat.le_succ _)) hp ⟨hi', hkf hk hi.2⟩ hax)
  · rw [hs] at hr ⊢
    refine wpIn_mono (hbody _ pre x a' W (Nat.le_succ _) hr hi.1 hax hlen) ?_
    rintro e a3 W3 hp
    cases e with
    | normal => exact ⟨kf_narrow hp.1 (Nat.le_succ _), hp.2.1, hp.2.2, hkf hp.1 hi.2⟩
    | ret => exact ⟨kf_narrow hp.1 (Nat.le_succ _), hp.2, hkf hp.1 hi.2⟩
    | exit id => exact ⟨kf_narrow hp.1 (Nat.le_succ _), hp.2, hkf hp.1 hi.2⟩
    | goto t => exact ⟨kf_narrow hp.1 (Nat.le_succ _), hp.2, hkf hp.1 hi.2⟩
    | panic ch => exact hp.elim
    | outgrown => exact hp.elim

/-- Within a round. -/
theorem wpIn_rangeOin {g : Operand} {ps : Array Tmp} {assign body : Code} {Q : Exit → Act → World → Prop} {a : Act} {w : World} {lo : Nat} {r0 : Loop}
    (hro : F.round = some lo) (hlo : w.heap[lo]? = some (.loop r0)) (h1 : 1 ≤ n) {gf : Nat} {lb : Array Value} (hg : a.eval g = .func (.func gf) #[] lb) (hFg : F.fn gf) (eg : ∀ args w, (callFunc gf args).run P w = .ok (.enter gf args) w)
    {encs : α → Array Value} {Kp : World → World → Prop} {S Sp : List α → Prop} {N : Nat} {w0 : World} (hseq : SeqO F (n - 1) P gf lb encs Kp S Sp N w0)
    (hKt : ∀ {A B C : World}, Kp A B → Kp B C → Kp A C) (hKb : ∀ (W : World) (l : Nat) (o o' : Obj), w.heap.size ≤ l → W.heap[l]? = some o → o.isCells = false → Kp W (W.putObj l o')) (hb0 : Below w0.heap.size w0 w) (hps : ∀ x, (encs x).size = ps.size)
    (I : List α → World → Prop) (Ix : Code → List α → World → Prop) (hI : OwnFrom w.heap.size I) (hIx : ∀ c, OwnFrom w.heap.size (Ix c)) (h0 : I [] w) (Ax : α → Act → World → Prop) (hAx : ∀ x a', OwnFrom w.heap.size (fun (_ : Unit) W => Ax x a' W))
    (hassign : ∀ (l : Nat) (pre : List α) (x : α) (W : World) (K : Act → World → Prop), I pre W → (∀ a' W', KeepsFrom w.heap.size W W' → Kp W W' → I pre W' → Ax x a' W' → K a' W') →
      assign.wpIn (F.inRound l) (n - 1 - 1) P (Exit.then K (fun _ _ _ => False)) { tmps := (ps.zip (encs x)).foldl (fun t (p, v) => t.setIfInBounds p v) a.tmps, defers := [] } W)
    (hbody : ∀ (l : Nat) (pre : List α) (x : α) (a' : Act) (W : World), w.heap.size ≤ l → (∃ r, W.heap[l]? = some (.loop r)) → I pre W → Ax x a' W → pre.length < N → body.wpIn (F.inRound l) (n - 1 - 1) P (ownPostG w.heap.size Kp I Ix (pre ++ [x]) W) a' W)
    (hdone : ∀ (xs : List α) (W : World), S xs → I xs W → Q .normal a W)
    (hstop : ∀ (c : Code) (pre : List α) (W : World), Sp pre → Ix c pre W → c.wpIn F n P Q a W) :
    (Code.rangeFunc g ps assign body).wpIn F n P Q a w :=
  wpIn_range_core (W0 := w) (mark := []) (fun fn => ⟨r0.defers, by rw [hro]; exact run_enterLoop_inner hlo _ _ _ _ _⟩) h1 hg hFg eg hseq hKt (fun W o o' ho hc => hKb W _ o o' (Nat.le_refl _) ho hc) hb0 hps I Ix hI hIx h0 Ax hAx
    (fun pre x W K hi hK => hassign _ pre x W K hi hK) (fun pre x a' W hr hi hax hlen => hbody _ pre x a' W (Nat.le_refl _) hr hi hax hlen) hdone hstop
/-- No loop around it, its one variable boxed in every round. -/
theorem wpIn_rangeO_cell {g : Operand} {ps : Array Tmp} {assign body : Code} {Q : Exit → Act → World → Prop} {a : Act} {w : World}
    (hro : F.round = none) (h1 : 1 ≤ n) {gf : Nat} {lb : Array Value} (hg : a.eval g = .func (.func gf) #[] lb) (hFg : F.fn gf) (eg : ∀ args w, (callFunc gf args).run P w = .ok (.enter gf args) w)
    {encs : α → Array Value} {Kp : World → World → Prop} {S Sp : List α → Prop} {N : Nat} {w0 : World} (hseq : SeqO F (n - 1) P gf lb encs Kp S Sp N w0)
    (hKt : ∀ {A B C : World}, Kp A B → Kp B C → Kp A C) (hKb : ∀ (W : World) (l : Nat) (o o' : Obj), w.heap.size ≤ l → W.heap[l]? = some o → o.isCells = false → Kp W (W.putObj l o')) (hb0 : Below w0.heap.size w0 w) (hps : ∀ x, (encs x).size = ps.size)
    (I : List α → World → Prop) (Ix : Code → List α → World → Prop) (hI : OwnFrom w.heap.size I) (hIx : ∀ c, OwnFrom w.heap.size (Ix c)) (h0 : I [] w) (cv : α → Array Value) (tb : Tmp) (ty : TypeId) (D : Nat)
    (hassign : ∀ (l : Nat) (pre : List α) (x : α) (W : World) (K : Act → World → Prop), I pre W →
      (∀ Bx W', D ≤ Bx → W'.heap[Bx]? = some (.cells (cv x) ty (0, 0)) → KeepsFrom w.heap.size W W' → Kp W W' → I pre W' → K { tmps := ((ps.zip (encs x)).foldl (fun t (p, v) => t.setIfInBounds p v) a.tmps).setIfInBounds tb (.pointer (some ⟨Bx, 0, none⟩)), defers := [] } W') →
      assign.wpIn (F.inRound l) (n - 1 - 1) P (Exit.then K (fun _ _ _ => False)) { tmps := (ps.zip (encs x)).foldl (fun t (p, v) => t.setIfInBounds p v) a.tmps, defers := [] } W)
    (hbody : ∀ (l : Nat) (pre : List α) (x : α) (Bx : Nat) (W : World), w.heap.size ≤ l → (∃ r, W.heap[l]? = some (.loop r)) → I pre W → D ≤ Bx → W.heap[Bx]? = some (.cells (cv x) ty (0, 0)) → pre.length < N →
      body.wpIn (F.inRound l) (n - 1 - 1) P (ownPostG w.heap.size Kp I Ix (pre ++ [x]) W) { tmps := ((ps.zip (encs x)).foldl (fun t (p, v) => t.setIfInBounds p v) a.tmps).setIfInBounds tb (.pointer (some ⟨Bx, 0, none⟩)), defers := [] } W)
    (hdone : ∀ (D : Nat) (xs : List α) (W : World), w.heap.size ≤ D → S xs → I xs W → W.heap[D]? = some (.deferred (some [])) → Q .normal { a with defers := { target := .collected D, args := #[] } :: a.defers } W)
    (hstop : ∀ (D : Nat) (c : Code) (pre : List α) (W : World), w.heap.size ≤ D → Sp pre → Ix c pre W → W.heap[D]? = some (.deferred (some [])) → c.wpIn F n P Q { a with defers := { target := .collected D, args := #[] } :: a.defers } W) :
    (Code.rangeFunc g ps assign body).wpIn F n P Q a w :=
  wpIn_rangeO hro h1 hg hFg eg hseq hKt hKb hb0 hps I Ix hI hIx h0
    (fun x a' W => ∃ Bx, D ≤ Bx ∧ W.heap[Bx]? = some (.cells (cv x) ty (0, 0)) ∧ a' = { tmps := ((ps.zip (encs x)).foldl (fun t (p, v) => t.setIfInBounds p v) a.tmps).setIfInBounds tb (.pointer (some ⟨Bx, 0, none⟩)), defers := [] })
    (fun x a' _ X Y row hs hg hr => by
      obtain ⟨Bx, h1, h2, h3⟩ := hs
      refine ⟨Bx, h1, ?_, h3⟩
      exact (hg.block Bx (Array.getElem?_eq_some_iff.1 h2).1 (fun e => by obtain ⟨_, ho, hc⟩ := (hr Bx e.symm).2; rw [h2] at ho; cases ho; cases hc)).trans h2)
    (fun l pre x W K hi hK => hassign l pre x W K hi (fun Bx W' hD hX hkf hkp hi' => hK _ W' hkf hkp hi' ⟨Bx, hD, hX, rfl⟩))
    (fun l pre x a' W hl hr hi hax hlt => by
      obtain ⟨Bx, hD, hX, rfl⟩ := hax
      exact hbody l pre x Bx W hl hr hi hD hX hlt)
    hdone hstop
/-- Within a round, its one variable boxed in every round. -/
theorem wpIn_rangeOin_cell {g : Operand} {ps : Array Tmp} {assign body : Code} {Q : Exit → Act → World → Prop} {a : Act} {w : World} {lo : Nat} {r0 : Loop}
    (hro : F.round = some lo) (hlo : w.heap[lo]? = some (.loop r0)) (h1 : 1 ≤ n) {gf : Nat} {lb : Array Value} (hg : a.eval g = .func (.func gf) #[] lb) (hFg : F.fn gf) (eg : ∀ args w, (callFunc gf args).run P w = .ok (.enter gf args) w)
    {encs : α → Array Value} {Kp : World → World → Prop} {S Sp : List α → Prop} {N : Nat} {w0 : World} (hseq : SeqO F (n - 1) P gf lb encs Kp S Sp N w0)
    (hKt : ∀ {A B C : World}, Kp A B → Kp B C → Kp A C) (hKb : ∀ (W : World) (l : Nat) (o o' : Obj), w.heap.size ≤ l → W.heap[l]? = some o → o.isCells = false → Kp W (W.putObj l o')) (hb0 : Below w0.heap.size w0 w) (hps : ∀ x, (encs x).size = ps.size)
    (I : List α → World → Prop) (Ix : Code → List α → World → Prop) (hI : OwnFrom w.heap.size I) (hIx : ∀ c, OwnFrom w.heap.size (Ix c)) (h0 : I [] w) (cv : α → Array Value) (tb : Tmp) (ty : TypeId) (D : Nat)
    (hassign : ∀ (l : Nat) (pre : List α) (x : α) (W : World) (K : Act → World → Prop), I pre W →
      (∀ Bx W', D ≤ Bx → W'.heap[Bx]? = some (.cells (cv x) ty (0, 0)) → KeepsFrom w.heap.size W W' → Kp W W' → I pre W' → K { tmps := ((ps.zip (encs x)).foldl (fun t (p, v) => t.setIfInBounds p v) a.tmps).setIfInBounds tb (.pointer (some ⟨Bx, 0, none⟩)), defers := [] } W') →
      assign.wpIn (F.inRound l) (n - 1 - 1) P (Exit.then K (fun _ _ _ => False)) { tmps := (ps.zip (encs x)).foldl (fun t (p, v) => t.setIfInBounds p v) a.tmps, defers := [] } W)
    (hbody : ∀ (l : Nat) (pre : List α) (x : α) (Bx : Nat) (W : World), w.heap.size ≤ l → (∃ r, W.heap[l]? = some (.loop r)) → I pre W → D ≤ Bx → W.heap[Bx]? = some (.cells (cv x) ty (0, 0)) → pre.length < N →
      body.wpIn (F.inRound l) (n - 1 - 1) P (ownPostG w.heap.size Kp I Ix (pre ++ [x]) W) { tmps := ((ps.zip (encs x)).foldl (fun t (p, v) => t.setIfInBounds p v) a.tmps).setIfInBounds tb (.pointer (some ⟨Bx, 0, none⟩)), defers := [] } W)
    (hdone : ∀ (xs : List α) (W : World), S xs → I xs W → Q .normal a W)
    (hstop : ∀ (c : Code) (pre : List α) (W : World), Sp pre → Ix c pre W → c.wpIn F n P Q a W) :
    (Code.rangeFunc g ps assign body).wpIn F n P Q a w :=
  wpIn_rangeOin hro hlo h1 hg hFg eg hseq hKt hKb hb0 hps I Ix hI hIx h0
    (fun x a' W => ∃ Bx, D ≤ Bx ∧ W.heap[Bx]? = some (.cells (cv x) ty (0, 0)) ∧ a' = { tmps := ((ps.zip (encs x)).foldl (fun t (p, v) => t.setIfInBounds p v) a.tmps).setIfInBounds tb (.pointer (some ⟨Bx, 0, none⟩)), defers := [] })
    (fun x a' _ X Y row hs hg hr => by
      obtain ⟨Bx, h1, h2, h3⟩ := hs
      refine ⟨Bx, h1, ?_, h3⟩
      exact (hg.block Bx (Array.getElem?_eq_some_iff.1 h2).1 (fun e => by obtain ⟨_, ho, hc⟩ := (hr Bx e.symm).2; rw [h2] at ho; cases ho; cases hc)).trans h2)
    (fun l pre x W K hi hK => hassign l pre x W K hi (fun Bx W' hD hX hkf hkp hi' => hK _ W' hkf hkp hi' ⟨Bx, hD, hX, rfl⟩))
    (fun l pre x a' W hl hr hi hax hlt => by
      obtain ⟨Bx, hD, hX, rfl⟩ := hax
      exact hbody l pre x Bx W hl hr hi hD hX hlt)
    hdone hstop
end
end Go.Proofs.YtlopenephgabhaaGreat


namespace Go.Proofs.YtlopenephgabhaaGreat
open Go.RowKit

def cdim (ds : List (List Int)) (c : Nat × Nat) : Nat := ((ds.getD c.1 []).getD c.2 0).toNat
def dgn (ds : List (List Int)) (n : Nat) : List (Nat × Nat) := (cellsTo ds ds.length).filter fun c => c.1 + c.2 == n
def tbl (x : List (List (List (List Int)))) (c : Nat × Nat) : List (List Int) := (x.getD c.1 []).getD c.2 []
/-- The part in the cell c of the differential of the basis vector r of the cell f. -/
def prt (ds : List (List Int)) (ac dn : List (List (List (List Int)))) (f : Nat × Nat) (r : Nat) (c : Nat × Nat) : List Int :=
  if c.1 + 1 = f.1 ∧ c.2 = f.2 then (tbl ac f).getD r [] else if c.1 = f.1 ∧ c.2 + 1 = f.2 then (tbl dn f).getD r [] else List.replicate (cdim ds c) 0
def trow (ds : List (List Int)) (ac dn : List (List (List (List Int)))) (n : Nat) (f : Nat × Nat) (r : Nat) : List Int := (dgn ds n).flatMap (prt ds ac dn f r)
def ttab (ds : List (List Int)) (ac dn : List (List (List (List Int)))) (n : Nat) : List (List Int) := (dgn ds (n + 1)).flatMap fun f => (List.range (cdim ds f)).map fun r => trow ds ac dn n f r
def tdim (ds : List (List Int)) (n : Nat) : Nat := ((dgn ds n).map (cdim ds)).sum
/-- The sum of the first d products. -/
def mts (v : List Int) (t : List (List Int)) (d j : Nat) : Int := ((List.range d).map fun s => v.getD s 0 * (t.getD s []).getD j 0).sum

theorem mts_succ (v : List Int) (t : List (List Int)) (d j : Nat) : mts v t (d + 1) j = mts v t d j + v.getD d 0 * (t.getD d []).getD j 0 := by
  simp [mts, List.range_succ]
theorem apTo_mts {p : Int} {c : Nat} {v : List Int} {t : List (List Int)} (h : ApOk p c v t) {q : Nat} (hq : q < c) : ∀ {k : Nat}, k ≤ v.length → (apTo p c v t k).getD q 0 = mts v t k q % p := by
  intro k
  induction k with
  | zero => intro _; simp [apTo, mts, List.getD, hq]
  | succ k ih =>
    intro hk
    rw [apTo_at h (by omega) hq, ih (by omega), mts_succ, Int.emod_add_emod]
theorem apT_mts {p : Int} {c : Nat} {v : List Int} {t : List (List Int)} (h : ApOk p c v t) {q : Nat} (hq : q < c) : (apT p c v t).getD q 0 = mts v t v.length q % p := apTo_mts h hq (Nat.le_refl _)
theorem apT_null {p : Int} {c : Nat} {v : List Int} {t : List (List Int)} (h : ApOk p c v t) : (∀ x ∈ apT p c v t, x = 0) ↔ ∀ q, q < c → mts v t v.length q % p = 0 := by
  have hl := apT_length h
  constructor
  · intro hz q hq
    rw [← apT_mts h hq, getD_of_lt _ (by omega)]
    exact hz _ (List.getElem_mem _)
  · intro hz x hx
    obtain ⟨q, hq, rfl⟩ := List.getElem_of_mem hx
    have := hz q (by omega)
    rwa [← apT_mts h (by omega), getD_of_lt _ hq] at this

theorem mem_cells {ds : List (List Int)} {m : Nat} {c : Nat × Nat} : c ∈ cellsTo ds m ↔ c.1 < m ∧ c.2 < (ds.getD c.1 []).length := by
  constructor
  · exact cells_fst
  · rintro ⟨h1, h2⟩
    unfold cellsTo rowCells
    simp only [List.mem_flatMap, List.mem_range, List.mem_map]
    exact ⟨c.1, h1, c.2, h2, rfl⟩
theorem mem_dgn {ds : List (List Int)} {n : Nat} {c : Nat × Nat} : c ∈ dgn ds n ↔ (c.1 < ds.length ∧ c.2 < (ds.getD c.1 []).length) ∧ c.1 + c.2 = n := by
  unfold dgn
  rw [List.mem_filter, mem_cells]
  simp
theorem cells_nodup (ds : List (List Int)) : ∀ m, (cellsTo ds m).Nodup
  | 0 => by simp [cellsTo]
  | m + 1 => by
    rw [cellsTo_succ]
    refine List.nodup_append.2 ⟨cells_nodup ds m, ?_, ?_⟩
    · unfold rowCells
      refine List.pairwise_map.2 ((List.nodup_range).imp ?_)
      intro a b hab e
      exact hab (by cases e; rfl)
    · intro a ha b hb e
      have h1 := (mem_cells.1 ha).1
      unfold rowCells at hb
      obtain ⟨j, _, rfl⟩ := List.mem_map.1 hb
      rw [e] at h1
      exact absurd h1 (Nat.lt_irrefl _)
theorem dgn_nodup (ds : List (List Int)) (n : Nat) : (dgn ds n).Nodup := (cells_nodup ds _).filter _

theorem sum_flat {α β : Type} (f : α → List β) (g : β → Int) : ∀ L : List α, ((L.flatMap f).map g).sum = (L.map fun c => ((f c).map g).sum).sum
  | [] => rfl
  | c :: L => by simp [sum_flat f g L]
theorem sum_zero {α : Type} (f : α → Int) : ∀ L : List α, (∀ c ∈ L, f c = 0) → (L.map f).sum = 0
  | [], _ => rfl
  | c :: L, h => by
    rw [List.map_cons, List.sum_cons, h c (by simp), sum_zero f L (fun d hd => h d (by simp [hd]))]
    rfl
/-- A sum with one place that counts. -/
theorem sum_one (f : Nat × Nat → Int) (a : Nat × Nat) : ∀ L : List (Nat × Nat), L.Nodup → (∀ c ∈ L, c ≠ a → f c = 0) → (L.map f).sum = if a ∈ L then f a else 0
  | [], _, _ => by simp
  | c :: L, hn, h => by
    rw [List.map_cons, List.sum_cons]
    have hn' := List.nodup_cons.1 hn
    by_cases e : c = a
    · subst e
      rw [sum_zero f L (fun d hd => h d (by simp [hd]) (fun e => hn'.1 (e ▸ hd)))]
      simp
    · rw [h c (by simp) e, sum_one f a L hn'.2 (fun d hd => h d (by simp [hd]))]
      by_cases ha : a ∈ L
      · simp [ha]
      · simp [ha, Ne.symm e]
/-- .. with two. -/
theorem sum_two (f : Nat × Nat → Int) {a b : Nat × Nat} (hab : a ≠ b) : ∀ L : List (Nat × Nat), L.Nodup → (∀ c ∈ L, c ≠ a → c ≠ b → f c = 0) → (L.map f).sum = (if a ∈ L then f a else 0) + (if b ∈ L then f b else 0)
  | [], _, _ => by simp
  | c :: L, hn, h => by
    rw [List.map_cons, List.sum_cons]
    have hn' := List.nodup_cons.1 hn
    by_cases e : c = a
    · subst e
      rw [sum_one f b L hn'.2 (fun d hd hb => h d (by simp [hd]) (fun e => hn'.1 (e ▸ hd)) hb)]
      simp [Ne.symm hab]
    · by_cases e2 : c = b
      · subst e2
        rw [sum_one f a L hn'.2 (fun d hd ha => h d (by simp [hd]) ha (fun e => hn'.1 (e ▸ hd)))]
        have : a ≠ c := hab
        simp [this]
        by_cases ha : a ∈ L <;> simp [ha] <;> omega
      · rw [h c (by simp) e e2, sum_two f hab L hn'.2 (fun d hd => h d (by simp [hd]))]
        simp [Ne.symm e, Ne.symm e2]

theorem getD_appL {xs ys : List Int} {j : Nat} (h : j < xs.length) : (xs ++ ys).getD j 0 = xs.getD j 0 := by simp [List.getD, List.getElem?_append_left h]
theorem getD_appR {xs ys : List Int} {j : Nat} (h : xs.length ≤ j) : (xs ++ ys).getD j 0 = ys.getD (j - xs.length) 0 := by simp [List.getD, List.getElem?_append_right h]
/-- Sums over rows in blocks are 0 where those of the blocks are. -/
theorem blocks_null {α : Type} {p : Int} {d : α → Nat} (K : List (Int × (α → List Int))) : ∀ L : List α, (∀ k ∈ K, ∀ c ∈ L, (k.2 c).length = d c) →
    ((∀ j, j < (L.map d).sum → (K.map fun k => k.1 * (L.flatMap k.2).getD j 0).sum % p = 0) ↔ ∀ c ∈ L, ∀ t, t < d c → (K.map fun k => k.1 * (k.2 c).getD t 0).sum % p = 0)
  | [], _ => by simp
  | c :: L, h => by
    have ih := blocks_null (p := p) K L (fun k hk e he => h k hk e (by simp [he]))
    have hl : ∀ j, j < d c → (K.map fun k => k.1 * ((c :: L).flatMap k.2).getD j 0) = K.map fun k => k.1 * (k.2 c).getD j 0 := fun j hj => List.map_congr_left (fun k hk => by
      rw [List.flatMap_cons, getD_appL (by rw [h k hk c (by simp)]; exact hj)])
    have hr : ∀ j, d c ≤ j → (K.map fun k => k.1 * ((c :: L).flatMap k.2).getD j 0) = K.map fun k => k.1 * (L.flatMap k.2).getD (j - d c) 0 := fun j hj => List.map_congr_left (fun k hk => by
      rw [List.flatMap_cons, getD_appR (by rw [h k hk c (by simp)]; exact hj), h k hk c (by simp)])
    rw [List.map_cons, List.sum_cons]
    constructor
    · intro hz e he t ht
      rcases List.mem_cons.1 he with rfl | he
      · have := hz t (by omega)
        rwa [hl t ht] at this
      · exact (ih.1 (fun j hj => by have := hz (d c + j) (by omega); rwa [hr _ (by omega), Nat.add_sub_cancel_left] at this)) e he t ht
    · intro hz j hj
      by_cases hjc : j < d c
      · rw [hl j hjc]; exact hz c (by simp) j hjc
      · rw [hr j (by omega)]
        exact ih.2 (fun e he => hz e (by simp [he])) _ (by omega)

theorem zip_flat {α β γ : Type} (f : α → List β) (g : α → List γ) : ∀ L : List α, (∀ c ∈ L, (f c).length = (g c).length) → (L.flatMap f).zip (L.flatMap g) = L.flatMap fun c => (f c).zip (g c)
  | [], _ => rfl
  | c :: L, h => by
    rw [List.flatMap_cons, List.flatMap_cons, List.flatMap_cons, List.zip_append (h c (by simp)), zip_flat f g L (fun d hd => h d (by simp [hd]))]
theorem mts_zip {v : List Int} {t : List (List Int)} (h : v.length ≤ t.length) (j : Nat) : mts v t v.length j = ((v.zip t).map fun a => a.1 * a.2.getD j 0).sum := by
  unfold mts
  congr 1
  refine List.ext_getElem (by simp [List.length_zip]; omega) (fun i h1 h2 => ?_)
  simp at h1
  simp [h1, show i < t.length by omega]
section
variable {p : Int} {ds : List (List Int)} {ac dn : List (List (List (List Int)))}
theorem dcl_nat (ds : List (List Int)) (a b : Nat) : dcl ds a b = (ds.getD a []).getD b 0 := by
  unfold dcl
  rw [if_neg (by omega)]
  simp
theorem cdim_cast (hok : DclOk ds) {c : Nat × Nat} (h : c ∈ cellsTo ds ds.length) : ((cdim ds c : Nat) : Int) = dcl ds c.1 c.2 ∧ cdim ds c ≤ 4 := by
  obtain ⟨h1, h2⟩ := mem_cells.1 h
  have hm : (ds.getD c.1 []).getD c.2 0 ∈ ds.getD c.1 [] := by rw [getD_of_lt _ h2]; exact List.getElem_mem _
  have hr : ds.getD c.1 [] ∈ ds := by rw [getD_of_lt _ h1]; exact List.getElem_mem _
  have := (hok.col _ hr).2 _ hm
  rw [dcl_nat]
  unfold cdim
  omega
theorem cell_left (hok : DclOk ds) {a b : Nat} (h : (a + 1, b) ∈ cellsTo ds ds.length) : (a, b) ∈ cellsTo ds ds.length := by
  obtain ⟨h1, h2⟩ := mem_cells.1 h
  dsimp only at h1 h2
  refine mem_cells.2 ⟨show a < _ by omega, ?_⟩
  dsimp only
  rw [getD_of_lt _ h1] at h2
  rw [getD_of_lt _ (show a < ds.length by omega), (hok.col _ (List.getElem_mem _)).1]
  rwa [(hok.col _ (List.getElem_mem _)).1] at h2
theorem cell_low {a b : Nat} (h : (a, b + 1) ∈ cellsTo ds ds.length) : (a, b) ∈ cellsTo ds ds.length := by
  obtain ⟨h1, h2⟩ := mem_cells.1 h
  exact mem_cells.2 ⟨h1, by dsimp only at h2 ⊢; omega⟩

theorem prt_a {f c : Nat × Nat} (r : Nat) (h : c.1 + 1 = f.1 ∧ c.2 = f.2) : prt ds ac dn f r c = (tbl ac f).getD r [] := if_pos h
theorem prt_d {f c : Nat × Nat} (r : Nat) (h : c.1 = f.1 ∧ c.2 + 1 = f.2) : prt ds ac dn f r c = (tbl dn f).getD r [] := by
  unfold prt
  rw [if_neg (by omega), if_pos h]
theorem prt_o {f c : Nat × Nat} (r : Nat) (h : ¬ (c.1 + 1 = f.1 ∧ c.2 = f.2)) (h2 : ¬ (c.1 = f.1 ∧ c.2 + 1 = f.2)) : prt ds ac dn f r c = List.replicate (cdim ds c) 0 := by
  unfold prt
  rw [if_neg h, if_neg h2]
theorem rep_getD (n j : Nat) : (List.replicate n (0 : Int)).getD j 0 = 0 := by
  by_cases h : j < n
  · simp [List.getD, h]
  · simp [List.getD, h]

/-- A part is a row of numbers modulo p, as long as its cell says. -/
theorem prt_ok (hp : IsP p) (hok : DclOk ds) (ht : TbsOk p ds ac dn) {f c : Nat × Nat} (hf : f ∈ cellsTo ds ds.length) (hc : c ∈ cellsTo ds ds.length) {r : Nat} (hr : r < cdim ds f) : RowOk p (cdim ds c) (prt ds ac dn f r c) := by
  have hp0 := hp.lo
  obtain ⟨ta, td⟩ := ht.tab f hf
  have hcf := (cdim_cast hok hf).1
  have hcc := (cdim_cast hok hc).1
  by_cases h1 : c.1 + 1 = f.1 ∧ c.2 = f.2
  · rw [prt_a r h1]
    have hl := ta.1
    have hr' : r < (tbl ac f).length := by unfold tbl; omega
    rw [getD_of_lt _ hr']
    have := ta.2 _ (List.getElem_mem hr')
    rwa [show ((f.1 : Int) - 1) = (c.1 : Int) by omega, ← h1.2, ← hcc] at this
  · by_cases h2 : c.1 = f.1 ∧ c.2 + 1 = f.2
    · rw [prt_d r h2]
      have hl := td.1
      have hr' : r < (tbl dn f).length := by unfold tbl; omega
      rw [getD_of_lt _ hr']
      have := td.2 _ (List.getElem_mem hr')
      rwa [show ((f.2 : Int) - 1) = (c.2 : Int) by omega, ← h2.1, ← hcc] at this
    · rw [prt_o r h1 h2]
      refine ⟨by simp, fun x hx => ?_⟩
      rw [List.eq_of_mem_replicate hx]
      omega
theorem trow_ok (hp : IsP p) (hok : DclOk ds) (ht : TbsOk p ds ac dn) {f : Nat × Nat} (hf : f ∈ cellsTo ds ds.length) {r : Nat} (hr : r < cdim ds f) (n : Nat) : RowOk p (tdim ds n) (trow ds ac dn n f r) := by
  have hpr : ∀ c ∈ dgn ds n, RowOk p (cdim ds c) (prt ds ac dn f r c) := fun c hc => prt_ok hp hok ht hf (mem_cells.2 (mem_dgn.1 hc).1) hr
  refine ⟨?_, fun x hx => ?_⟩
  · unfold trow tdim
    rw [List.length_flatMap, List.map_congr_left (g := cdim ds) (fun c hc => by have := (hpr c hc).1; omega)]
  · unfold trow at hx
    obtain ⟨c, hc, hx⟩ := List.mem_flatMap.1 hx
    exact (hpr c hc).2 x hx
theorem ttab_mem {n : Nat} {x : List Int} (h : x ∈ ttab ds ac dn n) : ∃ f r, f ∈ dgn ds (n + 1) ∧ r < cdim ds f ∧ x = trow ds ac dn n f r := by
  unfold ttab at h
  obtain ⟨f, hf, h⟩ := List.mem_flatMap.1 h
  obtain ⟨r, hr, rfl⟩ := List.mem_map.1 h
  exact ⟨f, r, hf, List.mem_range.1 hr, rfl⟩
theorem ttab_ok (hp : IsP p) (hok : DclOk ds) (ht : TbsOk p ds ac dn) (n : Nat) : TabOk p (tdim ds (n + 1)) (tdim ds n) (ttab ds ac dn n) := by
  refine ⟨?_, fun x hx => ?_⟩
  · unfold ttab tdim
    rw [List.length_flatMap, List.map_congr_left (g := cdim ds) (fun c _ => by simp)]
  · obtain ⟨f, r, hf, hr, rfl⟩ := ttab_mem hx
    exact trow_ok hp hok ht (mem_cells.2 (mem_dgn.1 hf).1) hr n
theorem tot_ap (hp : IsP p) (hok : DclOk ds) (ht : TbsOk p ds ac dn) {f : Nat × Nat} (hf : f ∈ cellsTo ds ds.length) {r : Nat} (hr : r < cdim ds f) (q : Nat) : ApOk p (tdim ds q) (trow ds ac dn (q + 1) f r) (ttab ds ac dn q) := by
  have h1 := trow_ok hp hok ht hf hr (q + 1)
  have h2 := ttab_ok hp hok ht q
  exact ⟨hp, by have e1 := h1.1; have e2 := h2.1; omega, h1.2, h2.2⟩

/-- What the way through the cell c adds at the place t of the cell e. -/
def thr (ds : List (List Int)) (ac dn : List (List (List (List Int)))) (f : Nat × Nat) (r : Nat) (e : Nat × Nat) (t : Nat) (c : Nat × Nat) : Int :=
  ((List.range (cdim ds c)).map fun s => (prt ds ac dn f r c).getD s 0 * (prt ds ac dn c s e).getD t 0).sum

theorem tot_null (hp : IsP p) (hok : DclOk ds) (ht : TbsOk p ds ac dn) {f : Nat × Nat} (hf : f ∈ cellsTo ds ds.length) {r : Nat} (hr : r < cdim ds f) (q : Nat) :
    (∀ x ∈ apT p (tdim ds q) (trow ds ac dn (q + 1) f r) (ttab ds ac dn q), x = 0) ↔ ∀ e ∈ dgn ds q, ∀ t, t < cdim ds e → ((dgn ds (q + 1)).map (thr ds ac dn f r e t)).sum % p = 0 := by
  have hpr : ∀ c ∈ dgn ds (q + 1), RowOk p (cdim ds c) (prt ds ac dn f r c) := fun c hc => prt_ok hp hok ht hf (mem_cells.2 (mem_dgn.1 hc).1) hr
  have hap := tot_ap hp hok ht hf hr q
  rw [apT_null hap]
  have hK : ∀ j, mts (trow ds ac dn (q + 1) f r) (ttab ds ac dn q) (trow ds ac dn (q + 1) f r).length j =
      (((dgn ds (q + 1)).flatMap fun c => (List.range (cdim ds c)).map fun s => ((prt ds ac dn f r c).getD s 0, prt ds ac dn c s)).map fun k => k.1 * ((dgn ds q).flatMap k.2).getD j 0).sum := fun j => by
    rw [mts_zip hap.len]
    unfold trow ttab
    rw [zip_flat _ _ _ (fun c hc => by have := (hpr c hc).1; simp; omega), sum_flat, sum_flat]
    congr 1
    refine List.map_congr_left (fun c hc => ?_)
    congr 1
    have hl := (hpr c hc).1
    refine List.ext_getElem (by simp; omega) (fun i h1 h2 => ?_)
    simp at h1 h2
    simp [trow, show i < (prt ds ac dn f r c).length by omega]
  have hlen : ∀ k ∈ ((dgn ds (q + 1)).flatMap fun c => (List.range (cdim ds c)).map fun s => ((prt ds ac dn f r c).getD s 0, prt ds ac dn c s)), ∀ e ∈ dgn ds q, (k.2 e).length = cdim ds e := fun k hk e he => by
    obtain ⟨c, hc, hk⟩ := List.mem_flatMap.1 hk
    obtain ⟨s, hs, rfl⟩ := List.mem_map.1 hk
    have := (prt_ok hp hok ht (mem_cells.2 (mem_dgn.1 hc).1) (mem_cells.2 (mem_dgn.1 he).1) (List.mem_range.1 hs)).1
    dsimp only
    omega
  rw [show (∀ j, j < tdim ds q → mts (trow ds ac dn (q + 1) f r) (ttab ds ac dn q) (trow ds ac dn (q + 1) f r).length j % p = 0) ↔
      (∀ j, j < ((dgn ds q).map (cdim ds)).sum → (((dgn ds (q + 1)).flatMap fun c => (List.range (cdim ds c)).map fun s => ((prt ds ac dn f r c).getD s 0, prt ds ac dn c s)).map fun k => k.1 * ((dgn ds q).flatMap k.2).getD j 0).sum % p = 0) from by
    constructor
    · intro h j hj; rw [← hK j]; exact h j hj
    · intro h j hj; rw [hK j]; exact h j hj]
  rw [blocks_null _ _ hlen]
  have he : ∀ e t, (((dgn ds (q + 1)).flatMap fun c => (List.range (cdim ds c)).map fun s => ((prt ds ac dn f r c).getD s 0, prt ds ac dn c s)).map fun k => k.1 * (k.2 e).getD t 0).sum = ((dgn ds (q + 1)).map (thr ds ac dn f r e t)).sum := fun e t => by
    rw [sum_flat]
    congr 1
    refine List.map_congr_left (fun c _ => ?_)
    unfold thr
    rw [List.map_map]
    rfl
  constructor
  · intro h e hem t ht'
    rw [← he]; exact h e hem t ht'
  · intro h e hem t ht'
    rw [he]; exact h e hem t ht'

theorem thr_o {f c e : Nat × Nat} {r t : Nat} (h : ∀ s, (prt ds ac dn f r c).getD s 0 * (prt ds ac dn c s e).getD t 0 = 0) : thr ds ac dn f r e t c = 0 := sum_zero _ _ (fun s _ => h s)
/-- The ways are two. -/
theorem ways {f e : Nat × Nat} {q r t : Nat} (hf : f.1 + f.2 = q + 2) : ((dgn ds (q + 1)).map (thr ds ac dn f r e t)).sum =
    (if (f.1 - 1, f.2) ∈ dgn ds (q + 1) then thr ds ac dn f r e t (f.1 - 1, f.2) else 0) + (if (f.1, f.2 - 1) ∈ dgn ds (q + 1) then thr ds ac dn f r e t (f.1, f.2 - 1) else 0) := by
  refine sum_two (thr ds ac dn f r e t) (fun h => ?_) _ (dgn_nodup ds _) (fun c _ ha hb => thr_o (fun s => ?_))
  · injection h with h1 h2
    omega
  · rw [prt_o r (fun h => ha (by ext <;> simp <;> omega)) (fun h => hb (by ext <;> simp <;> omega)), rep_getD, Int.zero_mul]

/-- When the squares of the total are 0. -/
structure CndOk (p : Int) (ds : List (List Int)) (ac dn : List (List (List (List Int)))) : Prop where
  aa : ∀ a j r t, (a + 2, j) ∈ cellsTo ds ds.length → r < cdim ds (a + 2, j) → t < cdim ds (a, j) → mts ((tbl ac (a + 2, j)).getD r []) (tbl ac (a + 1, j)) (cdim ds (a + 1, j)) t % p = 0
  dd : ∀ i b r t, (i, b + 2) ∈ cellsTo ds ds.length → r < cdim ds (i, b + 2) → t < cdim ds (i, b) → mts ((tbl dn (i, b + 2)).getD r []) (tbl dn (i, b + 1)) (cdim ds (i, b + 1)) t % p = 0
  ad : ∀ a b r t, (a + 1, b + 1) ∈ cellsTo ds ds.length → r < cdim ds (a + 1, b + 1) → t < cdim ds (a, b) →
    (mts ((tbl ac (a + 1, b + 1)).getD r []) (tbl dn (a, b + 1)) (cdim ds (a, b + 1)) t + mts ((tbl dn (a + 1, b + 1)).getD r []) (tbl ac (a + 1, b)) (cdim ds (a + 1, b)) t) % p = 0

theorem way_aa {a j r t : Nat} (hok : DclOk ds) (hc : (a + 2, j) ∈ cellsTo ds ds.length) : ((dgn ds (a + j + 1)).map (thr ds ac dn (a + 2, j) r (a, j) t)).sum = mts ((tbl ac (a + 2, j)).getD r []) (tbl ac (a + 1, j)) (cdim ds (a + 1, j)) t := by
  have hm : (a + 1, j) ∈ dgn ds (a + j + 1) := mem_dgn.2 ⟨mem_cells.1 (cell_left hok hc), by dsimp only; omega⟩
  rw [ways (by dsimp only; omega)]
  dsimp only
  rw [show a + 2 - 1 = a + 1 by omega, if_pos hm]
  have h2 : (if (a + 2, j - 1) ∈ dgn ds (a + j + 1) then thr ds ac dn (a + 2, j) r (a, j) t (a + 2, j - 1) else 0) = 0 := by
    split
    · refine thr_o (fun s => ?_)
      rw [prt_o (f := (a + 2, j - 1)) (c := (a, j)) s (by dsimp only; omega) (by dsimp only; omega), rep_getD, Int.mul_zero]
    · rfl
  rw [h2, Int.add_zero]
  unfold thr mts
  congr 1
  refine List.map_congr_left (fun s _ => ?_)
  rw [prt_a r (by dsimp only; omega), prt_a s (by dsimp only; omega)]
theorem way_dd {i b r t : Nat} (hc : (i, b + 2) ∈ cellsTo ds ds.length) : ((dgn ds (i + b + 1)).map (thr ds ac dn (i, b + 2) r (i, b) t)).sum = mts ((tbl dn (i, b + 2)).getD r []) (tbl dn (i, b + 1)) (cdim ds (i, b + 1)) t := by
  have hm : (i, b + 1) ∈ dgn ds (i + b + 1) := mem_dgn.2 ⟨mem_cells.1 (cell_low hc), by dsimp only; omega⟩
  rw [ways (by dsimp only; omega)]
  dsimp only
  rw [show b + 2 - 1 = b + 1 by omega, if_pos hm]
  have h2 : (if (i - 1, b + 2) ∈ dgn ds (i + b + 1) then thr ds ac dn (i, b + 2) r (i, b) t (i - 1, b + 2) else 0) = 0 := by
    split
    · refine thr_o (fun s => ?_)
      rw [prt_o (f := (i - 1, b + 2)) (c := (i, b)) s (by dsimp only; omega) (by dsimp only; omega), rep_getD, Int.mul_zero]
    · rfl
  rw [h2, Int.zero_add]
  unfold thr mts
  congr 1
  refine List.map_congr_left (fun s _ => ?_)
  rw [prt_d r (by dsimp only; omega), prt_d s (by dsimp only; omega)]
theorem way_ad {a b r t : Nat} (hok : DclOk ds) (hc : (a + 1, b + 1) ∈ cellsTo ds ds.length) : ((dgn ds (a + b + 1)).map (thr ds ac dn (a + 1, b + 1) r (a, b) t)).sum =
    mts ((tbl ac (a + 1, b + 1)).getD r []) (tbl dn (a, b + 1)) (cdim ds (a, b + 1)) t + mts ((tbl dn (a + 1, b + 1)).getD r []) (tbl ac (a + 1, b)) (cdim ds (a + 1, b)) t := by
  have hm1 : (a, b + 1) ∈ dgn ds (a + b + 1) := mem_dgn.2 ⟨mem_cells.1 (cell_left hok hc), by dsimp only; omega⟩
  have hm2 : (a + 1, b) ∈ dgn ds (a + b + 1) := mem_dgn.2 ⟨mem_cells.1 (cell_low hc), by dsimp only; omega⟩
  rw [ways (by dsimp only; omega)]
  dsimp only
  rw [Nat.add_sub_cancel, Nat.add_sub_cancel, if_pos hm1, if_pos hm2]
  unfold thr mts
  refine congr (congrArg HAdd.hAdd (congrArg List.sum (List.map_congr_left fun s _ => ?_))) (congrArg List.sum (List.map_congr_left fun s _ => ?_))
  · rw [prt_a r (by dsimp only; omega), prt_d s (by dsimp only; omega)]
  · rw [prt_d r (by dsimp only; omega), prt_a s (by dsimp only; omega)]

/-- **The total's squares are 0 where the cells say so.** -/
theorem square_iff (hp : IsP p) (hok : DclOk ds) (ht : TbsOk p ds ac dn) :
    (∀ q f r, f ∈ dgn ds (q + 2) → r < cdim ds f → ∀ x ∈ apT p (tdim ds q) (trow ds ac dn (q + 1) f r) (ttab ds ac dn q), x = 0) ↔ CndOk p ds ac dn := by
  constructor
  · intro h
    have h' : ∀ q f r, f ∈ dgn ds (q + 2) → r < cdim ds f → ∀ e ∈ dgn ds q, ∀ t, t < cdim ds e → ((dgn ds (q + 1)).map (thr ds ac dn f r e t)).sum % p = 0 := fun q f r hf hr =>
      (tot_null hp hok ht (mem_cells.2 (mem_dgn.1 hf).1) hr q).1 (h q f r hf hr)
    refine ⟨fun a j r t hc hr ht' => ?_, fun i b r t hc hr ht' => ?_, fun a b r t hc hr ht' => ?_⟩
    · rw [← way_aa (dn := dn) hok hc]
      exact h' _ _ r (mem_dgn.2 ⟨mem_cells.1 hc, by dsimp only; omega⟩) hr _ (mem_dgn.2 ⟨mem_cells.1 (cell_left hok (cell_left hok hc)), by dsimp only⟩) t ht'
    · rw [← way_dd (ac := ac) hc]
      exact h' _ _ r (mem_dgn.2 ⟨mem_cells.1 hc, by dsimp only; omega⟩) hr _ (mem_dgn.2 ⟨mem_cells.1 (cell_low (cell_low hc)), by dsimp only⟩) t ht'
    · rw [← way_ad hok hc]
      exact h' _ _ r (mem_dgn.2 ⟨mem_cells.1 hc, by dsimp only; omega⟩) hr _ (mem_dgn.2 ⟨mem_cells.1 (cell_low (cell_left hok hc)), by dsimp only⟩) t ht'
  · intro h q f r hf hr
    have hfc := mem_cells.2 (mem_dgn.1 hf).1
    refine (tot_null hp hok ht hfc hr q).2 (fun e he t ht' => ?_)
    obtain ⟨i, j⟩ := f
    obtain ⟨a, b⟩ := e
    have hs := (mem_dgn.1 hf).2
    have hse := (mem_dgn.1 he).2
    dsimp only at hs hse
    by_cases h1 : a + 2 = i
    · obtain rfl : j = b := by omega
      subst h1
      rw [← hse, way_aa hok hfc]
      exact h.aa a j r t hfc hr ht'
    · by_cases h2 : a + 1 = i
      · subst h2
        obtain rfl : j = b + 1 := by omega
        rw [← hse, way_ad hok hfc]
        exact h.ad a b r t hfc hr ht'
      · by_cases h3 : a = i
        · subst h3
          obtain rfl : j = b + 2 := by omega
          rw [← hse, way_dd hfc]
          exact h.dd a b r t hfc hr ht'
        · have h0 : ((dgn ds (q + 1)).map (thr ds ac dn (i, j) r (a, b) t)).sum = 0 := by
            rw [ways (by dsimp only; omega)]
            dsimp only
            have e1 : thr ds ac dn (i, j) r (a, b) t (i - 1, j) = 0 := thr_o (fun s => by
              rw [prt_o (f := (i - 1, j)) (c := (a, b)) s (by dsimp only; omega) (by dsimp only; omega), rep_getD, Int.mul_zero])
            have e2 : thr ds ac dn (i, j) r (a, b) t (i, j - 1) = 0 := thr_o (fun s => by
              rw [prt_o (f := (i, j - 1)) (c := (a, b)) s (by dsimp only; omega) (by dsimp only; omega), rep_getD, Int.mul_zero])
            rw [e1, e2]
            simp
          rw [h0]
          simp
end
end Go.Proofs.YtlopenephgabhaaGreat


namespace Go.Proofs.YtlopenephgabhaaGreat
open Go.RowKit Go.Shelf
attribute [local go_sem] Oper.semAt_some

def DgIn (ds : List (List Int)) (n : Nat) : Type := { c : Nat × Nat // c ∈ dgn ds n }
def dgV {ds : List (List Int)} {n : Nat} (x : DgIn ds n) : Value := .agg #[.int .i64 (x.1.1 : Int), .int .i64 (x.1.2 : Int)]
def onD (n : Nat) (c : Nat × Nat) : Bool := c.1 + c.2 == n
theorem dgn_eq (ds : List (List Int)) (n : Nat) : dgn ds n = (cellsTo ds ds.length).filter (onD n) := rfl

theorem filt_in {ds : List (List Int)} {n : Nat} (pre : List (CellIn ds)) (c : Nat × Nat) (h : c ∈ cellsTo ds ds.length) : ((pre ++ ([⟨c, h⟩] : List (CellIn ds))).map (·.1)).filter (onD n) = (pre.map (·.1)).filter (onD n) ++ if onD n c then [c] else [] := by
  rw [List.map_append, List.filter_append]
  refine congrArg _ ?_
  show List.filter (onD n) [c] = _
  by_cases h : onD n c <;> simp [h]
theorem yieldAt_wide {l0 m m2 : Nat} {P : Program} {l : Nat} {args : Array Value} {W : World} {R : Ending → World → Prop} (h : YieldAt Fence.wide m P l args W R) : YieldAt (Fence.wide.inRound l0) m2 P l args W R := by
  obtain ⟨fn, tmps, assign, body, hy, hR⟩ := h
  exact ⟨fn, tmps, assign, body, hy, trivial, fun c cs _ => hR.2 c cs (fun d h => by cases h)⟩

set_option maxRecDepth 100000 in
theorem diagonalOf_any (p n : Int) (dv av vv : Value) (w : World) :
    Calls Tryz.prog 103 #[.agg #[.int .i64 p, dv, av, vv], .int .i64 n] w fun e w' => e = .returned (.func (.func 109) #[] #[.pointer (some ⟨w.heap.size, 0, none⟩), .pointer (some ⟨w.heap.size + 1, 0, none⟩)]) ∧ w' = (w.alloc (.cells #[.int .i64 p, dv, av, vv] 29)).alloc (.cells #[.int .i64 n] 2) := by
  go_enter Tryz.func103, Tryz.ntmps103
  go_wp2
  go_ret
  exact ⟨by simp, rfl⟩

theorem new_c1 (W : World) (p : Int) (dv av vv : Value) : (W.alloc (.cells #[.int .i64 p, dv, av, vv] 29)).cell? ⟨W.heap.size, 1, none⟩ = some dv := by simp
/-- What a body may do to the iterator's boxes. -/
structure DgK (Kp : World → World → Prop) (w : World) (bn : Nat) (n : Int) (dv : Value) (ds : List (List Int)) : Prop where
  refl : ∀ A, Kp A A
  trans : ∀ {A B C : World}, Kp A B → Kp B C → Kp A C
  dims : ∀ {A B : World}, Below w.heap.size w A → Kp A B → L2 0 B dv ds
  num : ∀ {A B : World}, Boxed A bn 2 (.int .i64 n) → Kp A B → Boxed B bn 2 (.int .i64 n)
  fns : ∀ {A B : World} {k : Nat} {v : Value}, Boxed A k 101 v → Kp A B → Boxed B k 101 v
  put : ∀ (A : World) (k : Nat) (o o' : Obj), w.heap.size ≤ k → A.heap[k]? = some o → o.isCells = false → Kp A (A.putObj k o')
  alloc : ∀ (A : World) (o : Obj), w.heap.size ≤ A.heap.size → Kp A (A.alloc o)

set_option maxRecDepth 100000 in
set_option maxHeartbeats 4000000 in
theorem diag_seq (m : Nat) (hm : 3 ≤ m) (p : Int) (n : Nat) (hn : n ≤ 1000) (bx bn : Nat) (dv av vv : Value) (ds : List (List Int)) (hl1 : ds.length ≤ 1000) (hl2 : ∀ r ∈ ds, r.length ≤ 1000) (Kp : World → World → Prop) (w : World) (hK : DgK Kp w bn n dv ds)
    (hbx : bx < w.heap.size) (c0 : w.cell? ⟨bx, 0, none⟩ = some (.int .i64 p)) (c1 : w.cell? ⟨bx, 1, none⟩ = some dv) (c2 : w.cell? ⟨bx, 2, none⟩ = some av) (c3 : w.cell? ⟨bx, 3, none⟩ = some vv) (hbn : Boxed w bn 2 (.int .i64 (n : Int))) :
    SeqO Fence.wide m Tryz.prog 109 #[.pointer (some ⟨bx, 0, none⟩), .pointer (some ⟨bn, 0, none⟩)] (fun x : DgIn ds n => #[dgV x]) Kp (fun ys => ys.map (·.1) = dgn ds n) (fun _ => True) (cellsTo ds ds.length).length w := by
  intro l J Jx W hW hJ hJx hY h0
  have HK := Lib.hid hK
  have HJ := Lib.hid hJ
  have HJX := Lib.hid hJx
  have HY := Lib.hid hY
  have HW := Lib.hid hW
  have d0 := (hW.cell (p := ⟨bx, 0, none⟩) hbx).trans c0
  have d1 := (hW.cell (p := ⟨bx, 1, none⟩) hbx).trans c1
  have d2 := (hW.cell (p := ⟨bx, 2, none⟩) hbx).trans c2
  have d3 := (hW.cell (p := ⟨bx, 3, none⟩) hbx).trans c3
  have hbl : bx < W.heap.size := Nat.lt_of_lt_of_le hbx hW.size
  have HBN : Hid (Boxed W bn 2 (.int .i64 (n : Int))) := Lib.hid ((hW.block bn hbn.lt).trans hbn)
  have H0 := Lib.hid h0
  have hws := hW.size
  clear hK hJ hJx hY c0 c1 c2 c3 hW h0 hbn
  refine callsIn_of_wp_marks Tryz.func109 rfl trivial ?_
  simp only [Tryz.ntmps109, List.size_toArray, List.length_cons, List.length_nil, Nat.reduceAdd, Nat.reduceSub, Array.replicate_succ, Array.replicate_zero, List.push_toArray, List.append_toArray, List.nil_append, List.cons_append]
  gi_wp2_with fail
  refine ⟨trivial, (fun h => by cases h), (callsIn_wide.2 (cellsOf_any p dv av vv _)).mono ?_⟩
  rintro e w2 ⟨rfl, rfl⟩
  dsimp only
  gi_wp2
  rw [World.size_alloc]
  have hs0 : ((W.alloc (.cells #[.func (.yield l) #[] #[]] 101)).alloc (.cells #[.int .i64 p, dv, av, vv] 29)).heap.size = W.heap.size + 2 := by simp
  have hB0 : Below W.heap.size W ((W.alloc (.cells #[.func (.yield l) #[] #[]] 101)).alloc (.cells #[.int .i64 p, dv, av, vv] 29)) := ((Below.refl _ _).alloc (Nat.le_refl _) _).alloc (by simp) _
  have hd0 : ((W.alloc (.cells #[.func (.yield l) #[] #[]] 101)).alloc (.cells #[.int .i64 p, dv, av, vv] 29)).cell? ⟨W.heap.size + 1, 1, none⟩ = some dv := by
    have := new_c1 (W.alloc (.cells #[.func (.yield l) #[] #[]] 101)) p dv av vv
    rwa [World.size_alloc] at this
  have HBY : Hid (Boxed ((W.alloc (.cells #[.func (.yield l) #[] #[]] 101)).alloc (.cells #[.int .i64 p, dv, av, vv] 29)) W.heap.size 101 (.func (.yield l) #[] #[])) := Lib.hid ((Boxed.new W _ _).alloc _)
  have HJ0 : Hid (J [] ((W.alloc (.cells #[.func (.yield l) #[] #[]] 101)).alloc (.cells #[.int .i64 p, dv, av, vv] 29))) := Lib.hid (HJ.out.alloc _ (HJ.out.alloc _ H0.out))
  obtain ⟨W0, hW0⟩ : ∃ W0, W0 = (W.alloc (.cells #[.func (.yield l) #[] #[]] 101)).alloc (.cells #[.int .i64 p, dv, av, vv] 29) := ⟨_, rfl⟩
  rw [← hW0] at hs0 hB0 hd0 HBY HJ0 ⊢
  clear hW0
  have HB0 := Lib.hid hB0
  have HS0 := Lib.hid hs0
  have hst := cells_stopsK Fence.wide (m - 1) trivial rfl (by omega) (W.heap.size + 1) dv ds (by omega) (fun r hr => by have := hl2 r hr; omega) Kp HK.out.refl (fun h k => HK.out.trans h k) W0 (by omega) hd0
    (fun A B hA hAB => HK.out.dims (HW.out.trans ((hB0.trans (hA.mono hB0.size)).mono hws)) hAB)
  refine wpIn_rangeFunc_cell rfl (by omega : 1 ≤ m) (gf := 93) (lb := #[.pointer (some ⟨W.heap.size + 1, 0, none⟩)]) rfl trivial (enters_of Tryz.func93 (by kernel_rfl) rfl)
    hst (fun h k => HK.out.trans h k) (fun A k o o' hk ho hc _ => HK.out.put A k o o' (by omega) ho hc) (Below.refl _ _) (fun _ => rfl)
    (fun pre A => (∃ ys : List (DgIn ds n), ys.map (·.1) = (pre.map (·.1)).filter (onD n) ∧ J ys A) ∧ Boxed A W.heap.size 101 (.func (.yield l) #[] #[]) ∧ Boxed A bn 2 (.int .i64 (n : Int)))
    (fun c _ A => c = .ret ∧ ∃ ys : List (DgIn ds n), Jx ys A)
    (OwnFrom.and (fun pre A B row ⟨ys, hys, hj⟩ hg hr => ⟨ys, hys, HJ.out ys A B row hj hg (fun r e => ⟨by have := (hr r e).1; omega, (hr r e).2⟩)⟩)
      (OwnFrom.and (Own.from (boxed_own (β := List (CellIn ds)) _ _ (fun _ => Value.func (.yield l) #[] #[])) _) (Own.from (boxed_own (β := List (CellIn ds)) _ _ (fun _ => Value.int .i64 (n : Int))) _)))
    (fun c pre A B row ⟨hc, ys, hj⟩ hg hr => ⟨hc, ys, HJX.out ys A B row hj hg (fun r e => ⟨by have := (hr r e).1; omega, (hr r e).2⟩)⟩)
    ⟨⟨[], rfl, HJ0.out⟩, HBY.out, (HB0.out.block bn HBN.out.lt).trans HBN.out⟩
    (fun x => #[.int .i64 (x.1.1 : Int), .int .i64 (x.1.2 : Int)]) 4 63 (W.heap.size + 1)
    ?assign ?body ?done ?stop
  case assign =>
    rintro l2 pre x A K ⟨⟨ys, hys, hj⟩, hby, hbn⟩ hKK
    simp only [cellV] at hKK ⊢
    have hsz := hby.lt
    gi_wp2
    have hk := hKK A.heap.size _ hsz (World.alloc_heap_new A _) ((KeepsOthers.alloc _ _).from _) (HK.out.alloc A _ (by omega)) ⟨⟨ys, hys, HJ.out.alloc _ hj⟩, hby.alloc _, hbn.alloc _⟩
    · simp at hk
      refine Eq.mp ?_ hk
      congr 1
      all_goals (try congr 1)
  case body =>
    rintro l2 pre x Bx A hl ⟨r, hr⟩ ⟨⟨ys, hys, hJy⟩, hby, hbn⟩ hBx hX hlt
    obtain ⟨⟨i, j⟩, hxm⟩ := x
    dsimp only at hX
    have hxc := cells_fst hxm
    dsimp only at hxc
    have hi1 : i ≤ 1000 := by have := hxc.1; omega
    have hj1 : j ≤ 1000 := by
      have h1 := hxc.2
      rw [getD_of_lt _ hxc.1] at h1
      have := hl2 _ (List.getElem_mem hxc.1)
      omega
    have x0 : A.cell? ⟨Bx, 0, none⟩ = some (.int .i64 (i : Int)) := by simp [World.cell?, hX]
    have x1 : A.cell? ⟨Bx, 1, none⟩ = some (.int .i64 (j : Int)) := by simp [World.cell?, hX]
    have y0 := hby.cell
    have n0 := hbn.cell
    have hylen : ys.length < (cellsTo ds ds.length).length := by
      have h1 := congrArg List.length hys
      rw [List.length_map] at h1
      have h2 := List.length_filter_le (onD n) (pre.map (·.1))
      rw [List.length_map] at h2
      omega
    have HBYA := Lib.hid hby
    have HBNA := Lib.hid hbn
    have HYS := Lib.hid hys
    have HJY := Lib.hid hJy
    clear hX hr hby hbn hys hJy hlt hBx hl
    by_cases hd : i + j = n
    · have hq : (((i : Int) + (j : Int)) == (n : Int)) = true := by simp; omega
      have hmem : (i, j) ∈ dgn ds n := by rw [dgn_eq]; exact List.mem_filter.2 ⟨hxm, by simp [onD, hd]⟩
      obtain ⟨fn, tmps, assign, body, hy, hR⟩ := yieldAt_wide (l0 := l2) (m2 := m - 1 - 1 - 1) (HY.out ys ⟨(i, j), hmem⟩ A HJY.out hylen)
      dsimp only [dgV] at hy
      have hnext : ∀ W3, KeepsFrom W.heap.size A W3 → J (ys ++ [⟨(i, j), hmem⟩]) W3 → Kp A W3 →
          KeepsFrom W0.heap.size A W3 ∧ Kp A W3 ∧ (∃ ys : List (DgIn ds n), ys.map (·.1) = ((pre ++ ([⟨(i, j), hxm⟩] : List (CellIn ds))).map (·.1)).filter (onD n) ∧ J ys W3) ∧ Boxed W3 W.heap.size 101 (.func (.yield l) #[] #[]) ∧ Boxed W3 bn 2 (.int .i64 (n : Int)) := fun W3 hk hj hkp =>
        ⟨kf_narrow hk (by have := HS0.out; omega), hkp, ⟨_, by rw [filt_in, if_pos (by simp [onD, hd]), ← HYS.out, List.map_append]; rfl, hj⟩, HK.out.fns HBYA.out hkp, HK.out.num HBNA.out hkp⟩
      have HNEXT := Lib.hid hnext
      clear hnext
      have HS0' := HS0
      gi_wp2
      refine ⟨(fun h => by cases h), hR.mono ?_⟩
      rintro e W3 ⟨hk, (⟨rfl, hJ3, hkp⟩ | ⟨rfl, hJx3⟩)⟩
      · have HF := Lib.hid (HNEXT.out W3 hk hJ3 hkp)
        clear hk hJ3 hkp
        gi_wp2
        exact HF.out
      · have HF : Hid (KeepsFrom W0.heap.size A W3 ∧ Jx (ys ++ [⟨(i, j), hmem⟩]) W3) := Lib.hid ⟨kf_narrow hk (by have := HS0.out; omega), hJx3⟩
        clear hk hJx3
        gi_wp2
        exact ⟨HF.out.1, rfl, _, HF.out.2⟩
    · have hq : (((i : Int) + (j : Int)) == (n : Int)) = false := by simp; omega
      have HF : Hid (KeepsFrom W0.heap.size A A ∧ Kp A A ∧ (∃ ys : List (DgIn ds n), ys.map (·.1) = ((pre ++ ([⟨(i, j), hxm⟩] : List (CellIn ds))).map (·.1)).filter (onD n) ∧ J ys A) ∧ Boxed A W.heap.size 101 (.func (.yield l) #[] #[]) ∧ Boxed A bn 2 (.int .i64 (n : Int))) :=
        Lib.hid ⟨KeepsFrom.refl _ _, HK.out.refl _, ⟨ys, by rw [filt_in, if_neg (by simp [onD, hd]), List.append_nil, HYS.out], HJY.out⟩, HBYA.out, HBNA.out⟩
      gi_wp2
      refine ⟨fun _ h => (by cases h), ?_⟩
      gi_wp2
      exact HF.out
  case done =>
    rintro D zs A hD hS ⟨⟨ys, hys, hJy⟩, _, _⟩ hKD
    have HJY := Lib.hid hJy
    have HYS : Hid (ys.map (·.1) = dgn ds n) := Lib.hid (by rw [hys, hS]; rfl)
    have HKD := Lib.hid hKD
    have hDW : W.heap.size ≤ D := by have := HS0.out; omega
    clear hKD hJy hys hS
    gi_wp2
    refine ⟨by simp, .inl ⟨_, _, rfl, run_takeDeferred HKD.out, ?_⟩⟩
    exact ⟨_, results_none rfl _ _ _, ⟨_, rfl⟩, .inl ⟨ys, HYS.out, HJ.out.putObj _ HJY.out hDW HKD.out rfl⟩⟩
  case stop =>
    rintro D c pre A hD _ ⟨rfl, ys, hj⟩ hKD
    have HJY := Lib.hid hj
    have HKD := Lib.hid hKD
    have hDW : W.heap.size ≤ D := by have := HS0.out; omega
    clear hKD hj
    gi_wp2
    refine ⟨by simp, .inl ⟨_, _, rfl, run_takeDeferred HKD.out, ?_⟩⟩
    exact ⟨_, results_none rfl _ _ _, ⟨_, rfl⟩, .inr ⟨ys, HJX.out.putObj _ HJY.out hDW HKD.out rfl⟩⟩
end Go.Proofs.YtlopenephgabhaaGreat


namespace Go.Proofs.YtlopenephgabhaaGreat
open Go.RowKit

set_option maxRecDepth 100000 in
set_option maxHeartbeats 4000000 in
/-- Down: from the cell (i, j + 1) to the cell (i, j). -/
theorem partOfRow_down (p : Int) (i j r : Nat) (dv av vv : Value) (ds : List (List Int)) (ac dn : List (List (List (List Int)))) (w : World) (h : Dx 0 w dv av vv ds ac dn) (hi : i < dn.length) (hj : j + 1 < (dn[i]).length) (hr : r < ((dn[i])[j + 1]).length) (hi1 : i ≤ 1000) (hj1 : j ≤ 1000) (_ : r ≤ 1000) :
    Calls Tryz.prog 104 #[.agg #[.int .i64 p, dv, av, vv], .agg #[.int .i64 (i : Int), .int .i64 ((j : Int) + 1)], .int .i64 (r : Int), .agg #[.int .i64 (i : Int), .int .i64 (j : Int)]] w fun e w' => ∃ v, e = .returned v ∧ L1 0 w' v (((dn[i])[j + 1])[r]) ∧ Below w.heap.size w w' := by
  have hx0 := DBx.start (p := p) 29 h
  obtain ⟨ad, cd, rfl⟩ := Sl.shape h.dims
  obtain ⟨aa, ca, rfl⟩ := Sl.shape h.across
  rcases h.down with ⟨hx, _⟩ | ⟨bd, od, cv, rfl, _, _, hcl⟩
  · exact absurd (hx ▸ hi) (Nat.not_lt_zero _)
  obtain ⟨u1, hu1, hr1'⟩ := hcl i hi
  rcases hr1' with ⟨hx, _⟩ | ⟨b2, o2, c2, rfl, _, _, hcl2⟩
  · rw [hx] at hj; exact absurd hj (Nat.not_lt_zero _)
  obtain ⟨u2, hu2, hr2'⟩ := hcl2 (j + 1) hj
  rcases hr2' with ⟨hx, _⟩ | ⟨b3, o3, c3, rfl, _, _, hcl3⟩
  · rw [hx] at hr; exact absurd hr (Nat.not_lt_zero _)
  obtain ⟨u3, hu3, hr3⟩ := hcl3 r hr
  have HR3 := Lib.hid hr3
  have hB : Below w.heap.size w (((w.alloc (.cells #[.int .i64 p, .slice ad ds.length cd, .slice aa ac.length ca, .slice (some ⟨bd, od, none⟩) dn.length cv] 29)).alloc (.cells #[.int .i64 (i : Int), .int .i64 ((j : Int) + 1)] 63)).alloc (.cells #[.int .i64 (i : Int), .int .i64 (j : Int)] 63)) := (((Below.refl _ _).alloc (Nat.le_refl _) _).alloc (by simp) _).alloc (by simp; omega) _
  have hv1 := later hB (Nat.le_refl _) hu1
  have hv2 := later hB (Nat.le_refl _) hu2
  have hv3 := later hB (Nat.le_refl _) hu3
  obtain ⟨n0, hn0⟩ : ∃ n, n = ds.length := ⟨_, rfl⟩
  obtain ⟨n1, hn1⟩ : ∃ n, n = ac.length := ⟨_, rfl⟩
  obtain ⟨n2, hn2⟩ : ∃ n, n = dn.length := ⟨_, rfl⟩
  obtain ⟨n3, hn3⟩ : ∃ n, n = (dn[i]).length := ⟨_, rfl⟩
  obtain ⟨n4, hn4⟩ : ∃ n, n = ((dn[i])[j + 1]).length := ⟨_, rfl⟩
  obtain ⟨row, hrow⟩ : ∃ x, x = ((dn[i])[j + 1])[r] := ⟨_, rfl⟩
  rw [← hrow] at HR3 ⊢
  have hi' := hi
  rw [← hn2] at hi'
  have hj' := hj
  rw [← hn3] at hj'
  have hr' := hr
  rw [← hn4] at hr'
  rw [← hn0, ← hn1, ← hn2] at hB hv1 hv2 hv3 ⊢
  rw [← hn3] at hv1
  rw [← hn4] at hv2
  clear hx0 hcl hcl2 hcl3 hr3 hu1 hu2 hu3 hn0 hn1 hn2 hn3 hn4 hrow
  have hr := hr'
  have hj := hj'
  have hi := hi'
  have hjj : (((j : Int) + 1).toNat) = j + 1 := by omega
  go_enter Tryz.func104, Tryz.ntmps104
  go_wp2
  go_region
  go_wp2
  go_ret
  exact ⟨_, rfl, L1.below HR3.out hB.drew, hB.drew⟩
set_option maxRecDepth 100000 in
set_option maxHeartbeats 4000000 in
/-- Across: from the cell (i + 1, j) to the cell (i, j). -/
theorem partOfRow_across (p : Int) (i j r : Nat) (dv av vv : Value) (ds : List (List Int)) (ac dn : List (List (List (List Int)))) (w : World) (h : Dx 0 w dv av vv ds ac dn) (hi : i + 1 < ac.length) (hj : j < (ac[i + 1]).length) (hr : r < ((ac[i + 1])[j]).length) (hi1 : i ≤ 1000) (_ : j ≤ 1000) (_ : r ≤ 1000) :
    Calls Tryz.prog 104 #[.agg #[.int .i64 p, dv, av, vv], .agg #[.int .i64 ((i : Int) + 1), .int .i64 (j : Int)], .int .i64 (r : Int), .agg #[.int .i64 (i : Int), .int .i64 (j : Int)]] w fun e w' => ∃ v, e = .returned v ∧ L1 0 w' v (((ac[i + 1])[j])[r]) ∧ Below w.heap.size w w' := by
  have hx0 := DBx.start (p := p) 29 h
  obtain ⟨ad, cd, rfl⟩ := Sl.shape h.dims
  obtain ⟨aa, ca, rfl⟩ := Sl.shape h.down
  rcases h.across with ⟨hx, _⟩ | ⟨bd, od, cv, rfl, _, _, hcl⟩
  · exact absurd (hx ▸ hi) (Nat.not_lt_zero _)
  obtain ⟨u1, hu1, hr1'⟩ := hcl (i + 1) hi
  rcases hr1' with ⟨hx, _⟩ | ⟨b2, o2, c2, rfl, _, _, hcl2⟩
  · rw [hx] at hj; exact absurd hj (Nat.not_lt_zero _)
  obtain ⟨u2, hu2, hr2'⟩ := hcl2 j hj
  rcases hr2' with ⟨hx, _⟩ | ⟨b3, o3, c3, rfl, _, _, hcl3⟩
  · rw [hx] at hr; exact absurd hr (Nat.not_lt_zero _)
  obtain ⟨u3, hu3, hr3⟩ := hcl3 r hr
  have HR3 := Lib.hid hr3
  have hB : Below w.heap.size w (((w.alloc (.cells #[.int .i64 p, .slice ad ds.length cd, .slice (some ⟨bd, od, none⟩) ac.length cv, .slice aa dn.length ca] 29)).alloc (.cells #[.int .i64 ((i : Int) + 1), .int .i64 (j : Int)] 63)).alloc (.cells #[.int .i64 (i : Int), .int .i64 (j : Int)] 63)) := (((Below.refl _ _).alloc (Nat.le_refl _) _).alloc (by simp) _).alloc (by simp; omega) _
  have hv1 := later hB (Nat.le_refl _) hu1
  have hv2 := later hB (Nat.le_refl _) hu2
  have hv3 := later hB (Nat.le_refl _) hu3
  obtain ⟨n0, hn0⟩ : ∃ n, n = ds.length := ⟨_, rfl⟩
  obtain ⟨n1, hn1⟩ : ∃ n, n = ac.length := ⟨_, rfl⟩
  obtain ⟨n2, hn2⟩ : ∃ n, n = dn.length := ⟨_, rfl⟩
  obtain ⟨n3, hn3⟩ : ∃ n, n = (ac[i + 1]).length := ⟨_, rfl⟩
  obtain ⟨n4, hn4⟩ : ∃ n, n = ((ac[i + 1])[j]).length := ⟨_, rfl⟩
  obtain ⟨row, hrow⟩ : ∃ x, x = ((ac[i + 1])[j])[r] := ⟨_, rfl⟩
  rw [← hrow] at HR3 ⊢
  have hi' := hi
  rw [← hn1] at hi'
  have hj' := hj
  rw [← hn3] at hj'
  have hr' := hr
  rw [← hn4] at hr'
  rw [← hn0, ← hn1, ← hn2] at hB hv1 hv2 hv3 ⊢
  rw [← hn3] at hv1
  rw [← hn4] at hv2
  clear hx0 hcl hcl2 hcl3 hr3 hu1 hu2 hu3 hn0 hn1 hn2 hn3 hn4 hrow
  have hr := hr'
  have hj := hj'
  have hi := hi'
  have hjj : (((i : Int) + 1).toNat) = i + 1 := by omega
  go_enter Tryz.func104, Tryz.ntmps104
  go_wp2
  go_region
  go_wp2
  go_ret
  exact ⟨_, rfl, L1.below HR3.out hB.drew, hB.drew⟩
end Go.Proofs.YtlopenephgabhaaGreat


namespace Go.Proofs.YtlopenephgabhaaGreat
open Go.RowKit

theorem l1_zeros (W : World) (q : Nat) : L1 0 (W.alloc (.cells (madeCells #[.int .i64 0] q) 2)) (.slice (some ⟨W.heap.size, 0, none⟩) q q) (List.replicate q 0) := by
  by_cases h : q = 0
  · subst h; exact .inl ⟨rfl, _, _, rfl⟩
  · refine .inr ⟨W.heap.size, 0, q, by simp, Nat.zero_le _, by simp; omega, fun k hk => ⟨.int .i64 0, ?_, by simp [IsI]⟩⟩
    simp at hk
    rw [Nat.zero_add]
    exact (World.rowIs_made W (.int .i64 0) q _).cell hk

set_option maxRecDepth 100000 in
set_option maxHeartbeats 4000000 in
theorem partOfRow_zero (p : Int) (i j a b r : Nat) (dv av vv : Value) (ds : List (List Int)) (ac dn : List (List (List (List Int)))) (w : World) (h : Dx 0 w dv av vv ds ac dn) (hok : DclOk ds) (hc : (a, b) ∈ cellsTo ds ds.length) (h1 : ¬ (a + 1 = i ∧ b = j)) (h2 : ¬ (a = i ∧ b + 1 = j)) (hi1 : i ≤ 1000) (hj1 : j ≤ 1000) :
    Calls Tryz.prog 104 #[.agg #[.int .i64 p, dv, av, vv], .agg #[.int .i64 (i : Int), .int .i64 (j : Int)], .int .i64 (r : Int), .agg #[.int .i64 (a : Int), .int .i64 (b : Int)]] w fun e w' => ∃ v, e = .returned v ∧ L1 0 w' v (List.replicate (cdim ds (a, b)) 0) ∧ Below w.heap.size w w' := by
  have hcd := cdim_cast hok hc
  have hm := mem_cells.1 hc
  dsimp only at hm hcd
  have hm1 : a ≤ 1000 := by have := hok.len1; omega
  have hm2 : b ≤ 1000 := by
    have h2 := hm.2
    rw [getD_of_lt _ hm.1, (hok.col _ (List.getElem_mem hm.1)).1] at h2
    have := hok.h1
    omega
  have hd4 : cdim ds (a, b) ≤ 1000 := by omega
  have HD : Hid (∀ W, Below w.heap.size w W → Calls Tryz.prog 75 #[.agg #[.int .i64 p, dv, av, vv], .agg #[.int .i64 (a : Int), .int .i64 (b : Int)]] W fun e w' => e = .returned (.int .i64 ((cdim ds (a, b) : Nat) : Int)) ∧ Below w.heap.size w w') := Lib.hid (fun W hb => by
    rw [hcd.1]
    exact (dimOfCell_any p a b _ _ _ ds W (h.dims.below hb) ⟨by have := hok.len1; omega, fun r hr => by have := (hok.col r hr).1; have := hok.h1; show r.length ≤ _; omega⟩ (by omega) (by omega) (by omega) (fun _ => by simp only [Int.toNat_natCast]; exact Int.ofNat_lt.2 hm.2)).mono fun _ _ hh => ⟨hh.1, hb.trans (hh.2.mono hb.size)⟩)
  obtain ⟨ad, cd, rfl⟩ := Sl.shape h.dims
  obtain ⟨aa, ca, rfl⟩ := Sl.shape h.across
  obtain ⟨ae, ce, rfl⟩ := Sl.shape h.down
  clear h
  obtain ⟨n0, hn0⟩ : ∃ n, n = ds.length := ⟨_, rfl⟩
  obtain ⟨n1, hn1⟩ : ∃ n, n = ac.length := ⟨_, rfl⟩
  obtain ⟨n2, hn2⟩ : ∃ n, n = dn.length := ⟨_, rfl⟩
  rw [← hn0, ← hn1, ← hn2] at HD ⊢
  obtain ⟨q, hq⟩ : ∃ q, q = cdim ds (a, b) := ⟨_, rfl⟩
  rw [← hq] at HD hd4 ⊢
  clear hn0 hn1 hn2 hcd hm hq hok hc
  have hmk := run_make_row' (P := Tryz.prog) 47 2 (.int .i64 0) 8 Tryz.underlying47 Tryz.infoI rfl .i64 .i64 q (by omega) (by omega)
  have HEND : Hid (∀ W1 : World, Below w.heap.size w W1 → ∃ v, Ending.returned (Value.slice (some ⟨W1.heap.size, 0, none⟩) q q) = .returned v ∧ L1 0 (W1.alloc (.cells (madeCells #[.int .i64 0] q) 2)) v (List.replicate q 0) ∧ Below w.heap.size w (W1.alloc (.cells (madeCells #[.int .i64 0] q) 2))) := Lib.hid (fun W1 hb => ⟨_, rfl, l1_zeros _ _, hb.alloc hb.size _⟩)
  by_cases e1 : a + 1 = i
  · subst e1
    have e2 : ¬ ((b : Int) = (j : Int)) := by omega
    go_enter Tryz.func104, Tryz.ntmps104
    go_wp2_with fail
    refine (HD.out _ ?_).mono ?_
    · exact (((Below.refl _ _).alloc (Nat.le_refl _) _).alloc (by simp) _).alloc (by simp; omega) _
    rintro e w2 ⟨rfl, hb2⟩
    go_wp2
    go_ret
    exact HEND.out w2 hb2
  · by_cases e3 : a = i
    · subst e3
      have e2 : ¬ ((b : Int) = (j : Int) - 1) := by omega
      go_enter Tryz.func104, Tryz.ntmps104
      go_wp2_with fail
      refine (HD.out _ ?_).mono ?_
      · exact (((Below.refl _ _).alloc (Nat.le_refl _) _).alloc (by simp) _).alloc (by simp; omega) _
      rintro e w2 ⟨rfl, hb2⟩
      go_wp2
      go_ret
      exact HEND.out w2 hb2
    · have e2 : ¬ ((a : Int) = (i : Int) - 1) := by omega
      have e4 : ¬ ((a : Int) = (i : Int)) := by omega
      go_enter Tryz.func104, Tryz.ntmps104
      go_wp2_with fail
      refine (HD.out _ ?_).mono ?_
      · exact (((Below.refl _ _).alloc (Nat.le_refl _) _).alloc (by simp) _).alloc (by simp; omega) _
      rintro e w2 ⟨rfl, hb2⟩
      go_wp2
      go_ret
      exact HEND.out w2 hb2

/-- The part, as a whole. -/
theorem partOfRow_any (p : Int) (f c : Nat × Nat) (r : Nat) (dv av vv : Value) (ds : List (List Int)) (ac dn : List (List (List (List Int)))) (w : World) (h : Dx 0 w dv av vv ds ac dn) (hok : DclOk ds) (ht : TbsOk p ds ac dn) (hf : f ∈ cellsTo ds ds.length) (hc : c ∈ cellsTo ds ds.length) (hr : r < cdim ds f) :
    Calls Tryz.prog 104 #[.agg #[.int .i64 p, dv, av, vv], .agg #[.int .i64 (f.1 : Int), .int .i64 (f.2 : Int)], .int .i64 (r : Int), .agg #[.int .i64 (c.1 : Int), .int .i64 (c.2 : Int)]] w fun e w' => ∃ v, e = .returned v ∧ L1 0 w' v (prt ds ac dn f r c) ∧ Below w.heap.size w w' := by
  obtain ⟨i, j⟩ := f
  obtain ⟨a, b⟩ := c
  dsimp only
  have hmf := mem_cells.1 hf
  dsimp only at hmf
  have hi1 : i ≤ 1000 := by have := hok.len1; omega
  have hcol : (ds.getD i []).length = (ds.getD 0 []).length := by rw [getD_of_lt _ hmf.1]; exact (hok.col _ (List.getElem_mem hmf.1)).1
  have hj1 : j ≤ 1000 := by have := hok.h1; omega
  have hcd := cdim_cast hok hf
  obtain ⟨ta, td⟩ := ht.tab _ hf
  dsimp only at hcd ta td
  have hr1 : r ≤ 1000 := by omega
  by_cases h1 : a + 1 = i ∧ b = j
  · obtain ⟨rfl, rfl⟩ := h1
    have hia : a + 1 < ac.length := by rw [ht.la]; exact hmf.1
    have hj : b < (ac[a + 1]).length := by have := ht.ca (a + 1) hmf.1; rw [getD_of_lt _ hia] at this; rw [this]; exact hmf.2
    have hl := ta.1
    rw [getD_of_lt _ hia, getD_of_lt _ hj] at hl
    have hr' : r < ((ac[a + 1])[b]).length := by omega
    rw [prt_a (f := (a + 1, b)) (c := (a, b)) r ⟨rfl, rfl⟩]
    unfold tbl
    dsimp only
    rw [getD_of_lt _ hia, getD_of_lt _ hj, getD_of_lt _ hr']
    exact partOfRow_across p a b r dv av vv ds ac dn w h hia hj hr' (by omega) (by omega) hr1
  · by_cases h2 : a = i ∧ b + 1 = j
    · obtain ⟨rfl, rfl⟩ := h2
      have hia : a < dn.length := by rw [ht.ld]; exact hmf.1
      have hj : b + 1 < (dn[a]).length := by have := ht.cd a hmf.1; rw [getD_of_lt _ hia] at this; rw [this]; exact hmf.2
      have hl := td.1
      rw [getD_of_lt _ hia, getD_of_lt _ hj] at hl
      have hr' : r < ((dn[a])[b + 1]).length := by omega
      rw [prt_d (f := (a, b + 1)) (c := (a, b)) r ⟨rfl, rfl⟩]
      unfold tbl
      dsimp only
      rw [getD_of_lt _ hia, getD_of_lt _ hj, getD_of_lt _ hr']
      exact partOfRow_down p a b r dv av vv ds ac dn w h hia hj hr' (by omega) (by omega) hr1
    · rw [prt_o (f := (i, j)) (c := (a, b)) r h1 h2]
      exact partOfRow_zero p i j a b r dv av vv ds ac dn w h hok hc h1 h2 hi1 hj1
end Go.Proofs.YtlopenephgabhaaGreat

