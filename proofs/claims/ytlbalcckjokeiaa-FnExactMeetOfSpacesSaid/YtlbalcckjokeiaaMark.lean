/-
  laws.toComplex once more, in a span of blocks; laws.markInt64S, markInt64SS, markInt64SSS, markComplex and heldInt64S, by their contracts.
-/
import Derived.Test.YtlbalcckjokeiaaOwn
import Derived.Test.YtlbalcckjokeiaaBase
namespace Go.Proofs.Ytlbalcckjokeiaa
open Go.RowKit

structure CxW (lo hi : Nat) (w : World) (dv mv : Value) (ds : List Int) (ms : List (List (List Int))) : Prop where
  dims : W1 lo hi w dv ds
  maps : W3 lo hi w mv ms
theorem CxW.same {lo hi : Nat} {w w' : World} {dv mv : Value} {ds : List Int} {ms : List (List (List Int))} (h : CxW lo hi w dv mv ds ms) (hs : Same lo hi w w') : CxW lo hi w' dv mv ds ms := ⟨h.dims.same hs, h.maps.same hs⟩
theorem CxW.cx {lo hi : Nat} {w : World} {dv mv : Value} {ds : List Int} {ms : List (List (List Int))} (h : CxW lo hi w dv mv ds ms) : Cx lo w dv mv ds ms := ⟨h.dims.l1, h.maps.l3⟩
def ToCW (p : Int) (ds : List Int) (ms : List (List (List Int))) (w : World) (e : Ending) (w' : World) : Prop :=
  ∃ dv mv, e = .returned (.agg #[.int .i64 p, dv, mv]) ∧ CxW w.heap.size w'.heap.size w' dv mv ds ms ∧ Below w.heap.size w w'

set_option maxHeartbeats 800000 in
theorem toComplexw_any (p : Int) (dv mv : Value) (ds : List Int) (ms : List (List (List Int))) (w : World) (h : Cx 0 w dv mv ds ms) (hd : ds.length ≤ 1048576) (hm : Bd3 1048576 ms) :
    Calls Try.prog 28 #[.agg #[.int .i64 p, dv, mv]] w (ToCW p ds ms w) := by
  have HM := Lib.hid hm
  have H := Lib.hid h
  clear hm h
  have hres : Try.f28.results = #[.cell 2 37] := by kernel_rfl
  have HRES := Lib.hid hres
  clear hres
  go_enter Try.func28, Try.ntmps28
  go_wp2_with fail
  have hb0 : Below w.heap.size w (((w.alloc (.cells #[.int .i64 p, dv, mv] 34)).alloc (.cells #[.int .i64 0, .slice none 0 0, .slice none 0 0] 37)).alloc (.cells #[.int .i64 p, .slice none 0 0, .slice none 0 0] 37)) :=
    (((Below.refl _ _).alloc (Nat.le_refl _) _).alloc (by simp) _).alloc (by simp; omega) _
  have HB0 := Lib.hid hb0
  clear hb0
  refine (to1w_any dv ds _ (H.out.dims.below HB0.out) hd).mono ?_
  rintro e w1 ⟨u1, rfl, hr1, hb1⟩
  obtain ⟨ad1, cap1, rfl⟩ := Sw.shape hr1
  have hz : w.heap.size + 3 ≤ w1.heap.size := by have := hb1.size; simp at this; omega
  obtain ⟨hc, hf⟩ := bcell hb1
  have HR1 := Lib.hid hr1
  have HB1 := Lib.hid hb1
  clear hr1 hb1
  have hz1b : w.heap.size + 1 < w1.heap.size := by omega
  have hz1 : w.heap.size + 1 + 1 < w1.heap.size := by omega
  have HR1' : Hid (W1 (w.heap.size + 1 + 1 + 1) w1.heap.size (w1.setCell ⟨w.heap.size + 1 + 1, 1, none⟩ (.slice ad1 ds.length cap1)) (.slice ad1 ds.length cap1) ds) := Lib.hid ((HR1.out.wider (by simp) (Nat.le_refl _)).same (Same.set _ (Or.inl (Nat.lt_succ_self _))))
  clear HR1
  go_wp2_with fail
  have hb2 : Below w.heap.size w (w1.setCell ⟨w.heap.size + 1 + 1, 1, none⟩ (.slice ad1 ds.length cap1)) := (HB0.out.trans (HB1.out.mono (by simp; omega))).setCell (by show w.heap.size ≤ w.heap.size + 1 + 1; omega) _
  have HB2 := Lib.hid hb2
  clear hb2
  refine (to3w_any mv ms _ (H.out.maps.below HB2.out) HM.out).mono ?_
  rintro e w2 ⟨u2, rfl, hr2, hb3⟩
  obtain ⟨ad2, cap2, rfl⟩ := Sw.shape hr2
  have hz2 : w1.heap.size ≤ w2.heap.size := by have := hb3.size; simpa using this
  have HR1 : Hid (W1 (w.heap.size + 1 + 1 + 1) w1.heap.size w2 (.slice ad1 ds.length cap1) ds) := Lib.hid (HR1'.out.same (Same.of_below hb3 (by simp)))
  obtain ⟨hc2, hf2⟩ := bcell hb3
  have HR2 : Hid (W3 (w.heap.size + 1 + 1 + 1) w2.heap.size w2 (.slice ad2 ms.length cap2) ms) := Lib.hid (hr2.wider (by simp; omega) (Nat.le_refl _))
  have HB3 := Lib.hid hb3
  clear hr2 hb3 HR1'
  go_wp2
  refine bodyPost_ret (v := .agg #[.int .i64 p, .slice ad1 ds.length cap1, .slice ad2 ms.length cap2]) ?_ rfl ?_
  · simp only [results, HRES.out]
    go_simp
  · have hk : ∀ hi, Same (w.heap.size + 1 + 1 + 1) hi w2 ((((w2.setCell ⟨w.heap.size + 1 + 1, 2, none⟩ (.slice ad2 ms.length cap2)).setCell ⟨w.heap.size + 1, 0, none⟩ (.int .i64 p)).setCell ⟨w.heap.size + 1, 1, none⟩ (.slice ad1 ds.length cap1)).setCell ⟨w.heap.size + 1, 2, none⟩ (.slice ad2 ms.length cap2)) :=
      fun hi => (((Same.set _ (Or.inl (by omega))).trans (Same.set _ (Or.inl (by omega)))).trans (Same.set _ (Or.inl (by omega)))).trans (Same.set _ (Or.inl (by omega)))
    refine ⟨_, _, rfl, ⟨?_, ?_⟩, ?_⟩
    · exact (HR1.out.same (hk _)).wider (by omega) (by simp; omega)
    · exact (HR2.out.same (hk _)).wider (by omega) (by simp)
    · exact ((((HB2.out.trans (HB3.out.mono (by simp; omega))).setCell (by show w.heap.size ≤ w.heap.size + 1 + 1; omega) _).setCell (by show w.heap.size ≤ w.heap.size + 1; omega) _).setCell (by show w.heap.size ≤ w.heap.size + 1; omega) _).setCell (by show w.heap.size ≤ w.heap.size + 1; omega) _

/-- Only blocks from lo up to hi may have been written. -/
structure Only (lo hi : Nat) (w w' : World) : Prop where
  os : w'.os = w.os
  tape : w'.tape = w.tape
  output : w'.output = w.output
  size : w'.heap.size = w.heap.size
  block : ∀ b, (b < lo ∨ hi ≤ b) → w'.heap[b]? = w.heap[b]?
theorem Only.refl (lo hi : Nat) (w : World) : Only lo hi w w := ⟨rfl, rfl, rfl, rfl, fun _ _ => rfl⟩
theorem Only.trans {lo hi : Nat} {a b c : World} (h : Only lo hi a b) (k : Only lo hi b c) : Only lo hi a c := ⟨k.os.trans h.os, k.tape.trans h.tape, k.output.trans h.output, k.size.trans h.size, fun i hi => (k.block i hi).trans (h.block i hi)⟩
theorem Only.wider {lo hi lo' hi' : Nat} {a b : World} (h : Only lo hi a b) (h1 : lo' ≤ lo) (h2 : hi ≤ hi') : Only lo' hi' a b := ⟨h.os, h.tape, h.output, h.size, fun i hi => h.block i (by omega)⟩
theorem Only.set {lo hi g o : Nat} {w : World} (u : Value) (h1 : lo ≤ g) (h2 : g < hi) : Only lo hi w (w.setCell ⟨g, o, none⟩ u) := ⟨rfl, rfl, rfl, by simp, fun b hb => Below.heap_setCell w ⟨g, o, none⟩ u b (by show b ≠ g; omega)⟩
theorem Only.below {lo hi B : Nat} {w w' : World} (h : Only lo hi w w') (hB : B ≤ lo) : Below B w w' := ⟨h.os, h.tape, h.output, Nat.le_of_eq h.size.symm, fun k hk => h.block k (Or.inl (by omega))⟩
theorem Only.same {lo hi lo' hi' : Nat} {w w' : World} (h : Only lo hi w w') (hd : hi' ≤ lo ∨ hi ≤ lo') : Same lo' hi' w w' := fun b hl hh => h.block b (by omega)
theorem Only.cell {lo hi : Nat} {w w' : World} (h : Only lo hi w w') {b o : Nat} (hb : b < lo ∨ hi ≤ b) : w'.cell? ⟨b, o, none⟩ = w.cell? ⟨b, o, none⟩ := World.cell?_of_block (w := w) (a := ⟨b, o, none⟩) (h.block b hb)
theorem Only.frozen {lo hi : Nat} {w w' : World} (h : Only lo hi w w') {b o : Nat} (hb : b < lo ∨ hi ≤ b) : w'.frozen? ⟨b, o, none⟩ = w.frozen? ⟨b, o, none⟩ := World.frozen?_of_block (w := w) (a := ⟨b, o, none⟩) (h.block b hb)

/-- The numbers from k on, n of them. -/
def upFrom (k : Int) (n : Nat) : List Int := (List.range n).map (fun (i : Nat) => k + (i : Int))
theorem upFrom_length (k : Int) (n : Nat) : (upFrom k n).length = n := by simp [upFrom]

/-- Numbers have been written over numbers, nothing else. -/
structure Tame (w w' : World) : Prop where
  slices : ∀ b o a n c, w.cell? ⟨b, o, none⟩ = some (.slice a n c) → w'.cell? ⟨b, o, none⟩ = some (.slice a n c)
  nums : ∀ b o x, w.cell? ⟨b, o, none⟩ = some (.int .i64 x) → ∃ y, w'.cell? ⟨b, o, none⟩ = some (.int .i64 y)
  frozen : ∀ b o, w'.frozen? ⟨b, o, none⟩ = w.frozen? ⟨b, o, none⟩
theorem Tame.refl (w : World) : Tame w w := ⟨fun _ _ _ _ _ h => h, fun _ _ x h => ⟨x, h⟩, fun _ _ => rfl⟩
theorem Tame.trans {a b c : World} (h : Tame a b) (k : Tame b c) : Tame a c :=
  ⟨fun i o x n m hh => k.slices i o x n m (h.slices i o x n m hh), fun i o x hh => by obtain ⟨y, hy⟩ := h.nums i o x hh; exact k.nums i o y hy, fun i o => (k.frozen i o).trans (h.frozen i o)⟩
theorem Tame.set {w : World} {b o : Nat} {x y : Int} (h : w.cell? ⟨b, o, none⟩ = some (.int .i64 x)) : Tame w (w.setCell ⟨b, o, none⟩ (.int .i64 y)) := by
  refine ⟨fun b2 o2 a n c hh => ?_, fun b2 o2 z hh => ?_, fun _ _ => World.frozen?_setCell _ _ _ _⟩
  · by_cases e : (⟨b, o, none⟩ : Addr) = ⟨b2, o2, none⟩
    · rw [← e, h] at hh
      cases hh
    · rw [World.cell?_setCell_other _ _ _ _ e]
      exact hh
  · by_cases e : (⟨b, o, none⟩ : Addr) = ⟨b2, o2, none⟩
    · rw [← e]
      exact ⟨y, World.cell?_setCell_same _ _ _ h⟩
    · rw [World.cell?_setCell_other _ _ _ _ e]
      exact ⟨z, hh⟩

/-- Some number. -/
def AnyI (_ : World) (v : Value) (_ : Int) : Prop := ∃ x : Int, v = .int .i64 x
def T1 (lo hi : Nat) := Sw lo hi AnyI
def T2 (lo hi : Nat) := Sw lo hi (T1 lo hi)
def T3 (lo hi : Nat) := Sw lo hi (T2 lo hi)
theorem W1.t1 {lo hi : Nat} {w : World} {v : Value} {xs : List Int} (h : W1 lo hi w v xs) : T1 lo hi w v xs := Sw.wider (Nat.le_refl _) (Nat.le_refl _) (fun _ _ x h => ⟨x, h⟩) h
theorem W2.t2 {lo hi : Nat} {w : World} {v : Value} {xs : List (List Int)} (h : W2 lo hi w v xs) : T2 lo hi w v xs := Sw.wider (Nat.le_refl _) (Nat.le_refl _) (fun _ _ _ h => h.t1) h
theorem W3.t3 {lo hi : Nat} {w : World} {v : Value} {xs : List (List (List Int))} (h : W3 lo hi w v xs) : T3 lo hi w v xs := Sw.wider (Nat.le_refl _) (Nat.le_refl _) (fun _ _ _ h => h.t2) h
theorem T1.tame {lo hi : Nat} {w w' : World} {v : Value} {xs : List Int} (h : T1 lo hi w v xs) (ht : Tame w w') : T1 lo hi w' v xs := by
  rcases h with h | ⟨b, o, cap, hv, hlo, hhi, hpos, hc, hf⟩
  · exact Or.inl h
  · refine Or.inr ⟨b, o, cap, hv, hlo, hhi, hpos, fun k hk' => ?_, fun k hk' => (ht.frozen _ _).trans (hf k hk')⟩
    obtain ⟨u, hu, x, rfl⟩ := hc k hk'
    obtain ⟨y, hy⟩ := ht.nums _ _ _ hu
    exact ⟨_, hy, y, rfl⟩
theorem tame_sw {α : Type} {lo hi : Nat} {R : World → Value → List α → Prop} (hs : ∀ w v x, R w v x → ∃ a n c, v = .slice a n c) {w w' : World} (hR : ∀ v x, R w v x → R w' v x) {v : Value} {xs : List (List α)} (h : Sw lo hi R w v xs) (ht : Tame w w') : Sw lo hi R w' v xs := by
  rcases h with h | ⟨b, o, cap, hv, hlo, hhi, hpos, hc, hf⟩
  · exact Or.inl h
  · refine Or.inr ⟨b, o, cap, hv, hlo, hhi, hpos, fun k hk' => ?_, fun k hk' => (ht.frozen _ _).trans (hf k hk')⟩
    obtain ⟨u, hu, hr⟩ := hc k hk'
    obtain ⟨a, n, c, rfl⟩ := hs _ _ _ hr
    exact ⟨_, ht.slices _ _ _ _ _ hu, hR _ _ hr⟩
theorem T2.tame {lo hi : Nat} {w w' : World} {v : Value} {xs : List (List Int)} (h : T2 lo hi w v xs) (ht : Tame w w') : T2 lo hi w' v xs :=
  tame_sw (fun _ _ x h => by obtain ⟨a, c, e⟩ := Sw.shape h; exact ⟨a, _, c, e⟩) (fun _ _ h => T1.tame h ht) h ht
theorem T3.tame {lo hi : Nat} {w w' : World} {v : Value} {xs : List (List (List Int))} (h : T3 lo hi w v xs) (ht : Tame w w') : T3 lo hi w' v xs :=
  tame_sw (fun _ _ x h => by obtain ⟨a, c, e⟩ := Sw.shape h; exact ⟨a, _, c, e⟩) (fun _ _ h => T2.tame h ht) h ht

def MarkR (lo hi : Nat) (v : Value) (k : Int) (n : Nat) (w : World) (e : Ending) (w' : World) : Prop := e = .returned (.int .i64 (k + n)) ∧ Only lo hi w w' ∧ Tame w w' ∧ W1 lo hi w' v (upFrom k n)

set_option maxHeartbeats 800000 in
theorem mark1_any {lo hi : Nat} (v : Value) (xs : List Int) (k : Int) (w : World) (h : T1 lo hi w v xs) (hm : xs.length ≤ 1048576) (hk0 : 0 ≤ k) (hk1 : k ≤ 4611686018427387904) :
    Calls Try.prog 37 #[v, .int .i64 k] w (MarkR lo hi v k xs.length w) := by
  refine Sw.cases h (fun ad cap hx hv => ?_) (fun b o cap hv hlo hhi hpos hc hf => ?_)
  · subst hx hv
    go_enter Try.func37, Try.ntmps37
    go_wp2
    refine wp_loop_rounds 1 ?_
    rw [rounds_succ]
    go_wp2
    go_ret
    exact ⟨ret_int (by simp), Only.refl _ _ _, Tame.refl _, Or.inl ⟨rfl, _, _, rfl⟩⟩
  · subst hv
    clear h
    have HC := Lib.hid hc
    have HF := Lib.hid hf
    clear hc hf
    go_enter Try.func37, Try.ntmps37
    go_wp2
    go_loopw [1, 5] (fun kk i wr => ∃ (j : Nat), j ≤ xs.length ∧ i = .int .i64 j ∧ kk = .int .i64 (k + (j : Int)) ∧ Hid (Only lo hi w wr ∧ Tame w wr) ∧ Hid (∀ q, q < xs.length → ∃ x, wr.cell? ⟨b, o + q, none⟩ = some (.int .i64 x) ∧ (q < j → x = k + (q : Int))) ∧ Hid (∀ q, q < xs.length → wr.frozen? ⟨b, o + q, none⟩ = false)) (fun _ i _ => xs.length - (intOf i).toNat)
    case atStart => exact ⟨0, Nat.zero_le _, rfl, by simp, Lib.hid ⟨Only.refl _ _ _, Tame.refl _⟩, Lib.hid (fun q hq => by
      obtain ⟨u, hu, x, hr⟩ := HC.out q hq
      exact ⟨x, by rw [hu, hr], fun h => absurd h (Nat.not_lt_zero _)⟩), HF⟩
    case round =>
      obtain ⟨j, hj, rfl, rfl, HO, HX, HZ⟩ := hrel
      by_cases hlt : j < xs.length
      · obtain ⟨x, hx, _⟩ := HX.out j hlt
        have hz := HZ.out j hlt
        have HN : Hid (∀ q, q < xs.length → ∃ x, (wr.setCell ⟨b, o + j, none⟩ (.int .i64 (k + (j : Int)))).cell? ⟨b, o + q, none⟩ = some (.int .i64 x) ∧ (q < j + 1 → x = k + (q : Int))) := Lib.hid (fun q hq => by
          obtain ⟨y, hy, hy2⟩ := HX.out q hq
          by_cases e : q = j
          · subst e
            exact ⟨k + (q : Int), World.cell?_setCell_same _ _ _ hy, fun _ => rfl⟩
          · refine ⟨y, ?_, fun h => hy2 (by omega)⟩
            rw [World.cell?_setCell_other _ _ _ _ (fun hh => e (by have h2 := congrArg Addr.off hh; exact (Nat.add_left_cancel h2).symm))]
            exact hy)
        have HZ2 : Hid (∀ q, q < xs.length → (wr.setCell ⟨b, o + j, none⟩ (.int .i64 (k + (j : Int)))).frozen? ⟨b, o + q, none⟩ = false) := Lib.hid (fun q hq => by rw [World.frozen?_setCell]; exact HZ.out q hq)
        have HO2 : Hid (Only lo hi w (wr.setCell ⟨b, o + j, none⟩ (.int .i64 (k + (j : Int)))) ∧ Tame w (wr.setCell ⟨b, o + j, none⟩ (.int .i64 (k + (j : Int))))) := Lib.hid ⟨HO.out.1.trans (Only.set _ hlo hhi), HO.out.2.trans (Tame.set hx)⟩
        go_wp2
        go_roundw
        case rel => exact ⟨j + 1, by omega, by go_num, by go_num, HO2, HN, HZ2⟩
        case measure => simp [intOf]; omega
      · have hjj : Hid (j = xs.length) := Lib.hid (by omega)
        go_wp2
        go_ret
        refine ⟨ret_int (by rw [hjj.out]), HO.out.1, HO.out.2, Or.inr ⟨b, o, cap, by rw [upFrom_length], hlo, hhi, by rw [upFrom_length]; exact hpos, fun q hq => ?_, fun q hq => HZ.out q (by rw [upFrom_length] at hq; exact hq)⟩⟩
        rw [upFrom_length] at hq
        obtain ⟨x, hx, hx2⟩ := HX.out q hq
        refine ⟨_, hx, ?_⟩
        simp only [IsI, upFrom, List.getElem_map, List.getElem_range]
        rw [hx2 (by have := hjj.out; omega)]

set_option maxHeartbeats 800000 in
theorem held1_any {lo : Nat} (v : Value) (n : Nat) (k : Int) (w : World) (h : L1 lo w v (upFrom k n)) (hm : n ≤ 1048576) (hk0 : 0 ≤ k) (hk1 : k ≤ 4611686018427387904) :
    Calls Try.prog 38 #[v, .int .i64 k] w (QW (.int .i64 (k + n)) w) := by
  refine Sl.cases h (fun ad cap hx hv => ?_) (fun b o cap hv _ hpos hc => ?_)
  · have hn : n = 0 := by have := upFrom_length k n; rw [hx] at this; simpa using this.symm
    subst hn hv
    clear hx h
    go_enter Try.func38, Try.ntmps38
    go_wp2
    refine wp_loop_rounds 1 ?_
    rw [rounds_succ]
    go_wp2
    go_ret
    exact ⟨ret_int (by simp), rfl⟩
  · rw [upFrom_length] at hv hpos
    subst hv
    clear h
    have HC := Lib.hid hc
    clear hc
    go_enter Try.func38, Try.ntmps38
    go_wp2
    go_loop [1, 5] (fun kk i => ∃ (j : Nat), j ≤ n ∧ i = .int .i64 j ∧ kk = .int .i64 (k + (j : Int))) (fun _ i => n - (intOf i).toNat)
    case atStart => exact ⟨0, Nat.zero_le _, rfl, by simp⟩
    case round =>
      obtain ⟨j, hj, rfl, rfl⟩ := hrel
      by_cases hlt : j < n
      · obtain ⟨u, hu, hr⟩ := HC.out j (by rw [upFrom_length]; exact hlt)
        have hu2 : w.cell? ⟨b, o + j, none⟩ = some (.int .i64 (k + (j : Int))) := by
          rw [hu, hr]
          simp only [upFrom, List.getElem_map, List.getElem_range]
        clear hu hr
        have hq : ((k + (j : Int)) != (k + (j : Int))) = false := by simp
        go_wp2
        go_round
        case rel => exact ⟨j + 1, by omega, by go_num, by go_num⟩
        case measure => simp [intOf]; omega
      · have hjj : Hid (j = n) := Lib.hid (by omega)
        go_wp2
        go_ret
        exact ⟨ret_int (by rw [hjj.out]), rfl⟩

/-- A mark of something deep: a number not less and not much greater; only numbers in the span were written. -/
def MarkD (lo hi : Nat) (k top : Int) (w : World) (e : Ending) (w' : World) : Prop := ∃ r : Int, e = .returned (.int .i64 r) ∧ k ≤ r ∧ r ≤ top ∧ Only lo hi w w' ∧ Tame w w'

set_option maxHeartbeats 800000 in
theorem mark2_any {lo hi : Nat} (v : Value) (xs : List (List Int)) (k : Int) (w : World) (h : T2 lo hi w v xs) (hm : Bd2 1048576 xs) (hk0 : 0 ≤ k) (hk1 : k ≤ 2305843009213693952) :
    Calls Try.prog 20 #[v, .int .i64 k] w (MarkD lo hi k (k + 1048576 * (xs.length : Int)) w) := by
  have hml : xs.length ≤ 1048576 := hm.1
  have HM := Lib.hid hm
  have H := Lib.hid h
  clear hm
  refine Sw.cases h (fun ad cap hx hv => ?_) (fun b o cap hv hlo hhi hpos hc hf => ?_)
  · subst hx hv
    clear h
    go_enter Try.func20, Try.ntmps20
    go_wp2
    refine wp_loop_rounds 1 ?_
    rw [rounds_succ]
    go_wp2
    go_ret
    exact ⟨k, rfl, Int.le_refl _, by simp, Only.refl _ _ _, Tame.refl _⟩
  · subst hv
    clear h
    have HC := Lib.hid hc
    clear hc hf
    go_enter Try.func20, Try.ntmps20
    go_wp2
    go_loopw [1, 5] (fun kk i wr => ∃ (j : Nat) (r : Int), j ≤ xs.length ∧ i = .int .i64 j ∧ kk = .int .i64 r ∧ k ≤ r ∧ r ≤ k + 1048576 * (j : Int) ∧ Hid (Only lo hi w wr ∧ Tame w wr)) (fun _ i _ => xs.length - (intOf i).toNat)
    case atStart => exact ⟨0, k, Nat.zero_le _, rfl, rfl, Int.le_refl _, by simp, Lib.hid ⟨Only.refl _ _ _, Tame.refl _⟩⟩
    case round =>
      obtain ⟨j, r, hj, rfl, rfl, hr0, hr1, HO⟩ := hrel
      by_cases hlt : j < xs.length
      · obtain ⟨u, hu, hr⟩ := HC.out j hlt
        obtain ⟨a1, c1, hu1⟩ := Sw.shape hr
        rw [hu1] at hu hr
        have hu' := HO.out.2.slices _ _ _ _ _ hu
        have HR := Lib.hid (T1.tame hr HO.out.2)
        have hmx : (xs[j]).length ≤ 1048576 := HM.out.2 _ (List.getElem_mem hlt)
        clear hu hr hu1
        go_wp2_with fail
        refine (mark1_any _ xs[j] r _ HR.out hmx (by omega) (by omega)).mono ?_
        rintro e w2 ⟨rfl, ho, ht, _⟩
        have HO2 := Lib.hid (And.intro (HO.out.1.trans ho) (HO.out.2.trans ht))
        clear ho ht
        go_wp2
        go_roundw
        case rel => exact ⟨j + 1, r + ((xs[j]).length : Int), by omega, by go_num, rfl, by omega, by omega, HO2⟩
        case measure => simp [intOf]; omega
      · have hjj : Hid (j = xs.length) := Lib.hid (by omega)
        go_wp2
        go_ret
        exact ⟨r, rfl, hr0, by have := hjj.out; omega, HO.out.1, HO.out.2⟩

set_option maxHeartbeats 800000 in
theorem mark3_any {lo hi : Nat} (v : Value) (xs : List (List (List Int))) (k : Int) (w : World) (h : T3 lo hi w v xs) (hm : Bd3 1048576 xs) (hk0 : 0 ≤ k) (hk1 : k ≤ 1048577) :
    Calls Try.prog 76 #[v, .int .i64 k] w (MarkD lo hi k (k + 1099511627776 * (xs.length : Int)) w) := by
  have hml : xs.length ≤ 1048576 := hm.1
  have HM := Lib.hid hm
  refine Sw.cases h (fun ad cap hx hv => ?_) (fun b o cap hv hlo hhi hpos hc hf => ?_)
  · subst hx hv
    clear h hm
    go_enter Try.func76, Try.ntmps76
    go_wp2
    refine wp_loop_rounds 1 ?_
    rw [rounds_succ]
    go_wp2
    go_ret
    exact ⟨k, rfl, Int.le_refl _, by simp, Only.refl _ _ _, Tame.refl _⟩
  · subst hv
    clear h hm
    have HC := Lib.hid hc
    clear hc hf
    go_enter Try.func76, Try.ntmps76
    go_wp2
    go_loopw [1, 5] (fun kk i wr => ∃ (j : Nat) (r : Int), j ≤ xs.length ∧ i = .int .i64 j ∧ kk = .int .i64 r ∧ k ≤ r ∧ r ≤ k + 1099511627776 * (j : Int) ∧ Hid (Only lo hi w wr ∧ Tame w wr)) (fun _ i _ => xs.length - (intOf i).toNat)
    case atStart => exact ⟨0, k, Nat.zero_le _, rfl, rfl, Int.le_refl _, by simp, Lib.hid ⟨Only.refl _ _ _, Tame.refl _⟩⟩
    case round =>
      obtain ⟨j, r, hj, rfl, rfl, hr0, hr1, HO⟩ := hrel
      by_cases hlt : j < xs.length
      · obtain ⟨u, hu, hr⟩ := HC.out j hlt
        obtain ⟨a1, c1, hu1⟩ := Sw.shape hr
        rw [hu1] at hu hr
        have hu' := HO.out.2.slices _ _ _ _ _ hu
        have HR := Lib.hid (T2.tame hr HO.out.2)
        have hmy : (xs[j]).length ≤ 1048576 := (HM.out.2 _ (List.getElem_mem hlt)).1
        clear hu hr hu1
        go_wp2_with fail
        refine (mark2_any _ xs[j] r _ HR.out (HM.out.2 _ (List.getElem_mem hlt)) (by omega) (by omega)).mono ?_
        rintro e w2 ⟨r2, rfl, hs0, hs1, ho, ht⟩
        have HO2 := Lib.hid (And.intro (HO.out.1.trans ho) (HO.out.2.trans ht))
        clear ho ht
        go_wp2
        go_roundw
        case rel => exact ⟨j + 1, r2, by omega, by go_num, rfl, by omega, by omega, HO2⟩
        case measure => simp [intOf]; omega
      · have hjj : Hid (j = xs.length) := Lib.hid (by omega)
        go_wp2
        go_ret
        exact ⟨r, rfl, hr0, by have := hjj.out; omega, HO.out.1, HO.out.2⟩

structure CxT (lo hi : Nat) (w : World) (dv mv : Value) (ds : List Int) (ms : List (List (List Int))) : Prop where
  dims : T1 lo hi w dv ds
  maps : T3 lo hi w mv ms
theorem CxW.t {lo hi : Nat} {w : World} {dv mv : Value} {ds : List Int} {ms : List (List (List Int))} (h : CxW lo hi w dv mv ds ms) : CxT lo hi w dv mv ds ms := ⟨h.dims.t1, h.maps.t3⟩

/-- What markComplex leaves: new blocks, and numbers written in the span alone. -/
def MarkC (lo hi : Nat) (k : Int) (w : World) (e : Ending) (w' : World) : Prop :=
  ∃ (r : Int) (w1 : World), e = .returned (.int .i64 r) ∧ k ≤ r ∧ r ≤ k + 1152921504607895552 ∧ Below w.heap.size w w1 ∧ Only lo hi w1 w' ∧ Tame w1 w'

set_option maxHeartbeats 800000 in
theorem markComplex_any {lo hi : Nat} (p : Int) (dv mv : Value) (ds : List Int) (ms : List (List (List Int))) (w : World) (h : CxW lo hi w dv mv ds ms) (hh : hi ≤ w.heap.size) (hd : ds.length ≤ 1048576) (hm : Bd3 1048576 ms) :
    Calls Try.prog 31 #[.agg #[.int .i64 p, dv, mv], .int .i64 1] w (MarkC lo hi 1 w) := by
  have HM := Lib.hid hm
  have hml : ms.length ≤ 1048576 := hm.1
  have hb0 : Below w.heap.size w (w.alloc (.cells #[.int .i64 p, dv, mv] 37)) := (Below.refl _ _).alloc (Nat.le_refl _) _
  have HC := Lib.hid (h.same (Same.of_below hb0 hh)).t
  have HB0 := Lib.hid hb0
  clear h hm hb0
  go_enter Try.func31, Try.ntmps31
  go_wp2_with fail
  refine (mark1_any dv ds 1 _ HC.out.dims hd (by omega) (by omega)).mono ?_
  rintro e w1 ⟨rfl, ho, ht, _⟩
  have c2 : w1.cell? ⟨w.heap.size, 2, none⟩ = some mv := (ho.cell (Or.inr hh)).trans (by simp)
  have HO := Lib.hid (And.intro ho ht)
  clear ho ht
  go_wp2_with fail
  refine (mark3_any mv ms _ _ (HC.out.maps.tame HO.out.2) HM.out (by omega) (by omega)).mono ?_
  rintro e w2 ⟨r2, rfl, hs0, hs1, ho, ht⟩
  have HO2 := Lib.hid (And.intro (HO.out.1.trans ho) (HO.out.2.trans ht))
  clear ho ht
  go_wp2
  go_ret
  exact ⟨r2, _, rfl, by omega, by omega, HB0.out, HO2.out.1, HO2.out.2⟩
end Go.Proofs.Ytlbalcckjokeiaa
