/-
  The law's helpers on bars by contract: szBarS, toBar, toBarS, eqBar, eqBarS; bars that came in.
-/
import Derived.Test.YtchijefibiaphaaBar
import Derived.Test.YtchijefibiaphaaQg
import Derived.Test.YtchijefibiaphaaQb
import Derived.Test.YtchijefibiaphaaQe
import Derived.Test.YtchijefibiaphaaQh
import Derived.Test.YtchijefibiaphaaP4
import Derived.Test.YtchijefibiaphaaQc
import Derived.Deep.Strs
namespace Go.Proofs.Ytchijefibiaphaa
open Go.RowKit

theorem Try.infoIBar : (Try.prog.info? 53).map (fun i => (i.zero, i.size, i.bytes)) = some (some (.agg #[.int .i64 0, .int .i64 0, .int .i64 0]), 3, 24) := by kernel_rfl
theorem Try.cellsLB : Try.prog.cellsOf 88 = 3 := by kernel_rfl
theorem hloadBL (w : World) {b o : Nat} {x y z : Value} (c0 : w.cell? ⟨b, o, none⟩ = some x) (c1 : w.cell? ⟨b, o + 1, none⟩ = some y) (c2 : w.cell? ⟨b, o + 2, none⟩ = some z) : (Instr.loadAt 88 (.pointer (some ⟨b, o, none⟩))).run Try.prog w = .ok (.agg #[x, y, z]) w := by go_simp
theorem hloadBI (w : World) {b o : Nat} {x y z : Value} (c0 : w.cell? ⟨b, o, none⟩ = some x) (c1 : w.cell? ⟨b, o + 1, none⟩ = some y) (c2 : w.cell? ⟨b, o + 2, none⟩ = some z) : (Instr.loadAt 53 (.pointer (some ⟨b, o, none⟩))).run Try.prog w = .ok (.agg #[x, y, z]) w := by go_simp

set_option maxHeartbeats 400000 in
theorem szB_any {lo : Nat} (v : Value) (xs : List B3) (left : Int) (w : World) (h : Br lo w v xs) (h0 : 0 ≤ left) (h1 : left ≤ 1048576) (hm : xs.length ≤ 9223372036854775807) :
    Calls Try.prog 27 #[v, .int .i64 left] w (SzR left (xs.length ≤ 1048576) w) := by
  obtain ⟨ad, cap, rfl⟩ := h.shape
  by_cases hlt : left - xs.length < 0
  · go_enter Try.func27, Try.ntmps27
    go_wp2
    go_ret
    exact ⟨_, rfl, rfl, Or.inl rfl⟩
  · go_enter Try.func27, Try.ntmps27
    go_wp2
    go_ret
    exact ⟨_, rfl, rfl, Or.inr ⟨by omega, by omega, by omega⟩⟩

set_option maxHeartbeats 800000 in
theorem toBar_any (x : B3) (w : World) : Calls Try.prog 73 #[bvl x] w (BR (bvl x) w) := by
  have hres : Try.f73.results = #[.cell 2 53] := by kernel_rfl
  have HRES := Lib.hid hres
  clear hres
  unfold bvl
  obtain ⟨a, b, d⟩ := x
  dsimp only
  go_enter Try.func73, Try.ntmps73
  go_wp2
  refine bodyPost_ret (v := .agg #[.int .i64 a, .int .i64 b, .int .i64 d]) ?_ rfl ?_
  · simp only [results, HRES.out]
    go_simp
  · refine ⟨rfl, ?_⟩
    repeat (first | exact Below.refl _ _ | (refine Below.setCell ?_ (by first | exact Nat.le_refl _ | (show w.heap.size ≤ w.heap.size + 1; omega) | (simp; done) | (simp; omega)) _) | (refine Below.alloc ?_ (by first | exact Nat.le_refl _ | (simp; done) | (simp; omega)) _))

/-- Bars in a block that a call has made. -/
def BrW (lo hi : Nat) (w : World) (v : Value) (xs : List B3) : Prop :=
  (xs = [] ∧ ∃ ad cap, v = .slice ad 0 cap) ∨
  ∃ b cap f, v = .slice (some ⟨b, 0, none⟩) xs.length cap ∧ lo ≤ b ∧ b < hi ∧ 0 < xs.length ∧ w.rowIs b 53 (xs.length * 3) f ∧ ∀ k (h : k < xs.length), f (k * 3) = .int .i64 xs[k].1 ∧ f (k * 3 + 1) = .int .i64 xs[k].2.1 ∧ f (k * 3 + 2) = .int .i64 xs[k].2.2
theorem BrW.br {lo hi : Nat} {w : World} {v : Value} {xs : List B3} (h : BrW lo hi w v xs) : Br lo w v xs := by
  rcases h with h | ⟨b, cap, f, hv, hlo, _, hpos, hr, hf⟩
  · exact Or.inl h
  · refine Or.inr ⟨b, 0, cap, hv, hlo, hpos, fun k hk => ?_⟩
    obtain ⟨e0, e1, e2⟩ := hf k hk
    rw [← e0, ← e1, ← e2]
    exact ⟨by simpa using hr.cell (i := k * 3) (by omega), by simpa using hr.cell (i := k * 3 + 1) (by omega), by simpa using hr.cell (i := k * 3 + 2) (by omega)⟩
theorem BrW.shape {lo hi : Nat} {w : World} {v : Value} {xs : List B3} (h : BrW lo hi w v xs) : ∃ ad cap, v = .slice ad xs.length cap := h.br.shape
theorem BrW.same {lo hi : Nat} {w w' : World} {v : Value} {xs : List B3} (h : BrW lo hi w v xs) (hs : Same lo hi w w') : BrW lo hi w' v xs := by
  rcases h with h | ⟨b, cap, f, hv, hlo, hhi, hpos, hr, hf⟩
  · exact Or.inl h
  · exact Or.inr ⟨b, cap, f, hv, hlo, hhi, hpos, hr.of_block (hs b hlo hhi), hf⟩
def ToBW (xs : List B3) (w : World) (e : Ending) (w' : World) : Prop := ∃ v, e = .returned v ∧ BrW w.heap.size w'.heap.size w' v xs ∧ Below w.heap.size w w'

theorem rowIs_made3 (w : World) (n : Nat) (t : TypeId) : (w.alloc (.cells (madeCells #[.int .i64 0, .int .i64 0, .int .i64 0] n) t)).rowIs w.heap.size t n (fun _ => .int .i64 0) := by
  have h := World.rowIs_alloc w (madeCells #[.int .i64 0, .int .i64 0, .int .i64 0] n) t (fun _ => .int .i64 0) (fun i hi => by
    have hi' : i < n := by rw [size_madeCells] at hi; exact hi
    have e : (madeCells #[.int .i64 0, .int .i64 0, .int .i64 0] n)[i]? = some ((#[.int .i64 0, .int .i64 0, .int .i64 0] : Array Value)[i % 3]!) := by simp [madeCells, hi']
    have : i % 3 = 0 ∨ i % 3 = 1 ∨ i % 3 = 2 := by omega
    rw [e]
    rcases this with h | h | h <;> rw [h] <;> rfl)
  rwa [size_madeCells] at h
theorem run_makeBars (n : Nat) (hn : n ≤ 1048576) (w : World) : (Instr.makeSlice 42 (.int .i64 (n : Int)) (.int .i64 (n : Int))).run Try.prog w = .ok (.slice (some ⟨w.heap.size, 0, none⟩) n n) (w.alloc (.cells (madeCells #[.int .i64 0, .int .i64 0, .int .i64 0] (n * 3)) 53)) := by
  obtain ⟨i, hi, hz, hs, hb⟩ := info_parts Try.infoIBar
  have hr := run_make (P := Try.prog) w 42 53 i _ (by kernel_rfl) hi hz .i64 .i64 n n (by omega) (Int.le_refl _) (by rw [hb]; omega) (by omega)
  simp only [Int.toNat_natCast, hs] at hr
  exact hr

/-- Bars of which the first k are copied. -/
structure FillB (w wr : World) (k : Nat) (xs : List B3) (f : Nat → Value) : Prop where
  below : Below w.heap.size w wr
  row : wr.rowIs w.heap.size 53 (xs.length * 3) f
  done : ∀ j (h : j < xs.length), j < k → f (j * 3) = .int .i64 xs[j].1 ∧ f (j * 3 + 1) = .int .i64 xs[j].2.1 ∧ f (j * 3 + 2) = .int .i64 xs[j].2.2
theorem FillB.next {w wr w1 : World} {k : Nat} {xs : List B3} {f : Nat → Value} (h : FillB w wr k xs f) (hb : Below wr.heap.size wr w1) : FillB w w1 k xs f :=
  ⟨h.below.trans (hb.mono h.below.size), h.row.of_block (hb.block _ h.row.lt), h.done⟩
theorem FillB.step {w wr : World} {k : Nat} {xs : List B3} {f : Nat → Value} (h : FillB w wr k xs f) (hk : k < xs.length) :
    FillB w (((wr.setCell ⟨w.heap.size, k * 3, none⟩ (.int .i64 xs[k].1)).setCell ⟨w.heap.size, k * 3 + 1, none⟩ (.int .i64 xs[k].2.1)).setCell ⟨w.heap.size, k * 3 + 2, none⟩ (.int .i64 xs[k].2.2)) (k + 1) xs (fun j => if j = k * 3 + 2 then .int .i64 xs[k].2.2 else if j = k * 3 + 1 then .int .i64 xs[k].2.1 else if j = k * 3 then .int .i64 xs[k].1 else f j) := by
  refine ⟨((h.below.setCell (Nat.le_refl _) _).setCell (Nat.le_refl _) _).setCell (Nat.le_refl _) _, ((h.row.set _ _).set _ _).set _ _, fun j hj hjk => ?_⟩
  by_cases e : j = k
  · subst e
    refine ⟨?_, ?_, ?_⟩
    · rw [if_neg (by omega), if_neg (by omega), if_pos rfl]
    · rw [if_neg (by omega), if_pos rfl]
    · rw [if_pos rfl]
  · obtain ⟨h0, h1, h2⟩ := h.done j hj (by omega)
    refine ⟨?_, ?_, ?_⟩
    · rw [if_neg (by omega), if_neg (by omega), if_neg (by omega), h0]
    · rw [if_neg (by omega), if_neg (by omega), if_neg (by omega), h1]
    · rw [if_neg (by omega), if_neg (by omega), if_neg (by omega), h2]

set_option maxHeartbeats 1600000 in
set_option maxRecDepth 100000 in
theorem toBw_any (v : Value) (xs : List B3) (w : World) (h : Br 0 w v xs) (hm : xs.length ≤ 1048576) :
    Calls Try.prog 29 #[v] w (ToBW xs w) := by
  have hmk := run_makeBars xs.length hm
  refine Br.cases h (fun ad cap hx hv => ?_) (fun b o cap hv _ hpos hc => ?_)
  · subst hx hv
    have hmk0 : ∀ w, (Instr.makeSlice 42 (.int .i64 0) (.int .i64 0)).run Try.prog w = .ok (.slice (some ⟨w.heap.size, 0, none⟩) 0 0) (w.alloc (.cells #[] 53)) := fun _ => by kernel_rfl
    clear hmk
    go_enter Try.func29, Try.ntmps29
    go_wp2
    refine wp_loop_rounds 1 ?_
    rw [rounds_succ]
    go_wp2
    go_ret
    exact ⟨_, rfl, Or.inl ⟨rfl, _, _, rfl⟩, (Below.refl _ _).alloc (Nat.le_refl _) _⟩
  · subst hv
    clear h
    have HC := Lib.hid hc
    have HF0 : Hid (FillB w (w.alloc (.cells (madeCells #[.int .i64 0, .int .i64 0, .int .i64 0] (xs.length * 3)) 53)) 0 xs (fun _ => .int .i64 0)) := Lib.hid ⟨below_alloc1 _ _, rowIs_made3 _ _ _, fun _ _ h => absurd h (Nat.not_lt_zero _)⟩
    clear hc
    go_enter Try.func29, Try.ntmps29
    go_wp2
    clear hmk
    go_loopw [4] (fun i wr => ∃ (k : Nat) (f : Nat → Value), k ≤ xs.length ∧ i = .int .i64 k ∧ Hid (FillB w wr k xs f)) (fun i _ => xs.length - (intOf i).toNat)
    case atStart => exact ⟨0, _, Nat.zero_le _, rfl, HF0⟩
    case round =>
      clear HF0
      obtain ⟨k, f, hk, rfl, HF⟩ := hrel
      by_cases hlt2 : k < xs.length
      · have hkl : (k : Int) < (xs.length : Int) := by omega
        obtain ⟨q0, q1, q2⟩ := HC.out k hlt2
        obtain ⟨x, hx⟩ : ∃ x, x = xs[k] := ⟨_, rfl⟩
        rw [← hx] at q0 q1 q2
        have HX := Lib.hid hx
        have p0 := later HF.out.below (Nat.le_refl _) q0
        have p1 := later HF.out.below (Nat.le_refl _) q1
        have p2 := later HF.out.below (Nat.le_refl _) q2
        clear q0 q1 q2 hx
        go_wp2_with fail
        refine (toBar_any x wr).mono ?_
        rintro e w2 ⟨rfl, hb2⟩
        have HF2 := Lib.hid (HF.out.next hb2)
        have r0 := HF2.out.row.cell (i := k * 3) (by omega)
        have r1 := HF2.out.row.cell (i := k * 3 + 1) (by omega)
        have r2 := HF2.out.row.cell (i := k * 3 + 2) (by omega)
        have z0 := HF2.out.row.frozen (k * 3)
        have z1 := HF2.out.row.frozen (k * 3 + 1)
        have z2 := HF2.out.row.frozen (k * 3 + 2)
        have HS := Lib.hid (HF2.out.step hlt2)
        rw [← HX.out] at HS
        clear hb2 p0 p1 p2
        unfold bvl
        go_wp2
        go_roundw
        case rel => exact ⟨k + 1, _, by omega, by go_num, HS⟩
        case measure => simp [intOf]; omega
      · have hkl : ¬ (k : Int) < (xs.length : Int) := by omega
        obtain rfl : k = xs.length := by omega
        go_wp2
        go_ret
        exact ⟨_, rfl, Or.inr ⟨w.heap.size, _, f, rfl, Nat.le_refl _, HF.out.row.lt, hpos, HF.out.row, fun k hk => HF.out.done k hk hk⟩, HF.out.below⟩
theorem toB_any (v : Value) (xs : List B3) (w : World) (h : Br 0 w v xs) (hm : xs.length ≤ 1048576) :
    Calls Try.prog 29 #[v] w (fun e w' => ∃ v, e = .returned v ∧ Br w.heap.size w' v xs ∧ Below w.heap.size w w') :=
  (toBw_any v xs w h hm).mono fun _ _ ⟨v, he, h1, h2⟩ => ⟨v, he, h1.br, h2⟩

set_option maxHeartbeats 800000 in
theorem eqBar_any (x : B3) (w : World) : Calls Try.prog 40 #[bvl x, bvl x] w (BR (.bool true) w) := by
  obtain ⟨a, b, d⟩ := x
  unfold bvl
  dsimp only
  have h1 : (a != a) = false := by simp
  have h2 : (b != b) = false := by simp
  have h3 : (d != d) = false := by simp
  go_enter Try.func40, Try.ntmps40
  go_wp2
  go_ret
  exact ⟨rfl, (below_alloc1 _ _).trans ((below_alloc1 _ _).mono (by simp))⟩

section
variable {H : Type} {enc : TypeId × Value → H} {w : World} {base : Nat} {held : Bool}
open Go.ChangeShapes Go.WideShapes Go.ChangeAt Go.Deep
theorem list3 {α : Type} {l : List α} (h : l.length = 3) : ∃ a b c, l = [a, b, c] := by
  match l, h with
  | [a, b, c], _ => exact ⟨a, b, c, rfl⟩
set_option maxRecDepth 100000 in
theorem bars_of_trod {fuel : Nat} {v : Value} {x : DataW H × List MemPlace} (h : DataW.trod enc Try.prog w base (fun _ => true) held fuel 39 [v] = some x) : ∃ xs : List B3, Br 0 w v xs ∧ xs.length ≤ 9223372036854775807 := by
  rcases open_slice Try.underlying39 h with ⟨hcs, _⟩ | ⟨a, len, cap, m, n, D, Ql, hcs, _, hl, hm, hmm, _, hx⟩
  · obtain rfl : v = .slice none 0 0 := by simpa using hcs
    exact ⟨[], Or.inl ⟨rfl, _, _, rfl⟩, by simp⟩
  · obtain rfl : v = .slice (some a) len cap := by simpa using hcs
    simp only [if_true] at hmm
    have each : ∀ i, i < len → ∃ y : B3, w.cell? (a.add (i * 3)) = some (.int .i64 y.1) ∧ w.cell? (a.add (i * 3 + 1)) = some (.int .i64 y.2.1) ∧ w.cell? (a.add (i * 3 + 2)) = some (.int .i64 y.2.2) := by
      intro i hi
      obtain ⟨cs', h1, h2⟩ := hx i (by omega)
      rw [Try.cellsLB] at h1
      obtain ⟨_, hlen, hcell⟩ := World.cells?_some h1
      obtain ⟨y0, y1, y2, n', _, _, g0, g1, g2⟩ := trod_struct3 Try.underlying88 h2
      obtain ⟨v0, v1, v2, rfl⟩ := list3 hlen
      have e0 := hcell 0 (by omega)
      have e1 := hcell 1 (by omega)
      have e2 := hcell 2 (by omega)
      rw [add_add] at e0 e1 e2
      simp [Try.cellsI] at g0 g1 g2
      obtain ⟨q0, k0, _, _⟩ := DataW.trod_int Try.underlying2 g0
      obtain ⟨q1, k1, _, _⟩ := DataW.trod_int Try.underlying2 g1
      obtain ⟨q2, k2, _, _⟩ := DataW.trod_int Try.underlying2 g2
      obtain rfl : v0 = .int .i64 q0 := by simpa using k0
      obtain rfl : v1 = .int .i64 q1 := by simpa using k1
      obtain rfl : v2 = .int .i64 q2 := by simpa using k2
      exact ⟨(q0, q1, q2), by simpa using e0, by simpa using e1, by simpa using e2⟩
    obtain ⟨f, hf⟩ := choose_lt each
    refine ⟨(List.range len).map f, ?_, by simpa [maxLen] using Nat.le_trans hl hm⟩
    by_cases h0 : len = 0
    · subst h0
      exact Or.inl ⟨rfl, _, _, rfl⟩
    · obtain ⟨b, off, spot⟩ := a
      have hspot : spot = none := by simpa [Addr.add] using World.cell?_spot (hf 0 (by omega)).1
      subst hspot
      refine Or.inr ⟨b, off, cap, by simp, Nat.zero_le _, by simp; omega, fun k hk => ?_⟩
      have hk' : k < len := by simpa using hk
      obtain ⟨e0, e1, e2⟩ := hf k hk'
      simp only [List.getElem_map, List.getElem_range]
      exact ⟨by simpa [Go.WideShapes.add_plain] using e0, by simpa [Go.WideShapes.add_plain, Nat.add_assoc] using e1, by simpa [Go.WideShapes.add_plain, Nat.add_assoc] using e2⟩
end
end Go.Proofs.Ytchijefibiaphaa
