/-
  Texts that ProofPbl needs, part 3.
-/
import Derived.Test.YtchijefibiaphaaZq2
import Derived.Test.YtchijefibiaphaaChecked
import Derived.Outline
import Derived.Deep.RegionHeld3
import Derived.Test.YtchijefibiaphaaRows
import Derived.ProofKit
import Derived.OpenShut
import Derived.ChangeOld
import Derived.Deep.Slices
import Derived.Lib.SmallJoins
import Derived.KernelRfl
import Derived.Deep.Strs
import Derived.Deep.MidRow
import Derived.Deep.Cut
import Derived.Deep.CutRange
import Derived.Great.Walk
import Derived.WideKeyArr
import Derived.Maps.OwnOps
import Derived.Maps.OwnSet
import Derived.Carry
import Derived.Great.BuildSlice
import Derived.Laws.CopyRow
import Derived.Lib.Overlaps
import Derived.Lib.AppendZerosOnto
import Derived.Lib.JoinLaws
import Derived.Deep.RegionLaw
import Derived.Deep.LoopGhost
import Derived.WalkMore
import Derived.OwnWalk
import Derived.Laws.AppendOwn
import Derived.Deep.AppendLies
import Derived.Lib.AppendZeros
import Derived.Deep.QuietTactic
import Derived.BigQuiet
import Derived.BigRegion
import Derived.StillTailTactics
import Derived.Laws.EntriesVeiled
namespace Go.Proofs.Ytchijefibiaphaa
open Go.RowKit

set_option maxHeartbeats 400000 in
theorem sz1_any {lo : Nat} (v : Value) (xs : List Int) (left : Int) (w : World) (h : L1 lo w v xs) (h0 : 0 ≤ left) (h1 : left ≤ 1048576) (hm : xs.length ≤ 9223372036854775807) :
    Calls Try.prog 59 #[v, .int .i64 left] w (SzR left (Bd1 1048576 xs) w) := by
  obtain ⟨ad, cap, rfl⟩ := Sl.shape h
  by_cases hlt : left - xs.length < 0
  · go_enter Try.func59, Try.ntmps59
    go_wp2
    go_ret
    exact ⟨_, rfl, rfl, Or.inl rfl⟩
  · go_enter Try.func59, Try.ntmps59
    go_wp2
    go_ret
    exact ⟨_, rfl, rfl, Or.inr ⟨by omega, by omega, by unfold Bd1; omega⟩⟩

set_option maxHeartbeats 400000 in
theorem sz2_any {lo : Nat} (v : Value) (xs : List (List Int)) (left : Int) (w : World) (h : L2 lo w v xs) (h0 : 0 ≤ left) (h1 : left ≤ 1048576) (hm : Bd2 9223372036854775807 xs) :
    Calls Try.prog 60 #[v, .int .i64 left] w (SzR left (Bd2 1048576 xs) w) := by
  have hm0 : xs.length ≤ 9223372036854775807 := hm.1
  refine Sl.cases h (fun ad cap hx hv => ?_) (fun b o cap hv _ hpos hc => ?_)
  · subst hx hv
    go_enter Try.func60, Try.ntmps60
    go_wp2
    refine wp_loop_rounds 1 ?_
    rw [rounds_succ]
    go_wp2
    go_ret
    exact ⟨_, rfl, rfl, Or.inr ⟨by omega, by omega, by simp [Bd2]⟩⟩
  · subst hv
    clear h
    by_cases hlt : left - xs.length < 0
    · go_enter Try.func60, Try.ntmps60
      go_wp2
      go_ret
      exact ⟨_, rfl, rfl, Or.inl rfl⟩
    · have HM := Lib.hid hm
      have HC := Lib.hid hc
      clear hm hc
      go_enter Try.func60, Try.ntmps60
      go_wp2
      go_loop [1, 5] (fun l i => ∃ (k : Nat) (r : Int), k ≤ xs.length ∧ i = .int .i64 k ∧ l = .int .i64 r ∧ 0 ≤ r ∧ r ≤ left ∧ Hid (∀ j (hj : j < xs.length), j < k → Bd1 1048576 xs[j])) (fun _ i => xs.length - (intOf i).toNat)
      case atStart => exact ⟨0, _, Nat.zero_le _, rfl, rfl, by omega, by omega, Lib.hid (fun _ _ h => absurd h (Nat.not_lt_zero _))⟩
      case round =>
        obtain ⟨k, r, hk, rfl, rfl, hr0, hr1, HD⟩ := hrel
        by_cases hlt2 : k < xs.length
        · obtain ⟨u, hu, hr⟩ := HC.out k hlt2
          have hmu : (xs[k]).length ≤ 9223372036854775807 := HM.out.2 _ (List.getElem_mem hlt2)
          go_wp2_with fail
          refine (sz1_any u xs[k] r _ hr hr0 (by omega) hmu).mono ?_
          rintro e w' ⟨r2, rfl, rfl, hpost⟩
          rcases hpost with rfl | ⟨hp0, hp1, hp2⟩
          · go_wp2
            go_ret
            exact ⟨_, rfl, rfl, Or.inl rfl⟩
          · go_wp2
            go_round
            case rel => exact ⟨k + 1, r2, by omega, by go_num, rfl, hp0, by omega, Lib.hid (fun j hj hjk => by
              by_cases e : j = k
              · subst e; exact hp2
              · exact HD.out j hj (by omega))⟩
            case measure => simp [intOf]; omega
        · go_wp2
          go_ret
          exact ⟨_, rfl, rfl, Or.inr ⟨hr0, hr1, by omega, fun x hx => by
            obtain ⟨j, hj, rfl⟩ := List.getElem_of_mem hx
            exact HD.out j hj (by omega)⟩⟩
set_option maxHeartbeats 400000 in
theorem sz3_any {lo : Nat} (v : Value) (xs : List (List (List Int))) (left : Int) (w : World) (h : L3 lo w v xs) (h0 : 0 ≤ left) (h1 : left ≤ 1048576) (hm : Bd3 9223372036854775807 xs) :
    Calls Try.prog 15 #[v, .int .i64 left] w (SzR left (Bd3 1048576 xs) w) := by
  have hm0 : xs.length ≤ 9223372036854775807 := hm.1
  refine Sl.cases h (fun ad cap hx hv => ?_) (fun b o cap hv _ hpos hc => ?_)
  · subst hx hv
    go_enter Try.func15, Try.ntmps15
    go_wp2
    refine wp_loop_rounds 1 ?_
    rw [rounds_succ]
    go_wp2
    go_ret
    exact ⟨_, rfl, rfl, Or.inr ⟨by omega, by omega, by simp [Bd3]⟩⟩
  · subst hv
    clear h
    by_cases hlt : left - xs.length < 0
    · go_enter Try.func15, Try.ntmps15
      go_wp2
      go_ret
      exact ⟨_, rfl, rfl, Or.inl rfl⟩
    · have HM := Lib.hid hm
      have HC := Lib.hid hc
      clear hm hc
      go_enter Try.func15, Try.ntmps15
      go_wp2
      go_loop [1, 5] (fun l i => ∃ (k : Nat) (r : Int), k ≤ xs.length ∧ i = .int .i64 k ∧ l = .int .i64 r ∧ 0 ≤ r ∧ r ≤ left ∧ Hid (∀ j (hj : j < xs.length), j < k → Bd2 1048576 xs[j])) (fun _ i => xs.length - (intOf i).toNat)
      case atStart => exact ⟨0, _, Nat.zero_le _, rfl, rfl, by omega, by omega, Lib.hid (fun _ _ h => absurd h (Nat.not_lt_zero _))⟩
      case round =>
        obtain ⟨k, r, hk, rfl, rfl, hr0, hr1, HD⟩ := hrel
        by_cases hlt2 : k < xs.length
        · obtain ⟨u, hu, hr⟩ := HC.out k hlt2
          have hmu : Bd2 9223372036854775807 xs[k] := HM.out.2 _ (List.getElem_mem hlt2)
          go_wp2_with fail
          refine (sz2_any u xs[k] r _ hr hr0 (by omega) hmu).mono ?_
          rintro e w' ⟨r2, rfl, rfl, hpost⟩
          rcases hpost with rfl | ⟨hp0, hp1, hp2⟩
          · go_wp2
            go_ret
            exact ⟨_, rfl, rfl, Or.inl rfl⟩
          · go_wp2
            go_round
            case rel => exact ⟨k + 1, r2, by omega, by go_num, rfl, hp0, by omega, Lib.hid (fun j hj hjk => by
              by_cases e : j = k
              · subst e; exact hp2
              · exact HD.out j hj (by omega))⟩
            case measure => simp [intOf]; omega
        · go_wp2
          go_ret
          exact ⟨_, rfl, rfl, Or.inr ⟨hr0, hr1, by omega, fun x hx => by
            obtain ⟨j, hj, rfl⟩ := List.getElem_of_mem hx
            exact HD.out j hj (by omega)⟩⟩

set_option maxHeartbeats 400000 in
theorem szComplex_any (p : Int) (dv mv : Value) (ds : List Int) (ms : List (List (List Int))) (left : Int) (w : World) (hd : L1 0 w dv ds) (hm : L3 0 w mv ms) (h0 : 0 ≤ left) (h1 : left ≤ 1048576)
    (hdl : ds.length ≤ 9223372036854775807) (hml : Bd3 9223372036854775807 ms) :
    Calls Try.prog 14 #[.agg #[.int .i64 p, dv, mv], .int .i64 left] w (SzB left (Bd1 1048576 ds ∧ Bd3 1048576 ms) w) := by
  have HML := Lib.hid hml
  have HD := Lib.hid hd
  have HM := Lib.hid hm
  clear hml hd hm
  go_enter Try.func14, Try.ntmps14
  go_wp2_with fail
  have hb1 : Below w.heap.size w (w.alloc (.cells #[.int .i64 p, dv, mv] 25)) := (Below.refl _ _).alloc (Nat.le_refl _) _
  refine (sz1_any (lo := 0) dv ds left _ (HD.out.below hb1) h0 h1 hdl).mono ?_
  rintro e w' ⟨r, rfl, rfl, hpost⟩
  rcases hpost with rfl | ⟨hp0, hp1, hp2⟩
  · go_wp2
    go_ret
    exact ⟨_, rfl, hb1, Or.inl rfl⟩
  · go_wp2_with fail
    refine (sz3_any (lo := 0) mv ms r _ (HM.out.below hb1) hp0 (by omega) HML.out).mono ?_
    rintro e w' ⟨r2, rfl, rfl, hpost⟩
    rcases hpost with rfl | ⟨hq0, hq1, hq2⟩
    · go_wp2
      go_ret
      exact ⟨_, rfl, hb1, Or.inl rfl⟩
    · go_wp2
      go_ret
      exact ⟨_, rfl, hb1, Or.inr ⟨hq0, by omega, hp2, hq2⟩⟩
end Go.Proofs.Ytchijefibiaphaa

namespace Go.Proofs.Ytchijefibiaphaa
open Go.RowKit

structure Fi (lo : Nat) (w : World) (dv mv lv : Value) (ds : List Int) (ms : List (List (List Int))) (ls : List (List Int)) : Prop where
  cx : Cx lo w dv mv ds ms
  lv : L2 lo w lv ls
theorem Fi.below {lo : Nat} {w w' : World} {dv mv lv : Value} {ds : List Int} {ms : List (List (List Int))} {ls : List (List Int)} (h : Fi lo w dv mv lv ds ms ls) (hb : Below w.heap.size w w') : Fi lo w' dv mv lv ds ms ls := ⟨h.cx.below hb, h.lv.below hb⟩
theorem Fi.zero {lo : Nat} {w : World} {dv mv lv : Value} {ds : List Int} {ms : List (List (List Int))} {ls : List (List Int)} (h : Fi lo w dv mv lv ds ms ls) : Fi 0 w dv mv lv ds ms ls := ⟨h.cx.zero, h.lv.lower (Nat.zero_le _)⟩
theorem Fi.drew {lo : Nat} {w : World} {dv mv lv : Value} {ds : List Int} {ms : List (List (List Int))} {ls : List (List Int)} (h : Fi lo w dv mv lv ds ms ls) : Fi lo w.drew dv mv lv ds ms ls := h.below (Below.refl _ _).drew
theorem Fi.shapes {lo : Nat} {w : World} {dv mv lv : Value} {ds : List Int} {ms : List (List (List Int))} {ls : List (List Int)} (h : Fi lo w dv mv lv ds ms ls) : (∃ a c, dv = .slice a ds.length c) ∧ (∃ a c, mv = .slice a ms.length c) ∧ ∃ a c, lv = .slice a ls.length c := ⟨h.cx.shapes.1, h.cx.shapes.2, Sl.shape h.lv⟩

/-- What stands in the box of a filtered complex, in whatever later world. -/
structure Fx (w wr : World) (b : Nat) (p : Int) (dv mv lv : Value) (ds : List Int) (ms : List (List (List Int))) (ls : List (List Int)) : Prop where
  below : Below w.heap.size w wr
  c0 : wr.cell? ⟨b, 0, none⟩ = some (.int .i64 p)
  c1 : wr.cell? ⟨b, 1, none⟩ = some dv
  c2 : wr.cell? ⟨b, 2, none⟩ = some mv
  c3 : wr.cell? ⟨b, 3, none⟩ = some lv
  lt : b < wr.heap.size
  fi : Fi 0 wr dv mv lv ds ms ls
theorem Fx.next {w wr w' : World} {b : Nat} {p : Int} {dv mv lv : Value} {ds : List Int} {ms : List (List (List Int))} {ls : List (List Int)} (h : Fx w wr b p dv mv lv ds ms ls) (hb : Below wr.heap.size wr w') : Fx w w' b p dv mv lv ds ms ls :=
  ⟨h.below.trans (hb.mono h.below.size), later hb (Nat.le_refl _) h.c0, later hb (Nat.le_refl _) h.c1, later hb (Nat.le_refl _) h.c2, later hb (Nat.le_refl _) h.c3, Nat.lt_of_lt_of_le h.lt hb.size, h.fi.below hb⟩
theorem Fx.start {w : World} {p : Int} {dv mv lv : Value} {ds : List Int} {ms : List (List (List Int))} {ls : List (List Int)} (t : TypeId) (h : Fi 0 w dv mv lv ds ms ls) : Fx w (w.alloc (.cells #[.int .i64 p, dv, mv, lv] t)) w.heap.size p dv mv lv ds ms ls :=
  ⟨(Below.refl _ _).alloc (Nat.le_refl _) _, by simp, by simp, by simp, by simp, by simp, h.below ((Below.refl _ _).alloc (Nat.le_refl _) _)⟩

end Go.Proofs.Ytchijefibiaphaa

namespace Go.Proofs.Ytchijefibiaphaa
open Go.RowKit

end Go.Proofs.Ytchijefibiaphaa

namespace Go.Proofs.Ytchijefibiaphaa
open Go.RowKit

theorem Fx.all {w wr : World} {b : Nat} {p : Int} {dv mv lv : Value} {ds : List Int} {ms : List (List (List Int))} {ls : List (List Int)} (h : Hid (Fx w wr b p dv mv lv ds ms ls)) :
    wr.cell? ⟨b, 0, none⟩ = some (.int .i64 p) ∧ wr.cell? ⟨b, 1, none⟩ = some dv ∧ wr.cell? ⟨b, 2, none⟩ = some mv ∧ wr.cell? ⟨b, 3, none⟩ = some lv ∧ Hid (Fx w wr b p dv mv lv ds ms ls) := ⟨h.out.c0, h.out.c1, h.out.c2, h.out.c3, h⟩

end Go.Proofs.Ytchijefibiaphaa

namespace Go.Proofs.Ytchijefibiaphaa
open Go.RowKit

end Go.Proofs.Ytchijefibiaphaa

namespace Go.Proofs.Ytchijefibiaphaa
open Go.RowKit

theorem CxW.wider {lo hi lo' hi' : Nat} {w : World} {dv mv : Value} {ds : List Int} {ms : List (List (List Int))} (hl : lo' ≤ lo) (hh : hi ≤ hi') (h : CxW lo hi w dv mv ds ms) : CxW lo' hi' w dv mv ds ms := ⟨h.dims.wider hl hh, h.maps.wider hl hh⟩
structure FiW (lo hi : Nat) (w : World) (dv mv lv : Value) (ds : List Int) (ms : List (List (List Int))) (ls : List (List Int)) : Prop where
  cx : CxW lo hi w dv mv ds ms
  lv : W2 lo hi w lv ls
theorem FiW.same {lo hi : Nat} {w w' : World} {dv mv lv : Value} {ds : List Int} {ms : List (List (List Int))} {ls : List (List Int)} (h : FiW lo hi w dv mv lv ds ms ls) (hs : Same lo hi w w') : FiW lo hi w' dv mv lv ds ms ls := ⟨h.cx.same hs, h.lv.same hs⟩
theorem FiW.fi {lo hi : Nat} {w : World} {dv mv lv : Value} {ds : List Int} {ms : List (List (List Int))} {ls : List (List Int)} (h : FiW lo hi w dv mv lv ds ms ls) : Fi lo w dv mv lv ds ms ls := ⟨h.cx.cx, h.lv.l2⟩
theorem CxT.tame {lo hi : Nat} {w w' : World} {dv mv : Value} {ds : List Int} {ms : List (List (List Int))} (h : CxT lo hi w dv mv ds ms) (ht : Tame w w') : CxT lo hi w' dv mv ds ms := ⟨h.dims.tame ht, h.maps.tame ht⟩

end Go.Proofs.Ytchijefibiaphaa


namespace Go.Proofs.Ytchijefibiaphaa
open Go.ChangeShapes Go.WideShapes Go.ChangeAt Go.RowKit Go.Deep

theorem Try.own : ownKnob Try.prog.godebug = none := by kernel_rfl
theorem Try.laidOut : laidOutB Try.prog = true := by kernel_rfl
theorem Try.cellsI : Try.prog.cellsOf 2 = 1 := by kernel_rfl
theorem Try.cellsS : Try.prog.cellsOf 22 = 1 := by kernel_rfl
theorem Try.cellsSS : Try.prog.cellsOf 61 = 1 := by kernel_rfl
theorem Try.cellsC : Try.prog.cellsOf 25 = 3 := by kernel_rfl

section
variable {H : Type} {enc : TypeId × Value → H} {P : Program} {w : World} {base : Nat} {held : Bool}

theorem sl_of_trod {α : Type} [Inhabited α] {t e : TypeId} (ht : P.underlying t = some (.slice e)) (hc : P.cellsOf e = 1) {R : World → Value → α → Prop} {B : α → Prop}
    (hR : ∀ fuel v x, DataW.trod enc P w base (fun _ => true) held fuel e [v] = some x → ∃ a, R w v a ∧ B a) {fuel : Nat} {v : Value} {x : DataW H × List MemPlace}
    (h : DataW.trod enc P w base (fun _ => true) held fuel t [v] = some x) : ∃ xs : List α, Sl 0 R w v xs ∧ xs.length ≤ 9223372036854775807 ∧ ∀ a ∈ xs, B a := by
  rcases open_slice1 ht hc h with ⟨hcs, _⟩ | ⟨a, len, cap, m, n, V, D, Pl, hcs, _, hl, hm, hmm, _, hx⟩
  · obtain rfl : v = .slice none 0 0 := by simpa using hcs
    exact ⟨[], Or.inl ⟨rfl, _, _, rfl⟩, by simp, by simp⟩
  · obtain rfl : v = .slice (some a) len cap := by simpa using hcs
    simp only [if_true] at hmm
    have each : ∀ i, i < len → ∃ y : α, R w (V i) y ∧ B y := fun i hi => hR n _ _ (hx i (by omega)).2
    obtain ⟨f, hf⟩ := choose_lt each
    refine ⟨(List.range len).map f, ?_, by simpa [maxLen] using Nat.le_trans hl hm, fun y hy => ?_⟩
    · by_cases h0 : len = 0
      · subst h0
        exact Or.inl ⟨rfl, _, _, rfl⟩
      · obtain ⟨b, off, spot⟩ := a
        have hspot : spot = none := by simpa [Addr.add] using World.cell?_spot (hx 0 (by omega)).1
        subst hspot
        refine Or.inr ⟨b, off, cap, by simp, Nat.zero_le _, by simp; omega, fun k hk => ?_⟩
        have hk' : k < len := by simpa using hk
        refine ⟨V k, by rw [← Go.WideShapes.add_plain]; exact (hx k (by omega)).1, ?_⟩
        simp only [List.getElem_map, List.getElem_range]
        exact (hf k hk').1
    · obtain ⟨i, hi, rfl⟩ := List.mem_map.1 hy
      exact (hf i (by simpa using hi)).2
end

section
variable {H : Type} {enc : TypeId × Value → H} {w : World} {base : Nat} {held : Bool}
theorem l1_of_trod {fuel : Nat} {v : Value} {x : DataW H × List MemPlace} (h : DataW.trod enc Try.prog w base (fun _ => true) held fuel 22 [v] = some x) : ∃ xs, L1 0 w v xs ∧ Bd1 9223372036854775807 xs := by
  obtain ⟨xs, h1, h2, _⟩ := sl_of_trod (R := IsI) (B := fun _ => True) Try.underlying22 Try.cellsI (fun fuel v x hh => by
    obtain ⟨a, e0, _, _⟩ := DataW.trod_int Try.underlying2 hh
    exact ⟨a, by simpa [IsI] using e0, trivial⟩) h
  exact ⟨xs, h1, h2⟩
theorem l2_of_trod {fuel : Nat} {v : Value} {x : DataW H × List MemPlace} (h : DataW.trod enc Try.prog w base (fun _ => true) held fuel 61 [v] = some x) : ∃ xs, L2 0 w v xs ∧ Bd2 9223372036854775807 xs := by
  obtain ⟨xs, h1, h2, h3⟩ := sl_of_trod (R := L1 0) (B := Bd1 9223372036854775807) Try.underlying61 Try.cellsS (fun fuel v x hh => l1_of_trod hh) h
  exact ⟨xs, h1, h2, h3⟩
theorem l3_of_trod {fuel : Nat} {v : Value} {x : DataW H × List MemPlace} (h : DataW.trod enc Try.prog w base (fun _ => true) held fuel 23 [v] = some x) : ∃ xs, L3 0 w v xs ∧ Bd3 9223372036854775807 xs := by
  obtain ⟨xs, h1, h2, h3⟩ := sl_of_trod (R := L2 0) (B := Bd2 9223372036854775807) Try.underlying23 Try.cellsSS (fun fuel v x hh => l2_of_trod hh) h
  exact ⟨xs, h1, h2, h3⟩

set_option maxRecDepth 100000 in
theorem complex_of_trod {r : Reach} {b0 : Nat} {v : Value} {d : DataW H} {p : List MemPlace} (hv : Value.okWide Try.prog w r b0 25 v) (h : DataW.Trod enc Try.prog w base (fun _ => true) held 25 v d p) :
    ∃ (q : Int) (dv mv : Value) (ds : List Int) (ms : List (List (List Int))), v = .agg #[.int .i64 q, dv, mv] ∧ Cx 0 w dv mv ds ms ∧ ds.length ≤ 9223372036854775807 ∧ Bd3 9223372036854775807 ms := by
  obtain ⟨v0, v1, v2, y0, y1, y2, m, rfl, rfl, rfl, h0, h1, h2⟩ := Go.Joins.open_agg3 Try.underlying25 (by kernel_rfl) Try.cellsC hv h
  obtain ⟨q, e0, _, _⟩ := DataW.trod_int Try.underlying2 h0
  obtain ⟨ds, hd1, hd2⟩ := l1_of_trod h1
  obtain ⟨ms, hm1, hm2⟩ := l3_of_trod h2
  obtain rfl : v0 = .int .i64 q := by simpa using e0
  unfold Bd1 at hd2
  refine ⟨q, v1, v2, ds, ms, rfl, ⟨hd1, hm1⟩, ?_, ?_⟩
  · exact hd2
  · exact hm2
end
end Go.Proofs.Ytchijefibiaphaa

namespace Go.Proofs.Ytchijefibiaphaa

section
variable {P : Program} {rk : Nat → Nat}
theorem closureVia_le {B : Nat} (h : ∀ g, ∀ x ∈ ((P.funcs[g]?).elim [] P.leadsTo), rk x ≤ rk g) : ∀ (fuel : Nat) (todo seen : List FuncId), (∀ x ∈ todo, rk x ≤ B) → (∀ x ∈ seen, rk x ≤ B) → ∀ x ∈ P.closureVia fuel todo seen, rk x ≤ B := by
  intro fuel
  induction fuel with
  | zero => intro todo seen _ h2 x hx; exact h2 x (by simpa [Program.closureVia] using hx)
  | succ n ih =>
    intro todo seen h1 h2 x hx
    cases todo with
    | nil => exact h2 x (by simpa [Program.closureVia] using hx)
    | cons f todo =>
      rw [Program.closureVia] at hx
      have hf := h1 f (List.mem_cons_self ..)
      split at hx
      · exact ih todo seen (fun y hy => h1 y (List.mem_cons_of_mem _ hy)) h2 x hx
      · refine ih _ _ (fun y hy => ?_) (fun y hy => ?_) x hx
        · rcases List.mem_append.1 hy with hy | hy
          · exact Nat.le_trans (h f y hy) hf
          · exact h1 y (List.mem_cons_of_mem _ hy)
        · rcases List.mem_cons.1 hy with rfl | hy
          · exact hf
          · exact h2 y hy
theorem recurses_false {B : Nat} (hle : ∀ g, ∀ x ∈ ((P.funcs[g]?).elim [] P.leadsTo), rk x ≤ rk g) (hlt : ∀ g, rk g < B → ∀ x ∈ ((P.funcs[g]?).elim [] P.leadsTo), rk x < rk g) {f : FuncId} (hf : rk f < B) (hu : P.unfollowed f = false) : P.recurses f = false := by
  unfold Program.recurses
  rw [hu, Bool.false_or, List.any_eq_false]
  intro g hg
  have h0 := closureVia_le (P := P) (rk := rk) (B := rk f) hle _ [f] [] (by simp) (by simp) g hg
  rw [List.any_eq_true]
  rintro ⟨x, hx, hc⟩
  have h1 := closureVia_le (P := P) (rk := rk) (B := rk x) hle _ [x] [] (by simp) (by simp) g (by
    have := List.contains_iff_mem.1 hc
    exact this)
  have h2 := hlt g (by omega) x hx
  omega
/-- The order told by a list. -/
def ranksOk (P : Program) (l : List Nat) : Bool := (List.range P.funcs.size).all fun g => ((P.funcs[g]?).elim [] P.leadsTo).all fun x => decide (l.getD x 0 < l.getD g 0) || (decide (99999 ≤ l.getD g 0) && decide (l.getD x 0 ≤ l.getD g 0))
theorem ranks_le {l : List Nat} (h : ranksOk P l = true) : ∀ g, ∀ x ∈ ((P.funcs[g]?).elim [] P.leadsTo), l.getD x 0 ≤ l.getD g 0 ∧ (l.getD g 0 < 99999 → l.getD x 0 < l.getD g 0) := by
  intro g x hx
  by_cases hg : g < P.funcs.size
  · have h1 := List.all_eq_true.1 h g (List.mem_range.2 hg)
    have h2 := List.all_eq_true.1 h1 x hx
    rcases Bool.or_eq_true_iff.1 h2 with h3 | h3
    · have := of_decide_eq_true h3
      exact ⟨by omega, fun _ => this⟩
    · obtain ⟨h4, h5⟩ := Bool.and_eq_true_iff.1 h3
      have := of_decide_eq_true h4
      exact ⟨of_decide_eq_true h5, fun _ => by omega⟩
  · rw [Array.getElem?_eq_none (by omega)] at hx
    cases hx
end
def Try.ranks : List Nat := [0, 0, 1, 7, 7, 4, 5, 5, 5, 5, 99999, 11, 11, 5, 3, 2, 4, 3, 2, 6, 3, 2, 4, 6, 3, 2, 3, 0, 3, 1, 3, 1, 3, 4, 3, 4, 3, 4, 3, 4, 0, 3, 99999, 0, 0, 4, 7, 4, 10, 4, 7, 10, 0, 4, 0, 0, 3, 4, 4, 0, 1, 3, 2, 3, 0, 1, 5, 1, 4, 1, 1, 2, 2, 0, 1, 0, 2, 0, 0, 0, 0, 2, 1, 99999, 3, 6, 6, 9, 0, 0, 1, 2, 1, 1, 1, 1, 0, 0, 2, 4, 3, 0, 0, 0, 2, 2, 0, 3, 0, 1, 0, 1, 0, 99999, 1, 2, 0, 5, 1, 5, 2, 4, 4, 5, 0, 8, 0, 7, 1, 0, 0, 0, 1, 1, 2, 1, 2, 1, 0, 0, 0, 0, 1, 3, 3, 0, 0, 0, 0, 0, 0, 3, 4, 1, 0, 7, 5, 1, 6, 0, 2, 0, 2, 1, 2, 1, 1, 0, 1, 1, 6, 2, 0, 0, 4, 1, 1, 0, 0, 3, 0, 0, 0, 2, 1, 0, 0, 0, 0, 0, 0, 0, 0, 0, 0, 0, 0, 0, 0, 0, 0, 0, 0, 0, 0, 0, 0, 0, 0, 0, 0, 0, 0, 0]
set_option maxRecDepth 100000 in
theorem Try.ranked : ranksOk Try.checked.prog Try.ranks = true := by kernel_rfl
theorem Try.recurses {f : FuncId} (hu : Try.checked.prog.unfollowed f = false) (hf : Try.ranks.getD f 0 < 99999 := by decide) : Try.checked.prog.recurses f = false :=
  recurses_false (fun g x hx => (ranks_le Try.ranked g x hx).1) (fun g hg x hx => (ranks_le Try.ranked g x hx).2 hg) hf hu

/-! The program's head, a line of words: parted once. -/
def sp32 : Char := Char.ofNat 32
theorem ws_sp (r : List Char) : wordsSigns (sp32 :: r) = [] :: wordsSigns r := rfl
theorem ws_cons {c : Char} (h : c ≠ sp32) {r w : List Char} {ws : List (List Char)} (e : wordsSigns r = w :: ws) : wordsSigns (c :: r) = (c :: w) :: ws := by
  rw [wordsSigns.eq_def]
  split
  · rename_i h1; cases h1
  · rename_i h1; injection h1 with h1 _; exact absurd h1 h
  · rename_i h1; injection h1 with h1 h2; subst h1 h2; rw [e]
theorem ws_word (r : List Char) : ∀ w : List Char, (∀ c ∈ w, c ≠ sp32) → wordsSigns (w ++ sp32 :: r) = w :: wordsSigns r := by
  intro w
  induction w with
  | nil => intro _; exact ws_sp r
  | cons c w ih => intro h; exact ws_cons (h c (List.mem_cons_self ..)) (ih fun x hx => h x (List.mem_cons_of_mem _ hx))
theorem ws_last : ∀ w : List Char, (∀ c ∈ w, c ≠ sp32) → wordsSigns w = [w] := by
  intro w
  induction w with
  | nil => intro _; rfl
  | cons c w ih => intro h; exact ws_cons (h c (List.mem_cons_self ..)) (ih fun x hx => h x (List.mem_cons_of_mem _ hx))
def joinWords : List Char → List (List Char) → List Char
  | w, [] => w
  | w, v :: ws => w ++ sp32 :: joinWords v ws
theorem ws_join : ∀ (ws : List (List Char)) (w : List Char), (∀ v ∈ w :: ws, ∀ c ∈ v, c ≠ sp32) → wordsSigns (joinWords w ws) = w :: ws := by
  intro ws
  induction ws with
  | nil => intro w h; exact ws_last w (h w (List.mem_cons_self ..))
  | cons v ws ih => intro w h; rw [joinWords, ws_word _ _ (h w (List.mem_cons_self ..)), ih v (fun x hx => h x (List.mem_cons_of_mem _ hx))]
def Try.headWords : List (List Char) := ([[97, 52, 56, 98, 57, 99, 100, 99, 98, 48, 99, 56, 49, 102, 102, 97, 50, 48, 97, 49, 57, 53, 48, 54, 52, 56, 102, 49, 52, 53, 48, 55, 101, 48, 52, 55, 48, 97, 48, 55, 101, 56, 99, 101, 53, 57, 54, 57, 57, 101, 98, 99, 48, 49, 97, 50, 102, 99, 99, 97, 56, 49, 99, 54], [99, 117, 116], [97, 116], [108, 111, 111, 112, 46, 101, 120, 97, 109, 112, 108, 101, 47, 103, 48, 49, 50, 55, 51, 47, 108, 97, 119, 115, 46, 70, 110, 69, 120, 97, 99, 116, 73, 115, 80, 101, 114, 116, 117, 114, 98, 97, 116, 105, 111, 110], [108, 111, 111, 112, 46, 101, 120, 97, 109, 112, 108, 101, 47, 103, 48, 49, 50, 55, 51, 47, 108, 97, 119, 115, 46, 70, 110, 69, 120, 97, 99, 116, 80, 101, 114, 116, 117, 114, 98, 101, 100, 67, 111, 109, 112, 108, 101, 120], [108, 111, 111, 112, 46, 101, 120, 97, 109, 112, 108, 101, 47, 103, 48, 49, 50, 55, 51, 47, 108, 97, 119, 115, 46, 70, 110, 69, 120, 97, 99, 116, 65, 114, 101, 66, 97, 114, 115], [108, 111, 111, 112, 46, 101, 120, 97, 109, 112, 108, 101, 47, 103, 48, 49, 50, 55, 51, 47, 108, 97, 119, 115, 46, 70, 110, 69, 120, 97, 99, 116, 66, 97, 114, 80, 97, 103, 101], [108, 111, 111, 112, 46, 101, 120, 97, 109, 112, 108, 101, 47, 103, 48, 49, 50, 55, 51, 47, 108, 97, 119, 115, 46, 70, 110, 69, 120, 97, 99, 116, 67, 111, 117, 110, 116, 76, 97, 115, 116, 105, 110, 103], [108, 111, 111, 112, 46, 101, 120, 97, 109, 112, 108, 101, 47, 103, 48, 49, 50, 55, 51, 47, 108, 97, 119, 115, 46, 70, 110, 69, 120, 97, 99, 116, 84, 111, 116, 97, 108, 76, 101, 110, 103, 116, 104], [108, 111, 111, 112, 46, 101, 120, 97, 109, 112, 108, 101, 47, 103, 48, 49, 50, 55, 51, 47, 108, 97, 119, 115, 46, 70, 110, 69, 120, 97, 99, 116, 76, 111, 110, 103, 101, 115, 116, 66, 97, 114], [108, 111, 111, 112, 46, 101, 120, 97, 109, 112, 108, 101, 47, 103, 48, 49, 50, 55, 51, 47, 108, 97, 119, 115, 46, 70, 110, 69, 120, 97, 99, 116, 74, 111, 105, 110, 66, 97, 114, 115], [108, 111, 111, 112, 46, 101, 120, 97, 109, 112, 108, 101, 47, 103, 48, 49, 50, 55, 51, 47, 108, 97, 119, 115, 46, 70, 110, 69, 120, 97, 99, 116, 82, 97, 110, 107, 66, 101, 116, 119, 101, 101, 110], [108, 111, 111, 112, 46, 101, 120, 97, 109, 112, 108, 101, 47, 103, 48, 49, 50, 55, 51, 47, 108, 97, 119, 115, 46, 70, 110, 69, 120, 97, 99, 116, 76, 101, 118, 101, 108, 78, 117, 109, 98, 101, 114, 115], [108, 111, 111, 112, 46, 101, 120, 97, 109, 112, 108, 101, 47, 103, 48, 49, 50, 55, 51, 47, 108, 97, 119, 115, 46, 70, 110, 69, 120, 97, 99, 116, 67, 111, 109, 112, 108, 101, 120, 79, 102, 66, 97, 114, 115]] : List (List Nat)).map fun w => w.map Char.ofNat
def Try.headWord : List Char := ([104, 97, 114, 110, 101, 115, 115] : List Nat).map Char.ofNat
set_option maxRecDepth 100000 in
theorem Try.head_eq : Try.checked.prog.initOrder = String.ofList (joinWords Try.headWord Try.headWords) := by kernel_rfl
set_option maxRecDepth 100000 in
theorem Try.head_ok : ((Try.headWord :: Try.headWords).all fun w => w.all fun c => decide (c ≠ sp32)) = true := by kernel_rfl
theorem Try.head_words : wordsSigns Try.checked.prog.initOrder.toList = Try.headWord :: Try.headWords := by
  rw [Try.head_eq, String.toList_ofList, ws_join]
  intro v hv c hc
  exact of_decide_eq_true (List.all_eq_true.1 (List.all_eq_true.1 Try.head_ok v hv) c hc)
/-! For whatever program with such a head: so the kernel does not run this one's. -/
section
variable {Q : Program} (h : wordsSigns Q.initOrder.toList = Try.headWord :: Try.headWords)
include h
set_option maxRecDepth 100000 in
theorem Try.headLifts_of : Q.headLifts = [] := by
  unfold Program.headLifts
  rw [h]
  kernel_rfl
set_option maxRecDepth 100000 in
theorem Try.liftsFinal_of : Q.liftsFinal = false := by
  unfold Program.liftsFinal
  rw [h, Try.headLifts_of h]
  kernel_rfl
set_option maxRecDepth 100000 in
theorem Try.make_of : Q.make = some .cut := by
  unfold Program.make
  rw [h, Try.headLifts_of h]
  show _ = some Make.cut
  kernel_rfl
set_option maxRecDepth 100000 in
theorem Try.mayEnter_of (h1 : Q.laysLater = false) (h2 : Q.bearsReflect = false) (h3 : Q.doorRows = []) : Q.mayEnter = true := by
  unfold Program.mayEnter
  simp only [h, h1, h2, Program.doorFits, h3]
  show _ = true
  kernel_rfl
end
theorem Try.mayEnter : Try.checked.prog.mayEnter = true := Try.mayEnter_of Try.head_words (by kernel_rfl) (by kernel_rfl) (by kernel_rfl)
theorem Try.liftsFinal : Try.checked.prog.liftsFinal = false := Try.liftsFinal_of Try.head_words
theorem Try.make : Try.checked.prog.make = some .cut := Try.make_of Try.head_words
end Go.Proofs.Ytchijefibiaphaa

namespace Go.Proofs.Ytchijefibiaphaa
open Go.ChangeShapes Go.WideShapes Go.ChangeAt Go.RowKit Go.Deep

section
variable {H : Type} {enc : TypeId × Value → H} {w : World} {base : Nat} {held : Bool}
end
end Go.Proofs.Ytchijefibiaphaa


namespace Go.Proofs.Ytchijefibiaphaa
open Go.ChangeShapes Go.WideShapes Go.ChangeAt Go.RowKit Go.Deep

structure Wh (lo : Nat) (w : World) (dv mv : Value) (dl : List Int) (ml : List (List (List Int))) : Prop where
  fd : L1 lo w dv dl
  fm : L3 lo w mv ml
theorem Wh.below {lo : Nat} {w w' : World} {dv mv : Value} {dl : List Int} {ml : List (List (List Int))} (h : Wh lo w dv mv dl ml) (hb : Below w.heap.size w w') : Wh lo w' dv mv dl ml := ⟨h.fd.below hb, h.fm.below hb⟩
theorem Wh.lower {lo lo' : Nat} (hl : lo' ≤ lo) {w : World} {dv mv : Value} {dl : List Int} {ml : List (List (List Int))} (h : Wh lo w dv mv dl ml) : Wh lo' w dv mv dl ml := ⟨h.fd.lower hl, h.fm.lower hl⟩
theorem Wh.zero {lo : Nat} {w : World} {dv mv : Value} {dl : List Int} {ml : List (List (List Int))} (h : Wh lo w dv mv dl ml) : Wh 0 w dv mv dl ml := h.lower (Nat.zero_le _)
theorem Wh.drew {lo : Nat} {w : World} {dv mv : Value} {dl : List Int} {ml : List (List (List Int))} (h : Wh lo w dv mv dl ml) : Wh lo w.drew dv mv dl ml := h.below (Below.refl _ _).drew
theorem Wh.shapes {lo : Nat} {w : World} {dv mv : Value} {dl : List Int} {ml : List (List (List Int))} (h : Wh lo w dv mv dl ml) : (∃ a c, dv = .slice a dl.length c) ∧ (∃ a c, mv = .slice a ml.length c) := ⟨Sl.shape h.fd, Sl.shape h.fm⟩
structure WhW (lo hi : Nat) (w : World) (dv mv : Value) (dl : List Int) (ml : List (List (List Int))) : Prop where
  fd : W1 lo hi w dv dl
  fm : W3 lo hi w mv ml
theorem WhW.same {lo hi : Nat} {w w' : World} {dv mv : Value} {dl : List Int} {ml : List (List (List Int))} (h : WhW lo hi w dv mv dl ml) (s : Same lo hi w w') : WhW lo hi w' dv mv dl ml := ⟨h.fd.same s, h.fm.same s⟩
theorem WhW.cx {lo hi : Nat} {w : World} {dv mv : Value} {dl : List Int} {ml : List (List (List Int))} (h : WhW lo hi w dv mv dl ml) : Wh lo w dv mv dl ml := ⟨h.fd.l1, h.fm.l3⟩
/-- The box of one, in whatever later world. -/
structure BxWh (w wr : World) (b : Nat)  (dv mv : Value) (dl : List Int) (ml : List (List (List Int))) : Prop where
  below : Below w.heap.size w wr
  c0 : wr.cell? ⟨b, 0, none⟩ = some (dv)
  c1 : wr.cell? ⟨b, 1, none⟩ = some (mv)
  lt : b < wr.heap.size
  cx : Wh 0 wr dv mv dl ml
theorem BxWh.next {w wr w' : World} {b : Nat}  {dv mv : Value} {dl : List Int} {ml : List (List (List Int))} (h : BxWh w wr b  dv mv dl ml) (hb : Below wr.heap.size wr w') : BxWh w w' b  dv mv dl ml :=
  ⟨h.below.trans (hb.mono h.below.size), later hb (Nat.le_refl _) h.c0, later hb (Nat.le_refl _) h.c1, Nat.lt_of_lt_of_le h.lt hb.size, h.cx.below hb⟩
theorem BxWh.start {w : World}  {dv mv : Value} {dl : List Int} {ml : List (List (List Int))} (t : TypeId) (h : Wh 0 w dv mv dl ml) : BxWh w (w.alloc (.cells #[dv, mv] t)) w.heap.size  dv mv dl ml :=
  ⟨(Below.refl _ _).alloc (Nat.le_refl _) _, by simp, by simp, by simp, h.below ((Below.refl _ _).alloc (Nat.le_refl _) _)⟩
structure BqWh (wr : World) (b : Nat)  (dv mv : Value) (dl : List Int) (ml : List (List (List Int))) : Prop where
  c0 : wr.cell? ⟨b, 0, none⟩ = some (dv)
  c1 : wr.cell? ⟨b, 1, none⟩ = some (mv)
  lt : b < wr.heap.size
  cx : Wh 0 wr dv mv dl ml
theorem BxWh.bq {w wr : World} {b : Nat}  {dv mv : Value} {dl : List Int} {ml : List (List (List Int))} (h : BxWh w wr b  dv mv dl ml) : BqWh wr b  dv mv dl ml := ⟨h.c0, h.c1, h.lt, h.cx⟩
theorem BqWh.next {wr w' : World} {b : Nat}  {dv mv : Value} {dl : List Int} {ml : List (List (List Int))} (h : BqWh wr b  dv mv dl ml) (hb : Below wr.heap.size wr w') : BqWh w' b  dv mv dl ml :=
  ⟨later hb (Nat.le_refl _) h.c0, later hb (Nat.le_refl _) h.c1, Nat.lt_of_lt_of_le h.lt hb.size, h.cx.below hb⟩
theorem BqWh.only {wr w' : World} {b lo hi : Nat}  {dv mv : Value} {dl : List Int} {ml : List (List (List Int))} (h : BqWh wr b  dv mv dl ml) (ho : Only lo hi wr w') (hc : Wh 0 w' dv mv dl ml) (hb : b < lo ∨ hi ≤ b) : BqWh w' b  dv mv dl ml :=
  ⟨(ho.cell hb).trans h.c0, (ho.cell hb).trans h.c1, by have := ho.size; have := h.lt; omega, hc⟩
structure WhT (lo hi : Nat) (w : World) (dv mv : Value) (dl : List Int) (ml : List (List (List Int))) : Prop where
  fd : T1 lo hi w dv dl
  fm : T3 lo hi w mv ml
theorem WhW.t {lo hi : Nat} {w : World} {dv mv : Value} {dl : List Int} {ml : List (List (List Int))} (h : WhW lo hi w dv mv dl ml) : WhT lo hi w dv mv dl ml := ⟨h.fd.t1, h.fm.t3⟩

section
variable {H : Type} {enc : TypeId × Value → H} {P : Program} {w : World} {base : Nat} {held : Bool} {spare : Nat → Bool}
end
end Go.Proofs.Ytchijefibiaphaa


namespace Go.Proofs.Ytchijefibiaphaa
open Go.RowKit

/-- The first n numbers. -/
def toL (n : Nat) (v : Lin.V) : List Int := (List.range n).map v
/-- The cells of a vector. -/
def vl (v : Lin.V) : List Value := (toL 40 v).map (Value.int .i64)
def vv (v : Lin.V) : Value := .agg (vl v).toArray
theorem toL_length (n : Nat) (v : Lin.V) : (toL n v).length = n := by simp [toL]
theorem toL_get {n k : Nat} (v : Lin.V) (h : k < (toL n v).length) : (toL n v)[k] = v k := by simp [toL]
theorem vl_length (v : Lin.V) : (vl v).length = 40 := by simp [vl, toL_length]
theorem vl_get (v : Lin.V) {k : Nat} (h : k < 40) : (vl v)[k]? = some (.int .i64 (v k)) := by
  have : k < (toL 40 v).length := by rw [toL_length]; exact h
  simp [vl, this, toL_get]
theorem vl_congr {v w : Lin.V} (h : ∀ i, i < 40 → v i = w i) : vl v = vl w := by
  unfold vl toL
  rw [List.map_congr_left (fun i hi => h i (List.mem_range.1 hi))]
/-- Where a vector lies. -/
def At (w : World) (b o : Nat) (v : Lin.V) : Prop := w.rangeAt b o (vl v)
theorem At.range {w : World} {b o : Nat} {v : Lin.V} (h : At w b o v) : w.rangeAt b o (vl v) := h
theorem At.cell {w : World} {b o : Nat} {v : Lin.V} (h : At w b o v) {k : Nat} (hk : k < 40) : w.cell? ⟨b, o + k, none⟩ = some (.int .i64 (v k)) := h k _ (vl_get v hk)
theorem At.lt {w : World} {b o : Nat} {v : Lin.V} (h : At w b o v) : b < w.heap.size := cell_lt (h.cell (k := 0) (by omega))
theorem At.below {w w' : World} {b o B : Nat} {v : Lin.V} (h : At w b o v) (hb : Below B w w') (hB : b < B) : At w' b o v := fun j u hu => by
  rw [hb.cell (p := ⟨b, o + j, none⟩) hB]
  exact h j u hu
theorem At.later {w w' : World} {b o : Nat} {v : Lin.V} (h : At w b o v) (hb : Below w.heap.size w w') : At w' b o v := h.below hb h.lt
end Go.Proofs.Ytchijefibiaphaa

namespace Go.Proofs.Ytchijefibiaphaa
open Go.RowKit

theorem IsP.lo1 {p : Int} (hp : IsP p) : 1 < p := by rcases hp with rfl | rfl | rfl | rfl <;> decide
theorem there_new (w : World) (C : Array Value) (t : TypeId) {n : Nat} (h : n ≤ C.size) : (w.alloc (.cells C t)).there w.heap.size 0 n := fun j hj => by
  have hb := heap_alloc_new w (.cells C t)
  constructor
  · rw [cell_of_row _ _ _ _ _ _ hb, Nat.zero_add, Array.getElem?_eq_getElem (by omega)]
    rfl
  · simp
theorem there_set {w : World} {b o n : Nat} (h : w.there b o n) (a : Addr) (u : Value) : (w.setCell a u).there b o n := fun j hj => by
  obtain ⟨h1, h2⟩ := h j hj
  refine ⟨?_, by rw [World.frozen?_setCell]; exact h2⟩
  obtain ⟨x, hx⟩ := Option.isSome_iff_exists.1 h1
  by_cases e : a = ⟨b, o + j, none⟩
  · rw [e, World.cell?_setCell_same _ _ _ hx]; rfl
  · rw [World.cell?_setCell_other _ _ _ _ e, hx]; rfl
theorem there_below {w w' : World} {b o n B : Nat} (h : w.there b o n) (hb : Below B w w') (hB : b < B) : w'.there b o n := fun j hj => by
  rw [hb.cell (p := ⟨b, o + j, none⟩) hB, hb.frozen (p := ⟨b, o + j, none⟩) hB]
  exact h j hj
theorem below_setCells {B : Nat} {w : World} (b : Nat) (hB : B ≤ b) : ∀ (vs : List Value) (o : Nat) (w' : World), Below B w w' → Below B w (w'.setCells b o vs) := by
  intro vs
  induction vs with
  | nil => intro o w' h; exact h
  | cons v vs ih => intro o w' h; exact ih (o + 1) _ (h.setCell hB v)
theorem addr_ne {b o o' : Nat} (h : o ≠ o') : (⟨b, o, none⟩ : Addr) ≠ ⟨b, o', none⟩ := fun e => h (by injection e)
theorem At.set {w : World} {b o : Nat} {v : Lin.V} (h : At w b o v) {k : Nat} (hk : k < 40) (x : Int) : At (w.setCell ⟨b, o + k, none⟩ (.int .i64 x)) b o (fun i => if i = k then x else v i) := fun j u hu => by
  have hj : j < 40 := by have := (List.getElem?_eq_some_iff.1 hu).1; rwa [vl_length] at this
  rw [vl_get _ hj] at hu
  by_cases e : j = k
  · subst e
    rw [World.cell?_setCell_same _ _ _ (h.cell hj)]
    simpa using hu
  · rw [World.cell?_setCell_other _ _ _ _ (addr_ne (by omega)), h.cell hj]
    simpa [e] using hu
theorem At.setOther {w : World} {b o : Nat} {v : Lin.V} (h : At w b o v) {a : Addr} (ha : a.block ≠ b) (u : Value) : At (w.setCell a u) b o v := fun j x hx => by
  rw [World.cell?_setCell_other _ _ _ _ (by intro e; exact ha (by rw [e]))]
  exact h j x hx
theorem At.congr {w : World} {b o : Nat} {v v' : Lin.V} (h : At w b o v) (e : ∀ i, i < 40 → v i = v' i) : At w b o v' := by
  unfold At
  rw [← vl_congr e]
  exact h
theorem at_setCells (w : World) (b o : Nat) (v : Lin.V) (ht : w.there b o 40) : At (w.setCells b o (vl v)) b o v := World.rangeAt_setCells_same w b o (vl v) (by rw [vl_length]; exact ht)
theorem At.apart {w : World} {b o b' o' : Nat} {v : Lin.V} (h : At w b o v) (v' : Lin.V) (ha : b ≠ b' ∨ o + 40 ≤ o' ∨ o' + 40 ≤ o) : At (w.setCells b' o' (vl v')) b o v := World.rangeAt_setCells_apart h b' o' (vl v') (by rw [vl_length, vl_length]; exact ha)
/-- A vector in a box, and a place for a vector. -/
structure Boxed (w W : World) (b g : Nat) (v : Lin.V) : Prop where
  below : Below w.heap.size w W
  lo : w.heap.size ≤ b ∧ w.heap.size ≤ g
  ne : b ≠ g
  at' : At W b 0 v
  there : W.there b 0 40
  res : W.there g 0 40
theorem Boxed.next {w W W' : World} {b g : Nat} {v : Lin.V} (h : Boxed w W b g v) (hb : Below W.heap.size W W') : Boxed w W' b g v := by
  have hg : g < W.heap.size := by
    obtain ⟨x, hx⟩ := Option.isSome_iff_exists.1 (h.res 0 (by omega)).1
    exact cell_lt hx
  exact ⟨h.below.trans (hb.mono h.below.size), h.lo, h.ne, h.at'.later hb, there_below h.there hb h.at'.lt, there_below h.res hb hg⟩
theorem Boxed.set {w W : World} {b g : Nat} {v : Lin.V} (h : Boxed w W b g v) {k : Nat} (hk : k < 40) (x : Int) : Boxed w (W.setCell ⟨b, k, none⟩ (.int .i64 x)) b g (fun i => if i = k then x else v i) := by
  have := h.at'.set hk x
  rw [Nat.zero_add] at this
  exact ⟨h.below.setCell h.lo.1 _, h.lo, h.ne, this, there_set h.there _ _, there_set h.res _ _⟩
theorem Boxed.congr {w W : World} {b g : Nat} {v v' : Lin.V} (h : Boxed w W b g v) (e : ∀ i, i < 40 → v i = v' i) : Boxed w W b g v' := ⟨h.below, h.lo, h.ne, h.at'.congr e, h.there, h.res⟩
end Go.Proofs.Ytchijefibiaphaa

namespace Go.Proofs.Ytchijefibiaphaa
open Go.RowKit

/-- The slice s reads as the vectors L, its cells in blocks from lo on. -/
def Vs (lo : Nat) (w : World) (s : Value) (L : List Lin.V) : Prop :=
  (L = [] ∧ ∃ ad cap, s = .slice ad 0 cap) ∨
  ∃ b o cap, s = .slice (some ⟨b, o, none⟩) L.length cap ∧ lo ≤ b ∧ 0 < L.length ∧ ∀ k (h : k < L.length), At w b (o + k * 40) L[k]
theorem Vs.keep {lo : Nat} {w w' : World} {s : Value} {L : List Lin.V} (h : Vs lo w s L) (hk : Keep lo w w') : Vs lo w' s L := by
  rcases h with h | ⟨b, o, cap, hs, hlo, hpos, hc⟩
  · exact Or.inl h
  · refine Or.inr ⟨b, o, cap, hs, hlo, hpos, fun k h j u hu => ?_⟩
    have h1 := hc k h j u hu
    rw [hk.2 b _ hlo (cell_lt h1)]
    exact h1
theorem Vs.below {lo : Nat} {w w' : World} {s : Value} {L : List Lin.V} (h : Vs lo w s L) (hb : Below w.heap.size w w') : Vs lo w' s L := h.keep (Keep.of_below hb)
theorem Vs.lower {lo lo' : Nat} (hl : lo' ≤ lo) {w : World} {s : Value} {L : List Lin.V} (h : Vs lo w s L) : Vs lo' w s L := by
  rcases h with h | ⟨b, o, cap, hs, hlo, hpos, hc⟩
  · exact Or.inl h
  · exact Or.inr ⟨b, o, cap, hs, by omega, hpos, hc⟩
theorem Vs.shape {lo : Nat} {w : World} {s : Value} {L : List Lin.V} (h : Vs lo w s L) : ∃ ad cap, s = .slice ad L.length cap := by
  rcases h with ⟨h, ad, cap, hs⟩ | ⟨b, o, cap, hs, _⟩
  · exact ⟨ad, cap, by rw [hs, h]; rfl⟩
  · exact ⟨_, cap, hs⟩
theorem Vs.cases {lo : Nat} {w : World} {s : Value} {L : List Lin.V} (h : Vs lo w s L) {C : Prop} (h0 : ∀ ad cap, L = [] → s = .slice ad 0 cap → C)
    (h1 : ∀ b o cap, s = .slice (some ⟨b, o, none⟩) L.length cap → lo ≤ b → 0 < L.length → (∀ k (h : k < L.length), At w b (o + k * 40) L[k]) → C) : C := by
  rcases h with ⟨h, ad, cap, hs⟩ | ⟨b, o, cap, hs, hlo, hpos, hc⟩
  · exact h0 ad cap h hs
  · exact h1 b o cap hs hlo hpos hc

/-- The making of a vector's box. -/
structure NewV (w W : World) : Prop where
  below : Below w.heap.size w W
  size : W.heap.size = w.heap.size + 1
  there : W.there w.heap.size 0 40
theorem Boxed.put {w W : World} {b g : Nat} {v : Lin.V} (h : Boxed w W b g v) (u : Lin.V) : Boxed w (W.setCells b 0 (vl u)) b g u :=
  ⟨below_setCells _ h.lo.1 _ _ _ h.below, h.lo, h.ne, at_setCells _ _ _ _ h.there, World.there_setCells h.there _ _ _, World.there_setCells h.res _ _ _⟩
theorem hload (w : World) {b o : Nat} {x : Int} (h : w.cell? ⟨b, o, none⟩ = some (.int .i64 x)) : (Instr.loadAt 2 (.pointer (some ⟨b, o, none⟩))).run Try.prog w = .ok (.int .i64 x) w := by go_simp
end Go.Proofs.Ytchijefibiaphaa

namespace Go.Proofs.Ytchijefibiaphaa
open Go.RowKit

/-- The key's datum. -/
def keyLit (v : Lin.V) : Lit := .string (keyBytes ((List.range 40).map fun i => .int .i64 (v i)))
/-- The map in block b bears true at vectors of M alone. -/
def Seen (w : World) (b n : Nat) (M : List Lin.V) : Prop := ∃ D : DataW Unit, w.ownsMap Try.prog 114 (plainElem Try.prog 4) b n D ∧ Maps.IsMap D ∧
  ∀ v : Lin.V, (∀ i, 0 ≤ v i ∧ v i ≤ 7) → D.atKey (keyLit v) (.lit (.bool false)) = .lit (.bool true) → ∃ u ∈ M, vv u = vv v
theorem Seen.made (w : World) : Seen (w.alloc (.map #[] 0)) w.heap.size 0 [] := ⟨.map [], World.ownsMap_made _ _ _ _, ⟨[], rfl⟩, fun v _ h => by
  have : (DataW.map [] : DataW Unit).atKey (keyLit v) (.lit (.bool false)) = .lit (.bool false) := rfl
  rw [this] at h
  cases h⟩
theorem Seen.lt {w : World} {b n : Nat} {M : List Lin.V} (h : Seen w b n M) : b < w.heap.size := by obtain ⟨D, hd, _⟩ := h; exact hd.lt
theorem Seen.block {w w' : World} {b n : Nat} {M : List Lin.V} (h : Seen w b n M) (hb : w'.heap[b]? = w.heap[b]?) : Seen w' b n M := by
  obtain ⟨D, ⟨es, clock, h1, F, h2, h3⟩, r⟩ := h
  exact ⟨D, ⟨es, clock, hb.trans h1, F, h2, h3⟩, r⟩
theorem Seen.below {w w' : World} {b n : Nat} {M : List Lin.V} (h : Seen w b n M) (hb : Below w.heap.size w w') : Seen w' b n M := h.block (hb.block b h.lt)
theorem Seen.more {w : World} {b n n' : Nat} {M M' : List Lin.V} (h : Seen w b n M) (hn : n ≤ n') (hM : ∀ u ∈ M, u ∈ M') : Seen w b n' M' := by
  obtain ⟨D, h1, h2, h3⟩ := h
  exact ⟨D, h1.mono hn, h2, fun v hv h => by obtain ⟨u, hu, e⟩ := h3 v hv h; exact ⟨u, hM u hu, e⟩⟩

section
variable {ops : Array Oper} {rest : List Oper} {o : Oper} {a : Act} {w : World} {Q : Exit → Act → World → Prop}
end
end Go.Proofs.Ytchijefibiaphaa

namespace Go.Proofs.Ytchijefibiaphaa
open Go.RowKit

/-- The cells of a list of vectors, one behind the other. -/
def cellsOf (L : List Lin.V) : List Value := L.flatMap vl
theorem cellsOf_length (L : List Lin.V) : (cellsOf L).length = L.length * 40 := by
  induction L with
  | nil => rfl
  | cons v L ih => rw [cellsOf, List.flatMap_cons, List.length_append, vl_length]; unfold cellsOf at ih; rw [ih, List.length_cons]; omega
theorem cellsOf_at {L : List Lin.V} : ∀ {k : Nat} (h : k < L.length) {j : Nat}, j < 40 → (cellsOf L)[k * 40 + j]? = some (.int .i64 (L[k] j)) := by
  induction L with
  | nil => intro k h; simp at h
  | cons v L ih =>
    intro k h j hj
    rw [cellsOf, List.flatMap_cons]
    cases k with
    | zero =>
      rw [List.getElem?_append_left (by rw [vl_length]; omega)]
      simp only [Nat.zero_mul, Nat.zero_add, List.getElem_cons_zero]
      exact vl_get v hj
    | succ k =>
      rw [List.getElem?_append_right (by rw [vl_length]; omega), vl_length, show (k + 1) * 40 + j - 40 = k * 40 + j by omega]
      simp only [List.getElem_cons_succ]
      exact ih (by simpa using h) hj
theorem cellsOf_append (L M : List Lin.V) : cellsOf (L ++ M) = cellsOf L ++ cellsOf M := by simp [cellsOf]
/-- A slice of vectors that the call has made, in blocks from base on. -/
def Ow (base : Nat) (w : World) (s : Value) (L : List Lin.V) : Prop := w.ownsRow base 114 40 s L.length (cellsOf L)
theorem Ow.nil (base : Nat) (w : World) : Ow base w (.slice none 0 0) [] := ⟨rfl, Or.inl ⟨rfl, rfl⟩⟩
theorem Ow.below {base : Nat} {w w' : World} {s : Value} {L : List Lin.V} (h : Ow base w s L) (hb : Below w.heap.size w w') : Ow base w' s L := owns_below h hb
theorem Ow.vs {base : Nat} {w : World} {s : Value} {L : List Lin.V} (h : Ow base w s L) : Vs base w s L := by
  obtain ⟨_, h2⟩ := h
  rcases h2 with ⟨hs, h0⟩ | ⟨g, cap, cur, hs, hg, hb, hn, _, hcur, ht⟩
  · exact Or.inl ⟨List.eq_nil_of_length_eq_zero h0, none, 0, by rw [hs]⟩
  · by_cases h0 : L.length = 0
    · exact Or.inl ⟨List.eq_nil_of_length_eq_zero h0, _, cap, by rw [hs, h0]⟩
    · refine Or.inr ⟨g, 0, cap, hs, hg, by omega, fun k hk j u hu => ?_⟩
      have hj : j < 40 := by have := (List.getElem?_eq_some_iff.1 hu).1; rwa [vl_length] at this
      rw [vl_get _ hj] at hu
      rw [cell_of_row _ _ _ _ _ _ hb, Nat.zero_add]
      have h1 := cellsOf_at hk hj
      rw [← ht, List.getElem?_take] at h1
      have h2 : k * 40 + j < L.length * 40 := by
        have : (k + 1) * 40 ≤ L.length * 40 := Nat.mul_le_mul_right 40 hk
        omega
      rw [if_pos h2] at h1
      rw [← hu, ← h1]
      simp
theorem Ow.shape {base : Nat} {w : World} {s : Value} {L : List Lin.V} (h : Ow base w s L) : ∃ ad cap, s = .slice ad L.length cap := h.vs.shape

section
variable {ops : Array Oper} {rest : List Oper} {o : Oper} {a : Act} {w : World} {Q : Exit → Act → World → Prop}
end
end Go.Proofs.Ytchijefibiaphaa

namespace Go.Proofs.Ytchijefibiaphaa
open Go.RowKit

theorem NewV.put {w W : World} (h : NewV w W) (v : Lin.V) : Below w.heap.size w (W.setCells w.heap.size 0 (vl v)) ∧ At (W.setCells w.heap.size 0 (vl v)) w.heap.size 0 v ∧ (W.setCells w.heap.size 0 (vl v)).heap.size = w.heap.size + 1 := by
  refine ⟨below_setCells _ (Nat.le_refl _) _ _ _ h.below, at_setCells _ _ _ _ h.there, ?_⟩
  have key : ∀ (vs : List Value) (o : Nat) (W : World), (W.setCells w.heap.size o vs).heap.size = W.heap.size := by
    intro vs
    induction vs with
    | nil => intro o W; rfl
    | cons x vs ih => intro o W; rw [World.setCells, ih]; simp
  rw [key, h.size]
theorem At.grown {w w' : World} {b o : Nat} {v : Lin.V} {row : Option Nat} (h : At w b o v) (hg : w.grownBy w' row) (hne : some b ≠ row) : At w' b o v := fun j u hu => by
  rw [World.cell?_of_block (w := w) (a := ⟨b, o + j, none⟩) (hg.block b h.lt hne)]
  exact h j u hu
theorem Ow.grown {base : Nat} {w w' : World} {s : Value} {L : List Lin.V} {row : Option Nat} (h : Ow base w s L) (hg : w.grownBy w' row) (hne : s.ownBlock = none ∨ s.ownBlock ≠ row) : Ow base w' s L := by
  refine ⟨h.1, ?_⟩
  rcases h.2 with h2 | ⟨g, cap, cur, hv, hgb, hh, r⟩
  · exact Or.inl h2
  · refine Or.inr ⟨g, cap, cur, hv, hgb, ?_, r⟩
    rw [hg.block g (Array.getElem?_eq_some_iff.1 hh).1 (by
      rw [hv] at hne
      simpa [Value.ownBlock] using hne)]
    exact hh
end Go.Proofs.Ytchijefibiaphaa

namespace Go.Proofs.Ytchijefibiaphaa
open Go.RowKit

theorem cellsOf_cons (v : Lin.V) (L : List Lin.V) : cellsOf (v :: L) = vl v ++ cellsOf L := by simp [cellsOf]
theorem cellsOf_take (L : List Lin.V) : ∀ i, cellsOf (L.take i) = (cellsOf L).take (i * 40) := by
  induction L with
  | nil => intro i; simp [cellsOf]
  | cons v L ih =>
    intro i
    cases i with
    | zero => simp [cellsOf]
    | succ i =>
      rw [List.take_succ_cons, cellsOf_cons, cellsOf_cons, ih, List.take_append, vl_length, List.take_of_length_le (l := vl v) (by rw [vl_length]; omega), show (i + 1) * 40 - 40 = i * 40 by omega]
theorem cellsOf_drop (L : List Lin.V) : ∀ i, cellsOf (L.drop i) = (cellsOf L).drop (i * 40) := by
  induction L with
  | nil => intro i; simp [cellsOf]
  | cons v L ih =>
    intro i
    cases i with
    | zero => simp
    | succ i =>
      rw [List.drop_succ_cons, cellsOf_cons, ih, List.drop_append, vl_length, List.drop_of_length_le (l := vl v) (by rw [vl_length]; omega), show (i + 1) * 40 - 40 = i * 40 by omega, List.nil_append]
end Go.Proofs.Ytchijefibiaphaa

namespace Go.Proofs.Ytchijefibiaphaa
open Go.RowKit

theorem block_setCell' {w : World} {g i : Nat} {cs : Array Value} {t : TypeId} {fr : Nat × Nat} (h : w.heap[g]? = some (.cells cs t fr)) (v : Value) : (w.setCell ⟨g, i, none⟩ v).heap[g]? = some (.cells (cs.setIfInBounds i v) t fr) := by
  rw [setCell_eq_setRow w g i cs t fr v h]
  exact setRow_heap w g _ _ t _ h
theorem setCells_row (g : Nat) (t : TypeId) (fr : Nat × Nat) : ∀ (vs : List Value) (o : Nat) (cur : Array Value) (w : World), w.heap[g]? = some (.cells cur t fr) → o + vs.length ≤ cur.size →
    (w.setCells g o vs).heap[g]? = some (.cells (cur.toList.take o ++ vs ++ cur.toList.drop (o + vs.length)).toArray t fr)
  | [], o, cur, w, h, _ => by simpa [World.setCells] using h
  | v :: rest, o, cur, w, h, hl => by
    have ih := setCells_row g t fr rest (o + 1) (cur.setIfInBounds o v) (w.setCell ⟨g, o, none⟩ v) (block_setCell' h v) (by simp at hl ⊢; omega)
    rw [World.setCells, ih]
    congr 3
    have e := list_seg_step cur.toList o v rest (by simp at hl ⊢; omega)
    simpa [Array.toList_setIfInBounds] using e
theorem setCells_other (g k : Nat) (h : k ≠ g) : ∀ (vs : List Value) (o : Nat) (w : World), (w.setCells g o vs).heap[k]? = w.heap[k]?
  | [], _, _ => rfl
  | v :: rest, o, w => by
    rw [World.setCells, setCells_other g k h rest (o + 1)]
    exact Below.heap_setCell w ⟨g, o, none⟩ v k h
theorem setCells_rest (g : Nat) : ∀ (vs : List Value) (o : Nat) (w : World), (w.setCells g o vs).os = w.os ∧ (w.setCells g o vs).tape = w.tape ∧ (w.setCells g o vs).output = w.output ∧ (w.setCells g o vs).heap.size = w.heap.size
  | [], _, _ => ⟨rfl, rfl, rfl, rfl⟩
  | v :: rest, o, w => by
    rw [World.setCells]
    obtain ⟨h1, h2, h3, h4⟩ := setCells_rest g rest (o + 1) (w.setCell ⟨g, o, none⟩ v)
    exact ⟨h1, h2, h3, h4.trans (by simp [World.setCell])⟩
theorem grown_setCells (w : World) (g o : Nat) (vs : List Value) : w.grownBy (w.setCells g o vs) (some g) := by
  obtain ⟨h1, h2, h3, h4⟩ := setCells_rest g vs o w
  exact ⟨h1, h2, h3, by omega, fun k _ hne => setCells_other g k (fun e => hne (by rw [e])) vs o w⟩
/-- An owned slice of vectors that is not empty. -/
structure Ox (base : Nat) (w : World) (g cap : Nat) (L : List Lin.V) : Prop where
  lo : base ≤ g
  own : Ow base w (.slice (some ⟨g, 0, none⟩) L.length cap) L
theorem Ox.lt {base : Nat} {w : World} {g cap : Nat} {L : List Lin.V} (h : Ox base w g cap L) : g < w.heap.size := by
  rcases h.own.2 with ⟨h0, _⟩ | ⟨g', c', cur, hv, _, hh, _⟩
  · cases h0
  · injection hv with e1 _ _
    injection e1 with e1
    injection e1 with e1
    subst e1
    exact (Array.getElem?_eq_some_iff.1 hh).1
theorem Ox.at' {base : Nat} {w : World} {g cap : Nat} {L : List Lin.V} (h : Ox base w g cap L) {k : Nat} (hk : k < L.length) : At w g (k * 40) L[k] := by
  rcases h.own.vs with ⟨h0, _⟩ | ⟨b, o, c, hv, _, _, hc⟩
  · rw [h0] at hk; exact absurd hk (Nat.not_lt_zero _)
  · injection hv with e1 _ _
    injection e1 with e1
    injection e1 with e1 e2
    subst e1 e2
    have := hc k hk
    rwa [Nat.zero_add] at this
theorem Ox.below {base : Nat} {w w' : World} {g cap : Nat} {L : List Lin.V} (h : Ox base w g cap L) (hb : Below w.heap.size w w') : Ox base w' g cap L := ⟨h.lo, h.own.below hb⟩
theorem cellsOf_set {L : List Lin.V} {k : Nat} (hk : k < L.length) (x : Lin.V) : cellsOf (L.set k x) = (cellsOf L).take (k * 40) ++ vl x ++ (cellsOf L).drop (k * 40 + 40) := by
  rw [List.set_eq_take_append_cons_drop, if_pos hk, cellsOf_append, cellsOf_cons, cellsOf_take, cellsOf_drop, show (k + 1) * 40 = k * 40 + 40 by omega, List.append_assoc]
theorem Ox.put {base : Nat} {w : World} {g cap : Nat} {L : List Lin.V} (h : Ox base w g cap L) {k : Nat} (hk : k < L.length) (x : Lin.V) : Ox base (w.setCells g (k * 40) (vl x)) g cap (L.set k x) ∧ w.there g (k * 40) 40 := by
  rcases h.own.2 with ⟨h0, _⟩ | ⟨g', c', cur, hv, hlo, hh, hnc, hcm, hcs, htk⟩
  · cases h0
  · injection hv with e1 _ e3
    injection e1 with e1
    injection e1 with e1
    subst e1 e3
    have hkc : k * 40 + 40 ≤ cap * 40 := by
      have : (k + 1) * 40 ≤ cap * 40 := Nat.mul_le_mul_right 40 (by omega)
      omega
    have hb := setCells_row g 114 (0, 0) (vl x) (k * 40) cur w hh (by rw [vl_length, hcs]; exact hkc)
    refine ⟨⟨h.lo, ⟨cellsOf_length _, Or.inr ⟨g, cap, _, rfl, hlo, hb, by simpa using hnc, hcm, ?_, ?_⟩⟩⟩, fun j hj => ⟨?_, by simp [World.frozen?, hh]⟩⟩
    · have hsz : cur.toList.length = cap * 40 := by simpa using hcs
      simp only [List.size_toArray, List.length_append, List.length_take, List.length_drop, vl_length, hsz]
      omega
    · rw [cellsOf_set hk, ← htk]
      have hkn : k * 40 + 40 ≤ L.length * 40 := by
        have : (k + 1) * 40 ≤ L.length * 40 := Nat.mul_le_mul_right 40 hk
        omega
      have hnc' : L.length * 40 ≤ cap * 40 := Nat.mul_le_mul_right 40 hnc
      have hsz : cur.toList.length = cap * 40 := by simpa using hcs
      rw [List.length_set, vl_length, List.take_take, Nat.min_eq_left (by omega), List.drop_take]
      simp only [List.append_assoc]
      rw [List.take_append, List.take_append, List.length_take, vl_length, hsz, Nat.min_eq_left (by omega), List.take_of_length_le (l := cur.toList.take (k * 40)) (by rw [List.length_take]; omega), List.take_of_length_le (l := vl x) (by rw [vl_length]; omega),
        show L.length * 40 - k * 40 - 40 = L.length * 40 - (k * 40 + 40) by omega]
    · rw [cell_of_row _ _ _ _ _ _ hh, Array.getElem?_eq_getElem (by rw [hcs]; omega)]
      rfl
theorem Ow.cases {base : Nat} {w : World} {s : Value} {L : List Lin.V} (h : Ow base w s L) {C : Prop} (h0 : s = .slice none 0 0 → L = [] → C) (h1 : ∀ g cap, s = .slice (some ⟨g, 0, none⟩) L.length cap → Ox base w g cap L → C) : C := by
  rcases h.2 with ⟨hs, hl⟩ | ⟨g, cap, cur, hs, hlo, r⟩
  · exact h0 hs (List.eq_nil_of_length_eq_zero hl)
  · exact h1 g cap hs ⟨hlo, by rw [← hs]; exact h⟩
/-- The rows, the first k of them cleared at the new row's lead. -/
noncomputable def clr (p : Int) (u : Lin.V) (x : Lin.V) : Lin.V := Lin.add p x (-(x (Lin.ld u))) u
noncomputable def part (p : Int) (u : Lin.V) (L : List Lin.V) (k : Nat) : List Lin.V := (L.take k).map (clr p u) ++ L.drop k
end Go.Proofs.Ytchijefibiaphaa

namespace Go.Proofs.Ytchijefibiaphaa
open Go.RowKit

/-- A reduced list that a call is gathering, a vector in a box of its own. -/
structure Inn (w1 W : World) (sv : Value) (R : List Lin.V) (vb : Nat) (r : Lin.V) : Prop where
  below : Below w1.heap.size w1 W
  own : Ow w1.heap.size W sv R
  lo : w1.heap.size ≤ vb
  at' : At W vb 0 r
  there : W.there vb 0 40
  ne : some vb ≠ sv.ownBlock
theorem Inn.next {w1 W W' : World} {sv : Value} {R : List Lin.V} {vb : Nat} {r : Lin.V} (h : Inn w1 W sv R vb r) (hb : Below W.heap.size W W') : Inn w1 W' sv R vb r :=
  ⟨h.below.trans (hb.mono h.below.size), h.own.below hb, h.lo, h.at'.later hb, there_below h.there hb h.at'.lt, h.ne⟩
theorem Inn.put {w1 W : World} {sv : Value} {R : List Lin.V} {vb : Nat} {r : Lin.V} (h : Inn w1 W sv R vb r) (x : Lin.V) : Inn w1 (W.setCells vb 0 (vl x)) sv R vb x :=
  ⟨below_setCells _ h.lo _ _ _ h.below, h.own.grown (grown_setCells W vb 0 (vl x)) (Or.inr h.ne.symm), h.lo, at_setCells _ _ _ _ h.there, World.there_setCells h.there _ _ _, h.ne⟩
theorem Ow.apart {base : Nat} {w : World} {s : Value} {L : List Lin.V} (h : Ow base w s L) {b : Nat} (hb : w.heap.size ≤ b) : some b ≠ s.ownBlock := fun e => by
  have := ((World.ownsRow.lt h) b e.symm).1
  have := ((World.ownsRow.lt h) b e.symm).2
  omega

/-- What a reduced list has to do with a list. -/
structure RedOf (p : Int) (R T : List Lin.V) : Prop where
  red : Lin.Red p R
  wd : ∀ u ∈ R, Lin.Wd 40 u
  eqv : Lin.Eqv p R T
theorem RedOf.nil (p : Int) : RedOf p [] [] := ⟨Lin.Red.nil p, by simp, Lin.Eqv.refl _ _⟩
theorem RedOf.put {p : Int} (hp : 1 < p) {R T : List Lin.V} (h : RedOf p R T) {v r u : Lin.V} {k : Nat} (hT : ∀ w ∈ T, Lin.Md p w) (hv : Lin.Md p v) (hr : Lin.Rest p R v R.length r) (hne : r ≠ Lin.zv) (hu : Lin.Unit p r u) (huw : Lin.Wd 40 u) (hk : k ≤ R.length)
    (hlo : ∀ w ∈ R.take k, Lin.ld w < Lin.ld u) (hhi : ∀ w ∈ R.drop k, ¬ Lin.ld w < Lin.ld u) : RedOf p (Lin.put p R k u) (T ++ [v]) := by
  have hf := Lin.fits_of hr hne hu hk hlo hhi
  refine ⟨hf.red hp h.red, fun x hx => ?_, Lin.put_eqv hp h.red hT hv h.eqv hr hu hf⟩
  rcases Lin.put_mem.1 hx with rfl | ⟨y, hy, rfl⟩
  · exact huw
  · exact Lin.add_wd _ (h.wd y hy) huw
theorem put_length (p : Int) (R : List Lin.V) (k : Nat) (u : Lin.V) (hk : k ≤ R.length) : (Lin.put p R k u).length = R.length + 1 := by simp [Lin.put]; omega

end Go.Proofs.Ytchijefibiaphaa


namespace Go.Proofs.Ytchijefibiaphaa
open Go.RowKit

/-- A row as a vector. -/
def ofL (xs : List Int) : Lin.V := fun i => xs.getD i 0
theorem ofL_at {xs : List Int} {i : Nat} (h : i < xs.length) : ofL xs i = xs[i] := getD_of_lt _ h
theorem ofL_wd {xs : List Int} {n : Nat} (h : xs.length ≤ n) : Lin.Wd n (ofL xs) := fun i hi => by simp [ofL, List.getD, show xs.length ≤ i by omega]
theorem ofL_md {p n : Int} {xs : List Int} (hp : 0 < p) (h : RowOk p n xs) : Lin.Md p (ofL xs) := fun i => by
  by_cases hi : i < xs.length
  · rw [ofL_at hi]
    have := h.2 _ (List.getElem_mem hi)
    omega
  · have : ofL xs i = 0 := by simp [ofL, List.getD, show xs.length ≤ i by omega]
    omega
/-- The vectors, the first k of them filled. -/
def filled (L : List Lin.V) (k : Nat) : List Lin.V := L.take k ++ List.replicate (L.length - k) Lin.zv
end Go.Proofs.Ytchijefibiaphaa

namespace Go.Proofs.Ytchijefibiaphaa
open Go.RowKit

def rowZ (c : Nat) (Z : Nat → Nat → Int) (j : Nat) : List Int := (List.range c).map fun i => Z j i
theorem rowZ_length (c : Nat) (Z : Nat → Nat → Int) (j : Nat) : (rowZ c Z j).length = c := by simp [rowZ]
/-- A table at block g, its rows behind it, each in a block of its own. -/
structure TabW (W : World) (g r c : Nat) (Z : Nat → Nat → Int) : Prop where
  top : ∀ j, j < r → W.cell? ⟨g, j, none⟩ = some (.slice (some ⟨g + 1 + j, 0, none⟩) c c)
  rows : ∀ j, j < r → W1 (g + 1 + j) (g + 1 + j + 1) W (.slice (some ⟨g + 1 + j, 0, none⟩) c c) (rowZ c Z j)
theorem Mat.tab {w w' : World} {r c : Nat} {Z : Nat → Nat → Int} (h : Mat w w' r c Z) : TabW w' w.heap.size r c Z := by
  refine ⟨fun j hj => h.top.cell hj, fun j hj => ?_⟩
  by_cases hc : c = 0
  · subst hc
    exact Or.inl ⟨rfl, _, _, rfl⟩
  · refine Or.inr ⟨w.heap.size + 1 + j, 0, c, by rw [rowZ_length], Nat.le_refl _, by omega, by rw [rowZ_length]; omega, fun i hi => ?_, fun i _ => (h.rows j hj).frozen _⟩
    have hi' : i < c := by rwa [rowZ_length] at hi
    refine ⟨_, by rw [Nat.zero_add]; exact (h.rows j hj).cell hi', ?_⟩
    simp only [IsI, rowZ, List.getElem_map, List.getElem_range]
theorem TabW.same {W W' : World} {g r c : Nat} {Z : Nat → Nat → Int} (h : TabW W g r c Z) (hs : Same g (g + 1 + r) W W') : TabW W' g r c Z :=
  ⟨fun j hj => (World.cell?_of_block (w := W) (w' := W') (a := ⟨g, j, none⟩) (hs g (Nat.le_refl _) (by omega))).trans (h.top j hj), fun j hj => (h.rows j hj).same (hs.narrow (by omega) (by omega))⟩
theorem TabW.congr {W : World} {g r c : Nat} {Z Z' : Nat → Nat → Int} (h : TabW W g r c Z) (e : ∀ j, j < r → rowZ c Z j = rowZ c Z' j) : TabW W g r c Z' :=
  ⟨h.top, fun j hj => by rw [← e j hj]; exact h.rows j hj⟩
theorem TabW.l2 {W : World} {g r c : Nat} {Z : Nat → Nat → Int} (h : TabW W g r c Z) : L2 g W (.slice (some ⟨g, 0, none⟩) r r) (tableOf r c Z) := by
  by_cases h0 : r = 0
  · subst h0
    exact Or.inl ⟨rfl, _, _, rfl⟩
  · refine Or.inr ⟨g, 0, r, by simp [tableOf], Nat.le_refl _, by simp [tableOf]; omega, fun k hk => ?_⟩
    have hk' : k < r := by simpa [tableOf] using hk
    refine ⟨_, by rw [Nat.zero_add]; exact h.top k hk', ?_⟩
    have := (h.rows k hk').l1.lower (lo' := g) (by omega)
    simpa [tableOf, rowZ] using this

/-- A table of a result: none, or one in blocks of its own. -/
def TW (lo hi : Nat) (W : World) (u : Value) (R : List (List Int)) : Prop :=
  (u = .slice none 0 0 ∧ R = []) ∨ ∃ (g r c : Nat) (Z : Nat → Nat → Int), lo ≤ g ∧ g + 1 + r ≤ hi ∧ r ≤ 1048576 ∧ c ≤ 1048576 ∧ u = .slice (some ⟨g, 0, none⟩) r r ∧ R = tableOf r c Z ∧ TabW W g r c Z
/-- The same with the marks from k to m in it. -/
def HW (lo hi : Nat) (W : World) (u : Value) (k m : Int) : Prop :=
  (u = .slice none 0 0 ∧ m = k) ∨ ∃ (g r c : Nat), lo ≤ g ∧ g + 1 + r ≤ hi ∧ r ≤ 1048576 ∧ c ≤ 1048576 ∧ u = .slice (some ⟨g, 0, none⟩) r r ∧ m = k + ((r * c : Nat) : Int) ∧ TabW W g r c (fun j i => k + ((j * c : Nat) : Int) + (i : Int))
theorem TW.nil (lo hi : Nat) (W : World) : TW lo hi W (.slice none 0 0) [] := Or.inl ⟨rfl, rfl⟩
theorem TW.same {lo hi : Nat} {W W' : World} {u : Value} {R : List (List Int)} (h : TW lo hi W u R) (hs : Same lo hi W W') : TW lo hi W' u R := by
  rcases h with h | ⟨g, r, c, Z, h1, h2, h3, h4, h5, h6, h7⟩
  · exact Or.inl h
  · exact Or.inr ⟨g, r, c, Z, h1, h2, h3, h4, h5, h6, h7.same (hs.narrow h1 h2)⟩
theorem TW.l2 {lo hi : Nat} {W : World} {u : Value} {R : List (List Int)} (h : TW lo hi W u R) : L2 0 W u R := by
  rcases h with ⟨rfl, rfl⟩ | ⟨g, r, c, Z, h1, h2, h3, h4, rfl, rfl, h7⟩
  · exact Or.inl ⟨rfl, _, _, rfl⟩
  · exact h7.l2.lower (Nat.zero_le _)
theorem HW.same {lo hi : Nat} {W W' : World} {u : Value} {k m : Int} (h : HW lo hi W u k m) (hs : Same lo hi W W') : HW lo hi W' u k m := by
  rcases h with h | ⟨g, r, c, h1, h2, h3, h4, h5, h6, h7⟩
  · exact Or.inl h
  · exact Or.inr ⟨g, r, c, h1, h2, h3, h4, h5, h6, h7.same (hs.narrow h1 h2)⟩

end Go.Proofs.Ytchijefibiaphaa

namespace Go.Proofs.Ytchijefibiaphaa
open Go.RowKit

/-- A table in blocks of its own, block for block. -/
structure TabI (W : World) (g r c : Nat) (Z : Nat → Nat → Int) : Prop where
  top : W.rowIs g 22 r (fun j => .slice (some ⟨g + 1 + j, 0, none⟩) c c)
  rows : ∀ j, j < r → W.rowIs (g + 1 + j) 2 c (fun i => .int .i64 (Z j i))
theorem rowIs_below {W W' : World} {b : Nat} {t : TypeId} {n : Nat} {f : Nat → Value} (h : W.rowIs b t n f) (hb : Below W.heap.size W W') : W'.rowIs b t n f := h.of_block (hb.block b h.lt)
theorem TabI.below {W W' : World} {g r c : Nat} {Z : Nat → Nat → Int} (h : TabI W g r c Z) (hb : Below W.heap.size W W') : TabI W' g r c Z :=
  ⟨rowIs_below h.top hb, fun j hj => rowIs_below (h.rows j hj) hb⟩
theorem TabI.tab {W : World} {g r c : Nat} {Z : Nat → Nat → Int} (h : TabI W g r c Z) : TabW W g r c Z := by
  refine ⟨fun j hj => h.top.cell hj, fun j hj => ?_⟩
  by_cases hc : c = 0
  · subst hc
    exact Or.inl ⟨rfl, _, _, rfl⟩
  · refine Or.inr ⟨g + 1 + j, 0, c, by rw [rowZ_length], Nat.le_refl _, by omega, by rw [rowZ_length]; omega, fun i hi => ?_, fun i _ => (h.rows j hj).frozen _⟩
    have hi' : i < c := by rwa [rowZ_length] at hi
    refine ⟨_, by rw [Nat.zero_add]; exact (h.rows j hj).cell hi', ?_⟩
    simp only [IsI, rowZ, List.getElem_map, List.getElem_range]
end Go.Proofs.Ytchijefibiaphaa


namespace Go.Proofs.Ytchijefibiaphaa
open Go.RowKit

/-- An interval of cells: block, offset, length. -/
abbrev Iv := Nat × Nat × Nat
def ivSize (I : List Iv) : Nat := (I.map (·.2.2)).sum
theorem ivSize_append (A B : List Iv) : ivSize (A ++ B) = ivSize A + ivSize B := by simp [ivSize]
def Apart (x y : Iv) : Prop := x.1 ≠ y.1 ∨ x.2.1 + x.2.2 ≤ y.2.1 ∨ y.2.1 + y.2.2 ≤ x.2.1
def Disj (I : List Iv) : Prop := I.Pairwise Apart
def InIv (I : List Iv) (b o : Nat) : Prop := ∃ x ∈ I, x.1 = b ∧ x.2.1 ≤ o ∧ o < x.2.1 + x.2.2
/-- Numbers stand there that may be written. -/
def Nums (lo hi : Nat) (w : World) (I : List Iv) : Prop := ∀ x ∈ I, lo ≤ x.1 ∧ x.1 < hi ∧ ∀ i, i < x.2.2 → (∃ z : Int, w.cell? ⟨x.1, x.2.1 + i, none⟩ = some (.int .i64 z)) ∧ w.frozen? ⟨x.1, x.2.1 + i, none⟩ = false
/-- Outside of the intervals all cells are as they were. -/
def OutC (I : List Iv) (w w' : World) : Prop := ∀ b o, ¬ InIv I b o → w'.cell? ⟨b, o, none⟩ = w.cell? ⟨b, o, none⟩
/-- The numbers from k on stand there. -/
def Marked (w : World) : List Iv → Int → Prop
  | [], _ => True
  | x :: I, k => (∀ i, i < x.2.2 → w.cell? ⟨x.1, x.2.1 + i, none⟩ = some (.int .i64 (k + (i : Int)))) ∧ Marked w I (k + (x.2.2 : Int))
theorem Nums.tame {lo hi : Nat} {w w' : World} {I : List Iv} (h : Nums lo hi w I) (t : Tame w w') : Nums lo hi w' I := fun x hx => ⟨(h x hx).1, (h x hx).2.1, fun i hi => by
  obtain ⟨⟨z, hz⟩, hf⟩ := (h x hx).2.2 i hi
  exact ⟨t.nums _ _ _ hz, (t.frozen _ _).trans hf⟩⟩
theorem Nums.same {lo hi : Nat} {w w' : World} {I : List Iv} (h : Nums lo hi w I) (s : Same lo hi w w') : Nums lo hi w' I := fun x hx => ⟨(h x hx).1, (h x hx).2.1, fun i hi => by
  obtain ⟨⟨z, hz⟩, hf⟩ := (h x hx).2.2 i hi
  have hb := s x.1 (h x hx).1 (h x hx).2.1
  exact ⟨⟨z, (World.cell?_of_block (w := w) (a := ⟨x.1, x.2.1 + i, none⟩) hb).trans hz⟩, (World.frozen?_of_block (w := w) (a := ⟨x.1, x.2.1 + i, none⟩) hb).trans hf⟩⟩
theorem Nums.sub {lo hi : Nat} {w : World} {I J : List Iv} (h : Nums lo hi w I) (s : ∀ x ∈ J, x ∈ I) : Nums lo hi w J := fun x hx => h x (s x hx)
theorem Nums.append {lo hi : Nat} {w : World} {I J : List Iv} (h : Nums lo hi w I) (k : Nums lo hi w J) : Nums lo hi w (I ++ J) := fun x hx => (List.mem_append.1 hx).elim (h x) (k x)
theorem Nums.wider {lo hi lo' hi' : Nat} {w : World} {I : List Iv} (h : Nums lo hi w I) (h1 : lo' ≤ lo) (h2 : hi ≤ hi') : Nums lo' hi' w I := fun x hx => ⟨by have := (h x hx).1; omega, by have := (h x hx).2.1; omega, (h x hx).2.2⟩
theorem OutC.refl (I : List Iv) (w : World) : OutC I w w := fun _ _ _ => rfl
theorem OutC.trans {A B : List Iv} {a b c : World} (h : OutC A a b) (k : OutC B b c) : OutC (A ++ B) a c := fun x o hn => by
  rw [k x o (fun ⟨y, hy, e⟩ => hn ⟨y, List.mem_append_right _ hy, e⟩), h x o (fun ⟨y, hy, e⟩ => hn ⟨y, List.mem_append_left _ hy, e⟩)]
theorem Marked.append {w : World} {A B : List Iv} {k : Int} (h : Marked w A k) (h2 : Marked w B (k + (ivSize A : Int))) : Marked w (A ++ B) k := by
  induction A generalizing k with
  | nil => simpa [ivSize] using h2
  | cons x A ih =>
    refine ⟨h.1, ih h.2 ?_⟩
    have : k + (x.2.2 : Int) + (ivSize A : Int) = k + (ivSize (x :: A) : Int) := by simp [ivSize]; omega
    rw [this]
    exact h2
theorem Marked.parts {w : World} {A B : List Iv} {k : Int} (h : Marked w (A ++ B) k) : Marked w A k ∧ Marked w B (k + (ivSize A : Int)) := by
  induction A generalizing k with
  | nil => exact ⟨trivial, by simpa [ivSize] using h⟩
  | cons x A ih =>
    obtain ⟨h1, h2⟩ := ih h.2
    refine ⟨⟨h.1, h1⟩, ?_⟩
    have : k + (x.2.2 : Int) + (ivSize A : Int) = k + (ivSize (x :: A) : Int) := by simp [ivSize]; omega
    rw [← this]
    exact h2
theorem Marked.keep {w w' : World} {A B : List Iv} {k : Int} (h : Marked w A k) (o : OutC B w w') (d : ∀ x ∈ A, ∀ y ∈ B, Apart x y) : Marked w' A k := by
  induction A generalizing k with
  | nil => trivial
  | cons x A ih =>
    refine ⟨fun i hi => ?_, ih h.2 (fun y hy => d y (List.mem_cons_of_mem _ hy))⟩
    rw [o x.1 (x.2.1 + i) (fun ⟨y, hy, e1, e2, e3⟩ => by have := d x List.mem_cons_self y hy; unfold Apart at this; omega)]
    exact h.1 i hi
theorem Marked.same {lo hi : Nat} {w w' : World} {I : List Iv} {k : Int} (h : Marked w I k) (hI : ∀ x ∈ I, lo ≤ x.1 ∧ x.1 < hi) (s : Same lo hi w w') : Marked w' I k := by
  induction I generalizing k with
  | nil => trivial
  | cons x A ih =>
    refine ⟨fun i hi => ?_, ih h.2 (fun y hy => hI y (List.mem_cons_of_mem _ hy))⟩
    have hb := s x.1 (hI x List.mem_cons_self).1 (hI x List.mem_cons_self).2
    exact (World.cell?_of_block (w := w) (a := ⟨x.1, x.2.1 + i, none⟩) hb).trans (h.1 i hi)

/-- The slice v is an interval, or empty. -/
def S1 (lo hi : Nat) (_ : World) (v : Value) (I : List Iv) : Prop :=
  (I = [] ∧ ∃ ad cap, v = .slice ad 0 cap) ∨ ∃ b o n cap, I = [(b, o, n)] ∧ 0 < n ∧ n ≤ 1048576 ∧ lo ≤ b ∧ b < hi ∧ v = .slice (some ⟨b, o, none⟩) n cap
def flat (J : Nat → List Iv) (m : Nat) : List Iv := (List.range m).flatMap J
theorem flat_succ (J : Nat → List Iv) (m : Nat) : flat J (m + 1) = flat J m ++ J m := by simp [flat, List.range_succ]
theorem flat_part (J : Nat → List Iv) {j m : Nat} (h : j ≤ m) : ∃ r, flat J m = flat J j ++ r := by
  induction m with
  | zero => exact ⟨[], by rw [show j = 0 by omega]; simp⟩
  | succ m ih =>
    by_cases e : j = m + 1
    · exact ⟨[], by rw [e]; simp⟩
    · obtain ⟨r, hr⟩ := ih (by omega)
      exact ⟨r ++ J m, by rw [flat_succ, hr, List.append_assoc]⟩
theorem flat_mem {J : Nat → List Iv} {j m : Nat} (h : j < m) : ∀ x ∈ J j, x ∈ flat J m := fun _ hx => List.mem_flatMap.2 ⟨j, List.mem_range.2 h, hx⟩
theorem flat_apart {J : Nat → List Iv} {j m : Nat} (h : j < m) (d : Disj (flat J m)) : ∀ x ∈ flat J j, ∀ y ∈ J j, Apart x y := by
  obtain ⟨r, hr⟩ := flat_part J (show j + 1 ≤ m by omega)
  have d2 : (flat J j ++ J j).Pairwise Apart := by
    have : Disj ((flat J j ++ J j) ++ r) := by rw [← flat_succ, ← hr]; exact d
    exact (List.pairwise_append.1 this).1
  exact (List.pairwise_append.1 d2).2.2
theorem flat_disj {J : Nat → List Iv} {j m : Nat} (h : j < m) (d : Disj (flat J m)) : Disj (J j) := by
  obtain ⟨r, hr⟩ := flat_part J (show j + 1 ≤ m by omega)
  have d2 : (flat J j ++ J j).Pairwise Apart := by
    have : Disj ((flat J j ++ J j) ++ r) := by rw [← flat_succ, ← hr]; exact d
    exact (List.pairwise_append.1 this).1
  exact (List.pairwise_append.1 d2).2.1
theorem flat_size {J : Nat → List Iv} {j m : Nat} (h : j < m) : ivSize (flat J j) + ivSize (J j) ≤ ivSize (flat J m) := by
  obtain ⟨r, hr⟩ := flat_part J (show j + 1 ≤ m by omega)
  rw [hr, flat_succ, ivSize_append, ivSize_append]
  omega
/-- A slice of such slices. -/
def SS (S : World → Value → List Iv → Prop) (lo hi : Nat) (w : World) (v : Value) (I : List Iv) : Prop :=
  ∃ (ad : Option Addr) (m cap : Nat) (f : Nat → Value) (J : Nat → List Iv), v = .slice ad m cap ∧ m ≤ 1048576 ∧ I = flat J m ∧ (∀ j, j < m → S w (f j) (J j)) ∧ (0 < m → ∃ b o, ad = some ⟨b, o, none⟩ ∧ lo ≤ b ∧ b < hi ∧ ∀ j, j < m → w.cell? ⟨b, o + j, none⟩ = some (f j))
def S2 (lo hi : Nat) := SS (S1 lo hi) lo hi
def S3 (lo hi : Nat) := SS (S2 lo hi) lo hi
theorem S1.shape {lo hi : Nat} {w : World} {v : Value} {I : List Iv} (h : S1 lo hi w v I) : ∃ a n c, v = .slice a n c := by
  rcases h with ⟨_, ad, cap, h⟩ | ⟨b, o, n, cap, _, _, _, _, _, h⟩
  · exact ⟨ad, 0, cap, h⟩
  · exact ⟨_, n, cap, h⟩
theorem SS.shape {S : World → Value → List Iv → Prop} {lo hi : Nat} {w : World} {v : Value} {I : List Iv} (h : SS S lo hi w v I) : ∃ a n c, v = .slice a n c := by
  obtain ⟨ad, m, cap, _, _, h, _⟩ := h
  exact ⟨ad, m, cap, h⟩
theorem SS.keep {S : World → Value → List Iv → Prop} {lo hi : Nat} {w w' : World} {v : Value} {I : List Iv} (h : SS S lo hi w v I) (hS : ∀ v I, S w v I → S w' v I) (hc : ∀ b o v, lo ≤ b → b < hi → (∃ a n c, v = .slice a n c) → w.cell? ⟨b, o, none⟩ = some v → w'.cell? ⟨b, o, none⟩ = some v)
    (hs : ∀ v I, S w v I → ∃ a n c, v = .slice a n c) : SS S lo hi w' v I := by
  obtain ⟨ad, m, cap, f, J, h1, h2, h3, h4, h5⟩ := h
  refine ⟨ad, m, cap, f, J, h1, h2, h3, fun j hj => hS _ _ (h4 j hj), fun hm => ?_⟩
  obtain ⟨b, o, e, hb, hb2, hcl⟩ := h5 hm
  exact ⟨b, o, e, hb, hb2, fun j hj => hc _ _ _ hb hb2 (hs _ _ (h4 j hj)) (hcl j hj)⟩
theorem S1.keep {lo hi : Nat} {w w' : World} {v : Value} {I : List Iv} (h : S1 lo hi w v I) : S1 lo hi w' v I := h
theorem S2.tame {lo hi : Nat} {w w' : World} {v : Value} {I : List Iv} (h : S2 lo hi w v I) (t : Tame w w') : S2 lo hi w' v I :=
  SS.keep h (fun _ _ h => h) (fun b o v _ _ ⟨a, n, c, e⟩ hc => by subst e; exact t.slices _ _ _ _ _ hc) (fun _ _ h => S1.shape h)
theorem S3.tame {lo hi : Nat} {w w' : World} {v : Value} {I : List Iv} (h : S3 lo hi w v I) (t : Tame w w') : S3 lo hi w' v I :=
  SS.keep h (fun _ _ h => S2.tame h t) (fun b o v _ _ ⟨a, n, c, e⟩ hc => by subst e; exact t.slices _ _ _ _ _ hc) (fun _ _ h => SS.shape h)
theorem S2.same {lo hi : Nat} {w w' : World} {v : Value} {I : List Iv} (h : S2 lo hi w v I) (s : Same lo hi w w') : S2 lo hi w' v I :=
  SS.keep h (fun _ _ h => h) (fun b o _ hb hb2 _ hc => (World.cell?_of_block (w := w) (a := ⟨b, o, none⟩) (s b hb hb2)).trans hc) (fun _ _ h => S1.shape h)
theorem S3.same {lo hi : Nat} {w w' : World} {v : Value} {I : List Iv} (h : S3 lo hi w v I) (s : Same lo hi w w') : S3 lo hi w' v I :=
  SS.keep h (fun _ _ h => S2.same h s) (fun b o _ hb hb2 _ hc => (World.cell?_of_block (w := w) (a := ⟨b, o, none⟩) (s b hb hb2)).trans hc) (fun _ _ h => SS.shape h)

def MarkS (lo hi : Nat) (I : List Iv) (k : Int) (w : World) (e : Ending) (w' : World) : Prop := e = .returned (.int .i64 (k + (ivSize I : Int))) ∧ Only lo hi w w' ∧ Tame w w' ∧ OutC I w w' ∧ Marked w' I k

set_option maxHeartbeats 800000 in
theorem mark1s_any {lo hi : Nat} (v : Value) (I : List Iv) (k : Int) (w : World) (h : S1 lo hi w v I) (hn : Nums lo hi w I) (hk0 : 0 ≤ k) (hk1 : k ≤ 4611686018427387904) :
    Calls Try.prog 54 #[v, .int .i64 k] w (MarkS lo hi I k w) := by
  rcases h with ⟨rfl, ad, cap, rfl⟩ | ⟨b, o, n, cap, rfl, hpos, hm, hlo, hhi, rfl⟩
  · go_enter Try.func54, Try.ntmps54
    go_wp2
    refine wp_loop_rounds 1 ?_
    rw [rounds_succ]
    go_wp2
    go_ret
    exact ⟨ret_int (by simp [ivSize]), Only.refl _ _ _, Tame.refl _, OutC.refl _ _, trivial⟩
  · have HN := Lib.hid (hn (b, o, n) (by simp)).2.2
    clear hn
    go_enter Try.func54, Try.ntmps54
    go_wp2
    go_loopw [1, 5] (fun kk i wr => ∃ (j : Nat), j ≤ n ∧ i = .int .i64 j ∧ kk = .int .i64 (k + (j : Int)) ∧ Hid (Only lo hi w wr ∧ Tame w wr ∧ OutC [(b, o, n)] w wr) ∧ Hid (∀ q, q < n → ∃ x, wr.cell? ⟨b, o + q, none⟩ = some (.int .i64 x) ∧ (q < j → x = k + (q : Int))) ∧ Hid (∀ q, q < n → wr.frozen? ⟨b, o + q, none⟩ = false)) (fun _ i _ => n - (intOf i).toNat)
    case atStart => exact ⟨0, Nat.zero_le _, rfl, by simp, Lib.hid ⟨Only.refl _ _ _, Tame.refl _, OutC.refl _ _⟩, Lib.hid (fun q hq => by
      obtain ⟨⟨x, hx⟩, _⟩ := HN.out q hq
      exact ⟨x, hx, fun h => absurd h (Nat.not_lt_zero _)⟩), Lib.hid (fun q hq => (HN.out q hq).2)⟩
    case round =>
      clear HN
      obtain ⟨j, hj, rfl, rfl, HO, HX, HZ⟩ := hrel
      by_cases hlt : j < n
      · obtain ⟨x, hx, _⟩ := HX.out j hlt
        have hz := HZ.out j hlt
        have HN : Hid (∀ q, q < n → ∃ x, (wr.setCell ⟨b, o + j, none⟩ (.int .i64 (k + (j : Int)))).cell? ⟨b, o + q, none⟩ = some (.int .i64 x) ∧ (q < j + 1 → x = k + (q : Int))) := Lib.hid (fun q hq => by
          obtain ⟨y, hy, hy2⟩ := HX.out q hq
          by_cases e : q = j
          · subst e
            exact ⟨k + (q : Int), World.cell?_setCell_same _ _ _ hy, fun _ => rfl⟩
          · refine ⟨y, ?_, fun h => hy2 (by omega)⟩
            rw [World.cell?_setCell_other _ _ _ _ (fun hh => e (by have h2 := congrArg Addr.off hh; exact (Nat.add_left_cancel h2).symm))]
            exact hy)
        have HZ2 : Hid (∀ q, q < n → (wr.setCell ⟨b, o + j, none⟩ (.int .i64 (k + (j : Int)))).frozen? ⟨b, o + q, none⟩ = false) := Lib.hid (fun q hq => by rw [World.frozen?_setCell]; exact HZ.out q hq)
        have HO2 : Hid (Only lo hi w (wr.setCell ⟨b, o + j, none⟩ (.int .i64 (k + (j : Int)))) ∧ Tame w (wr.setCell ⟨b, o + j, none⟩ (.int .i64 (k + (j : Int)))) ∧ OutC [(b, o, n)] w (wr.setCell ⟨b, o + j, none⟩ (.int .i64 (k + (j : Int))))) := Lib.hid ⟨HO.out.1.trans (Only.set _ hlo hhi), HO.out.2.1.trans (Tame.set hx), fun b2 o2 hn2 => by
          rw [World.cell?_setCell_other _ _ _ _ (fun hh => hn2 (by
            have h1 := congrArg Addr.block hh
            have h2 := congrArg Addr.off hh
            simp only at h1 h2
            exact ⟨(b, o, n), by simp, h1, by show o ≤ o2; omega, by show o2 < o + n; omega⟩))]
          exact HO.out.2.2 b2 o2 hn2⟩
        go_wp2
        go_roundw
        case rel => exact ⟨j + 1, by omega, by go_num, by go_num, HO2, HN, HZ2⟩
        case measure => simp [intOf]; omega
      · have hjj : Hid (j = n) := Lib.hid (by omega)
        go_wp2
        go_ret
        refine ⟨ret_int (by rw [hjj.out]; simp [ivSize]), HO.out.1, HO.out.2.1, HO.out.2.2, fun q hq => ?_, trivial⟩
        obtain ⟨x, hx, hx2⟩ := HX.out q hq
        rw [hx, hx2 (by have := hjj.out; simp only at hq; omega)]

set_option maxHeartbeats 800000 in
theorem held1s_any {lo hi : Nat} (v : Value) (I : List Iv) (k : Int) (w : World) (h : S1 lo hi w v I) (hm : Marked w I k) (hk0 : 0 ≤ k) (hk1 : k ≤ 4611686018427387904) :
    Calls Try.prog 55 #[v, .int .i64 k] w (QW (.int .i64 (k + (ivSize I : Int))) w) := by
  rcases h with ⟨rfl, ad, cap, rfl⟩ | ⟨b, o, n, cap, rfl, hpos, hn, hlo, hhi, rfl⟩
  · have := held1_any (lo := 0) (.slice ad 0 cap) 0 k w (Or.inl ⟨rfl, _, _, rfl⟩) (by omega) hk0 hk1
    simpa [ivSize] using this
  · have := held1_any (lo := 0) (.slice (some ⟨b, o, none⟩) n cap) n k w (Or.inr ⟨b, o, cap, by rw [upFrom_length], Nat.zero_le _, by rw [upFrom_length]; exact hpos, fun q hq => by
      rw [upFrom_length] at hq
      refine ⟨_, hm.1 q hq, ?_⟩
      simp only [IsI, upFrom, List.getElem_map, List.getElem_range]⟩) hn hk0 hk1
    simpa [ivSize] using this

set_option maxHeartbeats 1600000 in
theorem mark2s_any {lo hi : Nat} (v : Value) (I : List Iv) (k : Int) (w : World) (h : S2 lo hi w v I) (hn : Nums lo hi w I) (hd : Disj I) (hk0 : 0 ≤ k) (hk1 : k + (ivSize I : Int) ≤ 4611686018427387904) :
    Calls Try.prog 70 #[v, .int .i64 k] w (MarkS lo hi I k w) := by
  obtain ⟨ad, m, cap, f, J, rfl, hm, rfl, hs, hc⟩ := h
  have HS := Lib.hid hs
  have HN := Lib.hid hn
  have HD := Lib.hid hd
  clear hs hn hd
  by_cases h0 : m = 0
  · subst h0
    clear hc
    go_enter Try.func70, Try.ntmps70
    go_wp2
    refine wp_loop_rounds 1 ?_
    rw [rounds_succ]
    go_wp2
    go_ret
    exact ⟨ret_int (by simp [ivSize, flat]), Only.refl _ _ _, Tame.refl _, OutC.refl _ _, trivial⟩
  · obtain ⟨b, o, rfl, hlo, hhi, hcl⟩ := hc (by omega)
    have HC := Lib.hid hcl
    have HK := Lib.hid hk1
    clear hcl hc hk1
    go_enter Try.func70, Try.ntmps70
    go_wp2
    go_loopw [1, 5] (fun kk i wr => ∃ (j : Nat) (s : Int), j ≤ m ∧ i = .int .i64 j ∧ kk = .int .i64 s ∧ Hid (s = k + (ivSize (flat J j) : Int)) ∧ Hid (Only lo hi w wr ∧ Tame w wr ∧ OutC (flat J j) w wr ∧ Marked wr (flat J j) k)) (fun _ i _ => m - (intOf i).toNat)
    case atStart => exact ⟨0, k, Nat.zero_le _, rfl, rfl, Lib.hid (by simp [flat, ivSize]), Lib.hid ⟨Only.refl _ _ _, Tame.refl _, OutC.refl _ _, trivial⟩⟩
    case round =>
      obtain ⟨j, s, hj, rfl, rfl, HSU, HO⟩ := hrel
      by_cases hlt : j < m
      · obtain ⟨a1, n1, c1, hu1⟩ := S1.shape (HS.out j hlt)
        have hu := HC.out j hlt
        rw [hu1] at hu
        have hu' := HO.out.2.1.slices _ _ _ _ _ hu
        have hs := HS.out
        have hsz := flat_size (J := J) hlt
        have hs0 : 0 ≤ s ∧ s ≤ 4611686018427387904 := by have := HSU.out; have := HK.out; omega
        have HM1 := Lib.hid (mark1s_any (f j) (J j) s wr (hs j hlt) ((HN.out.sub (flat_mem hlt)).tame HO.out.2.1) (by omega) (by omega))
        rw [hu1] at HM1
        have HS2 : Hid (s + (ivSize (J j) : Int) = k + (ivSize (flat J (j + 1)) : Int)) := Lib.hid (by have := HSU.out; rw [flat_succ, ivSize_append]; omega)
        clear hu hu1 hs hsz
        go_wp2_with fail
        refine HM1.out.mono ?_
        rintro e w2 ⟨rfl, ho, ht, hout, hmk⟩
        have HO2 : Hid (Only lo hi w w2 ∧ Tame w w2 ∧ OutC (flat J (j + 1)) w w2 ∧ Marked w2 (flat J (j + 1)) k) := Lib.hid ⟨HO.out.1.trans ho, HO.out.2.1.trans ht, by rw [flat_succ]; exact HO.out.2.2.1.trans hout, by
          rw [flat_succ]
          exact (HO.out.2.2.2.keep hout (flat_apart hlt HD.out)).append (by rw [← HSU.out]; exact hmk)⟩
        have hs1 : 0 ≤ s + (ivSize (J j) : Int) ∧ s + (ivSize (J j) : Int) ≤ 4611686018427387904 := by
          have h1 := HS2.out
          have h2 := HK.out
          have h3 : ivSize (flat J (j + 1)) ≤ ivSize (flat J m) := by
            obtain ⟨r, hr⟩ := flat_part J (show j + 1 ≤ m by omega)
            rw [hr, ivSize_append]; omega
          omega
        clear ho ht hout hmk HM1
        go_wp2
        go_roundw
        case rel => exact ⟨j + 1, s + (ivSize (J j) : Int), by omega, by go_num, rfl, HS2, HO2⟩
        case measure => simp [intOf]; omega
      · have hjj : Hid (j = m) := Lib.hid (by omega)
        go_wp2
        go_ret
        have h := HO.out
        have h2 := HSU.out
        rw [hjj.out] at h h2
        exact ⟨ret_int h2, h.1, h.2.1, h.2.2.1, h.2.2.2⟩

set_option maxHeartbeats 1600000 in
theorem held2s_any {lo hi : Nat} (v : Value) (I : List Iv) (k : Int) (w : World) (h : S2 lo hi w v I) (hn : Marked w I k) (hk0 : 0 ≤ k) (hk1 : k + (ivSize I : Int) ≤ 4611686018427387904) :
    Calls Try.prog 93 #[v, .int .i64 k] w (QW (.int .i64 (k + (ivSize I : Int))) w) := by
  obtain ⟨ad, m, cap, f, J, rfl, hm, rfl, hs, hc⟩ := h
  have HS := Lib.hid hs
  have HN := Lib.hid hn
  clear hs hn
  by_cases h0 : m = 0
  · subst h0
    clear hc
    go_enter Try.func93, Try.ntmps93
    go_wp2
    refine wp_loop_rounds 1 ?_
    rw [rounds_succ]
    go_wp2
    go_ret
    exact ⟨ret_int (by simp [ivSize, flat]), rfl⟩
  · obtain ⟨b, o, rfl, hlo, hhi, hcl⟩ := hc (by omega)
    have HC := Lib.hid hcl
    have HK := Lib.hid hk1
    clear hcl hc hk1
    go_enter Try.func93, Try.ntmps93
    go_wp2
    go_loop [1, 5] (fun kk i => ∃ (j : Nat) (s : Int), j ≤ m ∧ i = .int .i64 j ∧ kk = .int .i64 s ∧ Hid (s = k + (ivSize (flat J j) : Int))) (fun _ i => m - (intOf i).toNat)
    case atStart => exact ⟨0, k, Nat.zero_le _, rfl, rfl, Lib.hid (by simp [flat, ivSize])⟩
    case round =>
      obtain ⟨j, s, hj, rfl, rfl, HSU⟩ := hrel
      by_cases hlt : j < m
      · obtain ⟨a1, n1, c1, hu1⟩ := S1.shape (HS.out j hlt)
        have hu' := HC.out j hlt
        rw [hu1] at hu'
        have hs := HS.out
        have hsz := flat_size (J := J) hlt
        have hs0 : 0 ≤ s ∧ s ≤ 4611686018427387904 := by have := HSU.out; have := HK.out; omega
        have hmk : Marked w (J j) s := by
          obtain ⟨r, hr⟩ := flat_part J (show j + 1 ≤ m by omega)
          have h := HN.out
          rw [hr, flat_succ] at h
          have h2 := h.parts.1.parts.2
          rw [← HSU.out] at h2
          exact h2
        have HM1 := Lib.hid (held1s_any (f j) (J j) s w (hs j hlt) hmk (by omega) (by omega))
        rw [hu1] at HM1
        have HS2 : Hid (s + (ivSize (J j) : Int) = k + (ivSize (flat J (j + 1)) : Int)) := Lib.hid (by have := HSU.out; rw [flat_succ, ivSize_append]; omega)
        clear hu1 hs hsz hmk
        go_wp2_with fail
        refine HM1.out.mono ?_
        rintro e w2 ⟨rfl, rfl⟩
        have hneg : ¬ (s + (ivSize (J j) : Int) < 0) := by omega
        have hs1 : 0 ≤ s + (ivSize (J j) : Int) ∧ s + (ivSize (J j) : Int) ≤ 4611686018427387904 := by
          have h1 := HS2.out
          have h2 := HK.out
          have h3 : ivSize (flat J (j + 1)) ≤ ivSize (flat J m) := by
            obtain ⟨r, hr⟩ := flat_part J (show j + 1 ≤ m by omega)
            rw [hr, ivSize_append]; omega
          omega
        clear hu' HM1
        go_wp2
        go_round
        case rel => exact ⟨j + 1, s + (ivSize (J j) : Int), by omega, by go_num, rfl, HS2⟩
        case measure => simp [intOf]; omega
      · have hjj : Hid (j = m) := Lib.hid (by omega)
        go_wp2
        go_ret
        have h2 := HSU.out
        rw [hjj.out] at h2
        exact ⟨ret_int h2, rfl⟩

set_option maxHeartbeats 1600000 in
theorem mark3s_any {lo hi : Nat} (v : Value) (I : List Iv) (k : Int) (w : World) (h : S3 lo hi w v I) (hn : Nums lo hi w I) (hd : Disj I) (hk0 : 0 ≤ k) (hk1 : k + (ivSize I : Int) ≤ 4611686018427387904) :
    Calls Try.prog 25 #[v, .int .i64 k] w (MarkS lo hi I k w) := by
  obtain ⟨ad, m, cap, f, J, rfl, hm, rfl, hs, hc⟩ := h
  have HS := Lib.hid hs
  have HN := Lib.hid hn
  have HD := Lib.hid hd
  clear hs hn hd
  by_cases h0 : m = 0
  · subst h0
    clear hc
    go_enter Try.func25, Try.ntmps25
    go_wp2
    refine wp_loop_rounds 1 ?_
    rw [rounds_succ]
    go_wp2
    go_ret
    exact ⟨ret_int (by simp [ivSize, flat]), Only.refl _ _ _, Tame.refl _, OutC.refl _ _, trivial⟩
  · obtain ⟨b, o, rfl, hlo, hhi, hcl⟩ := hc (by omega)
    have HC := Lib.hid hcl
    have HK := Lib.hid hk1
    clear hcl hc hk1
    go_enter Try.func25, Try.ntmps25
    go_wp2
    go_loopw [1, 5] (fun kk i wr => ∃ (j : Nat) (s : Int), j ≤ m ∧ i = .int .i64 j ∧ kk = .int .i64 s ∧ Hid (s = k + (ivSize (flat J j) : Int)) ∧ Hid (Only lo hi w wr ∧ Tame w wr ∧ OutC (flat J j) w wr ∧ Marked wr (flat J j) k)) (fun _ i _ => m - (intOf i).toNat)
    case atStart => exact ⟨0, k, Nat.zero_le _, rfl, rfl, Lib.hid (by simp [flat, ivSize]), Lib.hid ⟨Only.refl _ _ _, Tame.refl _, OutC.refl _ _, trivial⟩⟩
    case round =>
      obtain ⟨j, s, hj, rfl, rfl, HSU, HO⟩ := hrel
      by_cases hlt : j < m
      · obtain ⟨a1, n1, c1, hu1⟩ := SS.shape (HS.out j hlt)
        have hu := HC.out j hlt
        rw [hu1] at hu
        have hu' := HO.out.2.1.slices _ _ _ _ _ hu
        have hs := HS.out
        have hsz := flat_size (J := J) hlt
        have hs0 : 0 ≤ s ∧ s ≤ 4611686018427387904 := by have := HSU.out; have := HK.out; omega
        have HM1 := Lib.hid (mark2s_any (f j) (J j) s wr (S2.tame (hs j hlt) HO.out.2.1) ((HN.out.sub (flat_mem hlt)).tame HO.out.2.1) (flat_disj hlt HD.out) (by omega) (by have := HSU.out; have := HK.out; omega))
        rw [hu1] at HM1
        have HS2 : Hid (s + (ivSize (J j) : Int) = k + (ivSize (flat J (j + 1)) : Int)) := Lib.hid (by have := HSU.out; rw [flat_succ, ivSize_append]; omega)
        clear hu hu1 hs hsz
        go_wp2_with fail
        refine HM1.out.mono ?_
        rintro e w2 ⟨rfl, ho, ht, hout, hmk⟩
        have HO2 : Hid (Only lo hi w w2 ∧ Tame w w2 ∧ OutC (flat J (j + 1)) w w2 ∧ Marked w2 (flat J (j + 1)) k) := Lib.hid ⟨HO.out.1.trans ho, HO.out.2.1.trans ht, by rw [flat_succ]; exact HO.out.2.2.1.trans hout, by
          rw [flat_succ]
          exact (HO.out.2.2.2.keep hout (flat_apart hlt HD.out)).append (by rw [← HSU.out]; exact hmk)⟩
        have hs1 : 0 ≤ s + (ivSize (J j) : Int) ∧ s + (ivSize (J j) : Int) ≤ 4611686018427387904 := by
          have h1 := HS2.out
          have h2 := HK.out
          have h3 : ivSize (flat J (j + 1)) ≤ ivSize (flat J m) := by
            obtain ⟨r, hr⟩ := flat_part J (show j + 1 ≤ m by omega)
            rw [hr, ivSize_append]; omega
          omega
        clear ho ht hout hmk HM1
        go_wp2
        go_roundw
        case rel => exact ⟨j + 1, s + (ivSize (J j) : Int), by omega, by go_num, rfl, HS2, HO2⟩
        case measure => simp [intOf]; omega
      · have hjj : Hid (j = m) := Lib.hid (by omega)
        go_wp2
        go_ret
        have h := HO.out
        have h2 := HSU.out
        rw [hjj.out] at h h2
        exact ⟨ret_int h2, h.1, h.2.1, h.2.2.1, h.2.2.2⟩

set_option maxHeartbeats 1600000 in
theorem held3s_any {lo hi : Nat} (v : Value) (I : List Iv) (k : Int) (w : World) (h : S3 lo hi w v I) (hn : Marked w I k) (hk0 : 0 ≤ k) (hk1 : k + (ivSize I : Int) ≤ 4611686018427387904) :
    Calls Try.prog 71 #[v, .int .i64 k] w (QW (.int .i64 (k + (ivSize I : Int))) w) := by
  obtain ⟨ad, m, cap, f, J, rfl, hm, rfl, hs, hc⟩ := h
  have HS := Lib.hid hs
  have HN := Lib.hid hn
  clear hs hn
  by_cases h0 : m = 0
  · subst h0
    clear hc
    go_enter Try.func71, Try.ntmps71
    go_wp2
    refine wp_loop_rounds 1 ?_
    rw [rounds_succ]
    go_wp2
    go_ret
    exact ⟨ret_int (by simp [ivSize, flat]), rfl⟩
  · obtain ⟨b, o, rfl, hlo, hhi, hcl⟩ := hc (by omega)
    have HC := Lib.hid hcl
    have HK := Lib.hid hk1
    clear hcl hc hk1
    go_enter Try.func71, Try.ntmps71
    go_wp2
    go_loop [1, 5] (fun kk i => ∃ (j : Nat) (s : Int), j ≤ m ∧ i = .int .i64 j ∧ kk = .int .i64 s ∧ Hid (s = k + (ivSize (flat J j) : Int))) (fun _ i => m - (intOf i).toNat)
    case atStart => exact ⟨0, k, Nat.zero_le _, rfl, rfl, Lib.hid (by simp [flat, ivSize])⟩
    case round =>
      obtain ⟨j, s, hj, rfl, rfl, HSU⟩ := hrel
      by_cases hlt : j < m
      · obtain ⟨a1, n1, c1, hu1⟩ := SS.shape (HS.out j hlt)
        have hu' := HC.out j hlt
        rw [hu1] at hu'
        have hs := HS.out
        have hsz := flat_size (J := J) hlt
        have hs0 : 0 ≤ s ∧ s ≤ 4611686018427387904 := by have := HSU.out; have := HK.out; omega
        have hmk : Marked w (J j) s := by
          obtain ⟨r, hr⟩ := flat_part J (show j + 1 ≤ m by omega)
          have h := HN.out
          rw [hr, flat_succ] at h
          have h2 := h.parts.1.parts.2
          rw [← HSU.out] at h2
          exact h2
        have HM1 := Lib.hid (held2s_any (f j) (J j) s w (hs j hlt) hmk (by omega) (by have := HSU.out; have := HK.out; omega))
        rw [hu1] at HM1
        have HS2 : Hid (s + (ivSize (J j) : Int) = k + (ivSize (flat J (j + 1)) : Int)) := Lib.hid (by have := HSU.out; rw [flat_succ, ivSize_append]; omega)
        clear hu1 hs hsz hmk
        go_wp2_with fail
        refine HM1.out.mono ?_
        rintro e w2 ⟨rfl, rfl⟩
        have hneg : ¬ (s + (ivSize (J j) : Int) < 0) := by omega
        have hs1 : 0 ≤ s + (ivSize (J j) : Int) ∧ s + (ivSize (J j) : Int) ≤ 4611686018427387904 := by
          have h1 := HS2.out
          have h2 := HK.out
          have h3 : ivSize (flat J (j + 1)) ≤ ivSize (flat J m) := by
            obtain ⟨r, hr⟩ := flat_part J (show j + 1 ≤ m by omega)
            rw [hr, ivSize_append]; omega
          omega
        clear hu' HM1
        go_wp2
        go_round
        case rel => exact ⟨j + 1, s + (ivSize (J j) : Int), by omega, by go_num, rfl, HS2⟩
        case measure => simp [intOf]; omega
      · have hjj : Hid (j = m) := Lib.hid (by omega)
        go_wp2
        go_ret
        have h2 := HSU.out
        rw [hjj.out] at h2
        exact ⟨ret_int h2, rfl⟩
end Go.Proofs.Ytchijefibiaphaa


namespace Go.Proofs.Ytchijefibiaphaa
open Go.RowKit

/-- The table at block g: its row of rows there, row j at block g + 1 + j, number i of it Z j i. -/
structure Tb (W : World) (g r c : Nat) (Z : Nat → Nat → Int) : Prop where
  top : W.rowIs g 22 r (fun j => .slice (some ⟨g + 1 + j, 0, none⟩) c c)
  rows : ∀ j, j < r → W.rowIs (g + 1 + j) 2 c (fun i => .int .i64 (Z j i))
  lt : g + 1 + r ≤ W.heap.size
theorem Mat.tb {w w' : World} {r c : Nat} {Z : Nat → Nat → Int} (h : Mat w w' r c Z) : Tb w' w.heap.size r c Z := ⟨h.top, h.rows, by rw [h.size]; omega⟩
theorem Tb.below {W W' : World} {g r c : Nat} {Z : Nat → Nat → Int} (h : Tb W g r c Z) (hb : Below W.heap.size W W') : Tb W' g r c Z :=
  ⟨h.top.of_block (hb.block _ h.top.lt), fun j hj => (h.rows j hj).of_block (hb.block _ (h.rows j hj).lt), Nat.le_trans h.lt hb.size⟩
theorem Tb.out {W : World} {g r c : Nat} {Z : Nat → Nat → Int} (h : Tb W g r c Z) {a : Addr} (ha : a.block < g ∨ g + 1 + r ≤ a.block) (v : Value) : Tb (W.setCell a v) g r c Z :=
  ⟨h.top.setOther (by omega) v, fun j hj => (h.rows j hj).setOther (by omega) v, by simpa using h.lt⟩
theorem Tb.put {W : World} {g r c : Nat} {Z : Nat → Nat → Int} (h : Tb W g r c Z) {j i : Nat} (hj : j < r) (x : Int) :
    Tb (W.setCell ⟨g + 1 + j, i, none⟩ (.int .i64 x)) g r c (fun j2 i2 => if j2 = j ∧ i2 = i then x else Z j2 i2) := by
  refine ⟨h.top.setOther (by show g ≠ g + 1 + j; omega) _, fun j2 hj2 => ?_, by simpa using h.lt⟩
  by_cases e : j2 = j
  · subst e
    exact ((h.rows j2 hj2).set i _).congr (fun i2 _ => by by_cases e2 : i2 = i <;> simp [e2])
  · exact ((h.rows j2 hj2).setOther (by show g + 1 + j2 ≠ g + 1 + j; omega) _).congr (fun i2 _ => by simp [e])
theorem Tb.congr {W : World} {g r c : Nat} {Z Z' : Nat → Nat → Int} (h : Tb W g r c Z) (e : ∀ j, j < r → ∀ i, i < c → Z j i = Z' j i) : Tb W g r c Z' :=
  ⟨h.top, fun j hj => (h.rows j hj).congr (fun i hi => by rw [e j hj i hi]), h.lt⟩
theorem Tb.tab {W : World} {g r c : Nat} {Z : Nat → Nat → Int} (h : Tb W g r c Z) : TabW W g r c Z := by
  refine ⟨fun j hj => h.top.cell hj, fun j hj => ?_⟩
  by_cases hc : c = 0
  · subst hc
    exact Or.inl ⟨rfl, _, _, rfl⟩
  · refine Or.inr ⟨g + 1 + j, 0, c, by rw [rowZ_length], Nat.le_refl _, by omega, by rw [rowZ_length]; omega, fun i hi => ?_, fun i _ => (h.rows j hj).frozen _⟩
    have hi' : i < c := by rwa [rowZ_length] at hi
    refine ⟨_, by rw [Nat.zero_add]; exact (h.rows j hj).cell hi', ?_⟩
    simp only [IsI, rowZ, List.getElem_map, List.getElem_range]
theorem Tb.tw {lo : Nat} {W : World} {g r c : Nat} {Z : Nat → Nat → Int} (h : Tb W g r c Z) (hl : lo ≤ g) (hr : r ≤ 1048576) (hc : c ≤ 1048576) : TW lo W.heap.size W (.slice (some ⟨g, 0, none⟩) r r) (tableOf r c Z) :=
  Or.inr ⟨g, r, c, Z, hl, h.lt, hr, hc, rfl, rfl, h.tab⟩
end Go.Proofs.Ytchijefibiaphaa


namespace Go.Proofs.Ytchijefibiaphaa
open Go.RowKit

theorem S1.wider {lo hi lo' hi' : Nat} {W : World} {u : Value} {I : List Iv} (h : S1 lo hi W u I) (h1 : lo' ≤ lo) (h2 : hi ≤ hi') : S1 lo' hi' W u I := by
  rcases h with h | ⟨b, o, n, cap, e, a, b1, c, d, f⟩
  · exact Or.inl h
  · exact Or.inr ⟨b, o, n, cap, e, a, b1, by omega, by omega, f⟩
theorem SS.wider {S S' : World → Value → List Iv → Prop} {lo hi lo' hi' : Nat} {W : World} {u : Value} {I : List Iv} (h : SS S lo hi W u I) (hS : ∀ v I, S W v I → S' W v I) (h1 : lo' ≤ lo) (h2 : hi ≤ hi') : SS S' lo' hi' W u I := by
  obtain ⟨ad, m, cap, f, J, a, b, c, d, e⟩ := h
  refine ⟨ad, m, cap, f, J, a, b, c, fun j hj => hS _ _ (d j hj), fun hm => ?_⟩
  obtain ⟨b, o, x1, x2, x3, x4⟩ := e hm
  exact ⟨b, o, x1, by omega, by omega, x4⟩
theorem S2.wider {lo hi lo' hi' : Nat} {W : World} {u : Value} {I : List Iv} (h : S2 lo hi W u I) (h1 : lo' ≤ lo) (h2 : hi ≤ hi') : S2 lo' hi' W u I := SS.wider h (fun _ _ k => S1.wider k h1 h2) h1 h2
theorem S3.wider {lo hi lo' hi' : Nat} {W : World} {u : Value} {I : List Iv} (h : S3 lo hi W u I) (h1 : lo' ≤ lo) (h2 : hi ≤ hi') : S3 lo' hi' W u I := SS.wider h (fun _ _ k => S2.wider k h1 h2) h1 h2

/-- A result of 1 level(s) in blocks from lo up to hi, its numbers apart from each other. -/
def Rw1 (lo hi : Nat) (W : World) (u : Value) (out : List Int) : Prop := W1 lo hi W u out ∧ ∃ I, S1 lo hi W u I ∧ Nums lo hi W I ∧ Disj I ∧ ivSize I ≤ 1048576
theorem Rw1.same {lo hi : Nat} {W W' : World} {u : Value} {out : List Int} (h : Rw1 lo hi W u out) (s : Same lo hi W W') : Rw1 lo hi W' u out := by
  obtain ⟨h1, I, h2, h3, h4, h5⟩ := h
  exact ⟨h1.same s, I, h2, h3.same s, h4, h5⟩
theorem Rw1.next {lo hi : Nat} {W W' : World} {u : Value} {out : List Int} (h : Rw1 lo hi W u out) (hb : Below W.heap.size W W') (hh : hi ≤ W.heap.size) : Rw1 lo hi W' u out := h.same (Same.of_below hb hh)
theorem Rw1.wider {lo hi lo' hi' : Nat} {W : World} {u : Value} {out : List Int} (h : Rw1 lo hi W u out) (h1 : lo' ≤ lo) (h2 : hi ≤ hi') : Rw1 lo' hi' W u out := by
  obtain ⟨a, I, b, c, d, e⟩ := h
  exact ⟨a.wider h1 h2, I, b.wider h1 h2, c.wider h1 h2, d, e⟩
theorem Rw1.l {lo hi : Nat} {W : World} {u : Value} {out : List Int} (h : Rw1 lo hi W u out) : L1 0 W u out := h.1.l1.lower (Nat.zero_le _)
theorem Rw1.shape {lo hi : Nat} {W : World} {u : Value} {out : List Int} (h : Rw1 lo hi W u out) : ∃ ad cap, u = .slice ad out.length cap := Sw.shape h.1
theorem Rw1.nil (lo hi : Nat) (W : World) : Rw1 lo hi W (.slice none 0 0) [] := ⟨Or.inl ⟨rfl, _, _, rfl⟩, [], Or.inl ⟨rfl, _, _, rfl⟩, fun _ h => absurd h (by simp), List.Pairwise.nil, by simp [ivSize]⟩
/-- The same with the marks from 1 on in it. -/
def Hw1 (lo hi : Nat) (W : World) (u : Value) (m : Int) : Prop := ∃ I, S1 lo hi W u I ∧ Marked W I 1 ∧ (∀ x ∈ I, lo ≤ x.1 ∧ x.1 < hi) ∧ m = 1 + (ivSize I : Int) ∧ ivSize I ≤ 1048576
theorem Hw1.same {lo hi : Nat} {W W' : World} {u : Value} {m : Int} (h : Hw1 lo hi W u m) (s : Same lo hi W W') : Hw1 lo hi W' u m := by
  obtain ⟨I, h2, h3, h4, h5⟩ := h
  exact ⟨I, h2, h3.same h4 s, h4, h5⟩
theorem Hw1.next {lo hi : Nat} {W W' : World} {u : Value} {m : Int} (h : Hw1 lo hi W u m) (hb : Below W.heap.size W W') (hh : hi ≤ W.heap.size) : Hw1 lo hi W' u m := h.same (Same.of_below hb hh)
/-- A result of 2 level(s) in blocks from lo up to hi, its numbers apart from each other. -/
def Rw2 (lo hi : Nat) (W : World) (u : Value) (out : List (List Int)) : Prop := W2 lo hi W u out ∧ ∃ I, S2 lo hi W u I ∧ Nums lo hi W I ∧ Disj I ∧ ivSize I ≤ 1099511627776
theorem Rw2.same {lo hi : Nat} {W W' : World} {u : Value} {out : List (List Int)} (h : Rw2 lo hi W u out) (s : Same lo hi W W') : Rw2 lo hi W' u out := by
  obtain ⟨h1, I, h2, h3, h4, h5⟩ := h
  exact ⟨h1.same s, I, h2.same s, h3.same s, h4, h5⟩
theorem Rw2.next {lo hi : Nat} {W W' : World} {u : Value} {out : List (List Int)} (h : Rw2 lo hi W u out) (hb : Below W.heap.size W W') (hh : hi ≤ W.heap.size) : Rw2 lo hi W' u out := h.same (Same.of_below hb hh)
theorem Rw2.wider {lo hi lo' hi' : Nat} {W : World} {u : Value} {out : List (List Int)} (h : Rw2 lo hi W u out) (h1 : lo' ≤ lo) (h2 : hi ≤ hi') : Rw2 lo' hi' W u out := by
  obtain ⟨a, I, b, c, d, e⟩ := h
  exact ⟨a.wider h1 h2, I, b.wider h1 h2, c.wider h1 h2, d, e⟩
theorem Rw2.l {lo hi : Nat} {W : World} {u : Value} {out : List (List Int)} (h : Rw2 lo hi W u out) : L2 0 W u out := h.1.l2.lower (Nat.zero_le _)
theorem Rw2.shape {lo hi : Nat} {W : World} {u : Value} {out : List (List Int)} (h : Rw2 lo hi W u out) : ∃ ad cap, u = .slice ad out.length cap := Sw.shape h.1
theorem Rw2.nil (lo hi : Nat) (W : World) : Rw2 lo hi W (.slice none 0 0) [] := ⟨Or.inl ⟨rfl, _, _, rfl⟩, [], ⟨none, 0, 0, fun _ => .slice none 0 0, fun _ => [], rfl, by omega, rfl, fun _ h => absurd h (Nat.not_lt_zero _), fun h => absurd h (Nat.lt_irrefl _)⟩, fun _ h => absurd h (by simp), List.Pairwise.nil, by simp [ivSize]⟩
/-- The same with the marks from 1 on in it. -/
def Hw2 (lo hi : Nat) (W : World) (u : Value) (m : Int) : Prop := ∃ I, S2 lo hi W u I ∧ Marked W I 1 ∧ (∀ x ∈ I, lo ≤ x.1 ∧ x.1 < hi) ∧ m = 1 + (ivSize I : Int) ∧ ivSize I ≤ 1099511627776
theorem Hw2.same {lo hi : Nat} {W W' : World} {u : Value} {m : Int} (h : Hw2 lo hi W u m) (s : Same lo hi W W') : Hw2 lo hi W' u m := by
  obtain ⟨I, h2, h3, h4, h5⟩ := h
  exact ⟨I, h2.same s, h3.same h4 s, h4, h5⟩
theorem Hw2.next {lo hi : Nat} {W W' : World} {u : Value} {m : Int} (h : Hw2 lo hi W u m) (hb : Below W.heap.size W W') (hh : hi ≤ W.heap.size) : Hw2 lo hi W' u m := h.same (Same.of_below hb hh)
/-- A result of 3 level(s) in blocks from lo up to hi, its numbers apart from each other. -/
def Rw3 (lo hi : Nat) (W : World) (u : Value) (out : List (List (List Int))) : Prop := W3 lo hi W u out ∧ ∃ I, S3 lo hi W u I ∧ Nums lo hi W I ∧ Disj I ∧ ivSize I ≤ 1152921504606846976
theorem Rw3.same {lo hi : Nat} {W W' : World} {u : Value} {out : List (List (List Int))} (h : Rw3 lo hi W u out) (s : Same lo hi W W') : Rw3 lo hi W' u out := by
  obtain ⟨h1, I, h2, h3, h4, h5⟩ := h
  exact ⟨h1.same s, I, h2.same s, h3.same s, h4, h5⟩
theorem Rw3.next {lo hi : Nat} {W W' : World} {u : Value} {out : List (List (List Int))} (h : Rw3 lo hi W u out) (hb : Below W.heap.size W W') (hh : hi ≤ W.heap.size) : Rw3 lo hi W' u out := h.same (Same.of_below hb hh)
theorem Rw3.wider {lo hi lo' hi' : Nat} {W : World} {u : Value} {out : List (List (List Int))} (h : Rw3 lo hi W u out) (h1 : lo' ≤ lo) (h2 : hi ≤ hi') : Rw3 lo' hi' W u out := by
  obtain ⟨a, I, b, c, d, e⟩ := h
  exact ⟨a.wider h1 h2, I, b.wider h1 h2, c.wider h1 h2, d, e⟩
theorem Rw3.l {lo hi : Nat} {W : World} {u : Value} {out : List (List (List Int))} (h : Rw3 lo hi W u out) : L3 0 W u out := h.1.l3.lower (Nat.zero_le _)
theorem Rw3.shape {lo hi : Nat} {W : World} {u : Value} {out : List (List (List Int))} (h : Rw3 lo hi W u out) : ∃ ad cap, u = .slice ad out.length cap := Sw.shape h.1
theorem Rw3.nil (lo hi : Nat) (W : World) : Rw3 lo hi W (.slice none 0 0) [] := ⟨Or.inl ⟨rfl, _, _, rfl⟩, [], ⟨none, 0, 0, fun _ => .slice none 0 0, fun _ => [], rfl, by omega, rfl, fun _ h => absurd h (Nat.not_lt_zero _), fun h => absurd h (Nat.lt_irrefl _)⟩, fun _ h => absurd h (by simp), List.Pairwise.nil, by simp [ivSize]⟩
/-- The same with the marks from 1 on in it. -/
def Hw3 (lo hi : Nat) (W : World) (u : Value) (m : Int) : Prop := ∃ I, S3 lo hi W u I ∧ Marked W I 1 ∧ (∀ x ∈ I, lo ≤ x.1 ∧ x.1 < hi) ∧ m = 1 + (ivSize I : Int) ∧ ivSize I ≤ 1152921504606846976
theorem Hw3.same {lo hi : Nat} {W W' : World} {u : Value} {m : Int} (h : Hw3 lo hi W u m) (s : Same lo hi W W') : Hw3 lo hi W' u m := by
  obtain ⟨I, h2, h3, h4, h5⟩ := h
  exact ⟨I, h2.same s, h3.same h4 s, h4, h5⟩
theorem Hw3.next {lo hi : Nat} {W W' : World} {u : Value} {m : Int} (h : Hw3 lo hi W u m) (hb : Below W.heap.size W W') (hh : hi ≤ W.heap.size) : Hw3 lo hi W' u m := h.same (Same.of_below hb hh)
/-- Lists of intervals in spans of blocks one behind the other are apart. -/
theorem disj_spans {J : Nat → List Iv} {b : Nat → Nat} {n : Nat} (hi : ∀ j, j < n → b j ≤ b (j + 1)) (hJ : ∀ j, j < n → ∀ x ∈ J j, b j ≤ x.1 ∧ x.1 < b (j + 1)) (hd : ∀ j, j < n → Disj (J j)) : Disj (flat J n) ∧ ∀ x ∈ flat J n, x.1 < b n := by
  induction n with
  | zero => exact ⟨List.Pairwise.nil, fun x hx => absurd hx (by simp [flat])⟩
  | succ n ih =>
    obtain ⟨h1, h2⟩ := ih (fun j hj => hi j (by omega)) (fun j hj => hJ j (by omega)) (fun j hj => hd j (by omega))
    rw [flat_succ]
    refine ⟨List.pairwise_append.2 ⟨h1, hd n (by omega), fun x hx y hy => Or.inl ?_⟩, fun x hx => ?_⟩
    · have a := h2 x hx
      have c := (hJ n (by omega) y hy).1
      omega
    · rcases List.mem_append.1 hx with h | h
      · have a := h2 x h
        have c := hi n (by omega)
        omega
      · exact (hJ n (by omega) x h).2
theorem size_spans {J : Nat → List Iv} {n B : Nat} (h : ∀ j, j < n → ivSize (J j) ≤ B) : ivSize (flat J n) ≤ B * n := by
  induction n with
  | zero => simp [flat, ivSize]
  | succ n ih =>
    have h1 := ih (fun j hj => h j (by omega))
    have h2 := h n (by omega)
    rw [flat_succ, ivSize_append, Nat.mul_succ]
    omega
theorem nums_flat {lo hi : Nat} {W : World} {J : Nat → List Iv} {n : Nat} (h : ∀ j, j < n → Nums lo hi W (J j)) : Nums lo hi W (flat J n) := fun x hx => by
  obtain ⟨j, hj, hx⟩ := List.mem_flatMap.1 hx
  exact h j (List.mem_range.1 hj) x hx
theorem choose2 {α : Type} [Inhabited α] {P : Nat → α → Prop} {n : Nat} (h : ∀ j, j < n → ∃ a, P j a) : ∃ f : Nat → α, ∀ j, j < n → P j (f j) :=
  ⟨fun j => if hj : j < n then Classical.choose (h j hj) else default, fun j hj => by simp only [dif_pos hj]; exact Classical.choose_spec (h j hj)⟩

/-- Tables while they are laid into a row of tables at block g: k of them are there. -/
structure Fill3 (wr : World) (g n k : Nat) (f : Nat → Value) (b : Nat → Nat) (ts : List (List (List Int))) : Prop where
  row : wr.rowIs g 61 n f
  lo : g < b 0
  inc : ∀ j, j < k → b j ≤ b (j + 1)
  hi : b k ≤ wr.heap.size
  at' : ∀ j (h : j < ts.length), j < k → Rw2 (b j) (b (j + 1)) wr (f j) ts[j]
theorem Fill3.start {wr : World} {g n : Nat} {f : Nat → Value} (h : wr.rowIs g 61 n f) (hg : g + 1 ≤ wr.heap.size) (ts : List (List (List Int))) : Fill3 wr g n 0 f (fun _ => g + 1) ts :=
  ⟨h, Nat.lt_succ_self _, fun _ h => absurd h (Nat.not_lt_zero _), hg, fun _ _ h => absurd h (Nat.not_lt_zero _)⟩
theorem Fill3.next {wr w' : World} {g n k : Nat} {f : Nat → Value} {b : Nat → Nat} {ts : List (List (List Int))} (h : Fill3 wr g n k f b ts) (hb : Below wr.heap.size wr w') (hm : ∀ j, j < k → b (j + 1) ≤ b k) : Fill3 w' g n k f b ts :=
  ⟨h.row.of_block (hb.block _ h.row.lt), h.lo, h.inc, Nat.le_trans h.hi hb.size, fun j hj hk => (h.at' j hj hk).next hb (Nat.le_trans (hm j hk) h.hi)⟩
theorem inc_le {b : Nat → Nat} {k : Nat} (h : ∀ j, j < k → b j ≤ b (j + 1)) : ∀ j, j ≤ k → b j ≤ b k := by
  intro j hj
  induction k with
  | zero => rw [show j = 0 by omega]; exact Nat.le_refl _
  | succ k ih =>
    by_cases e : j = k + 1
    · rw [e]; exact Nat.le_refl _
    · exact Nat.le_trans (ih (fun i hi => h i (by omega)) (by omega)) (h k (by omega))
theorem Fill3.below {wr w' : World} {g n k : Nat} {f : Nat → Value} {b : Nat → Nat} {ts : List (List (List Int))} (h : Fill3 wr g n k f b ts) (hb : Below wr.heap.size wr w') : Fill3 w' g n k f b ts := h.next hb (fun j hj => inc_le h.inc (j + 1) hj)
theorem Fill3.out {wr : World} {g n k : Nat} {f : Nat → Value} {b : Nat → Nat} {ts : List (List (List Int))} (h : Fill3 wr g n k f b ts) {a : Addr} (ha : a.block < g) (v : Value) : Fill3 (wr.setCell a v) g n k f b ts :=
  ⟨h.row.setOther (by omega) v, h.lo, h.inc, by simpa using h.hi, fun j hj hk => (h.at' j hj hk).same (fun x hx _ => Below.heap_setCell wr a v x (by have := h.lo; have := inc_le (b := b) (k := j) (fun i hi => h.inc i (by omega)) 0 (Nat.zero_le _); omega))⟩
theorem Fill3.step {wr w1 : World} {g n k : Nat} {f : Nat → Value} {b : Nat → Nat} {ts : List (List (List Int))} {u : Value} (h : Fill3 wr g n k f b ts) (hb : Below wr.heap.size wr w1) (hk : k < ts.length) (hu : Rw2 wr.heap.size w1.heap.size w1 u ts[k]) :
    Fill3 (w1.setCell ⟨g, k, none⟩ u) g n (k + 1) (fun j => if j = k then u else f j) (fun j => if j < k then b j else if j = k then wr.heap.size else w1.heap.size) ts := by
  have hlt := h.row.lt
  have hr : w1.rowIs g 61 n f := h.row.of_block (hb.block _ hlt)
  have hsm : ∀ lo hi, g < lo → Same lo hi w1 (w1.setCell ⟨g, k, none⟩ u) := fun lo hi hl => Same.set u (Or.inl hl)
  refine ⟨hr.set k u, ?_, fun j hj => ?_, ?_, fun j hj hjk => ?_⟩
  · by_cases e : 0 < k
    · simp only [if_pos e]; exact h.lo
    · simp only [if_neg e, if_pos (show 0 = k by omega)]; exact hlt
  · by_cases e : j < k
    · simp only [if_pos e]
      by_cases e2 : j + 1 < k
      · simp only [if_pos e2]; exact h.inc j e
      · simp only [if_neg e2, if_pos (show j + 1 = k by omega)]
        have := inc_le h.inc j (by omega)
        have := h.hi
        omega
    · simp only [if_neg e, if_pos (show j = k by omega), if_neg (show ¬ j + 1 < k by omega), if_neg (show ¬ j + 1 = k by omega)]
      exact hb.size
  · simp only [if_neg (show ¬ k + 1 < k by omega), if_neg (show ¬ k + 1 = k by omega)]
    simp
  · by_cases e : j = k
    · subst e
      simp only [if_neg (show ¬ j < j by omega), if_neg (show ¬ j + 1 < j by omega), if_neg (show ¬ j + 1 = j by omega), if_true]
      exact hu.same (hsm _ _ hlt)
    · have hj' : j < k := by omega
      have hh := inc_le h.inc (j + 1) hj'
      have h0 := inc_le (b := b) (k := j) (fun i hi => h.inc i (by omega)) 0 (Nat.zero_le _)
      have hl0 := h.lo
      have ht := ((h.at' j hj hj').next hb (Nat.le_trans hh h.hi)).same (hsm _ _ (by omega))
      simp only [if_neg e, if_pos hj']
      by_cases e2 : j + 1 < k
      · simp only [if_pos e2]; exact ht
      · simp only [if_neg e2, if_pos (show j + 1 = k by omega)]
        exact ht.wider (Nat.le_refl _) (Nat.le_trans hh h.hi)
theorem Fill3.rw3 {wr : World} {g n : Nat} {f : Nat → Value} {b : Nat → Nat} {ts : List (List (List Int))} (h : Fill3 wr g n n f b ts) (hn : n = ts.length) (hs : n ≤ 1048576) : Rw3 g wr.heap.size wr (.slice (some ⟨g, 0, none⟩) n n) ts := by
  have hlt := h.row.lt
  have h1 : ∀ j, j < n → Rw2 g wr.heap.size wr (f j) (ts.getD j []) := fun j hj => by
    rw [getD_of_lt _ (by omega)]
    have a1 := inc_le h.inc (j + 1) hj
    have a2 := inc_le (b := b) (k := j) (fun i hi => h.inc i (by omega)) 0 (Nat.zero_le _)
    have a3 := h.lo
    exact (h.at' j (by omega) hj).wider (by omega) (Nat.le_trans a1 h.hi)
  refine ⟨?_, ?_⟩
  · by_cases h0 : n = 0
    · exact Or.inl ⟨List.eq_nil_of_length_eq_zero (by omega), _, _, by rw [h0]⟩
    · refine Or.inr ⟨g, 0, n, by rw [hn], Nat.le_refl _, hlt, by omega, fun k hk => ?_, fun k _ => h.row.frozen _⟩
      refine ⟨f k, by rw [Nat.zero_add]; exact h.row.cell (by omega), ?_⟩
      have := (h1 k (by omega)).1
      rwa [getD_of_lt _ hk] at this
  · have hex : ∀ j, j < n → ∃ I, S2 (b j) (b (j + 1)) wr (f j) I ∧ Nums (b j) (b (j + 1)) wr I ∧ Disj I ∧ ivSize I ≤ 1099511627776 := fun j hj => (h.at' j (by omega) hj).2
    obtain ⟨J, hJ⟩ := choose2 hex
    have hw : ∀ j, j < n → g ≤ b j ∧ b (j + 1) ≤ wr.heap.size := fun j hj => by
      have a1 := inc_le h.inc (j + 1) hj
      have a2 := inc_le (b := b) (k := j) (fun i hi => h.inc i (by omega)) 0 (Nat.zero_le _)
      have a3 := h.lo
      have a4 := h.hi
      omega
    refine ⟨flat J n, ⟨some ⟨g, 0, none⟩, n, n, f, J, rfl, hs, rfl, fun j hj => (hJ j hj).1.wider (hw j hj).1 (hw j hj).2, fun _ => ⟨g, 0, rfl, Nat.le_refl _, hlt, fun j hj => by rw [Nat.zero_add]; exact h.row.cell hj⟩⟩, nums_flat (fun j hj => (hJ j hj).2.1.wider (hw j hj).1 (hw j hj).2), (disj_spans h.inc (fun j hj x hx => ⟨((hJ j hj).2.1 x hx).1, ((hJ j hj).2.1 x hx).2.1⟩) (fun j hj => (hJ j hj).2.2.1)).1, ?_⟩
    have h2 := size_spans (J := J) (n := n) (B := 1099511627776) (fun j hj => (hJ j hj).2.2.2)
    have h3 : 1099511627776 * n ≤ 1099511627776 * 1048576 := Nat.mul_le_mul (Nat.le_refl _) hs
    omega

/-- Two equal lists of tables compare as equal. -/
theorem eq3_true (va vb : Value) (xs : List (List (List Int))) (w : World) (ha : L3 0 w va xs) (hb : L3 0 w vb xs) (hm : Bd3 1048576 xs) : Calls Try.prog 21 #[va, vb] w (BR (.bool true) w) := by
  have h := eq3_any va vb xs xs w ha hb hm hm
  rw [decide_eq_true rfl] at h
  exact h.mono fun _ _ hh => qr_below hh
/-- What a function answers beside a code. -/
structure RsOut {α : Type} (P : α → Prop) (z : α) (c0 : Int) (out : α) (c : Int) : Prop where
  good : c0 = 0 → P out
  bad : c0 ≠ 0 → out = z
  code : c = c0
theorem RsOut.unique {α : Type} {P : α → Prop} {z : α} {c0 : Int} {o1 o2 : α} {c1 c2 : Int} (hu : c0 = 0 → ∀ a b, P a → P b → a = b) (h1 : RsOut P z c0 o1 c1) (h2 : RsOut P z c0 o2 c2) : o1 = o2 ∧ c1 = c2 := by
  refine ⟨?_, h1.code.trans h2.code.symm⟩
  by_cases h0 : c0 = 0
  · exact hu h0 _ _ (h1.good h0) (h2.good h0)
  · rw [h1.bad h0, h2.bad h0]
theorem RsOut.all {α : Type} {P : α → Prop} {z : α} {c0 : Int} {o : α} {c : Int} (h : RsOut P z c0 o c) {Q : α → Prop} (hz : Q z) (hb : c0 = 0 → ∀ a, P a → Q a) : Q o := by
  by_cases h0 : c0 = 0
  · exact hb h0 _ (h.good h0)
  · rw [h.bad h0]
    exact hz
theorem RsOut.of_no {α : Type} {P : α → Prop} {z : α} {c0 : Int} (h : c0 ≠ 0) : RsOut P z c0 z c0 := ⟨fun h0 => absurd h0 h, fun _ => rfl, rfl⟩
theorem RsOut.of_yes {α : Type} {P : α → Prop} {z : α} {c0 : Int} {o : α} (h : c0 = 0) (hp : P o) : RsOut P z c0 o 0 := ⟨fun _ => hp, fun hh => absurd h hh, h.symm⟩
/-- The answer of the program: a result in memory of its own, and a code; and that of the model. -/
def AnsW {α : Type} (R : Nat → Nat → World → Value → α → Prop) (P : α → Prop) (z : α) (c0 : Int) (w : World) (e : Ending) (w' : World) : Prop :=
  ∃ (u : Value) (out : α) (c : Int), e = .returned (.tuple #[u, .int .i64 c]) ∧ R w.heap.size w'.heap.size w' u out ∧ Below w.heap.size w w' ∧ RsOut P z c0 out c
def AnsS {α : Type} (R : World → Value → α → Prop) (P : α → Prop) (z : α) (c0 : Int) (w : World) (e : Ending) (w' : World) : Prop :=
  ∃ (u : Value) (out : α) (c : Int), e = .returned (.tuple #[u, .int .i64 c]) ∧ R w' u out ∧ Below w.heap.size w w' ∧ RsOut P z c0 out c
end Go.Proofs.Ytchijefibiaphaa


namespace Go.Proofs.Ytchijefibiaphaa
open Go.RowKit

section
variable {P : Program} {md : Region.Mode} {ops : Array Oper} {Q : Exit → Act → World → Prop} {S : World → Prop}
theorem yieldsIf_bin {o : Oper} {a : Act} {x y : Operand} {v u i : Value} {b : BinOp} {t t' : TypeId} (hg : o.guard = none) (ho : o.op = .binOp b t x y t') (hx : a.eval x = u) (hy : a.eval y = i) (hge : ∀ w, (eqGuard b t x y u i).run P w = .ok () w) (hrun : ∀ w, (binOp b t u i).run P w = .ok v w) : YieldsIf P ops S o v a :=
  Or.inl ⟨by unfold Region.wanted; rw [hg], fun w _ => by
    unfold execOp
    simp only [ho, hx, hy, Sem.run_bind, hge w, hrun w, Result.andThen_ok]
    rfl⟩
theorem yieldsIf_run {o : Oper} {a : Act} {v : Value} (hg : o.guard = none) (hrun : ∀ w, S w → (execOp a.eval o).run P w = .ok (.value v) w) : YieldsIf P ops S o v a :=
  Or.inl ⟨by unfold Region.wanted; rw [hg], hrun⟩
theorem yieldsIf_assign {o : Oper} {a : Act} {x : Operand} {v : Value} (hg : o.guard = none) (ho : o.op = .assign x) (hx : a.eval x = v) : YieldsIf P ops S o v a :=
  Or.inl ⟨by unfold Region.wanted; rw [hg], fun w _ => by
    unfold execOp
    simp only [ho, hx]
    rfl⟩
end
section
variable {md : Region.Mode} {ops : Array Oper} {Q : Exit → Act → World → Prop} {S : World → Prop}
end
theorem cell_alloc1 (w : World) (v : Value) (t : TypeId) : (w.alloc (.cells #[v] t)).cell? ⟨w.heap.size, 0, none⟩ = some v := by
  unfold World.cell?
  rw [heap_alloc_new w (.cells #[v] t)]
  rfl
theorem hidxI (b o : Nat) {k n : Nat} (cap : Nat) (hk : k < n) (w : World) : (Instr.indexAt 22 (.slice (some ⟨b, o, none⟩) n cap) (.int .i64 k)).run Try.prog w = .ok (.pointer (some ⟨b, o + k, none⟩)) w := by
  have h2 : (0 : Int) ≤ (k : Int) := by omega
  have h3 : (k : Int) < (n : Int) := by omega
  go_simp
theorem hidxS (b o : Nat) {k n : Nat} (cap : Nat) (hk : k < n) (w : World) : (Instr.indexAt 61 (.slice (some ⟨b, o, none⟩) n cap) (.int .i64 k)).run Try.prog w = .ok (.pointer (some ⟨b, o + k, none⟩)) w := by
  have h2 : (0 : Int) ≤ (k : Int) := by omega
  have h3 : (k : Int) < (n : Int) := by omega
  go_simp
theorem hloadS (w : World) {b o : Nat} {x : Value} (h : w.cell? ⟨b, o, none⟩ = some x) : (Instr.loadAt 22 (.pointer (some ⟨b, o, none⟩))).run Try.prog w = .ok x w := by go_simp
end Go.Proofs.Ytchijefibiaphaa

namespace Go.Proofs.Ytchijefibiaphaa
open Go.RowKit

theorem ld_ltn {n : Nat} {v : Lin.V} (hw : Lin.Wd n v) (hne : v ≠ Lin.zv) : Lin.ld v < n ∧ v (Lin.ld v) ≠ 0 ∧ ∀ j, j < Lin.ld v → v j = 0 := by
  obtain ⟨i, hi⟩ := Lin.ne_zv hne
  obtain ⟨h1, h2⟩ := Lin.ld_spec hi
  refine ⟨Classical.byContradiction fun hn => h1 (hw _ (by omega)), h1, h2⟩
/-- What a reduced list of rows of n numbers has to do with a list. -/
structure RedN (p : Int) (n : Nat) (R T : List Lin.V) : Prop where
  red : Lin.Red p R
  wd : ∀ u ∈ R, Lin.Wd n u
  eqv : Lin.Eqv p R T
theorem RedN.nil (p : Int) (n : Nat) : RedN p n [] [] := ⟨Lin.Red.nil p, by simp, Lin.Eqv.refl _ _⟩
theorem RedN.put {p : Int} (hp : 1 < p) {n : Nat} {R T : List Lin.V} (h : RedN p n R T) {v r u : Lin.V} {k : Nat} (hT : ∀ w ∈ T, Lin.Md p w) (hv : Lin.Md p v) (hr : Lin.Rest p R v R.length r) (hne : r ≠ Lin.zv) (hu : Lin.Unit p r u) (huw : Lin.Wd n u) (hk : k ≤ R.length)
    (hlo : ∀ w ∈ R.take k, Lin.ld w < Lin.ld u) (hhi : ∀ w ∈ R.drop k, ¬ Lin.ld w < Lin.ld u) : RedN p n (Lin.put p R k u) (T ++ [v]) := by
  have hf := Lin.fits_of hr hne hu hk hlo hhi
  refine ⟨hf.red hp h.red, fun x hx => ?_, Lin.put_eqv hp h.red hT hv h.eqv hr hu hf⟩
  rcases Lin.put_mem.1 hx with rfl | ⟨y, hy, rfl⟩
  · exact huw
  · exact Lin.add_wd _ (h.wd y hy) huw
theorem RedN.same {p : Int} (hp : 1 < p) {n : Nat} {R R' T : List Lin.V} (h : RedN p n R T) (k : RedOf p R' T) : R' = R :=
  Lin.Red.unique hp k.red h.red (fun v => (k.eqv v).trans (h.eqv v).symm)
theorem RedN.unique {p : Int} (hp : 1 < p) {n n' : Nat} {R R' T T' : List Lin.V} (h : RedN p n R T) (k : RedN p n' R' T') (e : Lin.Eqv p T T') : R' = R :=
  Lin.Red.unique hp k.red h.red (fun v => ((k.eqv v).trans (e v).symm).trans (h.eqv v).symm)

/-- A row less its multiple of u. -/
noncomputable def less1 (p : Int) (u w : Lin.V) : Lin.V := Lin.add p w (-(w (Lin.ld u))) u
/-- The next list while it is gathered: j rows have been seen; pt: the new row is in. -/
def Nx (p : Int) (R : List Lin.V) (u : Lin.V) (j : Nat) (pt : Bool) (N : List Lin.V) : Prop :=
  if pt then ∃ K, K ≤ j ∧ (∃ h : K < R.length, Lin.ld u < Lin.ld R[K]) ∧ (∀ w ∈ R.take K, Lin.ld w < Lin.ld u) ∧ N = Lin.put p (R.take j) K u
  else (∀ w ∈ R.take j, Lin.ld w < Lin.ld u) ∧ N = (R.take j).map (less1 p u)
theorem Nx.start (p : Int) (R : List Lin.V) (u : Lin.V) : Nx p R u 0 false [] := ⟨by simp, by simp⟩
theorem put_more {p : Int} {R : List Lin.V} {u : Lin.V} {j K : Nat} (hK : K ≤ j) (hj : j < R.length) : Lin.put p (R.take j) K u ++ [less1 p u R[j]] = Lin.put p (R.take (j + 1)) K u := by
  have hl : (R.take j).length = j := by simp; omega
  rw [List.take_succ_eq_append_getElem hj]
  unfold Lin.put
  rw [List.take_append_of_le_length (by omega), List.drop_append_of_le_length (by omega), List.map_append, List.append_assoc]
  rfl
theorem put_last {p : Int} {R : List Lin.V} {u : Lin.V} : (R.map (less1 p u)) ++ [u] = Lin.put p R R.length u := by
  unfold Lin.put
  rw [List.take_of_length_le (Nat.le_refl _), List.drop_of_length_le (Nat.le_refl _)]
  rfl
theorem Nx.keep {p : Int} {R : List Lin.V} {u : Lin.V} {j : Nat} {N : List Lin.V} (h : Nx p R u j true N) (hj : j < R.length) : Nx p R u (j + 1) true (N ++ [less1 p u R[j]]) := by
  obtain ⟨K, hK, hx, hlo, rfl⟩ := h
  exact ⟨K, by omega, hx, hlo, put_more hK hj⟩
theorem Nx.done {p : Int} {R : List Lin.V} {u : Lin.V} {N : List Lin.V} (hR : Lin.Red p R) (h : Nx p R u R.length true N) : ∃ K, K ≤ R.length ∧ N = Lin.put p R K u ∧ (∀ w ∈ R.take K, Lin.ld w < Lin.ld u) ∧ ∀ w ∈ R.drop K, ¬ Lin.ld w < Lin.ld u := by
  obtain ⟨K, hK, ⟨hk, hx⟩, hlo, rfl⟩ := h
  refine ⟨K, hK, by rw [List.take_of_length_le (Nat.le_refl _)], hlo, fun w hw => ?_⟩
  rw [List.drop_eq_getElem_cons hk] at hw
  have hp := hR.inc
  rw [← List.take_append_drop K R, List.drop_eq_getElem_cons hk] at hp
  have h2 := (List.pairwise_append.1 hp).2.1
  rcases List.mem_cons.1 hw with rfl | hw
  · omega
  · have := (List.pairwise_cons.1 h2).1 w hw
    omega
theorem Nx.end {p : Int} {R : List Lin.V} {u : Lin.V} {N : List Lin.V} (h : Nx p R u R.length false N) : ∃ K, K ≤ R.length ∧ N ++ [u] = Lin.put p R K u ∧ (∀ w ∈ R.take K, Lin.ld w < Lin.ld u) ∧ ∀ w ∈ R.drop K, ¬ Lin.ld w < Lin.ld u := by
  obtain ⟨hlo, rfl⟩ := h
  refine ⟨R.length, Nat.le_refl _, ?_, hlo, ?_⟩
  · rw [List.take_of_length_le (Nat.le_refl _)]
    exact put_last
  · rw [List.drop_of_length_le (Nat.le_refl _)]
    simp
theorem Nx.length {p : Int} {R : List Lin.V} {u : Lin.V} {j : Nat} {pt : Bool} {N : List Lin.V} (h : Nx p R u j pt N) (hj : j ≤ R.length) : N.length ≤ j + 1 := by
  have hl : (R.take j).length = j := by simp; omega
  cases pt with
  | true =>
    obtain ⟨K, hK, _, _, rfl⟩ := h
    rw [put_length p _ K u (by omega)]
    omega
  | false =>
    obtain ⟨_, rfl⟩ := h
    rw [List.length_map]
    omega
end Go.Proofs.Ytchijefibiaphaa

namespace Go.Proofs.Ytchijefibiaphaa
open Go.RowKit

/-- A row of numbers that a call has gathered above a base. -/
def Gb (base : Nat) (w : World) (u : Value) (xs : List Int) : Prop := w.ownsRow base 2 1 u xs.length (xs.map (Value.int .i64))
theorem Gb.g1 {base : Nat} {w : World} {u : Value} {xs : List Int} (h : Gb base w u xs) : G1 w u xs := owns_mono h (Nat.zero_le _)
theorem Gb.l1 {base : Nat} {w : World} {u : Value} {xs : List Int} (h : Gb base w u xs) : L1 0 w u xs := h.g1.l1
theorem Gb.below {base : Nat} {w w' : World} {u : Value} {xs : List Int} (h : Gb base w u xs) (hb : Below w.heap.size w w') : Gb base w' u xs := owns_below h hb
theorem Gb.mono {base base' : Nat} {w : World} {u : Value} {xs : List Int} (h : Gb base w u xs) (hb : base' ≤ base) : Gb base' w u xs := owns_mono h hb

def GbR (xs : List Int) (w : World) (e : Ending) (w' : World) : Prop := ∃ u, e = .returned u ∧ Gb w.heap.size w' u xs ∧ Below w.heap.size w w'

theorem run_append_zero (w : World) (ty : TypeId) (g : Nat) (ad : Option Addr) (cap : Nat) :
    (Builtin.append_ #[22, 22] ty #[.slice (some ⟨g, 0, none⟩) 0 0, .slice ad 0 cap]).run Try.prog w = .ok (.slice (some ⟨g, 0, none⟩) 0 0) w := by
  obtain ⟨i, hi, _, _, _⟩ := info_parts Try.infoI
  cases ad with
  | none => simp [Builtin.append_, run_underlying Try.underlying22, sizeOf, typeInfo, hi, Builtin.lenOf, Builtin.firstCells, storeCells]
  | some a =>
    have hl := run_loadCells_list (P := Try.prog) w a [] (by simp)
    simp at hl
    simp [Builtin.append_, run_underlying Try.underlying22, sizeOf, typeInfo, hi, Builtin.lenOf, Builtin.firstCells, storeCells, hl]
theorem wpList_append_run {ops : Array Oper} {rest : List Oper} {o : Oper} {a : Act} {w : World} {Q : Exit → Act → World → Prop} {P : Program} (hgd : o.guard = none) (d s : Operand) (t t' : TypeId)
    (ho : o.op = .call { callee := .builtin .append, args := #[d, s], argTypes := #[t, t'] }) (v u : Value) (hd : a.eval d = v) (hs : a.eval s = u) {v' : Value} {w' : World}
    (hr : (Builtin.append_ #[t, t'] o.type #[v, u]).run P w = .ok v' w') (h : wpList P ops Q rest (a.put o.dst v') w') : wpList P ops Q (o :: rest) a w :=
  wpList_plain hgd fun K hK => by
    unfold Oper.wp execOp
    simp only [ho, resolve, invoke, builtin, Sem.run_bind, Sem.run_pure, Result.andThen_ok, List.map_toArray, List.map_cons, List.map_nil, hd, hs, hr]
    exact hK _ _ h

set_option maxHeartbeats 800000 in
theorem l01Own_any (v : Value) (xs : List Int) (w : World) (h : L1 0 w v xs) (hm : xs.length ≤ 1048576) :
    Calls Try.prog 131 #[v] w (GbR xs w) := by
  have HOWN := Lib.hid (World.ownsRow_made (base := w.heap.size) (e := 2) (size := 1) w #[] 0 (Nat.le_refl _) (by unfold maxLen; omega) (by simp))
  obtain ⟨i1, hj, hy0, hy1, hy2⟩ := info_parts Try.infoI
  refine Sl.cases h (fun ad cap hx hv => ?_) (fun b o cap hv _ hpos hc => ?_)
  · subst hx hv
    clear h
    have hrun := fun W ty => run_append_zero W ty w.heap.size ad cap
    go_enter Try.func131, Try.ntmps131
    go_wp2_with (at_builtin; refine wpList_append_run rfl (.tmp 3) (.tmp 4) 22 22 rfl _ _ rfl rfl (hrun _ _) ?_)
    go_wp2
    go_ret
    exact ⟨_, rfl, by simpa [Gb] using HOWN.out, (Below.refl _ _).alloc (Nat.le_refl _) _⟩
  · subst hv
    clear h
    have HC := Lib.hid hc
    clear hc
    go_enter Try.func131, Try.ntmps131
    go_wp2_with (at_builtin; refine wpList_append_own _ rfl (.tmp 3) (.tmp 4) 22 rfl w.heap.size 2 i1 (.int .i64 0) 1 8 Try.underlying22 hj hy0 hy1 hy2 rfl (by decide) _ _ _ rfl HOWN.out ⟨b, o, none⟩ xs.length cap (xs.map (Value.int .i64)) rfl ?c0 ?c1 ?c2 ?c3 ?c4 ?c5 ?_)
    case c0 => simp
    case c1 =>
      intro j u hju
      have hj' : j < xs.length := by
        have := (List.getElem?_eq_some_iff.1 hju).1
        simpa using this
      obtain ⟨u2, h2, h3⟩ := HC.out j hj'
      rw [Addr.add_lit]
      have h4 := cell_lt h2
      rw [((Below.refl w.heap.size w).alloc (Nat.le_refl _) _).cell (p := ⟨b, o + j, none⟩) h4, h2, h3]
      simp [hj'] at hju
      rw [hju]
    case c2 => intro u hu; obtain ⟨x, _, rfl⟩ := List.mem_map.1 hu; rfl
    case c3 => unfold maxLen; omega
    case c4 => omega
    case c5 => simp
    intro v' w3 hown' hgrow _
    have HB3 : Hid (Below w.heap.size w w3) := Lib.hid (((Below.refl _ _).alloc (Nat.le_refl _) _).grown hgrow (by simp) (fun g hg => ((HOWN.out.lt) g hg).1))
    have HO3 := Lib.hid hown'
    clear hown' hgrow
    go_wp2
    go_ret
    exact ⟨_, rfl, by simpa [Gb] using HO3.out, HB3.out⟩

end Go.Proofs.Ytchijefibiaphaa

namespace Go.Proofs.Ytchijefibiaphaa
open Go.RowKit

/-- A row of n numbers lies somewhere, if there are any. -/
theorem l1_toL {lo : Nat} {w : World} {u : Value} {n : Nat} {v : Lin.V} (h : L1 lo w u (toL n v)) (hn : 0 < n) : ∃ b o cap, u = .slice (some ⟨b, o, none⟩) n cap ∧ ∀ k, k < n → w.cell? ⟨b, o + k, none⟩ = some (.int .i64 (v k)) := by
  refine Sl.cases h (fun _ _ hx _ => by have := congrArg List.length hx; rw [toL_length] at this; simp at this; omega) (fun b o cap hv _ _ hc => ⟨b, o, cap, by rw [hv, toL_length], fun k hk => ?_⟩)
  obtain ⟨x, hx, hr⟩ := hc k (by rw [toL_length]; exact hk)
  rw [toL_get] at hr
  rw [hx, hr]
end Go.Proofs.Ytchijefibiaphaa

namespace Go.Proofs.Ytchijefibiaphaa
open Go.RowKit

/-- A table gathered row by row, above a base. -/
def Gs (base : Nat) (w : World) (u : Value) (t : List (List Int)) : Prop := ∃ vs, w.ownsRow base 22 1 u t.length vs ∧ ∀ k (h1 : k < vs.length) (h2 : k < t.length), G1 w vs[k] t[k]
theorem Gs.below {base : Nat} {w w' : World} {u : Value} {t : List (List Int)} (h : Gs base w u t) (hb : Below w.heap.size w w') : Gs base w' u t := by
  obtain ⟨vs, ho, hr⟩ := h
  exact ⟨vs, owns_below ho hb, fun k h1 h2 => (hr k h1 h2).below hb⟩
theorem Gs.mono {base base' : Nat} {w : World} {u : Value} {t : List (List Int)} (h : Gs base w u t) (hb : base' ≤ base) : Gs base' w u t := by
  obtain ⟨vs, ho, hr⟩ := h
  exact ⟨vs, owns_mono ho hb, hr⟩
theorem Gs.l2 {base : Nat} {w : World} {u : Value} {t : List (List Int)} (h : Gs base w u t) : L2 0 w u t := by
  obtain ⟨vs, ho, hr⟩ := h
  exact sl_of_owns ho (Nat.zero_le _) rfl (fun k h1 h2 => (hr k h2 h1).l1)
theorem Gs.push {base : Nat} {w w3 : World} {v v' row : Value} {t : List (List Int)} {vs : List Value} {x : List Int} (ho : w.ownsRow base 22 1 v t.length vs) (hr : ∀ k (h1 : k < vs.length) (h2 : k < t.length), G1 w vs[k] t[k]) (hx : G1 w row x)
    (ho3 : w3.ownsRow base 22 1 v' (t.length + 1) (vs ++ [row])) (hg : w.grownBy w3 v.ownBlock) : Gs base w3 v' (t ++ [x]) := by
  have hvl : vs.length = t.length := by have := ho.1; omega
  have keep : ∀ u xs, G1 w u xs → G1 w3 u xs := fun u xs h => owns_grown h ho (by decide) hg
  refine ⟨vs ++ [row], by simpa using ho3, fun k h1 h2 => ?_⟩
  by_cases e : k < vs.length
  · rw [List.getElem_append_left e, List.getElem_append_left (by omega)]
    exact keep _ _ (hr k e (by omega))
  · have e2 : k = vs.length := by simp at h1; omega
    subst e2
    rw [List.getElem_append_right (by omega), List.getElem_append_right (by omega)]
    simp only [hvl, Nat.sub_self, List.getElem_cons_zero]
    exact keep _ _ hx

end Go.Proofs.Ytchijefibiaphaa


namespace Go.Proofs.Ytchijefibiaphaa
open Go.RowKit

/-- What the functions on spaces take. -/
def SpOk (p n : Int) (rows : List (List Int)) : Prop := IsP p ∧ (0 ≤ n ∧ n ≤ 40) ∧ rows.length ≤ 40 ∧ TabOk p (rows.length : Int) n rows
theorem SpOk.row {p n : Int} {rows : List (List Int)} (h : SpOk p n rows) {r : List Int} (hr : r ∈ rows) : RowOk p n r := h.2.2.2.2 r hr
theorem SpOk.md {p n : Int} {rows : List (List Int)} (h : SpOk p n rows) : ∀ u ∈ rows.map ofL, Lin.Md p u := fun u hu => by
  obtain ⟨r, hr, rfl⟩ := List.mem_map.1 hu
  exact ofL_md (by have := h.1.lo; omega) (h.row hr)
theorem SpOk.wd {p n : Int} {rows : List (List Int)} (h : SpOk p n rows) : ∀ u ∈ rows.map ofL, Lin.Wd n.toNat u := fun u hu => by
  obtain ⟨r, hr, rfl⟩ := List.mem_map.1 hu
  exact ofL_wd (by have := (h.row hr).1; omega)
theorem SpOk.short {p n : Int} {rows : List (List Int)} (h : SpOk p n rows) : ∀ r ∈ rows, r.length ≤ 40 := fun r hr => by
  have := (h.row hr).1
  have := h.2.1
  omega
theorem led_length {n : Nat} : ∀ (L : List Lin.V) (k : Nat), L.Pairwise (fun v w => Lin.ld v < Lin.ld w) → (∀ u ∈ L, k ≤ Lin.ld u ∧ Lin.ld u < n) → L.length ≤ n - k
  | [], _, _, _ => by simp
  | v :: L, k, hp, h => by
    have h1 := List.pairwise_cons.1 hp
    have h0 := h v (by simp)
    have := led_length L (Lin.ld v + 1) h1.2 (fun u hu => ⟨h1.1 u hu, (h u (by simp [hu])).2⟩)
    simp only [List.length_cons]
    omega
theorem red_length {p : Int} {n : Nat} {R : List Lin.V} (h : Lin.Red p R) (hw : ∀ u ∈ R, Lin.Wd n u) : R.length ≤ n := by
  have := led_length (n := n) R 0 h.inc (fun u hu => ⟨Nat.zero_le _, (ld_ltn (hw u hu) (h.ne hu)).1⟩)
  omega

/-- What such a function answers: the reduced list of a space, or a code. -/
structure SpOut (p : Int) (n : Nat) (S : Lin.V → Prop) (c0 : Int) (out : List (List Int)) (c : Int) : Prop where
  good : c0 = 0 → ∃ R, Lin.Red p R ∧ (∀ u ∈ R, Lin.Wd n u) ∧ (∀ v, Lin.Sp p R v ↔ S v) ∧ out = R.map (toL n)
  bad : c0 ≠ 0 → out = []
  code : c = c0
theorem SpOut.unique {p : Int} {n : Nat} {S : Lin.V → Prop} {c0 : Int} {o1 o2 : List (List Int)} {c1 c2 : Int} (hp : c0 = 0 → 1 < p) (h1 : SpOut p n S c0 o1 c1) (h2 : SpOut p n S c0 o2 c2) : o1 = o2 ∧ c1 = c2 := by
  refine ⟨?_, h1.code.trans h2.code.symm⟩
  by_cases h0 : c0 = 0
  · obtain ⟨R1, a1, _, b1, rfl⟩ := h1.good h0
    obtain ⟨R2, a2, _, b2, rfl⟩ := h2.good h0
    rw [Lin.Red.unique (hp h0) a1 a2 (fun v => (b1 v).trans (b2 v).symm)]
  · rw [h1.bad h0, h2.bad h0]
theorem SpOut.bd {p : Int} {n : Nat} {S : Lin.V → Prop} {c0 : Int} {o : List (List Int)} {c : Int} (h : SpOut p n S c0 o c) (hn : c0 = 0 → n ≤ 1048576) : Bd2 1048576 o := by
  by_cases h0 : c0 = 0
  · obtain ⟨R, a, b, _, rfl⟩ := h.good h0
    have := red_length a b
    have hn := hn h0
    refine ⟨by rw [List.length_map]; omega, fun r hr => ?_⟩
    obtain ⟨u, _, rfl⟩ := List.mem_map.1 hr
    unfold Bd1
    rw [toL_length]
    exact hn
  · rw [h.bad h0]
    exact ⟨by simp, by simp⟩
theorem SpOut.of_no {p : Int} {n : Nat} {S : Lin.V → Prop} {c0 : Int} (h : c0 ≠ 0) : SpOut p n S c0 [] c0 := ⟨fun h0 => absurd h0 h, fun _ => rfl, rfl⟩
theorem TW.wider {lo lo' hi : Nat} {W : World} {u : Value} {R : List (List Int)} (h : TW lo hi W u R) (hl : lo' ≤ lo) : TW lo' hi W u R := by
  rcases h with h | ⟨g, r, c, Z, h1, h2, h3, h4, h5, h6, h7⟩
  · exact Or.inl h
  · exact Or.inr ⟨g, r, c, Z, by omega, h2, h3, h4, h5, h6, h7⟩
end Go.Proofs.Ytchijefibiaphaa

namespace Go.Proofs.Ytchijefibiaphaa
open Go.RowKit

end Go.Proofs.Ytchijefibiaphaa

namespace Go.Proofs.Ytchijefibiaphaa
open Go.RowKit

end Go.Proofs.Ytchijefibiaphaa

namespace Go.Proofs.Ytchijefibiaphaa
open Go.RowKit

/-- The rows' values of a table. -/
structure RowsAt (w : World) (v : Value) (tb : List (List Int)) (vs : List Value) : Prop where
  len : vs.length = tb.length
  row : ∀ k (h1 : k < vs.length) (h2 : k < tb.length), L1 0 w vs[k] tb[k]
  one : ∀ u ∈ vs, u.oneCell' = true
  at' : ∃ ad cap, v = .slice ad tb.length cap ∧ (0 < tb.length → ∃ a, ad = some a ∧ ∀ j u, vs[j]? = some u → w.cell? (a.add j) = some u)
theorem RowsAt.below {w w' : World} {v : Value} {tb : List (List Int)} {vs : List Value} (h : RowsAt w v tb vs) (hb : Below w.heap.size w w') : RowsAt w' v tb vs := by
  obtain ⟨ad, cap, hv, hc⟩ := h.at'
  refine ⟨h.len, fun k h1 h2 => (h.row k h1 h2).below hb, h.one, ad, cap, hv, fun h0 => ?_⟩
  obtain ⟨a, ha, hc⟩ := hc h0
  exact ⟨a, ha, fun j u hj => by rw [hb.cell (World.block_lt_of_cell? _ _ (hc j u hj)), hc j u hj]⟩
end Go.Proofs.Ytchijefibiaphaa


namespace Go.Proofs.Ytchijefibiaphaa
open Go.RowKit

set_option maxHeartbeats 800000 in
theorem dimAt_any (p n : Int) (dv mv : Value) (ds : List Int) (ms : List (List (List Int))) (w : World) (h : Cx 0 w dv mv ds ms) (hd : ds.length ≤ 1048576) :
    Calls Try.prog 128 #[.agg #[.int .i64 p, dv, mv], .int .i64 n] w (BR (.int .i64 (dimZ ds n)) w) := by
  have HX0 := Lib.hid (Bx.start (p := p) 30 h)
  obtain ⟨ad, cap, hdv⟩ := Sl.shape h.dims
  clear h
  by_cases hr : 0 ≤ n ∧ n ≤ (ds.length : Int) - 1
  · have hdz : dimZ ds n = ds.getD n.toNat 0 := if_pos hr
    rw [hdz]
    clear hdz
    obtain ⟨q, rfl⟩ : ∃ q : Nat, n = (q : Int) := ⟨n.toNat, by omega⟩
    have hq : q < ds.length := by omega
    have HR := Lib.hid hr
    clear hr
    refine Sl.cases HX0.out.cx.dims (fun _ _ hx _ => absurd hq (by simp [hx])) (fun bd od capd hv _ hposd hcld => ?_)
    obtain ⟨u, hu, hru⟩ := hcld q hq
    subst hv
    injection hdv with e1 e2 e3
    clear e2
    subst e1 e3
    obtain ⟨x, hx⟩ : ∃ x, x = ds[q] := ⟨_, rfl⟩
    rw [hru, ← hx] at hu
    have HX : Hid (ds.getD (q : Int).toNat 0 = x) := Lib.hid (by rw [hx, Int.toNat_natCast, getD_of_lt _ hq])
    have HTOP := fun W => topOf_any p (.slice (some ⟨bd, od, none⟩) ds.length capd) mv ds.length (some ⟨bd, od, none⟩) capd W rfl hd
    have c0 := HX0.out.c0
    have c1 := HX0.out.c1
    have c2 := HX0.out.c2
    clear hx hru hcld hposd
    go_enter Try.func128, Try.ntmps128
    go_wp2_with fail
    refine (HTOP _).mono ?_
    rintro e w1 ⟨rfl, hb1⟩
    have HX1 := Lib.hid (HX0.out.next hb1)
    have hu1 := later hb1 (Nat.le_refl _) hu
    clear hb1 c0 c1 c2 hu HX0
    have c1 := HX1.out.c1
    go_wp2_with fail
    refine (in_yes HR.out _).mono ?_
    rintro e w' ⟨rfl, rfl⟩
    go_wp2
    go_ret
    exact ⟨ret_int HX.out.symm, HX1.out.below⟩
  · have hdz : dimZ ds n = 0 := if_neg hr
    rw [hdz]
    clear hdz
    subst hdv
    have HR := Lib.hid hr
    have HTOP := fun W => topOf_any p (.slice ad ds.length cap) mv ds.length ad cap W rfl hd
    have c0 := HX0.out.c0
    have c1 := HX0.out.c1
    have c2 := HX0.out.c2
    clear hr
    go_enter Try.func128, Try.ntmps128
    go_wp2_with fail
    refine (HTOP _).mono ?_
    rintro e w1 ⟨rfl, hb1⟩
    have HX1 := Lib.hid (HX0.out.next hb1)
    clear hb1 c0 c1 c2 HX0
    go_wp2_with fail
    refine (in_no HR.out _).mono ?_
    rintro e w' ⟨rfl, rfl⟩
    go_wp2
    go_ret
    exact ⟨rfl, HX1.out.below⟩

open Classical in
/-- The code of two complexes. -/
noncomputable def endCode (p p2 : Int) (ds : List Int) (ms : List (List (List Int))) (ds2 : List Int) (ms2 : List (List (List Int))) : Int :=
  if ¬ (IsCx p ds ms ∧ IsCx p2 ds2 ms2) then 1 else if p = p2 ∧ ds.length = ds2.length then 0 else 2
structure EndOk (p p2 : Int) (ds : List Int) (ms : List (List (List Int))) (ds2 : List Int) (ms2 : List (List (List Int))) : Prop where
  x : IsCx p ds ms
  y : IsCx p2 ds2 ms2
  prime : p = p2
  len : ds.length = ds2.length
theorem EndOk.code {p p2 : Int} {ds : List Int} {ms : List (List (List Int))} {ds2 : List Int} {ms2 : List (List (List Int))} (h : EndOk p p2 ds ms ds2 ms2) : endCode p p2 ds ms ds2 ms2 = 0 := by
  unfold endCode
  rw [if_neg (fun k => k ⟨h.x, h.y⟩), if_pos ⟨h.prime, h.len⟩]
/-- Two boxes of two complexes. -/
theorem bx_two {w : World} {p p2 : Int} {dv mv dv2 mv2 : Value} {ds : List Int} {ms : List (List (List Int))} {ds2 : List Int} {ms2 : List (List (List Int))} (t : TypeId) (h : Cx 0 w dv mv ds ms) (h2 : Cx 0 w dv2 mv2 ds2 ms2) :
    Bx w ((w.alloc (.cells #[.int .i64 p, dv, mv] t)).alloc (.cells #[.int .i64 p2, dv2, mv2] t)) w.heap.size p dv mv ds ms ∧ Bx w ((w.alloc (.cells #[.int .i64 p, dv, mv] t)).alloc (.cells #[.int .i64 p2, dv2, mv2] t)) (w.heap.size + 1) p2 dv2 mv2 ds2 ms2 := by
  have b1 : Below w.heap.size w (w.alloc (.cells #[.int .i64 p, dv, mv] t)) := below_alloc1 _ _
  refine ⟨(Bx.start t h).next (below_alloc1 _ _), ?_⟩
  have := Bx.start (p := p2) t (h2.below b1)
  have hs : (w.alloc (.cells #[.int .i64 p, dv, mv] t)).heap.size = w.heap.size + 1 := by simp
  rw [hs] at this
  exact ⟨b1.trans (this.below.mono (by omega)), this.c0, this.c1, this.c2, this.lt, this.cx⟩

/-- The cells of two complexes in a row. -/
structure Row2 (w : World) (b : Nat) (p p2 : Int) (dv mv dv2 mv2 : Value) : Prop where
  c0 : w.cell? ⟨b, 0, none⟩ = some (.int .i64 p)
  c1 : w.cell? ⟨b, 1, none⟩ = some dv
  c2 : w.cell? ⟨b, 2, none⟩ = some mv
  d0 : w.cell? ⟨b, 3, none⟩ = some (.int .i64 p2)
  d1 : w.cell? ⟨b, 4, none⟩ = some dv2
  d2 : w.cell? ⟨b, 5, none⟩ = some mv2
theorem Row2.next {w w' : World} {b : Nat} {p p2 : Int} {dv mv dv2 mv2 : Value} (h : Row2 w b p p2 dv mv dv2 mv2) (hb : Below w.heap.size w w') : Row2 w' b p p2 dv mv dv2 mv2 :=
  ⟨later hb (Nat.le_refl _) h.c0, later hb (Nat.le_refl _) h.c1, later hb (Nat.le_refl _) h.c2, later hb (Nat.le_refl _) h.d0, later hb (Nat.le_refl _) h.d1, later hb (Nat.le_refl _) h.d2⟩

open Classical in
/-- The code of two complexes with the same prime. -/
noncomputable def prCode (p p2 : Int) (ds : List Int) (ms : List (List (List Int))) (ds2 : List Int) (ms2 : List (List (List Int))) : Int :=
  if ¬ (IsCx p ds ms ∧ IsCx p2 ds2 ms2) then 1 else if p = p2 then 0 else 2
structure PrOk (p p2 : Int) (ds : List Int) (ms : List (List (List Int))) (ds2 : List Int) (ms2 : List (List (List Int))) : Prop where
  x : IsCx p ds ms
  y : IsCx p2 ds2 ms2
  prime : p = p2
theorem PrOk.code {p p2 : Int} {ds : List Int} {ms : List (List (List Int))} {ds2 : List Int} {ms2 : List (List (List Int))} (h : PrOk p p2 ds ms ds2 ms2) : prCode p p2 ds ms ds2 ms2 = 0 := by
  unfold prCode
  rw [if_neg (fun k => k ⟨h.x, h.y⟩), if_pos h.prime]
/-- The cells of a box of a complex, whatever stood there when it was made. -/
structure Bq (wr : World) (b : Nat) (p : Int) (dv mv : Value) (ds : List Int) (ms : List (List (List Int))) : Prop where
  c0 : wr.cell? ⟨b, 0, none⟩ = some (.int .i64 p)
  c1 : wr.cell? ⟨b, 1, none⟩ = some dv
  c2 : wr.cell? ⟨b, 2, none⟩ = some mv
  lt : b < wr.heap.size
  cx : Cx 0 wr dv mv ds ms
theorem Bx.bq {w wr : World} {b : Nat} {p : Int} {dv mv : Value} {ds : List Int} {ms : List (List (List Int))} (h : Bx w wr b p dv mv ds ms) : Bq wr b p dv mv ds ms := ⟨h.c0, h.c1, h.c2, h.lt, h.cx⟩
theorem Bq.next {wr w' : World} {b : Nat} {p : Int} {dv mv : Value} {ds : List Int} {ms : List (List (List Int))} (h : Bq wr b p dv mv ds ms) (hb : Below wr.heap.size wr w') : Bq w' b p dv mv ds ms :=
  ⟨later hb (Nat.le_refl _) h.c0, later hb (Nat.le_refl _) h.c1, later hb (Nat.le_refl _) h.c2, Nat.lt_of_lt_of_le h.lt hb.size, h.cx.below hb⟩
theorem Bq.only {wr w' : World} {b lo hi : Nat} {p : Int} {dv mv : Value} {ds : List Int} {ms : List (List (List Int))} (h : Bq wr b p dv mv ds ms) (ho : Only lo hi wr w') (hc : Cx 0 w' dv mv ds ms) (hb : b < lo ∨ hi ≤ b) : Bq w' b p dv mv ds ms :=
  ⟨(ho.cell hb).trans h.c0, (ho.cell hb).trans h.c1, (ho.cell hb).trans h.c2, by have := ho.size; have := h.lt; omega, hc⟩
end Go.Proofs.Ytchijefibiaphaa


namespace Go.Proofs.Ytchijefibiaphaa
open Go.RowKit

theorem hloadC (w : World) {b : Nat} {p : Int} {dv mv : Value} (c0 : w.cell? ⟨b, 0, none⟩ = some (.int .i64 p)) (c1 : w.cell? ⟨b, 1, none⟩ = some dv) (c2 : w.cell? ⟨b, 2, none⟩ = some mv) : (Instr.loadAt 30 (.pointer (some ⟨b, 0, none⟩))).run Try.prog w = .ok (.agg #[.int .i64 p, dv, mv]) w := by go_simp

/-- The dimension of a degree. -/
def dimN (ds : List Int) (n : Int) : Nat := (ds.getD n.toNat 0).toNat

/-- What a function on a complex and a degree answers as a list of vectors. -/
def SpF (p : Int) (n : Nat) (S : Lin.V → Prop) (R : List Lin.V) : Prop := Lin.Red p R ∧ (∀ u ∈ R, Lin.Wd n u) ∧ (∀ v, Lin.Sp p R v ↔ S v)
theorem SpF.short {p : Int} {n : Nat} {S : Lin.V → Prop} {R : List Lin.V} (h : SpF p n S R) : R.length ≤ n := red_length h.1 h.2.1

end Go.Proofs.Ytchijefibiaphaa

namespace Go.Proofs.Ytchijefibiaphaa
open Go.RowKit

/-- The table from the degree k + 1 to k, none beyond the degrees. -/
def tabN (ms : List (List (List Int))) (k : Nat) : List (List Int) := ms.getD k []
end Go.Proofs.Ytchijefibiaphaa

namespace Go.Proofs.Ytchijefibiaphaa
open Go.RowKit

theorem Gs.lt {base : Nat} {w : World} {v : Value} {tb : List (List Int)} (h : Gs base w v tb) : ∀ k, v.ownBlock = some k → base ≤ k ∧ k < w.heap.size := by
  obtain ⟨vs, ho, _⟩ := h
  exact World.ownsRow.lt ho
theorem Gs.row {base : Nat} {w : World} {u : Value} {tb : List (List Int)} (h : Gs base w u tb) {k : Nat} (hk : k < tb.length) (hpos : 0 < (tb[k]).length) :
    ∃ b c, u = .slice (some ⟨b, 0, none⟩) tb.length c ∧ ∃ g cap, w.cell? ⟨b, k, none⟩ = some (.slice (some ⟨g, 0, none⟩) (tb[k]).length cap) ∧ (tb[k]).length ≤ cap ∧ G1 w (.slice (some ⟨g, 0, none⟩) (tb[k]).length cap) tb[k] := by
  obtain ⟨vs, ho, hr⟩ := h
  obtain ⟨b, c, rfl, _, _⟩ := World.ownsRow.form ho (by omega)
  have hvl : vs.length = tb.length := by have := ho.1; omega
  have hg := hr k (by omega) hk
  obtain ⟨g, cap, hv, _, _⟩ := World.ownsRow.form hg hpos
  refine ⟨b, c, rfl, g, cap, ?_, ?_, by rw [← hv]; exact hg⟩
  · rw [World.ownsRow.cellAt ho k (by omega), List.getElem?_eq_getElem (by omega), hv]
  · rw [hv] at hg
    rcases hg.2 with ⟨h0, _⟩ | ⟨g', cap', cur, h0, _, _, hnc, _⟩
    · cases h0
    · injection h0 with _ _ e3
      omega
end Go.Proofs.Ytchijefibiaphaa

namespace Go.Proofs.Ytchijefibiaphaa
open Go.RowKit

theorem hremI {a b : Int} (h0 : 0 ≤ a) (h1 : 0 < b) (h2 : b ≤ 1000) (w : World) : (binOp .rem 2 (.int .i64 a) (.int .i64 b)).run Try.prog w = .ok (.int .i64 (a % b)) w := by
  have hb : ¬ b = 0 := by omega
  have hb1 : ¬ b = -1 := by omega
  go_simp
  rw [Int.tmod_eq_emod_of_nonneg h0]
theorem hstoreI (w : World) {b o : Nat} {u : Value} (x : Int) (hc : w.cell? ⟨b, o, none⟩ = some u) (hf : w.frozen? ⟨b, o, none⟩ = false) : (Instr.storeAt 2 (.pointer (some ⟨b, o, none⟩)) (.int .i64 x)).run Try.prog w = .ok () (w.setCell ⟨b, o, none⟩ (.int .i64 x)) := by go_simp
section
variable {md : Region.Mode} {ops : Array Oper} {Q : Exit → Act → World → Prop} {S : World → Prop}
end

/-- The solutions gathered from the places before f. -/
structure Sols (p : Int) (R : List Lin.V) (f : Nat) (L : List Lin.V) : Prop where
  all : ∀ g, g < f → Lin.Free R g → ∃ s ∈ L, Lin.Sol p R g s
  only : ∀ s ∈ L, ∃ g, g < f ∧ Lin.Free R g ∧ Lin.Sol p R g s
  len : L.length ≤ f
theorem Sols.nil (p : Int) (R : List Lin.V) : Sols p R 0 [] := ⟨fun g h => absurd h (Nat.not_lt_zero _), by simp, by simp⟩
theorem Sols.add {p : Int} {R : List Lin.V} {f : Nat} {L : List Lin.V} (h : Sols p R f L) (hf : Lin.Free R f) {s : Lin.V} (hs : Lin.Sol p R f s) : Sols p R (f + 1) (L ++ [s]) :=
  ⟨fun g hg hfr => by
    by_cases e : g = f
    · subst e; exact ⟨s, by simp, hs⟩
    · obtain ⟨t, ht, h2⟩ := h.all g (by omega) hfr
      exact ⟨t, by simp [ht], h2⟩, fun t ht => by
    rcases List.mem_append.1 ht with h1 | h1
    · obtain ⟨g, h2, h3⟩ := h.only t h1; exact ⟨g, by omega, h3⟩
    · rw [List.mem_singleton.1 h1]; exact ⟨f, by omega, hf, hs⟩, by have := h.len; simp; omega⟩
/-- A solution while it is made: k rows have been seen. -/
structure SolTo (p : Int) (R : List Lin.V) (f k : Nat) (s : Lin.V) : Prop where
  at1 : s f = 1
  lead : ∀ w ∈ R.take k, s (Lin.ld w) = (p - w f) % p
  rest : ∀ i, i ≠ f → (∀ w ∈ R.take k, Lin.ld w ≠ i) → s i = 0
theorem SolTo.start (p : Int) (R : List Lin.V) (f : Nat) : SolTo p R f 0 (fun i => if i = f then 1 else Lin.zv i) := ⟨by simp, by simp, fun i h _ => by simp [h, Lin.zv]⟩
theorem SolTo.step {p : Int} {R : List Lin.V} {f k : Nat} {s : Lin.V} (hR : Lin.Red p R) (hf : Lin.Free R f) (h : SolTo p R f k s) (hk : k < R.length) : SolTo p R f (k + 1) (fun i => if i = Lin.ld R[k] then (p - R[k] f) % p else s i) := by
  have hne : ∀ w ∈ R.take k, Lin.ld w ≠ Lin.ld R[k] := fun w hw e => by
    obtain ⟨j, hj, rfl⟩ := List.getElem_of_mem hw
    have hjk : j < k := by simp at hj; omega
    have := List.pairwise_iff_getElem.1 hR.inc j k (by omega) hk hjk
    rw [List.getElem_take] at e
    omega
  refine ⟨?_, fun w hw => ?_, fun i hi hn => ?_⟩
  · rw [if_neg (fun e => hf _ (List.getElem_mem hk) e.symm)]
    exact h.at1
  · rw [List.take_succ_eq_append_getElem hk] at hw
    rcases List.mem_append.1 hw with h1 | h1
    · rw [if_neg (hne w h1)]
      exact h.lead w h1
    · rw [List.mem_singleton.1 h1, if_pos rfl]
  · have hn2 := hn R[k] (by rw [List.take_succ_eq_append_getElem hk]; exact List.mem_append_right _ (List.mem_singleton.2 rfl))
    rw [if_neg (fun e => hn2 e.symm)]
    exact h.rest i hi (fun w hw => hn w (by rw [List.take_succ_eq_append_getElem hk]; exact List.mem_append_left _ hw))
theorem SolTo.done {p : Int} {R : List Lin.V} {f : Nat} {s : Lin.V} (h : SolTo p R f R.length s) : Lin.Sol p R f s := by
  have e : R.take R.length = R := List.take_of_length_le (Nat.le_refl _)
  exact ⟨h.at1, fun w hw => h.lead w (by rw [e]; exact hw), fun i hi hn => h.rest i hi (fun w hw => hn w (by rw [e] at hw; exact hw))⟩

end Go.Proofs.Ytchijefibiaphaa

namespace Go.Proofs.Ytchijefibiaphaa
open Go.RowKit

/-- The table whose columns the cycles of a degree annihilate, and its width. -/
def cycT (ds : List Int) (ms : List (List (List Int))) (q : Nat) : List (List Int) := mapZ ds ms (q : Int)
theorem dimN_le8 {p : Int} {ds : List Int} {ms : List (List (List Int))} (h : IsCx p ds ms) (q : Nat) : dimN ds (q : Int) ≤ 8 ∧ ds.getD q 0 = (dimN ds (q : Int) : Int) := by
  have := h.1.dim q
  unfold dimN
  rw [Int.toNat_natCast]
  omega
theorem cycT_succ {p : Int} {ds : List Int} {ms : List (List (List Int))} (h : IsCx p ds ms) {k : Nat} (hq : k + 1 < ds.length) : cycT ds ms (k + 1) = tabN ms k := by
  have hml := h.1.mlen
  unfold cycT mapZ tabN
  rw [if_pos (by omega), show (((k + 1 : Nat) : Int)).toNat - 1 = k by omega]
theorem SpF.congr {p : Int} {n : Nat} {S S' : Lin.V → Prop} {R : List Lin.V} (h : SpF p n S R) (e : ∀ v, S v ↔ S' v) : SpF p n S' R := ⟨h.1, h.2.1, fun v => (h.2.2 v).trans (e v)⟩
/-- A table as an answer. -/
def DtR (t : List (List Int)) (w : World) (e : Ending) (w' : World) : Prop := ∃ v, e = .returned v ∧ L2 0 w' v t ∧ Below w.heap.size w w'
theorem cycT_zero (ds : List Int) (ms : List (List (List Int))) (h0 : 0 < ds.length) : cycT ds ms 0 = List.replicate (dimN ds ((0 : Nat) : Int)) [] := by
  unfold cycT mapZ
  rw [if_neg (by omega)]
  have : dimZ ds ((0 : Nat) : Int) = ds.getD 0 0 := by
    unfold dimZ
    rw [if_pos (by omega)]
    rfl
  rw [this]
  rfl
theorem tableOf_none (d : Nat) (Z : Nat → Nat → Int) : tableOf d 0 Z = List.replicate d [] := by simp [tableOf, List.map_const']
set_option maxHeartbeats 1600000 in
set_option maxRecDepth 100000 in
theorem differentialTable_any (p : Int) (q : Nat) (dv mv : Value) (ds : List Int) (ms : List (List (List Int))) (w : World) (h : Cx 0 w dv mv ds ms) (hcx : IsCx p ds ms) (hq : q < ds.length) :
    Calls Try.prog 135 #[.agg #[.int .i64 p, dv, mv], .int .i64 q] w (DtR (cycT ds ms q) w) := by
  have HX0 := Lib.hid (Bx.start (p := p) 30 h)
  have HCX := Lib.hid hcx
  have hml := hcx.1.mlen
  have hl6 := hcx.1.len1
  refine Sl.cases HX0.out.cx.dims (fun _ _ hx _ => absurd hq (by simp [hx])) (fun bd od capd hvd _ _ hcld => ?_)
  subst hvd
  have c0 := HX0.out.c0
  have c1 := HX0.out.c1
  have c2 := HX0.out.c2
  by_cases hq0 : q = 0
  · subst hq0
    obtain ⟨ud, hud, hrd⟩ := hcld 0 hq
    obtain ⟨d, hd⟩ : ∃ d, d = dimN ds ((0 : Nat) : Int) := ⟨_, rfl⟩
    have hd8 : d ≤ 8 := by rw [hd]; exact (dimN_le8 hcx 0).1
    have hcel : (w.alloc (.cells #[.int .i64 p, .slice (some ⟨bd, od, none⟩) ds.length capd, mv] 30)).cell? ⟨bd, od, none⟩ = some (.int .i64 (d : Int)) := by
      rw [Nat.add_zero] at hud
      rw [hud, hrd, ← getD_of_lt 0 hq, (dimN_le8 hcx 0).2, hd]
    have HDT : Hid (tableOf d 0 (fun _ _ => 0) = cycT ds ms 0) := Lib.hid (by rw [cycT_zero ds ms hq, tableOf_none, hd])
    have hlen : (0 : Int) < (ds.length : Int) := by omega
    clear h hcx hcld hud hrd hd
    go_enter Try.func135, Try.ntmps135
    go_wp2_with fail
    refine (zeroTable_any d 0 _ (by omega) (by omega)).mono ?_
    rintro e w1 ⟨rfl, hm1⟩
    have HM1 := Lib.hid hm1
    clear hm1 hcel c0 c1 c2
    go_wp2
    go_ret
    refine ⟨.slice (some ⟨w.heap.size + 1, 0, none⟩) d d, rfl, ?_, HX0.out.below.trans (HM1.out.below.mono HX0.out.below.size)⟩
    have hh := HM1.out.w2.l2.lower (Nat.zero_le _)
    rw [HDT.out] at hh
    simpa using hh
  · obtain ⟨k, rfl⟩ : ∃ k, q = k + 1 := ⟨q - 1, by omega⟩
    have hkm : k < ms.length := by omega
    refine Sl.cases HX0.out.cx.maps (fun _ _ hx _ => absurd hkm (by simp [hx])) (fun bm om capm hvm _ _ hclm => ?_)
    subst hvm
    obtain ⟨um, hum, hrm⟩ := hclm k hkm
    have HTE : Hid (cycT ds ms (k + 1) = tabN ms k) := Lib.hid (cycT_succ hcx hq)
    have HRM : Hid (L2 0 (w.alloc (.cells #[.int .i64 p, .slice (some ⟨bd, od, none⟩) ds.length capd, .slice (some ⟨bm, om, none⟩) ms.length capm] 30)) um (tabN ms k)) := Lib.hid (by unfold tabN; rw [getD_of_lt _ hkm]; exact hrm)
    have hne : (((k + 1 : Nat) : Int) == 0) = false := by
      have : ¬ ((k + 1 : Nat) : Int) = 0 := by omega
      simpa using this
    have hne2 : ¬ ((k : Int) + 1 = 0) := by omega
    have hwr : IntKind.i64.wrap (((k + 1 : Nat) : Int) - 1) = (k : Int) := by rw [show ((k + 1 : Nat) : Int) - 1 = (k : Int) by omega]; exact IntWalk.i64_in _ (by omega)
    have hsub : ((k : Int) + 1) - 1 = (k : Int) := by omega
    have hlt : (k : Int) < (ms.length : Int) := by omega
    clear h hcx hclm hcld hrm hq0
    go_enter Try.func135, Try.ntmps135
    go_wp2
    go_ret
    exact ⟨_, rfl, by rw [HTE.out]; exact HRM.out, HX0.out.below⟩

end Go.Proofs.Ytchijefibiaphaa


namespace Go.Proofs.Ytchijefibiaphaa
open Go.RowKit

/-- The slice u holds tables, in a row of its own. -/
def Gt (base : Nat) (w : World) (u : Value) (ts : List (List (List Int))) : Prop := ∃ vs, w.ownsRow base 61 1 u ts.length vs ∧ ∀ k (h1 : k < vs.length) (h2 : k < ts.length), Gs 0 w vs[k] ts[k]
theorem Gt.below {base : Nat} {w w' : World} {u : Value} {ts : List (List (List Int))} (h : Gt base w u ts) (hb : Below w.heap.size w w') : Gt base w' u ts := by
  obtain ⟨vs, ho, hr⟩ := h
  exact ⟨vs, owns_below ho hb, fun k h1 h2 => (hr k h1 h2).below hb⟩
theorem Gt.l3 {base : Nat} {w : World} {u : Value} {ts : List (List (List Int))} (h : Gt base w u ts) : L3 0 w u ts := by
  obtain ⟨vs, ho, hr⟩ := h
  exact sl_of_owns ho (Nat.zero_le _) rfl (fun k h1 h2 => (hr k h2 h1).l2)
theorem Gt.lt {base : Nat} {w : World} {v : Value} {ts : List (List (List Int))} (h : Gt base w v ts) : ∀ k, v.ownBlock = some k → base ≤ k ∧ k < w.heap.size := by
  obtain ⟨vs, ho, _⟩ := h
  exact World.ownsRow.lt ho
theorem Gt.new {base : Nat} (w : World) (hb : base ≤ w.heap.size) : Gt base (w.alloc (.cells #[] 61)) (.slice (some ⟨w.heap.size, 0, none⟩) 0 0) [] :=
  ⟨[], by simpa using World.ownsRow_made (base := base) (e := 61) (size := 1) w #[] 0 hb (by unfold maxLen; omega) (by simp), fun k h1 _ => absurd h1 (Nat.not_lt_zero _)⟩
theorem Gs.new {base : Nat} (w : World) (hb : base ≤ w.heap.size) : Gs base (w.alloc (.cells #[] 22)) (.slice (some ⟨w.heap.size, 0, none⟩) 0 0) [] :=
  ⟨[], by simpa using World.ownsRow_made (base := base) (e := 22) (size := 1) w #[] 0 hb (by unfold maxLen; omega) (by simp), fun k h1 _ => absurd h1 (Nat.not_lt_zero _)⟩
theorem Gb.new {base : Nat} (w : World) (hb : base ≤ w.heap.size) : Gb base (w.alloc (.cells #[] 2)) (.slice (some ⟨w.heap.size, 0, none⟩) 0 0) [] := by
  have := World.ownsRow_made (base := base) (e := 2) (size := 1) w #[] 0 hb (by unfold maxLen; omega) (by simp)
  simpa [Gb] using this
theorem Gs.grown {w w3 : World} {base base' n : Nat} {u v : Value} {t : List (List Int)} {vs : List Value} (h : Gs base' w u t) (ho : w.ownsRow base 61 1 v n vs) (hg : w.grownBy w3 v.ownBlock) : Gs base' w3 u t := by
  obtain ⟨us, hu, hr⟩ := h
  exact ⟨us, owns_grown hu ho (by decide) hg, fun k h1 h2 => owns_grown (hr k h1 h2) ho (by decide) hg⟩
theorem Gt.push {base : Nat} {w w3 : World} {v v' row : Value} {ts : List (List (List Int))} {vs : List Value} {x : List (List Int)} (ho : w.ownsRow base 61 1 v ts.length vs) (hr : ∀ k (h1 : k < vs.length) (h2 : k < ts.length), Gs 0 w vs[k] ts[k]) (hx : Gs 0 w row x)
    (ho3 : w3.ownsRow base 61 1 v' (ts.length + 1) (vs ++ [row])) (hg : w.grownBy w3 v.ownBlock) : Gt base w3 v' (ts ++ [x]) := by
  have hvl : vs.length = ts.length := by have := ho.1; omega
  refine ⟨vs ++ [row], by simpa using ho3, fun k h1 h2 => ?_⟩
  by_cases e : k < vs.length
  · rw [List.getElem_append_left e, List.getElem_append_left (by omega)]
    exact (hr k e (by omega)).grown ho hg
  · have e2 : k = vs.length := by simp at h1; omega
    subst e2
    rw [List.getElem_append_right (by omega), List.getElem_append_right (by omega)]
    simp only [hvl, Nat.sub_self, List.getElem_cons_zero]
    exact hx.grown ho hg
section
variable {ops : Array Oper} {rest : List Oper} {Q : Exit → Act → World → Prop}
end
end Go.Proofs.Ytchijefibiaphaa


namespace Go.Proofs.Ytchijefibiaphaa
open Go.RowKit

/-- A table in blocks of its own. -/
theorem Tb.rw2h {lo hi : Nat} {W : World} {g r c : Nat} {Z : Nat → Nat → Int} (h : Tb W g r c Z) (hl : lo ≤ g) (hh : g + 1 + r ≤ hi) (hr : r ≤ 1048576) (hc : c ≤ 1048576) : Rw2 lo hi W (.slice (some ⟨g, 0, none⟩) r r) (tableOf r c Z) := by
  have hlt := hh
  refine ⟨?_, ?_⟩
  · by_cases h0 : r = 0
    · subst h0
      exact Or.inl ⟨rfl, _, _, rfl⟩
    · refine Or.inr ⟨g, 0, r, by simp [tableOf], hl, by omega, by simp [tableOf]; omega, fun k hk => ?_, fun k _ => h.top.frozen _⟩
      have hk' : k < r := by simpa [tableOf] using hk
      refine ⟨_, by rw [Nat.zero_add]; exact h.top.cell hk', ?_⟩
      simp only [tableOf, List.getElem_map, List.getElem_range]
      by_cases hc : c = 0
      · subst hc
        exact Or.inl ⟨rfl, _, _, rfl⟩
      · refine Or.inr ⟨g + 1 + k, 0, c, by simp, by omega, by omega, by simp; omega, fun i hi => ?_, fun i _ => (h.rows k hk').frozen _⟩
        have hi' : i < c := by simpa using hi
        refine ⟨_, by rw [Nat.zero_add]; exact (h.rows k hk').cell hi', ?_⟩
        simp only [IsI, List.getElem_map, List.getElem_range]
  · refine ⟨flat (fun j => if c = 0 then [] else [(g + 1 + j, 0, c)]) r, ⟨some ⟨g, 0, none⟩, r, r, fun j => .slice (some ⟨g + 1 + j, 0, none⟩) c c, fun j => if c = 0 then [] else [(g + 1 + j, 0, c)], rfl, hr, rfl, fun j hj => ?_, fun _ => ⟨g, 0, rfl, hl, by omega, fun j hj => by rw [Nat.zero_add]; exact h.top.cell hj⟩⟩, nums_flat (fun j hj => ?_), ?_, ?_⟩
    · by_cases hc0 : c = 0
      · subst hc0
        exact Or.inl ⟨by simp, _, _, rfl⟩
      · exact Or.inr ⟨g + 1 + j, 0, c, c, if_neg hc0, by omega, hc, by omega, by omega, rfl⟩
    · intro x hx
      by_cases hc0 : c = 0
      · rw [if_pos hc0] at hx; simp at hx
      · rw [if_neg hc0] at hx
        obtain rfl : x = (g + 1 + j, 0, c) := by simpa using hx
        exact ⟨by show lo ≤ g + 1 + j; omega, by show g + 1 + j < _; omega, fun i hi => ⟨⟨Z j i, by rw [Nat.zero_add]; exact (h.rows j hj).cell hi⟩, (h.rows j hj).frozen _⟩⟩
    · refine (disj_spans (b := fun j => g + 1 + j) (fun j _ => by omega) (fun j _ x hx => ?_) (fun j _ => ?_)).1
      · by_cases hc0 : c = 0
        · rw [if_pos hc0] at hx; simp at hx
        · rw [if_neg hc0] at hx
          obtain rfl : x = (g + 1 + j, 0, c) := by simpa using hx
          exact ⟨Nat.le_refl _, by show g + 1 + j < g + 1 + (j + 1); omega⟩
      · by_cases hc0 : c = 0
        · rw [if_pos hc0]; exact List.Pairwise.nil
        · rw [if_neg hc0]; exact List.pairwise_singleton _ _
    · have := size_spans (J := fun j => if c = 0 then [] else [(g + 1 + j, 0, c)]) (n := r) (B := c) (fun j _ => by
        by_cases hc0 : c = 0
        · simp [hc0, ivSize]
        · simp [hc0, ivSize])
      have h2 : c * r ≤ 1048576 * 1048576 := Nat.mul_le_mul hc hr
      omega
theorem Fill3.parts {wr : World} {g n : Nat} {f : Nat → Value} {b : Nat → Nat} {ts : List (List (List Int))} (h : Fill3 wr g n n f b ts) (hn : n = ts.length) (hs : n ≤ 1048576) : W3 g wr.heap.size wr (.slice (some ⟨g, 0, none⟩) n n) ts ∧ ∃ J, S3 g wr.heap.size wr (.slice (some ⟨g, 0, none⟩) n n) J ∧ Nums (b 0) wr.heap.size wr J ∧ Disj J ∧ ivSize J ≤ 1152921504606846976 := by
  have hlt := h.row.lt
  have h1 : ∀ j, j < n → Rw2 g wr.heap.size wr (f j) (ts.getD j []) := fun j hj => by
    rw [getD_of_lt _ (by omega)]
    have a1 := inc_le h.inc (j + 1) hj
    have a2 := inc_le (b := b) (k := j) (fun i hi => h.inc i (by omega)) 0 (Nat.zero_le _)
    have a3 := h.lo
    exact (h.at' j (by omega) hj).wider (by omega) (Nat.le_trans a1 h.hi)
  refine ⟨?_, ?_⟩
  · by_cases h0 : n = 0
    · exact Or.inl ⟨List.eq_nil_of_length_eq_zero (by omega), _, _, by rw [h0]⟩
    · refine Or.inr ⟨g, 0, n, by rw [hn], Nat.le_refl _, hlt, by omega, fun k hk => ?_, fun k _ => h.row.frozen _⟩
      refine ⟨f k, by rw [Nat.zero_add]; exact h.row.cell (by omega), ?_⟩
      have := (h1 k (by omega)).1
      rwa [getD_of_lt _ hk] at this
  · have hex : ∀ j, j < n → ∃ I, S2 (b j) (b (j + 1)) wr (f j) I ∧ Nums (b j) (b (j + 1)) wr I ∧ Disj I ∧ ivSize I ≤ 1099511627776 := fun j hj => (h.at' j (by omega) hj).2
    obtain ⟨J, hJ⟩ := choose2 hex
    have hw : ∀ j, j < n → g ≤ b j ∧ b (j + 1) ≤ wr.heap.size := fun j hj => by
      have a1 := inc_le h.inc (j + 1) hj
      have a2 := inc_le (b := b) (k := j) (fun i hi => h.inc i (by omega)) 0 (Nat.zero_le _)
      have a3 := h.lo
      have a4 := h.hi
      omega
    refine ⟨flat J n, ⟨some ⟨g, 0, none⟩, n, n, f, J, rfl, hs, rfl, fun j hj => (hJ j hj).1.wider (hw j hj).1 (hw j hj).2, fun _ => ⟨g, 0, rfl, Nat.le_refl _, hlt, fun j hj => by rw [Nat.zero_add]; exact h.row.cell hj⟩⟩, nums_flat (fun j hj => (hJ j hj).2.1.wider (inc_le (b := b) (k := j) (fun i hi => h.inc i (by omega)) 0 (Nat.zero_le _)) (hw j hj).2), (disj_spans h.inc (fun j hj x hx => ⟨((hJ j hj).2.1 x hx).1, ((hJ j hj).2.1 x hx).2.1⟩) (fun j hj => (hJ j hj).2.2.1)).1, ?_⟩
    have h2 := size_spans (J := J) (n := n) (B := 1099511627776) (fun j hj => (hJ j hj).2.2.2)
    have h3 : 1099511627776 * n ≤ 1099511627776 * 1048576 := Nat.mul_le_mul (Nat.le_refl _) hs
    omega


/-- A complex that a function answers: numbers in blocks from lo up to hi, apart from each other. -/
def RcW (lo hi : Nat) (W : World) (dv mv : Value) (ds : List Int) (ms : List (List (List Int))) : Prop :=
  CxW lo hi W dv mv ds ms ∧ ∃ I J, S1 lo hi W dv I ∧ S3 lo hi W mv J ∧ Nums lo hi W I ∧ Nums lo hi W J ∧ Disj J ∧ (∀ x ∈ I, ∀ y ∈ J, Apart x y) ∧ ivSize I ≤ 1048576 ∧ ivSize J ≤ 1152921504606846976
theorem RcW.same {lo hi : Nat} {W W' : World} {dv mv : Value} {ds : List Int} {ms : List (List (List Int))} (h : RcW lo hi W dv mv ds ms) (s : Same lo hi W W') : RcW lo hi W' dv mv ds ms := by
  obtain ⟨h0, I, J, h1, h2, h3, h4, h5⟩ := h
  exact ⟨h0.same s, I, J, h1, h2.same s, h3.same s, h4.same s, h5⟩
theorem RcW.cx {lo hi : Nat} {W : World} {dv mv : Value} {ds : List Int} {ms : List (List (List Int))} (h : RcW lo hi W dv mv ds ms) : Cx 0 W dv mv ds ms := h.1.cx.lower (Nat.zero_le _)
theorem RcW.wider {lo hi lo' hi' : Nat} {W : World} {dv mv : Value} {ds : List Int} {ms : List (List (List Int))} (h : RcW lo hi W dv mv ds ms) (h1 : lo' ≤ lo) (h2 : hi ≤ hi') : RcW lo' hi' W dv mv ds ms := by
  obtain ⟨h0, I, J, a, b, c, d, e⟩ := h
  exact ⟨⟨h0.dims.wider h1 h2, h0.maps.wider h1 h2⟩, I, J, a.wider h1 h2, b.wider h1 h2, c.wider h1 h2, d.wider h1 h2, e⟩
theorem RcW.nil (lo hi : Nat) (W : World) : RcW lo hi W (.slice none 0 0) (.slice none 0 0) [] [] :=
  ⟨⟨Or.inl ⟨rfl, _, _, rfl⟩, Or.inl ⟨rfl, _, _, rfl⟩⟩, [], [], Or.inl ⟨rfl, _, _, rfl⟩, ⟨none, 0, 0, fun _ => .slice none 0 0, fun _ => [], rfl, by omega, rfl, fun _ h => absurd h (Nat.not_lt_zero _), fun h => absurd h (Nat.lt_irrefl _)⟩, fun _ h => absurd h (by simp), fun _ h => absurd h (by simp), List.Pairwise.nil, fun _ h => absurd h (by simp), by simp [ivSize], by simp [ivSize]⟩
/-- Prime, dimensions and tables of a complex. -/
abbrev Co := Int × List Int × List (List (List Int))
def RwC (lo hi : Nat) (W : World) (u : Value) (o : Co) : Prop := ∃ ad cd am cm, u = .agg #[.int .i64 o.1, .slice ad o.2.1.length cd, .slice am o.2.2.length cm] ∧ RcW lo hi W (.slice ad o.2.1.length cd) (.slice am o.2.2.length cm) o.2.1 o.2.2
def RsC (W : World) (u : Value) (o : Co) : Prop := ∃ ad cd am cm, u = .agg #[.int .i64 o.1, .slice ad o.2.1.length cd, .slice am o.2.2.length cm] ∧ Cx 0 W (.slice ad o.2.1.length cd) (.slice am o.2.2.length cm) o.2.1 o.2.2
theorem RwC.nil (lo hi : Nat) (W : World) : RwC lo hi W (.agg #[.int .i64 0, .slice none 0 0, .slice none 0 0]) (0, [], []) := ⟨none, 0, none, 0, rfl, RcW.nil _ _ _⟩
theorem RsC.nil (W : World) : RsC W (.agg #[.int .i64 0, .slice none 0 0, .slice none 0 0]) (0, [], []) := ⟨none, 0, none, 0, rfl, ⟨Or.inl ⟨rfl, _, _, rfl⟩, Or.inl ⟨rfl, _, _, rfl⟩⟩⟩
/-- What a law asks of a complex that it compares. -/
def CoB (o : Co) : Prop := o.2.1.length ≤ 1048576 ∧ Bd3 1048576 o.2.2

/-- The same with the marks from 1 on in it. -/
def HcW (lo hi : Nat) (W : World) (dv mv : Value) (m : Int) : Prop :=
  ∃ I J, S1 lo hi W dv I ∧ S3 lo hi W mv J ∧ Marked W I 1 ∧ Marked W J (1 + (ivSize I : Int)) ∧ (∀ x ∈ I, lo ≤ x.1 ∧ x.1 < hi) ∧ (∀ x ∈ J, lo ≤ x.1 ∧ x.1 < hi) ∧ m = 1 + (ivSize I : Int) + (ivSize J : Int) ∧ ivSize I ≤ 1048576 ∧ ivSize J ≤ 1152921504606846976
theorem HcW.same {lo hi : Nat} {W W' : World} {dv mv : Value} {m : Int} (h : HcW lo hi W dv mv m) (s : Same lo hi W W') : HcW lo hi W' dv mv m := by
  obtain ⟨I, J, h1, h2, h3, h4, h5, h6, h7⟩ := h
  exact ⟨I, J, h1, h2.same s, h3.same h5 s, h4.same h6 s, h5, h6, h7⟩
/-- What the mark of a result leaves. -/
def MkRC (lo hi : Nat) (dv mv : Value) (w : World) (e : Ending) (w' : World) : Prop := ∃ (m : Int) (w1 : World), e = .returned (.int .i64 m) ∧ 1 ≤ m ∧ m ≤ 4611686018427387904 ∧ Below w.heap.size w w1 ∧ Only lo hi w1 w' ∧ HcW lo hi w' dv mv m

set_option maxHeartbeats 800000 in
theorem markRC_any {lo hi : Nat} (p : Int) (dv mv : Value) (ds : List Int) (ms : List (List (List Int))) (w : World) (h : RcW lo hi w dv mv ds ms) (hh : hi ≤ w.heap.size) :
    Calls Try.prog 24 #[.agg #[.int .i64 p, dv, mv], .int .i64 1] w (MkRC lo hi dv mv w) := by
  obtain ⟨_, I, J, h1, h2, h3, h4, h5, h6, h7, h8⟩ := h
  have hb0 : Below w.heap.size w (w.alloc (.cells #[.int .i64 p, dv, mv] 30)) := (Below.refl _ _).alloc (Nat.le_refl _) _
  have s : Same lo hi w (w.alloc (.cells #[.int .i64 p, dv, mv] 30)) := Same.of_below hb0 hh
  have HB0 := Lib.hid hb0
  have H1 := Lib.hid (show S1 lo hi (w.alloc (.cells #[.int .i64 p, dv, mv] 30)) dv I from h1)
  have H2 := Lib.hid (h2.same s)
  have H3 := Lib.hid (h3.same s)
  have H4 := Lib.hid (h4.same s)
  clear h1 h2 h3 h4 s hb0
  go_enter Try.func24, Try.ntmps24
  go_wp2_with fail
  refine (mark1s_any dv I 1 _ H1.out H3.out (by omega) (by omega)).mono ?_
  rintro e w1 ⟨rfl, ho, ht, hc, hm⟩
  have c2 : w1.cell? ⟨w.heap.size, 2, none⟩ = some mv := (ho.cell (Or.inr hh)).trans (by simp)
  have HO := Lib.hid (And.intro ho (And.intro ht hm))
  clear ho ht hc hm
  go_wp2_with fail
  refine (mark3s_any mv J (1 + (ivSize I : Int)) _ (H2.out.tame HO.out.2.1) (H4.out.tame HO.out.2.1) h5 (by omega) (by omega)).mono ?_
  rintro e w2 ⟨rfl, ho, ht, hc, hm⟩
  have HO2 := Lib.hid (And.intro (HO.out.1.trans ho) (And.intro ((H2.out.tame HO.out.2.1).tame ht) (And.intro (HO.out.2.2.keep hc h6) hm)))
  clear ho ht hc hm
  go_wp2
  go_ret
  exact ⟨_, _, rfl, by omega, by omega, HB0.out, HO2.out.1, I, J, H1.out, HO2.out.2.1, HO2.out.2.2.1, HO2.out.2.2.2, fun x hx => ⟨(H3.out x hx).1, (H3.out x hx).2.1⟩, fun x hx => ⟨(H4.out x hx).1, (H4.out x hx).2.1⟩, rfl, h7, h8⟩
set_option maxHeartbeats 800000 in
theorem heldRC_any {lo hi : Nat} (p : Int) (dv mv : Value) (m : Int) (w : World) (h : HcW lo hi w dv mv m) (hh : hi ≤ w.heap.size) :
    Calls Try.prog 26 #[.agg #[.int .i64 p, dv, mv], .int .i64 1] w (BR (.int .i64 m) w) := by
  obtain ⟨I, J, h1, h2, h3, h4, h5, h6, rfl, h7, h8⟩ := h
  have hb0 : Below w.heap.size w (w.alloc (.cells #[.int .i64 p, dv, mv] 30)) := (Below.refl _ _).alloc (Nat.le_refl _) _
  have s : Same lo hi w (w.alloc (.cells #[.int .i64 p, dv, mv] 30)) := Same.of_below hb0 hh
  have HB0 := Lib.hid hb0
  have H1 := Lib.hid (show S1 lo hi (w.alloc (.cells #[.int .i64 p, dv, mv] 30)) dv I from h1)
  have H2 := Lib.hid (h2.same s)
  have H3 := Lib.hid (h3.same h5 s)
  have H4 := Lib.hid (h4.same h6 s)
  have hn1 : ¬ (1 + (ivSize I : Int)) < 0 := by omega
  have hn2 : ¬ (1 + (ivSize I : Int) + (ivSize J : Int)) < 0 := by omega
  clear h1 h2 h3 h4 s hb0 h5 h6
  go_enter Try.func26, Try.ntmps26
  go_wp2_with fail
  refine (held1s_any dv I 1 _ H1.out H3.out (by omega) (by omega)).mono ?_
  rintro e w1 ⟨rfl, rfl⟩
  go_wp2_with fail
  refine (held3s_any mv J (1 + (ivSize I : Int)) _ H2.out H4.out (by omega) (by omega)).mono ?_
  rintro e w2 ⟨rfl, rfl⟩
  go_wp2
  go_ret
  exact ⟨rfl, HB0.out⟩

/-- The box of a complex, its three cells alone. -/
structure Bc (wr : World) (b : Nat) (p : Int) (dv mv : Value) : Prop where
  c0 : wr.cell? ⟨b, 0, none⟩ = some (.int .i64 p)
  c1 : wr.cell? ⟨b, 1, none⟩ = some dv
  c2 : wr.cell? ⟨b, 2, none⟩ = some mv
  lt : b < wr.heap.size
theorem Bc.start (w : World) (p : Int) (dv mv : Value) (t : TypeId) : Bc (w.alloc (.cells #[.int .i64 p, dv, mv] t)) w.heap.size p dv mv := ⟨by simp, by simp, by simp, by simp⟩
theorem Bc.next {wr w' : World} {b : Nat} {p : Int} {dv mv : Value} (h : Bc wr b p dv mv) (hb : Below wr.heap.size wr w') : Bc w' b p dv mv :=
  ⟨later hb (Nat.le_refl _) h.c0, later hb (Nat.le_refl _) h.c1, later hb (Nat.le_refl _) h.c2, Nat.lt_of_lt_of_le h.lt hb.size⟩
theorem Bc.only {wr w' : World} {b lo hi : Nat} {p : Int} {dv mv : Value} (h : Bc wr b p dv mv) (ho : Only lo hi wr w') (hb : b < lo ∨ hi ≤ b) : Bc w' b p dv mv :=
  ⟨(ho.cell hb).trans h.c0, (ho.cell hb).trans h.c1, (ho.cell hb).trans h.c2, by have := ho.size; have := h.lt; omega⟩

end Go.Proofs.Ytchijefibiaphaa


namespace Go.Proofs.Ytchijefibiaphaa
open Go.RowKit

/-- The three cells of a box of a complex. -/
def box3 (p : Int) (a b : Value) : Nat → Value := fun i => if i = 0 then .int .i64 p else if i = 1 then a else b
/-- The dual while it is being made: its box, its list of dimensions, its list of tables, each in a block of its own. -/
structure Du (w wx : World) (g bd bm n m : Nat) (p : Int) (D M : Nat → Value) : Prop where
  below : Below w.heap.size w wx
  lo : w.heap.size ≤ g ∧ w.heap.size ≤ bd ∧ w.heap.size ≤ bm
  ne : g ≠ bd ∧ g ≠ bm ∧ bd ≠ bm
  box : wx.rowIs g 30 3 (box3 p (.slice (some ⟨bd, 0, none⟩) n n) (.slice (some ⟨bm, 0, none⟩) m m))
  dims : wx.rowIs bd 2 n D
  maps : wx.rowIs bm 61 m M
theorem Du.drew {w wx : World} {g bd bm n m : Nat} {p : Int} {D M : Nat → Value} (h : Du w wx g bd bm n m p D M) : Du w wx.drew g bd bm n m p D M := ⟨h.below.drew, h.lo, h.ne, h.box.drew, h.dims.drew, h.maps.drew⟩
theorem Du.next {w wx w' : World} {g bd bm n m : Nat} {p : Int} {D M : Nat → Value} (h : Du w wx g bd bm n m p D M) (hb : Below wx.heap.size wx w') : Du w w' g bd bm n m p D M :=
  ⟨h.below.trans (hb.mono h.below.size), h.lo, h.ne, h.box.of_block (hb.block _ h.box.lt), h.dims.of_block (hb.block _ h.dims.lt), h.maps.of_block (hb.block _ h.maps.lt)⟩
theorem Du.congr {w wx : World} {g bd bm n m : Nat} {p : Int} {D D' M : Nat → Value} (h : Du w wx g bd bm n m p D M) (e : ∀ j, j < n → D j = D' j) : Du w wx g bd bm n m p D' M := ⟨h.below, h.lo, h.ne, h.box, h.dims.congr e, h.maps⟩
/-- The list of dimensions, k of them laid. -/
def duD (ds : List Int) (k : Nat) : Nat → Value := fun j => .int .i64 (if j < k then ds.getD (ds.length - 1 - j) 0 else 0)
/-- A table at the block b: its row of rows there, row j at b + 1 + j. -/
structure TabAt (w : World) (b r c : Nat) (Z : Nat → Nat → Int) : Prop where
  top : w.rowIs b 22 r (fun j => .slice (some ⟨b + 1 + j, 0, none⟩) c c)
  rows : ∀ j, j < r → w.rowIs (b + 1 + j) 2 c (fun i => .int .i64 (Z j i))
theorem Mat.at {w w' : World} {r c : Nat} {Z : Nat → Nat → Int} (h : Mat w w' r c Z) : TabAt w' w.heap.size r c Z := ⟨h.top, h.rows⟩
theorem TabAt.below {w w' : World} {b r c : Nat} {Z : Nat → Nat → Int} (h : TabAt w b r c Z) (hb : Below w.heap.size w w') : TabAt w' b r c Z :=
  ⟨h.top.of_block (hb.block _ h.top.lt), fun j hj => (h.rows j hj).of_block (hb.block _ (h.rows j hj).lt)⟩
theorem TabAt.set {w : World} {b r c : Nat} {Z : Nat → Nat → Int} (h : TabAt w b r c Z) {a : Addr} (ha : a.block < b) (v : Value) : TabAt (w.setCell a v) b r c Z :=
  ⟨h.top.setOther (by omega) v, fun j hj => (h.rows j hj).setOther (by omega) v⟩
/-- The tables of the dual, k of them laid, one behind the other. -/
structure Ts (lo : Nat) (w : World) (bs r c : Nat → Nat) (Z : Nat → Nat → Nat → Int) (k : Nat) : Prop where
  at' : ∀ j, j < k → TabAt w (bs j) (r j) (c j) (Z j)
  lo' : ∀ j, j < k → lo ≤ bs j
  hi : ∀ j, j < k → bs j + 1 + r j ≤ w.heap.size
  inc : ∀ i j, i < j → j < k → bs i + 1 + r i ≤ bs j
def duR (ds : List Int) (m : Nat) (j : Nat) : Nat := (ds.getD (m - 1 - j) 0).toNat
def duC (ms : List (List (List Int))) (j : Nat) : Nat := (ms.getD (ms.length - 1 - j) []).length
def duZ (ms : List (List (List Int))) (j a b : Nat) : Int := ((ms.getD (ms.length - 1 - j) []).getD b []).getD a 0
def duM (bs r : Nat → Nat) (k : Nat) : Nat → Value := fun j => if j < k then .slice (some ⟨bs j, 0, none⟩) (r j) (r j) else .slice none 0 0
theorem Ts.step {lo k : Nat} {w w1 : World} {bs r c : Nat → Nat} {Z : Nat → Nat → Nat → Int} (h : Ts lo w bs r c Z k) (hm : Mat w w1 (r k) (c k) (Z k)) (hlo : lo ≤ w.heap.size) {a : Addr} (ha : a.block < lo) (v : Value) :
    Ts lo (w1.setCell a v) (fun j => if j = k then w.heap.size else bs j) r c Z (k + 1) := by
  refine ⟨fun j hj => ?_, fun j hj => ?_, fun j hj => ?_, fun i j hi hj => ?_⟩
  · by_cases e : j = k
    · subst e
      simp only [if_true]
      exact hm.at.set (by omega) v
    · simp only [if_neg e]
      have hj' : j < k := by omega
      have := h.lo' j hj'
      exact ((h.at' j hj').below hm.below).set (by omega) v
  · by_cases e : j = k
    · simp only [if_pos e]; exact hlo
    · simp only [if_neg e]; exact h.lo' j (by omega)
  · by_cases e : j = k
    · subst e
      simp [hm.size]
    · simp only [if_neg e]
      have := h.hi j (by omega)
      have := hm.below.size
      simp
      omega
  · by_cases e : j = k
    · subst e
      rw [if_neg (by omega), if_pos rfl]
      exact h.hi i hi
    · rw [if_neg (by omega), if_neg e]
      exact h.inc i j hi (by omega)
theorem Ts.drew {lo k : Nat} {w : World} {bs r c : Nat → Nat} {Z : Nat → Nat → Nat → Int} (h : Ts lo w bs r c Z k) : Ts lo w.drew bs r c Z k :=
  ⟨fun j hj => ⟨(h.at' j hj).top.drew, fun i hi => ((h.at' j hj).rows i hi).drew⟩, h.lo', h.hi, h.inc⟩
end Go.Proofs.Ytchijefibiaphaa


namespace Go.Proofs.Ytchijefibiaphaa
open Go.RowKit

theorem far {w : World} {b o b2 o2 : Nat} {u v : Value} (h : b ≠ b2) (hc : w.cell? ⟨b2, o2, none⟩ = some u) : (w.setCell ⟨b, o, none⟩ v).cell? ⟨b2, o2, none⟩ = some u := (World.cell?_setCell_far w _ _ v h).trans hc
/-- Three cells of a block. -/
def sel3 (x y z : Value) : Nat → Value := fun i => if i = 0 then x else if i = 1 then y else z
theorem rowIs3 {w : World} {b : Nat} {x y z : Value} {t : TypeId} (h : w.heap[b]? = some (.cells #[x, y, z] t)) : w.rowIs b t 3 (sel3 x y z) :=
  ⟨#[x, y, z], h, rfl, fun i hi => by
    match i, hi with
    | 0, _ => rfl
    | 1, _ => rfl
    | 2, _ => rfl⟩
theorem Ts.set {lo k : Nat} {w : World} {bs r c : Nat → Nat} {Z : Nat → Nat → Nat → Int} (h : Ts lo w bs r c Z k) {a : Addr} (ha : a.block < lo) (v : Value) : Ts lo (w.setCell a v) bs r c Z k :=
  ⟨fun j hj => (h.at' j hj).set (by have := h.lo' j hj; omega) v, h.lo', fun j hj => by have := h.hi j hj; simpa using this, h.inc⟩

/-- The dual as it lies behind the call: its dimensions, its tables' heads, its tables. -/
structure DuAt (w w' : World) (ds : List Int) (ms : List (List (List Int))) (bd bm : Nat) : Prop where
  below : Below w.heap.size w w'
  lo : w.heap.size ≤ bd ∧ w.heap.size ≤ bm ∧ bd ≠ bm
  dims : w'.rowIs bd 2 ds.length (duD ds ds.length)
  tabs : ∃ (lo : Nat) (bs : Nat → Nat), bd < lo ∧ bm < lo ∧ w'.rowIs bm 61 ms.length (duM bs (duR ds ms.length) ms.length) ∧ Ts lo w' bs (duR ds ms.length) (duC ms) (duZ ms) ms.length
theorem DuAt.set {w w' : World} {ds : List Int} {ms : List (List (List Int))} {bd bm : Nat} (h : DuAt w w' ds ms bd bm) {a : Addr} (h0 : w.heap.size ≤ a.block) (h1 : a.block < bd) (h2 : a.block < bm) (v : Value) : DuAt w (w'.setCell a v) ds ms bd bm := by
  obtain ⟨lo, bs, a1, a2, a3, a4⟩ := h.tabs
  exact ⟨h.below.setCell h0 _, h.lo, h.dims.setOther (by omega) _, lo, bs, a1, a2, a3.setOther (by omega) _, a4.set (by omega) _⟩

end Go.Proofs.Ytchijefibiaphaa


namespace Go.Proofs.Ytchijefibiaphaa
open Go.RowKit

section
variable {w w' : World} {base size n k : Nat} {e t : TypeId} {u v : Value} {xs : List Value} {g : Nat} {f : Nat → Value}
theorem own_ne_row (ho : w.ownsRow base e size v n xs) (hr : w.rowIs g t k f) (h : t ≠ e) : some g ≠ v.ownBlock := by
  intro e2
  obtain ⟨c, hc, _⟩ := hr
  rcases ho.2 with ⟨rfl, _⟩ | ⟨g2, cap2, cur2, rfl, _, hh2, _⟩
  · simp [Value.ownBlock] at e2
  · simp [Value.ownBlock] at e2
    subst e2
    rw [hc] at hh2
    simp at hh2
    exact h hh2.2
theorem row_grown (hr : w.rowIs g t k f) (ho : w.ownsRow base e size v n xs) (h : t ≠ e) (hg : w.grownBy w' v.ownBlock) : w'.rowIs g t k f := hr.of_block (hg.block g hr.lt (own_ne_row ho hr h))
theorem owns_off (ho : w.ownsRow base e size u n xs) (hr : w.rowIs g t k f) (h : t ≠ e) (i : Nat) (x : Value) : (w.setCell ⟨g, i, none⟩ x).ownsRow base e size u n xs := by
  obtain ⟨c, hc, _⟩ := hr
  refine ⟨ho.1, ?_⟩
  rcases ho.2 with h2 | ⟨g2, cap, cur, hu, hb, hh, r⟩
  · exact Or.inl h2
  · refine Or.inr ⟨g2, cap, cur, hu, hb, ?_, r⟩
    rw [Below.heap_setCell w _ x g2 (by
      intro e2
      have e3 : g2 = g := e2
      subst e3
      rw [hc] at hh
      simp at hh
      exact h hh.2)]
    exact hh
end
theorem G1.off {w : World} {g k : Nat} {t : TypeId} {f : Nat → Value} {u : Value} {xs : List Int} (h : G1 w u xs) (hr : w.rowIs g t k f) (ht : t ≠ 2) (i : Nat) (x : Value) : G1 (w.setCell ⟨g, i, none⟩ x) u xs := owns_off h hr ht i x
theorem Gb.off {base : Nat} {w : World} {g k : Nat} {t : TypeId} {f : Nat → Value} {u : Value} {xs : List Int} (h : Gb base w u xs) (hr : w.rowIs g t k f) (ht : t ≠ 2) (i : Nat) (x : Value) : Gb base (w.setCell ⟨g, i, none⟩ x) u xs := owns_off h hr ht i x
theorem Gs.off {base : Nat} {w : World} {g k : Nat} {t : TypeId} {f : Nat → Value} {u : Value} {xs : List (List Int)} (h : Gs base w u xs) (hr : w.rowIs g t k f) (ht : t ≠ 2 ∧ t ≠ 22) (i : Nat) (x : Value) : Gs base (w.setCell ⟨g, i, none⟩ x) u xs := by
  obtain ⟨vs, ho, h1⟩ := h
  exact ⟨vs, owns_off ho hr ht.2 i x, fun k a b => (h1 k a b).off hr ht.1 i x⟩
theorem Gt.off {base : Nat} {w : World} {g k : Nat} {t : TypeId} {f : Nat → Value} {u : Value} {xs : List (List (List Int))} (h : Gt base w u xs) (hr : w.rowIs g t k f) (ht : t ≠ 2 ∧ t ≠ 22 ∧ t ≠ 61) (i : Nat) (x : Value) : Gt base (w.setCell ⟨g, i, none⟩ x) u xs := by
  obtain ⟨vs, ho, h1⟩ := h
  exact ⟨vs, owns_off ho hr ht.2.2 i x, fun k a b => (h1 k a b).off hr ⟨ht.1, ht.2.1⟩ i x⟩
theorem coT : 30 ≠ 2 ∧ 30 ≠ 22 ∧ 30 ≠ 61 := by decide

section
variable {o : Oper} {a : Act} {w : World} {K : Act → World → Prop} {Q : Exit → Act → World → Prop}
end
section
variable {P : Program} {ops : Array Oper} {Q : Exit → Act → World → Prop} {md : Region.Mode} {S : World → Prop}
/-- An operation that makes memory, alone to come up. -/
theorem held_mem {i : Nat} {oi : Oper} {fuel : Nat} {listed : Array Bool} {a : Act} {w w' : World} {v : Value} (d : Option Tmp) (hr : Region.ready md ops listed = [i]) (hi : ops[i]? = some oi) (hg : oi.guard = none) (hd : oi.dst = d)
    (h : (execOp a.eval oi).run P w = .ok (.value v) w') (hS : S w') (hh : wpAnyH P md ops Q S fuel (listed.setIfInBounds i true) (a.put d v) w') : wpAnyH P md ops Q S (fuel + 1) listed a w := by
  subst hd
  refine held_call hr hi hg ?_
  unfold Oper.wp
  rw [h]
  exact ⟨hS, hh⟩
end

/-- A complex that the model gathers: its box at block g, its two lists. -/
structure Sd (w1 wr : World) (g : Nat) (p : Int) (v vm : Value) (xs : List Int) (ts : List (List (List Int))) : Prop where
  below : Below w1.heap.size w1 wr
  lo : w1.heap.size ≤ g
  box : wr.rowIs g 30 3 (sel3 (.int .i64 p) v vm)
  dims : Gb w1.heap.size wr v xs
  maps : Gt w1.heap.size wr vm ts
theorem Sd.next {w1 wr wa : World} {g : Nat} {p : Int} {v vm : Value} {xs : List Int} {ts : List (List (List Int))} (h : Sd w1 wr g p v vm xs ts) (hb : Below wr.heap.size wr wa) : Sd w1 wa g p v vm xs ts :=
  ⟨h.below.trans (hb.mono h.below.size), h.lo, h.box.of_block (hb.block _ h.box.lt), h.dims.below hb, h.maps.below hb⟩
theorem Sd.stepM {w1 wa w' : World} {g : Nat} {p : Int} {v vm v' : Value} {xs : List Int} {ts ts' : List (List (List Int))} (h : Sd w1 wa g p v vm xs ts) (hg : wa.grownBy w' vm.ownBlock) (hn : Gt w1.heap.size w' v' ts') : Sd w1 (w'.setCell ⟨g, 2, none⟩ v') g p v v' xs ts' := by
  obtain ⟨vs, ho, _⟩ := h.maps
  have hr := row_grown h.box ho coT.2.2 hg
  have hb := h.below.grown hg h.below.size (fun g hg => (h.maps.lt g hg).1)
  have hd : Gb w1.heap.size w' v xs := owns_grown h.dims ho (by decide) hg
  refine ⟨hb.setCell h.lo _, h.lo, (hr.set 2 v').congr (fun j hj => ?_), hd.off hr coT.1 _ _, hn.off hr coT _ _⟩
  match j, hj with
  | 0, _ => rfl
  | 1, _ => rfl
  | 2, _ => rfl
end Go.Proofs.Ytchijefibiaphaa


namespace Go.Proofs.Ytchijefibiaphaa
open Go.RowKit
/-- Numbers, dimensions and tables. -/
abbrev WhO := List Int × List (List (List Int))
structure PtWh (lo hi : Nat) (W : World) (dv mv : Value) (Id Im : List Iv) : Prop where
  sd : S1 lo hi W dv Id
  nd : Nums lo hi W Id
  dd : Disj Id
  zd : ivSize Id ≤ 1048576
  sm : S3 lo hi W mv Im
  nm : Nums lo hi W Im
  dm : Disj Im
  zm : ivSize Im ≤ 1152921504606846976
  adm : ∀ x ∈ Id, ∀ y ∈ Im, Apart x y
theorem PtWh.same {lo hi : Nat} {W W' : World} {dv mv : Value} {Id Im : List Iv} (h : PtWh lo hi W dv mv Id Im) (s : Same lo hi W W') : PtWh lo hi W' dv mv Id Im :=
  ⟨h.sd, h.nd.same s, h.dd, h.zd, h.sm.same s, h.nm.same s, h.dm, h.zm, h.adm⟩
theorem PtWh.wider {lo hi lo' hi' : Nat} {W : World} {dv mv : Value} {Id Im : List Iv} (h : PtWh lo hi W dv mv Id Im) (h1 : lo' ≤ lo) (h2 : hi ≤ hi') : PtWh lo' hi' W dv mv Id Im :=
  ⟨h.sd.wider h1 h2, h.nd.wider h1 h2, h.dd, h.zd, h.sm.wider h1 h2, h.nm.wider h1 h2, h.dm, h.zm, h.adm⟩
def RcWh (lo hi : Nat) (W : World) (dv mv : Value) (dl : List Int) (ml : List (List (List Int))) : Prop := WhW lo hi W dv mv dl ml ∧ ∃ Id Im, PtWh lo hi W dv mv Id Im
theorem RcWh.same {lo hi : Nat} {W W' : World} {dv mv : Value} {dl : List Int} {ml : List (List (List Int))} (h : RcWh lo hi W dv mv dl ml) (s : Same lo hi W W') : RcWh lo hi W' dv mv dl ml := by
  obtain ⟨h0, Id, Im, h1⟩ := h
  exact ⟨h0.same s, Id, Im, h1.same s⟩
theorem RcWh.wider {lo hi lo' hi' : Nat} {W : World} {dv mv : Value} {dl : List Int} {ml : List (List (List Int))} (h : RcWh lo hi W dv mv dl ml) (h1 : lo' ≤ lo) (h2 : hi ≤ hi') : RcWh lo' hi' W dv mv dl ml := by
  obtain ⟨h0, Id, Im, h3⟩ := h
  exact ⟨⟨h0.fd.wider h1 h2, h0.fm.wider h1 h2⟩, Id, Im, h3.wider h1 h2⟩
theorem RcWh.cx {lo hi : Nat} {W : World} {dv mv : Value} {dl : List Int} {ml : List (List (List Int))} (h : RcWh lo hi W dv mv dl ml) : Wh 0 W dv mv dl ml := h.1.cx.lower (Nat.zero_le _)
/-- Parts one behind the other. -/
theorem RcWh.of {lo hi b0 b1 b2 : Nat} {W : World} {dv mv : Value} {dl : List Int} {ml : List (List (List Int))} (hqd : Rw1 b0 b1 W dv dl) (hqm : Rw3 b1 b2 W mv ml) (hl : lo ≤ b0) (l0 : b0 ≤ b1) (l1 : b1 ≤ b2) (hh : b2 ≤ hi) : RcWh lo hi W dv mv dl ml := by
  obtain ⟨wd, Id, sd, nd, dd, zd⟩ := hqd
  obtain ⟨wm, Im, sm, nm, dm, zm⟩ := hqm
  refine ⟨⟨wd.wider (by omega) (by omega), wm.wider (by omega) (by omega)⟩, Id, Im, ⟨sd.wider (by omega) (by omega), nd.wider (by omega) (by omega), dd, zd, sm.wider (by omega) (by omega), nm.wider (by omega) (by omega), dm, zm, ?_⟩⟩
  · intro x hx y hy
    exact Or.inl (by have := (nd x hx).2.1; have := (nm y hy).1; omega)
def RwWh (lo hi : Nat) (W : World) (u : Value) (o : WhO) : Prop := ∃ ad cd am cm, u = .agg #[.slice ad o.1.length cd, .slice am o.2.length cm] ∧ RcWh lo hi W (.slice ad o.1.length cd) (.slice am o.2.length cm) o.1 o.2
def GwWh (base : Nat) (W : World) (u : Value) (o : WhO) : Prop := ∃ ad cd am cm, u = .agg #[.slice ad o.1.length cd, .slice am o.2.length cm] ∧ Gb base W (.slice ad o.1.length cd) o.1 ∧ Gt base W (.slice am o.2.length cm) o.2
theorem RwWh.nil (lo hi : Nat) (W : World) : RwWh lo hi W (.agg #[.slice none 0 0, .slice none 0 0]) ([], []) :=
  ⟨none, 0, none, 0, rfl, ⟨Or.inl ⟨rfl, _, _, rfl⟩, Or.inl ⟨rfl, _, _, rfl⟩⟩, [], [], ⟨Or.inl ⟨rfl, _, _, rfl⟩, fun _ h => absurd h (by simp), List.Pairwise.nil, by simp [ivSize], ⟨none, 0, 0, fun _ => .slice none 0 0, fun _ => [], rfl, by omega, rfl, fun _ h => absurd h (Nat.not_lt_zero _), fun h => absurd h (Nat.lt_irrefl _)⟩, fun _ h => absurd h (by simp), List.Pairwise.nil, by simp [ivSize], fun _ h => absurd h (by simp)⟩⟩
theorem Gb.nilv (base : Nat) (w : World) : Gb base w (.slice none 0 0) [] := ⟨rfl, Or.inl ⟨rfl, rfl⟩⟩
theorem Gs.nilv (base : Nat) (w : World) : Gs base w (.slice none 0 0) [] := ⟨[], ⟨rfl, Or.inl ⟨rfl, rfl⟩⟩, fun _ h => absurd h (Nat.not_lt_zero _)⟩
theorem Gt.nilv (base : Nat) (w : World) : Gt base w (.slice none 0 0) [] := ⟨[], ⟨rfl, Or.inl ⟨rfl, rfl⟩⟩, fun _ h => absurd h (Nat.not_lt_zero _)⟩
theorem GwWh.nil (base : Nat) (W : World) : GwWh base W (.agg #[.slice none 0 0, .slice none 0 0]) ([], []) := ⟨none, 0, none, 0, rfl, Gb.nilv _ _, Gt.nilv _ _⟩
structure HcWh' (lo hi : Nat) (W : World) (dv mv : Value) (m : Int) (Id Im : List Iv) : Prop where
  sd : S1 lo hi W dv Id
  mmd : Marked W Id (1)
  rd : ∀ x ∈ Id, lo ≤ x.1 ∧ x.1 < hi
  zd : ivSize Id ≤ 1048576
  sm : S3 lo hi W mv Im
  mmm : Marked W Im (1 + (ivSize Id : Int))
  rm : ∀ x ∈ Im, lo ≤ x.1 ∧ x.1 < hi
  zm : ivSize Im ≤ 1152921504606846976
  me : m = 1 + (ivSize Id : Int) + (ivSize Im : Int)
def HcWh (lo hi : Nat) (W : World) (dv mv : Value) (m : Int) : Prop := ∃ Id Im, HcWh' lo hi W dv mv m Id Im
theorem HcWh.same {lo hi : Nat} {W W' : World} {dv mv : Value} {m : Int} (h : HcWh lo hi W dv mv m) (s : Same lo hi W W') : HcWh lo hi W' dv mv m := by
  obtain ⟨Id, Im, h⟩ := h
  exact ⟨Id, Im, h.sd, h.mmd.same h.rd s, h.rd, h.zd, h.sm.same s, h.mmm.same h.rm s, h.rm, h.zm, h.me⟩
/-- The cells of a box alone. -/
structure BcWh (wr : World) (b : Nat)  (dv mv : Value) : Prop where
  c0 : wr.cell? ⟨b, 0, none⟩ = some (dv)
  c1 : wr.cell? ⟨b, 1, none⟩ = some (mv)
  lt : b < wr.heap.size
theorem BcWh.start (w : World)  (dv mv : Value) (t : TypeId) : BcWh (w.alloc (.cells #[dv, mv] t)) w.heap.size  dv mv := ⟨by simp, by simp, by simp⟩
theorem BcWh.next {wr w' : World} {b : Nat}  {dv mv : Value} (h : BcWh wr b  dv mv) (hb : Below wr.heap.size wr w') : BcWh w' b  dv mv :=
  ⟨later hb (Nat.le_refl _) h.c0, later hb (Nat.le_refl _) h.c1, Nat.lt_of_lt_of_le h.lt hb.size⟩
theorem BcWh.only {wr w' : World} {b lo hi : Nat}  {dv mv : Value} (h : BcWh wr b  dv mv) (ho : Only lo hi wr w') (hb : b < lo ∨ hi ≤ b) : BcWh w' b  dv mv :=
  ⟨(ho.cell hb).trans h.c0, (ho.cell hb).trans h.c1, by have := ho.size; have := h.lt; omega⟩
theorem BcWh.bq {wr : World} {b : Nat}  {dv mv : Value} {dl : List Int} {ml : List (List (List Int))} (h : BcWh wr b  dv mv) (hc : Wh 0 wr dv mv dl ml) : BqWh wr b  dv mv dl ml := ⟨h.c0, h.c1, h.lt, hc⟩
theorem BcWh.row (W : World) (b : Nat)  (dv mv : Value) {c0 : Array Value} {t : TypeId} (h : W.heap[b]? = some (.cells c0 t (0, 0))) : BcWh (W.setRow b #[dv, mv]) b  dv mv := by
  have h0 := setRow_heap W b c0 #[dv, mv] t _ h
  have hlt : b < W.heap.size := (Array.getElem?_eq_some_iff.1 h).1
  exact ⟨by simp [World.cell?, h0], by simp [World.cell?, h0], by simpa using hlt⟩
end Go.Proofs.Ytchijefibiaphaa


namespace Go.Proofs.Ytchijefibiaphaa
open Go.RowKit

/-- A value's own block is not this one. -/
def OffB (b : Option Nat) (u : Value) : Prop := ∀ g, u.ownBlock = some g → b ≠ some g
theorem owns_lt {w : World} {base : Nat} {e : TypeId} {size n : Nat} {u : Value} {xs : List Value} (h : w.ownsRow base e size u n xs) {g : Nat} (hg : u.ownBlock = some g) : g < w.heap.size := by
  rcases h.2 with ⟨rfl, _⟩ | ⟨g2, cap, cur, rfl, _, hh, _⟩
  · simp [Value.ownBlock] at hg
  · simp [Value.ownBlock] at hg
    subst hg
    exact (Array.getElem?_eq_some_iff.1 hh).1
/-- A table whose rows lie off a block. -/
def Gr (b : Option Nat) (w : World) (u : Value) (t : List (List Int)) : Prop := ∃ vs, w.ownsRow 0 22 1 u t.length vs ∧ ∀ k (h1 : k < vs.length) (h2 : k < t.length), G1 w vs[k] t[k] ∧ OffB b vs[k]
def Gto (b : Option Nat) (base : Nat) (w : World) (u : Value) (ts : List (List (List Int))) : Prop := ∃ vs, w.ownsRow base 61 1 u ts.length vs ∧ ∀ k (h1 : k < vs.length) (h2 : k < ts.length), Gr b w vs[k] ts[k]
theorem Gr.gs {b : Option Nat} {w : World} {u : Value} {t : List (List Int)} (h : Gr b w u t) : Gs 0 w u t := by
  obtain ⟨vs, ho, hr⟩ := h
  exact ⟨vs, ho, fun k h1 h2 => (hr k h1 h2).1⟩
theorem Gto.gt {b : Option Nat} {base : Nat} {w : World} {u : Value} {ts : List (List (List Int))} (h : Gto b base w u ts) : Gt base w u ts := by
  obtain ⟨vs, ho, hr⟩ := h
  exact ⟨vs, ho, fun k h1 h2 => (hr k h1 h2).gs⟩
theorem Gr.below {b : Option Nat} {w w' : World} {u : Value} {t : List (List Int)} (h : Gr b w u t) (hb : Below w.heap.size w w') : Gr b w' u t := by
  obtain ⟨vs, ho, hr⟩ := h
  exact ⟨vs, owns_below ho hb, fun k h1 h2 => ⟨(hr k h1 h2).1.below hb, (hr k h1 h2).2⟩⟩
theorem Gto.below {b : Option Nat} {base : Nat} {w w' : World} {u : Value} {ts : List (List (List Int))} (h : Gto b base w u ts) (hb : Below w.heap.size w w') : Gto b base w' u ts := by
  obtain ⟨vs, ho, hr⟩ := h
  exact ⟨vs, owns_below ho hb, fun k h1 h2 => (hr k h1 h2).below hb⟩
theorem Gto.nil {b : Option Nat} {base : Nat} {w : World} {u : Value} (h : Gt base w u []) : Gto b base w u [] := by
  obtain ⟨vs, ho, _⟩ := h
  exact ⟨vs, ho, fun k _ h2 => absurd h2 (Nat.not_lt_zero _)⟩
/-- A table of a call made behind a block lies off it. -/
theorem Gr.of {b : Nat} {w : World} {u : Value} {t : List (List Int)} {vs : List Value} (ho : w.ownsRow 0 22 1 u t.length vs) (hr : ∀ k (h1 : k < vs.length) (h2 : k < t.length), Gb (b + 1) w vs[k] t[k]) : Gr (some b) w u t :=
  ⟨vs, ho, fun k h1 h2 => ⟨(hr k h1 h2).g1, fun g hg e => by
    have := ((hr k h1 h2).lt g hg).1
    injection e with e
    omega⟩⟩
theorem Gr.move {b b' : Option Nat} {w : World} {u : Value} {t : List (List Int)} (h : Gr b w u t) (hx : ∀ g, b' = some g → b = some g ∨ w.heap.size ≤ g) : Gr b' w u t := by
  obtain ⟨vs, ho, hr⟩ := h
  refine ⟨vs, ho, fun k h1 h2 => ⟨(hr k h1 h2).1, fun g hg e => ?_⟩⟩
  rcases hx g e with h3 | h3
  · exact (hr k h1 h2).2 g hg h3
  · have := owns_lt (hr k h1 h2).1 hg
    omega
theorem Gto.move {b b' : Option Nat} {base : Nat} {w : World} {u : Value} {ts : List (List (List Int))} (h : Gto b base w u ts) (hx : ∀ g, b' = some g → b = some g ∨ w.heap.size ≤ g) : Gto b' base w u ts := by
  obtain ⟨vs, ho, hr⟩ := h
  exact ⟨vs, ho, fun k h1 h2 => (hr k h1 h2).move hx⟩
theorem Gr.grown {b : Option Nat} {w w3 : World} {base n : Nat} {u v : Value} {t : List (List Int)} {vs : List Value} (h : Gr b w u t) (ho : w.ownsRow base 61 1 v n vs) (hg : w.grownBy w3 v.ownBlock) : Gr b w3 u t := by
  obtain ⟨us, hu, hr⟩ := h
  exact ⟨us, owns_grown hu ho (by decide) hg, fun k h1 h2 => ⟨owns_grown (hr k h1 h2).1 ho (by decide) hg, (hr k h1 h2).2⟩⟩
theorem Gto.push {b : Option Nat} {base : Nat} {w w3 : World} {v v' row : Value} {ts : List (List (List Int))} {vs : List Value} {x : List (List Int)} (ho : w.ownsRow base 61 1 v ts.length vs) (hr : ∀ k (h1 : k < vs.length) (h2 : k < ts.length), Gr b w vs[k] ts[k]) (hx : Gr b w row x)
    (ho3 : w3.ownsRow base 61 1 v' (ts.length + 1) (vs ++ [row])) (hg : w.grownBy w3 v.ownBlock) : Gto b base w3 v' (ts ++ [x]) := by
  have hvl : vs.length = ts.length := by have := ho.1; omega
  refine ⟨vs ++ [row], by simpa using ho3, fun k h1 h2 => ?_⟩
  by_cases e : k < vs.length
  · rw [List.getElem_append_left e, List.getElem_append_left (by omega)]
    exact (hr k e (by omega)).grown ho hg
  · have e2 : k = vs.length := by simp at h1; omega
    subst e2
    rw [List.getElem_append_right (Nat.le_refl _), List.getElem_append_right (by omega)]
    simp only [Nat.sub_self, hvl, List.getElem_cons_zero]
    exact hx.grown ho hg
theorem Gr.off {b : Option Nat} {w : World} {g k : Nat} {t : TypeId} {f : Nat → Value} {u : Value} {xs : List (List Int)} (h : Gr b w u xs) (hr : w.rowIs g t k f) (ht : t ≠ 2 ∧ t ≠ 22) (i : Nat) (x : Value) : Gr b (w.setCell ⟨g, i, none⟩ x) u xs := by
  obtain ⟨vs, ho, h1⟩ := h
  exact ⟨vs, owns_off ho hr ht.2 i x, fun k a c => ⟨(h1 k a c).1.off hr ht.1 i x, (h1 k a c).2⟩⟩
theorem Gto.off {b : Option Nat} {base : Nat} {w : World} {g k : Nat} {t : TypeId} {f : Nat → Value} {u : Value} {xs : List (List (List Int))} (h : Gto b base w u xs) (hr : w.rowIs g t k f) (ht : t ≠ 2 ∧ t ≠ 22 ∧ t ≠ 61) (i : Nat) (x : Value) : Gto b base (w.setCell ⟨g, i, none⟩ x) u xs := by
  obtain ⟨vs, ho, h1⟩ := h
  exact ⟨vs, owns_off ho hr ht.2.2 i x, fun k a c => (h1 k a c).off hr ⟨ht.1, ht.2.1⟩ i x⟩

/-- A complex that the model gathers, dimensions and tables in turn: its box at block g, its two lists. -/
structure Sdo (w1 wr : World) (g : Nat) (p : Int) (v vm : Value) (xs : List Int) (ts : List (List (List Int))) : Prop where
  below : Below w1.heap.size w1 wr
  lo : w1.heap.size ≤ g
  box : wr.rowIs g 30 3 (sel3 (.int .i64 p) v vm)
  dims : Gb w1.heap.size wr v xs
  maps : Gto v.ownBlock w1.heap.size wr vm ts
theorem Sdo.start {w1 wr : World} {g : Nat} {p : Int} {v vm : Value} {xs : List Int} (h : Sd w1 wr g p v vm xs []) : Sdo w1 wr g p v vm xs [] := ⟨h.below, h.lo, h.box, h.dims, Gto.nil h.maps⟩
theorem Sdo.sd {w1 wr : World} {g : Nat} {p : Int} {v vm : Value} {xs : List Int} {ts : List (List (List Int))} (h : Sdo w1 wr g p v vm xs ts) : Sd w1 wr g p v vm xs ts := ⟨h.below, h.lo, h.box, h.dims, h.maps.gt⟩
theorem Sdo.next {w1 wr wa : World} {g : Nat} {p : Int} {v vm : Value} {xs : List Int} {ts : List (List (List Int))} (h : Sdo w1 wr g p v vm xs ts) (hb : Below wr.heap.size wr wa) : Sdo w1 wa g p v vm xs ts :=
  ⟨h.below.trans (hb.mono h.below.size), h.lo, h.box.of_block (hb.block _ h.box.lt), h.dims.below hb, h.maps.below hb⟩
theorem Sdo.stepM {w1 wa w' : World} {g : Nat} {p : Int} {v vm v' : Value} {xs : List Int} {ts ts' : List (List (List Int))} (h : Sdo w1 wa g p v vm xs ts) (hg : wa.grownBy w' vm.ownBlock) (hn : Gto v.ownBlock w1.heap.size w' v' ts') : Sdo w1 (w'.setCell ⟨g, 2, none⟩ v') g p v v' xs ts' := by
  obtain ⟨vs, ho, _⟩ := h.maps
  have hr := row_grown h.box ho coT.2.2 hg
  have hb := h.below.grown hg h.below.size (fun g hg => (h.sd.maps.lt g hg).1)
  have hd : Gb w1.heap.size w' v xs := owns_grown h.dims ho (by decide) hg
  refine ⟨hb.setCell h.lo _, h.lo, (hr.set 2 v').congr (fun j hj => ?_), hd.off hr coT.1 _ _, hn.off hr coT _ _⟩
  match j, hj with
  | 0, _ => rfl
  | 1, _ => rfl
  | 2, _ => rfl

section
variable {o : Oper} {a : Act} {w : World} {K : Act → World → Prop} {Q : Exit → Act → World → Prop}
end
end Go.Proofs.Ytchijefibiaphaa


namespace Go.Proofs.Ytchijefibiaphaa
open Go.RowKit

/-- A table that the call gathers, its rows off a block. -/
def Grb (b : Option Nat) (base : Nat) (w : World) (u : Value) (t : List (List Int)) : Prop := ∃ vs, w.ownsRow base 22 1 u t.length vs ∧ ∀ k (h1 : k < vs.length) (h2 : k < t.length), G1 w vs[k] t[k] ∧ OffB b vs[k]
theorem Grb.gs {b : Option Nat} {base : Nat} {w : World} {u : Value} {t : List (List Int)} (h : Grb b base w u t) : Gs base w u t := by
  obtain ⟨vs, ho, hr⟩ := h
  exact ⟨vs, ho, fun k h1 h2 => (hr k h1 h2).1⟩
theorem Grb.below {b : Option Nat} {base : Nat} {w w' : World} {u : Value} {t : List (List Int)} (h : Grb b base w u t) (hb : Below w.heap.size w w') : Grb b base w' u t := by
  obtain ⟨vs, ho, hr⟩ := h
  exact ⟨vs, owns_below ho hb, fun k h1 h2 => ⟨(hr k h1 h2).1.below hb, (hr k h1 h2).2⟩⟩
theorem Grb.start {b : Option Nat} {base : Nat} {w : World} {u : Value} (h : Gs base w u []) : Grb b base w u [] := by
  obtain ⟨vs, ho, _⟩ := h
  exact ⟨vs, ho, fun k _ h2 => absurd h2 (Nat.not_lt_zero _)⟩
theorem Grb.gr {b : Option Nat} {base : Nat} {w : World} {u : Value} {t : List (List Int)} (h : Grb b base w u t) : Gr b w u t := by
  have h0 := h.gs.mono (Nat.zero_le _)
  obtain ⟨vs, ho, hr⟩ := h
  refine ⟨vs, ⟨ho.1, ?_⟩, hr⟩
  rcases ho.2 with h2 | ⟨g, cap, cur, hu, _, r⟩
  · exact Or.inl h2
  · exact Or.inr ⟨g, cap, cur, hu, Nat.zero_le _, r⟩
theorem Grb.push {b : Option Nat} {base : Nat} {w w3 : World} {v v' row : Value} {t : List (List Int)} {vs : List Value} {x : List Int} (ho : w.ownsRow base 22 1 v t.length vs) (hr : ∀ k (h1 : k < vs.length) (h2 : k < t.length), G1 w vs[k] t[k] ∧ OffB b vs[k]) (hx : G1 w row x) (hb : OffB b row)
    (ho3 : w3.ownsRow base 22 1 v' (t.length + 1) (vs ++ [row])) (hg : w.grownBy w3 v.ownBlock) : Grb b base w3 v' (t ++ [x]) := by
  have hvl : vs.length = t.length := by have := ho.1; omega
  have keep : ∀ u xs, G1 w u xs → G1 w3 u xs := fun u xs h => owns_grown h ho (by decide) hg
  refine ⟨vs ++ [row], by simpa using ho3, fun k h1 h2 => ?_⟩
  by_cases e : k < vs.length
  · rw [List.getElem_append_left e, List.getElem_append_left (by omega)]
    exact ⟨keep _ _ (hr k e (by omega)).1, (hr k e (by omega)).2⟩
  · have e2 : k = vs.length := by simp at h1; omega
    subst e2
    rw [List.getElem_append_right (Nat.le_refl _), List.getElem_append_right (by omega)]
    simp only [Nat.sub_self, hvl, List.getElem_cons_zero]
    exact ⟨keep _ _ hx, hb⟩
section
variable {o : Oper} {a : Act} {w : World} {K : Act → World → Prop} {Q : Exit → Act → World → Prop}
end
section
variable {ops : Array Oper} {rest : List Oper} {o : Oper} {a : Act} {w : World} {Q : Exit → Act → World → Prop}
end
end Go.Proofs.Ytchijefibiaphaa


namespace Go.Proofs.Ytchijefibiaphaa
open Go.RowKit

def RsWh (W : World) (u : Value) (o : WhO) : Prop := ∃ ad cd am cm, u = .agg #[.slice ad o.1.length cd, .slice am o.2.length cm] ∧ Wh 0 W (.slice ad o.1.length cd) (.slice am o.2.length cm) o.1 o.2
theorem RwWh.rs {lo hi : Nat} {W : World} {u : Value} {o : WhO} (h : RwWh lo hi W u o) : RsWh W u o := by
  obtain ⟨ad, cd, am, cm, hu, hr⟩ := h
  exact ⟨ad, cd, am, cm, hu, hr.cx⟩

/-- A table of one number. -/
structure LnT (w : World) (lo : Nat) (u : Value) (a b : Nat) (z : Int) : Prop where
  val : u = .slice (some ⟨a, 0, none⟩) 1 1
  lo1 : lo ≤ a
  lo2 : lo ≤ b
  top : w.rowIs a 22 1 (fun _ => .slice (some ⟨b, 0, none⟩) 1 1)
  row : w.rowIs b 2 1 (fun _ => .int .i64 z)
theorem LnT.next {w w' : World} {lo : Nat} {u : Value} {a b : Nat} {z : Int} (h : LnT w lo u a b z) (hb : Below w.heap.size w w') : LnT w' lo u a b z :=
  ⟨h.val, h.lo1, h.lo2, h.top.of_block (hb.block _ h.top.lt), h.row.of_block (hb.block _ h.row.lt)⟩
theorem owns_len {w : World} {base n : Nat} {e : TypeId} {v : Value} {xs : List Value} (h : w.ownsRow base e 1 v n xs) : xs.length = n := by rw [h.1]; omega
section
variable {ops : Array Oper} {rest : List Oper} {o : Oper} {a : Act} {w : World} {Q : Exit → Act → World → Prop}
end
end Go.Proofs.Ytchijefibiaphaa


namespace Go.Proofs.Ytchijefibiaphaa
open Go.RowKit

/-- A row put in another's place, in a table that the call gathers. -/
theorem Gs.put {base g n cap : Nat} {w : World} {t : List (List Int)} (h : Gs base w (.slice (some ⟨g, 0, none⟩) n cap) t) {k : Nat} (hk : k < t.length) {u : Value} {x : List Int} (hu : G1 w u x) :
    Gs base (w.setCell ⟨g, k, none⟩ u) (.slice (some ⟨g, 0, none⟩) n cap) (t.set k x) ∧ w.frozen? ⟨g, k, none⟩ = false ∧ (∃ v0, w.cell? ⟨g, k, none⟩ = some v0) ∧ base ≤ g := by
  obtain ⟨vs, ⟨hl, h2⟩, hr⟩ := h
  rcases h2 with ⟨h0, _⟩ | ⟨g', c', cur, hv, hlo, hh, hnc, hcm, hcs, htk⟩
  · cases h0
  · injection hv with e1 e2 e3
    injection e1 with e1
    injection e1 with e1
    subst e1 e2 e3
    have hrow : w.rowIs g 22 cur.size (fun i => cur.getD i undef) := ⟨cur, hh, rfl, fun i hi => by simp [hi]⟩
    have hvl : vs.length = t.length := by omega
    have hkc : k < cur.size := by omega
    refine ⟨⟨vs.set k u, ⟨by simpa using hl, Or.inr ⟨g, cap, cur.setIfInBounds k u, by simp, hlo, block_setCell' hh _, by simpa using hnc, hcm, by simpa using hcs, ?_⟩⟩, fun i h1 h2 => ?_⟩, by simp [World.frozen?, hh], ⟨_, hrow.cell hkc⟩, hlo⟩
    · simp only [List.length_set, Nat.mul_one] at htk ⊢
      rw [Array.toList_setIfInBounds, List.take_set, htk]
    · rw [List.getElem_set, List.getElem_set]
      by_cases e : k = i
      · rw [if_pos e, if_pos e]
        exact hu.off hrow (by decide) _ _
      · rw [if_neg e, if_neg e]
        exact (hr i (by simpa using h1) (by simpa using h2)).off hrow (by decide) _ _
end Go.Proofs.Ytchijefibiaphaa


namespace Go.Proofs.Ytchijefibiaphaa
open Go.RowKit

/-- The rests of a list modulo a reduced one. -/
structure RestsOf (p : Int) (n : Nat) (B C tt : List Lin.V) : Prop where
  rest : ∀ i (h : i < tt.length) (h2 : i < C.length), Lin.Rest p B C[i] B.length tt[i]
  wd : ∀ u ∈ tt, Lin.Wd n u
theorem RestsOf.nil (p : Int) (n : Nat) (B C : List Lin.V) : RestsOf p n B C [] := ⟨fun i h => absurd h (Nat.not_lt_zero _), by simp⟩
theorem RestsOf.push {p : Int} {n : Nat} {B C tt : List Lin.V} (h : RestsOf p n B C tt) {r : Lin.V} (hk : tt.length < C.length) (hr : Lin.Rest p B C[tt.length] B.length r) (hw : Lin.Wd n r) : RestsOf p n B C (tt ++ [r]) := by
  refine ⟨fun i h1 h2 => ?_, fun u hu => ?_⟩
  · by_cases e : i < tt.length
    · rw [List.getElem_append_left e]
      exact h.rest i e h2
    · have e2 : i = tt.length := by simp at h1; omega
      subst e2
      rw [List.getElem_append_right (Nat.le_refl _)]
      simpa using hr
  · rcases List.mem_append.1 hu with h1 | h1
    · exact h.wd u h1
    · rw [List.mem_singleton.1 h1]; exact hw
/-- A table that is being gathered: the empty literal yet, or rows of its own. -/
def GsE (base g : Nat) (w : World) (v : Value) (tb : List (List Int)) : Prop := (tb = [] ∧ v = .slice (some ⟨g, 0, none⟩) 0 0) ∨ Gs base w v tb
theorem GsE.below {base g : Nat} {w w' : World} {v : Value} {tb : List (List Int)} (h : GsE base g w v tb) (hb : Below w.heap.size w w') : GsE base g w' v tb := h.imp id (fun h => h.below hb)
theorem GsE.l2 {base g : Nat} {w : World} {v : Value} {tb : List (List Int)} (h : GsE base g w v tb) : L2 0 w v tb := by
  rcases h with ⟨rfl, rfl⟩ | h
  · exact Or.inl ⟨rfl, _, _, rfl⟩
  · exact h.l2
section
variable {md : Region.Mode} {ops : Array Oper} {Q : Exit → Act → World → Prop} {S : World → Prop}
end

end Go.Proofs.Ytchijefibiaphaa


namespace Go.Proofs.Ytchijefibiaphaa
open Go.RowKit

theorem Gb.put {base g n cap : Nat} {w : World} {xs : List Int} (h : Gb base w (.slice (some ⟨g, 0, none⟩) n cap) xs) {k : Nat} (_hk : k < xs.length) (x : Int) :
    Gb base (w.setCell ⟨g, k, none⟩ (.int .i64 x)) (.slice (some ⟨g, 0, none⟩) n cap) (xs.set k x) ∧ w.frozen? ⟨g, k, none⟩ = false ∧ base ≤ g := by
  obtain ⟨hl, h2⟩ := h
  rcases h2 with ⟨h0, _⟩ | ⟨g', c', cur, hv, hlo, hh, hnc, hcm, hcs, htk⟩
  · cases h0
  · injection hv with e1 e2 e3
    injection e1 with e1
    injection e1 with e1
    subst e1 e2 e3
    refine ⟨⟨by simp, Or.inr ⟨g, cap, cur.setIfInBounds k (.int .i64 x), by simp, hlo, block_setCell' hh _, by simpa using hnc, hcm, by simpa using hcs, ?_⟩⟩, by simp [World.frozen?, hh], hlo⟩
    simp only [List.length_set, Nat.mul_one] at htk ⊢
    rw [Array.toList_setIfInBounds, List.take_set, htk, List.map_set]
theorem Gb.cell {base g n cap : Nat} {w : World} {v : Lin.V} (h : Gb base w (.slice (some ⟨g, 0, none⟩) n cap) (toL n v)) {k : Nat} (hk : k < n) : w.cell? ⟨g, k, none⟩ = some (.int .i64 (v k)) := by
  obtain ⟨b, o, c, hv, hc⟩ := l1_toL h.l1 (show 0 < n by omega)
  injection hv with e1 _ _
  injection e1 with e1
  injection e1 with e1 e2
  subst e1 e2
  have := hc k hk
  rwa [Nat.zero_add] at this
theorem Gb.block {base n cap : Nat} {w : World} {xs : List Int} {ad : Option Addr} (h : Gb base w (.slice ad n cap) xs) (hx : 0 < xs.length) : ∃ g, ad = some ⟨g, 0, none⟩ ∧ base ≤ g := by
  obtain ⟨hl, h2⟩ := h
  rcases h2 with ⟨_, h0⟩ | ⟨g', c', cur, hv, hlo, _⟩
  · omega
  · injection hv with e1 _ _
    exact ⟨g', e1, hlo⟩

theorem add_zero {p : Int} {r t : Lin.V} (h : Lin.Md p r) : Lin.add p r (-0) t = r := funext fun i => by
  unfold Lin.add
  rw [Int.neg_zero, Int.zero_mul, Int.add_zero]
  exact Lin.md_mod (h i).1 (h i).2
section
variable {P : Program} {md : Region.Mode} {ops : Array Oper} {n : Nat} {Q : Exit → Act → World → Prop}
theorem lastQ_storeI {on : Oper} {a : Act} {w : World} (hn : ops[n]? = some on) (hg : on.guard = none) (hd : on.dst = none) (x y : Operand) (ho : on.op = .store 2 x y)
    (b o : Nat) (z : Int) (u : Value) (hx : a.eval x = .pointer (some ⟨b, o, none⟩)) (hy : a.eval y = .int .i64 z) (hc : w.cell? ⟨b, o, none⟩ = some u) (hf : w.frozen? ⟨b, o, none⟩ = false)
    (h : Q .normal a (w.setCell ⟨b, o, none⟩ (.int .i64 z))) : lastQ Try.prog ops n Q .normal a w :=
  lastQ_of hn hg (by
    have e : a.put on.dst undef = a := by rw [hd]; rfl
    rw [← e] at h
    unfold Oper.wp execOp
    simp only [ho, hx, hy, Sem.run_bind, Sem.run_pure, hstoreI w z hc hf, Result.andThen_ok]
    exact h)
end

end Go.Proofs.Ytchijefibiaphaa


namespace Go.Proofs.Ytchijefibiaphaa
open Go.RowKit

/-- A table in blocks of the call's own, its rows' slices vs apart from each other. -/
structure Gqv (lo : Nat) (w : World) (u : Value) (vs : List Value) (t : List (List Int)) : Prop where
  own : w.ownsRow lo 22 1 u t.length vs
  rows : ∀ k (h1 : k < vs.length) (h2 : k < t.length), Gb lo w vs[k] t[k]
  ap : ∀ i j (hi : i < vs.length) (hj : j < vs.length), i ≠ j → ∀ g, vs[i].ownBlock = some g → vs[j].ownBlock ≠ some g
def Gq (lo : Nat) (w : World) (u : Value) (t : List (List Int)) : Prop := ∃ vs, Gqv lo w u vs t
theorem Gqv.len {lo : Nat} {w : World} {u : Value} {vs : List Value} {t : List (List Int)} (h : Gqv lo w u vs t) : vs.length = t.length := owns_len h.own
theorem Gqv.below {lo : Nat} {w w' : World} {u : Value} {vs : List Value} {t : List (List Int)} (h : Gqv lo w u vs t) (hb : Below w.heap.size w w') : Gqv lo w' u vs t := ⟨owns_below h.own hb, fun k h1 h2 => (h.rows k h1 h2).below hb, h.ap⟩
theorem Gqv.gs {lo : Nat} {w : World} {u : Value} {vs : List Value} {t : List (List Int)} (h : Gqv lo w u vs t) : Gs lo w u t := ⟨vs, h.own, fun k h1 h2 => (h.rows k h1 h2).g1⟩
theorem Gq.gs {lo : Nat} {w : World} {u : Value} {t : List (List Int)} (h : Gq lo w u t) : Gs lo w u t := by obtain ⟨vs, h⟩ := h; exact h.gs
theorem Gq.l2 {lo : Nat} {w : World} {u : Value} {t : List (List Int)} (h : Gq lo w u t) : L2 0 w u t := h.gs.l2
theorem Gq.below {lo : Nat} {w w' : World} {u : Value} {t : List (List Int)} (h : Gq lo w u t) (hb : Below w.heap.size w w') : Gq lo w' u t := by obtain ⟨vs, h⟩ := h; exact ⟨vs, h.below hb⟩
theorem Gq.nil {lo : Nat} {w : World} {u : Value} (h : Gs lo w u []) : Gq lo w u [] := by
  obtain ⟨vs, ho, hr⟩ := h
  have hl := owns_len ho
  exact ⟨vs, ho, fun k _ h2 => absurd h2 (Nat.not_lt_zero _), fun i j hi => absurd hi (by rw [hl]; simp)⟩
theorem Gqv.push {lo : Nat} {w w' : World} {u u' row : Value} {vs : List Value} {t : List (List Int)} {y : List Int} (h : Gqv lo w u vs t) (hn : w'.ownsRow lo 22 1 u' (t.length + 1) (vs ++ [row])) (hg : w.grownBy w' u.ownBlock) (hr : Gb lo w row y)
    (hap : ∀ i (hi : i < vs.length) g, vs[i].ownBlock = some g → row.ownBlock ≠ some g) : Gqv lo w' u' (vs ++ [row]) (t ++ [y]) := by
  have hl := h.len
  have hrow : ∀ {v : Value} {x : List Int}, Gb lo w v x → Gb lo w' v x := fun hx => owns_grown hx h.own (by decide) hg
  refine ⟨by simpa using hn, fun k h1 h2 => ?_, fun i j hi hj hij g e => ?_⟩
  · by_cases e : k < t.length
    · rw [List.getElem_append_left (by omega), List.getElem_append_left e]
      exact hrow (h.rows k (by omega) e)
    · have e2 : k = t.length := by simp at h2; omega
      subst e2
      rw [List.getElem_append_right (by omega), List.getElem_append_right (by omega)]
      simp only [hl, Nat.sub_self, List.getElem_singleton]
      exact hrow hr
  · by_cases e1 : i < vs.length
    · rw [List.getElem_append_left e1] at e
      by_cases e2 : j < vs.length
      · rw [List.getElem_append_left e2]
        exact h.ap i j e1 e2 hij g e
      · have e3 : j = vs.length := by simp at hj; omega
        subst e3
        rw [List.getElem_append_right (Nat.le_refl _)]
        simp only [Nat.sub_self, List.getElem_singleton]
        exact hap i e1 g e
    · have e3 : i = vs.length := by simp at hi; omega
      subst e3
      rw [List.getElem_append_right (Nat.le_refl _)] at e
      simp only [Nat.sub_self, List.getElem_singleton] at e
      have e2 : j < vs.length := by simp at hj; omega
      rw [List.getElem_append_left e2]
      exact fun h2 => hap j e2 g h2 e
/-- A number put into a row. -/
theorem Gqv.put {lo : Nat} {w : World} {u : Value} {vs : List Value} {t : List (List Int)} (h : Gqv lo w u vs t) {i : Nat} (hi : i < t.length) {g n c : Nat} (hv : vs[i]'(by rw [h.len]; exact hi) = .slice (some ⟨g, 0, none⟩) n c) {q : Nat} (hq : q < (t[i]).length) (x : Int) :
    Gqv lo (w.setCell ⟨g, q, none⟩ (.int .i64 x)) u vs (t.set i ((t[i]).set q x)) ∧ w.frozen? ⟨g, q, none⟩ = false ∧ lo ≤ g := by
  have hl := h.len
  have hrow := h.rows i (by omega) hi
  rw [hv] at hrow
  obtain ⟨hp, hf, hlo⟩ := hrow.put hq x
  have hob : (Value.slice (some ⟨g, 0, none⟩) n c).ownBlock = some g := rfl
  have hrr : ∃ k f, w.rowIs g 2 k f := by
    rcases hrow.2 with ⟨h0, _⟩ | ⟨g', c', cur, hv2, _, hh, _⟩
    · cases h0
    · injection hv2 with e1
      injection e1 with e1
      injection e1 with e1
      subst e1
      exact ⟨cur.size, fun i => cur.getD i undef, cur, hh, rfl, fun i hi => by simp [hi]⟩
  obtain ⟨k0, f0, hrr⟩ := hrr
  refine ⟨⟨by rw [List.length_set]; exact owns_off h.own hrr (by decide) _ _, fun k h1 h2 => ?_, h.ap⟩, hf, hlo⟩
  rw [List.getElem_set]
  by_cases e : i = k
  · subst e
    rw [if_pos rfl]
    rw [hv]
    exact hp
  · rw [if_neg e]
    have hk : k < t.length := by simpa using h2
    exact ownsRow_setCell_other (h.rows k h1 hk) (fun e2 => h.ap k i h1 (by omega) (Ne.symm e) g e2 (by rw [hv]; rfl)) _
def GqR (t : List (List Int)) (w : World) (e : Ending) (w' : World) : Prop := ∃ u, e = .returned u ∧ Gq w.heap.size w' u t ∧ Below w.heap.size w w'
section
variable {ops : Array Oper} {rest : List Oper} {o : Oper} {a : Act} {w : World} {Q : Exit → Act → World → Prop}
/-- append of one row, its own row of rows. -/
theorem wpList_appendLr (hgd : o.guard = none) (dst : Option Tmp) (hdst : o.dst = dst) (s x : Operand) (ho : o.op = .call { callee := .builtin .append, args := #[s, x], argTypes := #[61, 61] }) (base : Nat) (v : Value) (n : Nat) (vs : List Value) (hs : a.eval s = v) (hown : w.ownsRow base 22 1 v n vs)
    (b : Nat) (hx : a.eval x = .slice (some ⟨b, 0, none⟩) 1 1) (ar : Option Addr) (nr cr : Nat) (hc : w.cell? ⟨b, 0, none⟩ = some (.slice ar nr cr)) (hl : n ≤ 2097151) (hb : base ≤ w.heap.size)
    (h : ∀ g cap w', w'.ownsRow base 22 1 (.slice (some ⟨g, 0, none⟩) (n + 1) cap) (n + 1) (vs ++ [.slice ar nr cr]) → w.grownBy w' v.ownBlock → wpList Try.prog ops Q rest (a.put dst (.slice (some ⟨g, 0, none⟩) (n + 1) cap)) w') : wpList Try.prog ops Q (o :: rest) a w := by
  obtain ⟨i, hi, hz, hs1, hb1⟩ := info_parts Try.infoS
  subst hdst
  refine wpList_append_lies w hgd s x 61 ho base 22 i _ 1 24 Try.underlying61 hi hz hs1 hb1 rfl (by decide) v n vs hs hown ⟨b, 0, none⟩ 1 1 [.slice ar nr cr] hx rfl ?_ ?_ (by omega) (by unfold maxLen; omega) (by omega) hb _ rfl (fun g cap w' h1 h2 _ _ => h g cap w' h1 h2)
  · intro j u hj
    match j, hj with
    | 0, hj =>
      simp at hj
      subst hj
      exact hc
  · intro u hu
    simp at hu
    subst hu
    rfl
end

set_option maxHeartbeats 1600000 in
set_option maxRecDepth 100000 in
theorem l01Rows_q (vt : Value) (t : List (List Int)) (w : World) (ht : L2 0 w vt t) (hr : t.length ≤ 1048576) (hl : ∀ x ∈ t, x.length ≤ 1048576) :
    Calls Try.prog 132 #[vt] w (GqR t w) := by
  obtain ⟨at', ct, rfl⟩ := Sl.shape ht
  have HT := Lib.hid ht
  have HL := Lib.hid hl
  have HT0 : Hid (Gq w.heap.size (w.alloc (.cells #[] 22)) (.slice (some ⟨w.heap.size, 0, none⟩) 0 0) []) := Lib.hid (Gq.nil (Gs.new (base := w.heap.size) w (Nat.le_refl _)))
  clear ht hl
  go_enter Try.func132, Try.ntmps132
  go_wp2
  go_loopw [3, 4] (fun ov i wr => ∃ (k : Nat), k ≤ t.length ∧ i = .int .i64 k ∧ Hid (Below w.heap.size w wr) ∧ Hid (Gq w.heap.size wr ov (t.take k))) (fun _ i _ => t.length - (intOf i).toNat)
  case atStart => exact ⟨0, Nat.zero_le _, rfl, Lib.hid (below_alloc1 _ _), Lib.hid (by rw [List.take_zero]; exact HT0.out)⟩
  case round =>
    clear HT0
    obtain ⟨k, hk, rfl, HB, HG⟩ := hrel
    obtain ⟨wx, hwx⟩ : ∃ wx : World, wx = wr := ⟨_, rfl⟩
    subst hwx
    have hgl : (t.take k).length = k := by rw [List.length_take]; omega
    obtain ⟨ao, co, hov⟩ := Sl.shape HG.out.l2
    rw [hgl] at hov
    subst hov
    have HGN := Lib.hid hgl
    clear hgl
    have hsx : w.heap.size ≤ wx.heap.size := HB.out.size
    by_cases hlt : k < t.length
    · have hkl : (k : Int) < (t.length : Int) := by omega
      refine Sl.cases HT.out (fun _ _ hx _ => absurd hlt (by simp [hx])) (fun bt ot ct2 hvt _ _ hcl => ?_)
      injection hvt with e1 e2 e3
      clear e2
      subst e1 e3
      obtain ⟨ur, hur0, hrr⟩ := hcl k hlt
      have hur : wx.cell? ⟨bt, ot + k, none⟩ = some ur := later HB.out (Nat.le_refl _) hur0
      obtain ⟨y, hy⟩ : ∃ y, y = t[k] := ⟨_, rfl⟩
      rw [← hy] at hrr
      have hyl := HL.out y (by rw [hy]; exact List.getElem_mem hlt)
      have HTK : Hid (t.take (k + 1) = t.take k ++ [y]) := Lib.hid (by rw [List.take_succ_eq_append_getElem hlt, hy])
      obtain ⟨n, hn⟩ : ∃ n, n = y.length := ⟨_, rfl⟩
      obtain ⟨ar, cr, hus⟩ := Sl.shape hrr
      have HOW := Lib.hid (l01Own_any ur y wx (hrr.below HB.out) hyl)
      subst hus
      rw [← hn] at hur HOW
      have HN := Lib.hid hn
      clear hcl hrr hur0 hyl hn hy
      go_wp2_with fail
      refine HOW.out.mono ?_
      rintro e w2 ⟨u2, rfl, hg2, hb2⟩
      obtain ⟨a2, n2, hv2⟩ := Sl.shape hg2.l1
      rw [← HN.out] at hv2
      subst hv2
      have hs2 : wx.heap.size ≤ w2.heap.size := hb2.size
      have hba : Below w2.heap.size w2 (w2.alloc (.cells #[.slice a2 n n2] 22)) := below_alloc1 _ _
      have HGU := Lib.hid ((hg2.below hba).mono hsx)
      have HGO : Hid (∀ g, (Value.slice a2 n n2).ownBlock = some g → wx.heap.size ≤ g) := Lib.hid (fun g hg => (hg2.lt g hg).1)
      obtain ⟨vs, hvs⟩ := HG.out
      have HVS := Lib.hid ((hvs.below hb2).below hba)
      have HVL : Hid (∀ i (h : i < vs.length) g, vs[i].ownBlock = some g → g < wx.heap.size) := Lib.hid (fun i h g hg => ((hvs.rows i h (by have := hvs.len; omega)).lt g hg).2)
      have HVO := Lib.hid HVS.out.own
      rw [HGN.out] at HVO
      clear hvs
      have HBZ := Lib.hid ((HB.out.trans (hb2.mono hsx)).trans (hba.mono (by omega)))
      have hcell := cell_alloc1 w2 (.slice a2 n n2) 22
      clear hb2 hg2 hba hur HOW
      go_wp2_with (at_builtin; refine wpList_appendLr rfl (some 19) rfl (.tmp 12) (.tmp 18) rfl w.heap.size _ k vs rfl HVO.out w2.heap.size rfl a2 n n2 hcell ?c1 ?c2 ?_)
      case c1 => omega
      case c2 => first | (simp; omega) | omega
      intro g7 c7 W7 hg7 hgr7
      have HS7 : Hid (Gq w.heap.size W7 (.slice (some ⟨g7, 0, none⟩) (k + 1) c7) (t.take (k + 1))) := Lib.hid (by rw [HTK.out]; exact ⟨_, HVS.out.push (by rw [HGN.out]; exact hg7) hgr7 HGU.out (fun i h g hg hg2 => by have := HVL.out i h g hg; have := HGO.out g hg2; omega)⟩)
      have HB7 : Hid (Below w.heap.size w W7) := Lib.hid (HBZ.out.grown hgr7 (by simp; omega) (fun g hg => (HVS.out.own.lt g hg).1))
      clear hg7 hgr7 hcell
      go_wp2
      go_roundw
      case rel => first | exact ⟨k + 1, by omega, by go_num, HB7, HS7⟩ | ((repeat apply Exists.intro); exact ⟨⟨k + 1, by omega, by go_num, HB7, HS7⟩, rfl⟩)
      case measure => simp [intOf]; omega
    · have hkn : ¬ (k : Int) < (t.length : Int) := by omega
      have HKE : Hid (k = t.length) := Lib.hid (by omega)
      go_wp2
      go_ret
      exact ⟨_, rfl, by have := HG.out; rwa [HKE.out, List.take_length, ← HKE.out] at this, HB.out⟩
end Go.Proofs.Ytchijefibiaphaa


namespace Go.Proofs.Ytchijefibiaphaa
open Go.RowKit

/-- Another row's number was put: the table stands. -/
theorem Gqv.off {lo : Nat} {w : World} {u : Value} {vs : List Value} {t : List (List Int)} (h : Gqv lo w u vs t) {g k : Nat} {f : Nat → Value} (hrr : w.rowIs g 2 k f) (hne : ∀ i (hi : i < vs.length), vs[i].ownBlock ≠ some g) (q : Nat) (x : Value) :
    Gqv lo (w.setCell ⟨g, q, none⟩ x) u vs t :=
  ⟨owns_off h.own hrr (by decide) _ _, fun k h1 h2 => ownsRow_setCell_other (h.rows k h1 h2) (hne k h1) _, h.ap⟩
theorem Gb.isRow {lo g n c : Nat} {w : World} {xs : List Int} (h : Gb lo w (.slice (some ⟨g, 0, none⟩) n c) xs) : ∃ k f, w.rowIs g 2 k f := by
  rcases h.2 with ⟨h0, _⟩ | ⟨g', c', cur, hv2, _, hh, _⟩
  · cases h0
  · injection hv2 with e1
    injection e1 with e1
    injection e1 with e1
    subst e1
    exact ⟨cur.size, fun i => cur.getD i undef, cur, hh, rfl, fun i hi => by simp [hi]⟩
/-- n tables T, their values U, their rows' slices V. -/
structure Gtq (lo : Nat) (w : World) (u : Value) (n : Nat) (U : Nat → Value) (V : Nat → List Value) (T : Nat → List (List Int)) : Prop where
  own : w.ownsRow lo 61 1 u n ((List.range n).map U)
  tabs : ∀ k, k < n → Gqv lo w (U k) (V k) (T k)
  ap : ∀ k l, k < n → l < n → k ≠ l → ∀ i (hi : i < (V k).length) j (hj : j < (V l).length) g, (V k)[i].ownBlock = some g → (V l)[j].ownBlock ≠ some g
theorem Gtq.below {lo : Nat} {w w' : World} {u : Value} {n : Nat} {U : Nat → Value} {V : Nat → List Value} {T : Nat → List (List Int)} (h : Gtq lo w u n U V T) (hb : Below w.heap.size w w') : Gtq lo w' u n U V T :=
  ⟨owns_below h.own hb, fun k hk => (h.tabs k hk).below hb, h.ap⟩
theorem Gtq.gt {lo : Nat} {w : World} {u : Value} {n : Nat} {U : Nat → Value} {V : Nat → List Value} {T : Nat → List (List Int)} (h : Gtq lo w u n U V T) : Gt lo w u ((List.range n).map T) := by
  refine ⟨_, by simpa using h.own, fun k h1 h2 => ?_⟩
  have hk : k < n := by simpa using h2
  simp only [List.getElem_map, List.getElem_range]
  exact ((h.tabs k hk).gs).mono (Nat.zero_le _)
theorem Gtq.put {lo : Nat} {w : World} {u : Value} {n : Nat} {U : Nat → Value} {V : Nat → List Value} {T : Nat → List (List Int)} (h : Gtq lo w u n U V T) {k i : Nat} (hk : k < n) (hi : i < (T k).length) {g m c : Nat} (hv : (V k)[i]'(by rw [(h.tabs k hk).len]; exact hi) = .slice (some ⟨g, 0, none⟩) m c) {q : Nat} (hq : q < ((T k)[i]).length) (x : Int) :
    Gtq lo (w.setCell ⟨g, q, none⟩ (.int .i64 x)) u n U V (fun l => if l = k then (T k).set i (((T k)[i]).set q x) else T l) ∧ w.frozen? ⟨g, q, none⟩ = false ∧ lo ≤ g := by
  have ht := h.tabs k hk
  obtain ⟨hp, hf, hlo⟩ := ht.put hi hv hq x
  have hrow := ht.rows i (by rw [ht.len]; exact hi) hi
  rw [hv] at hrow
  obtain ⟨k0, f0, hrr⟩ := hrow.isRow
  refine ⟨⟨owns_off h.own hrr (by decide) _ _, fun l hl => ?_, h.ap⟩, hf, hlo⟩
  by_cases e : l = k
  · subst e
    rw [if_pos rfl]
    exact hp
  · rw [if_neg e]
    refine (h.tabs l hl).off hrr (fun j hj => ?_) _ _
    exact h.ap k l hk hl (Ne.symm e) i (by rw [ht.len]; exact hi) j hj g (by rw [hv]; rfl)
end Go.Proofs.Ytchijefibiaphaa


namespace Go.Proofs.Ytchijefibiaphaa
open Go.RowKit

theorem hloadSS (w : World) {b o : Nat} {x : Value} (h : w.cell? ⟨b, o, none⟩ = some x) : (Instr.loadAt 61 (.pointer (some ⟨b, o, none⟩))).run Try.prog w = .ok x w := by go_simp
theorem hloadSSS (w : World) {b o : Nat} {x : Value} (h : w.cell? ⟨b, o, none⟩ = some x) : (Instr.loadAt 23 (.pointer (some ⟨b, o, none⟩))).run Try.prog w = .ok x w := by go_simp
end Go.Proofs.Ytchijefibiaphaa


namespace Go.Proofs.Ytchijefibiaphaa
open Go.RowKit

theorem Gqv.grownT {lo lo2 : Nat} {w w' : World} {u u2 : Value} {vs xs : List Value} {t : List (List Int)} {n : Nat} (h : Gqv lo w u vs t) (ho : w.ownsRow lo2 61 1 u2 n xs) (hg : w.grownBy w' u2.ownBlock) : Gqv lo w' u vs t :=
  ⟨owns_grown h.own ho (by decide) hg, fun k h1 h2 => owns_grown (h.rows k h1 h2) ho (by decide) hg, h.ap⟩
theorem Gqv.mono {lo lo' : Nat} (hl : lo' ≤ lo) {w : World} {u : Value} {vs : List Value} {t : List (List Int)} (h : Gqv lo w u vs t) : Gqv lo' w u vs t :=
  ⟨owns_mono h.own hl, fun k h1 h2 => owns_mono (h.rows k h1 h2) hl, h.ap⟩
theorem Gqv.lt {lo : Nat} {w : World} {u : Value} {vs : List Value} {t : List (List Int)} (h : Gqv lo w u vs t) {k : Nat} (hk : k < vs.length) {g : Nat} (hg : vs[k].ownBlock = some g) : lo ≤ g ∧ g < w.heap.size := (h.rows k hk (by rw [← h.len]; exact hk)).lt g hg
theorem Gtq.push {lo : Nat} {w w' : World} {u u' x : Value} {n : Nat} {U : Nat → Value} {V : Nat → List Value} {T : Nat → List (List Int)} {vs : List Value} {t : List (List Int)} (h : Gtq lo w u n U V T)
    (hn : w'.ownsRow lo 61 1 u' (n + 1) ((List.range n).map U ++ [x])) (hg : w.grownBy w' u.ownBlock) (hr : Gqv lo w x vs t)
    (hap : ∀ k, k < n → ∀ i (hi : i < (V k).length) j (hj : j < vs.length) g, (V k)[i].ownBlock = some g → vs[j].ownBlock ≠ some g) :
    Gtq lo w' u' (n + 1) (fun k => if k = n then x else U k) (fun k => if k = n then vs else V k) (fun k => if k = n then t else T k) := by
  refine ⟨?_, fun k hk => ?_, fun k l hk hl hkl => ?_⟩
  · have e : (List.range (n + 1)).map (fun k => if k = n then x else U k) = (List.range n).map U ++ [x] := by
      rw [List.range_succ, List.map_append]
      congr 1
      · exact List.map_congr_left fun k hk => by rw [if_neg (by have := List.mem_range.1 hk; omega)]
      · simp
    rw [e]
    exact hn
  · by_cases e : k = n
    · simp only [e, if_true]
      exact hr.grownT h.own hg
    · simp only [e, if_false]
      exact (h.tabs k (by omega)).grownT h.own hg
  · have key : ∀ A B : List Value, A = (if k = n then vs else V k) → B = (if l = n then vs else V l) → ∀ i (hi : i < A.length) j (hj : j < B.length) g, A[i].ownBlock = some g → B[j].ownBlock ≠ some g := by
      intro A B hA hB
      by_cases e1 : k = n
      · rw [if_pos e1] at hA
        rw [if_neg (by omega)] at hB
        subst hA hB
        exact fun i hi j hj g e2 e3 => hap l (by omega) j hj i hi g e3 e2
      · rw [if_neg e1] at hA
        subst hA
        by_cases e2 : l = n
        · rw [if_pos e2] at hB
          subst hB
          exact fun i hi j hj g e3 => hap k (by omega) i hi j hj g e3
        · rw [if_neg e2] at hB
          subst hB
          exact h.ap k l (by omega) (by omega) hkl
    exact key _ _ rfl rfl
end Go.Proofs.Ytchijefibiaphaa


namespace Go.Proofs.Ytchijefibiaphaa
open Go.RowKit

section
variable {P : Program} {ops : Array Oper} {Q : Exit → Act → World → Prop} {md : Region.Mode} {S : World → Prop}
theorem held_one {i : Nat} {fuel : Nat} {listed : Array Bool} {a : Act} {w : World} (hr : Region.ready md ops listed = [i])
    (h1 : wpOp P ops Q i (fun a' w' => S w' ∧ wpAnyH P md ops Q S fuel (listed.setIfInBounds i true) a' w') a w) : wpAnyH P md ops Q S (fuel + 1) listed a w :=
  wpAnyH_all hr (by simp) (fun k hk => by obtain rfl := List.mem_singleton.1 hk; exact h1)
theorem held_two {i j : Nat} {fuel : Nat} {listed : Array Bool} {a : Act} {w : World} (hr : Region.ready md ops listed = [i, j])
    (h1 : wpOp P ops Q i (fun a' w' => S w' ∧ wpAnyH P md ops Q S fuel (listed.setIfInBounds i true) a' w') a w)
    (h2 : wpOp P ops Q j (fun a' w' => S w' ∧ wpAnyH P md ops Q S fuel (listed.setIfInBounds j true) a' w') a w) : wpAnyH P md ops Q S (fuel + 1) listed a w :=
  wpAnyH_all hr (by simp) (fun k hk => by
    rcases List.mem_cons.1 hk with rfl | hk
    · exact h1
    · obtain rfl := List.mem_singleton.1 hk; exact h2)
theorem held_three {i j l : Nat} {fuel : Nat} {listed : Array Bool} {a : Act} {w : World} (hr : Region.ready md ops listed = [i, j, l])
    (h1 : wpOp P ops Q i (fun a' w' => S w' ∧ wpAnyH P md ops Q S fuel (listed.setIfInBounds i true) a' w') a w)
    (h2 : wpOp P ops Q j (fun a' w' => S w' ∧ wpAnyH P md ops Q S fuel (listed.setIfInBounds j true) a' w') a w)
    (h3 : wpOp P ops Q l (fun a' w' => S w' ∧ wpAnyH P md ops Q S fuel (listed.setIfInBounds l true) a' w') a w) : wpAnyH P md ops Q S (fuel + 1) listed a w :=
  wpAnyH_all hr (by simp) (fun k hk => by
    rcases List.mem_cons.1 hk with rfl | hk
    · exact h1
    · rcases List.mem_cons.1 hk with rfl | hk
      · exact h2
      · obtain rfl := List.mem_singleton.1 hk; exact h3)
theorem op_plain {i : Nat} {oi : Oper} {K : Act → World → Prop} {a : Act} {w : World} (hi : ops[i]? = some oi) (hg : oi.guard = none) (h : oi.wp P a w K Q) : wpOp P ops Q i K a w := by
  unfold wpOp
  rw [hi]
  have hw : Region.wanted oi (yielded ops a.tmps) = true := by unfold Region.wanted; rw [hg]
  simp only [hw, if_true]
  exact Or.inl h
theorem op_enter {i : Nat} {oi : Oper} {K : Act → World → Prop} {a : Act} {w : World} (d : Option Tmp) {f : FuncId} {args : Array Value} (hi : ops[i]? = some oi) (hg : oi.guard = none) (hd : oi.dst = d)
    (h : (execOp a.eval oi).run P w = .ok (.enter f args) w) {R : Ending → World → Prop} (hc : Calls P f args w R) (hR : ∀ v w', R (.returned v) w' → K (a.put d v) w') (h2 : ∀ c w', ¬ R (.panicked c) w') (h3 : ∀ w', ¬ R .outgrown w') : wpOp P ops Q i K a w :=
  op_plain hi hg (wp_enter h hc (fun v w' hv => by rw [hd]; exact hR v w' hv) h2 h3)
theorem op_mem {i : Nat} {oi : Oper} {K : Act → World → Prop} {a : Act} {w w' : World} {v : Value} (d : Option Tmp) (hi : ops[i]? = some oi) (hg : oi.guard = none) (hd : oi.dst = d)
    (h : (execOp a.eval oi).run P w = .ok (.value v) w') (hK : K (a.put d v) w') : wpOp P ops Q i K a w := by
  subst hd
  refine op_plain hi hg ?_
  unfold Oper.wp
  rw [h]
  exact hK
theorem op_row {i : Nat} {oi : Oper} {K : Act → World → Prop} {a : Act} {w : World} (hi : ops[i]? = some oi) (hgd : oi.guard = none) (hd : oi.dst = none) (ty : TypeId) (x y : Operand) (ho : oi.op = .store ty x y)
    (g : Nat) (cells : Array Value) (hx : a.eval x = .pointer (some ⟨g, 0, none⟩)) (hy : a.eval y = .agg cells) (t : TypeId) (old : Array Value) (hg : w.heap[g]? = some (.cells old t (0, 0))) (hs : (P.info? ty).map (·.size) = some cells.size)
    (hold : old.size = cells.size) (h1 : cells.all (·.oneCell') = true) (hK : K a (w.setRow g cells)) : wpOp P ops Q i K a w :=
  op_plain hi hgd (wp_store_row ty x y ho g cells hx hy t old hg hs hold h1 (by rw [hd]; exact hK))
end
/-- A block of cells that may be written. -/
def Rz (W : World) (g : Nat) (t : TypeId) (cs : Array Value) : Prop := W.heap[g]? = some (.cells cs t (0, 0))
theorem Rz.lt {W : World} {g : Nat} {t : TypeId} {cs : Array Value} (h : Rz W g t cs) : g < W.heap.size := (Array.getElem?_eq_some_iff.1 h).1
theorem Rz.next {W W' : World} {g : Nat} {t : TypeId} {cs : Array Value} (h : Rz W g t cs) (hb : Below W.heap.size W W') : Rz W' g t cs := (hb.block g h.lt).trans h
theorem Rz.new (W : World) (t : TypeId) (cs : Array Value) : Rz (W.alloc (.cells cs t)) W.heap.size t cs := by simpa [Rz] using heap_alloc_new W (.cells cs t)
theorem Rz.set {W : World} {g : Nat} {t : TypeId} {cs : Array Value} (h : Rz W g t cs) (x : Array Value) : Rz (W.setRow g x) g t x := setRow_heap W g cs x t _ h
theorem Rz.off {W : World} {g g' : Nat} {t : TypeId} {cs : Array Value} (h : Rz W g t cs) (hne : g ≠ g') (x : Array Value) : Rz (W.setRow g' x) g t cs := (setRow_other W g' g x hne).trans h
theorem Rz.cell {W : World} {g : Nat} {t : TypeId} {cs : Array Value} (h : Rz W g t cs) {i : Nat} {v : Value} (hv : cs[i]? = some v) : W.cell? ⟨g, i, none⟩ = some v := by
  have h' : W.heap[g]? = some (.cells cs t (0, 0)) := h
  simp [World.cell?, h', hv]
end Go.Proofs.Ytchijefibiaphaa


namespace Go.Proofs.Ytchijefibiaphaa
open Go.RowKit
theorem hload3 (w : World) {b : Nat} {x y z : Value} (c0 : w.cell? ⟨b, 0, none⟩ = some x) (c1 : w.cell? ⟨b, 1, none⟩ = some y) (c2 : w.cell? ⟨b, 2, none⟩ = some z) : (Instr.loadAt 30 (.pointer (some ⟨b, 0, none⟩))).run Try.prog w = .ok (.agg #[x, y, z]) w := by go_simp
theorem hload3x {w0 w : World} {b : Nat} {p : Int} {dv mv : Value} {ds : List Int} {ms : List (List (List Int))} (h : Bx w0 w b p dv mv ds ms) : (Instr.loadAt 30 (.pointer (some ⟨b, 0, none⟩))).run Try.prog w = .ok (.agg #[.int .i64 p, dv, mv]) w := hload3 w h.c0 h.c1 h.c2
theorem haddA {a b s : Int} (h : IntKind.i64.wrap (a + b) = s) (w : World) : (binOp .add 2 (.int .i64 a) (.int .i64 b)).run Try.prog w = .ok (.int .i64 s) w := by go_simp
theorem hsubA {a b s : Int} (h : IntKind.i64.wrap (a - b) = s) (w : World) : (binOp .sub 2 (.int .i64 a) (.int .i64 b)).run Try.prog w = .ok (.int .i64 s) w := by go_simp
theorem hmulA {a b s : Int} (h : IntKind.i64.wrap (a * b) = s) (w : World) : (binOp .mul 2 (.int .i64 a) (.int .i64 b)).run Try.prog w = .ok (.int .i64 s) w := by go_simp
section
variable {P : Program} {ops : Array Oper} {Q : Exit → Act → World → Prop} {md : Region.Mode} {S : World → Prop}
end
theorem infoCo (y0 y1 y2 : Value) : (Try.prog.info? 30).map (·.size) = some (#[y0, y1, y2] : Array Value).size := by kernel_rfl
end Go.Proofs.Ytchijefibiaphaa

