/-
  Whole complexes that the model gathers, field by field.
-/
import Derived.Test.YtiokagnolbddlaaLnm
import Derived.Test.YtiokagnolbddlaaDuS
namespace Go.Proofs.Ytiokagnolbddlaa
open Go.RowKit

theorem rowIs2 {w : World} {b : Nat} {x y : Value} {t : TypeId} (h : w.heap[b]? = some (.cells #[x, y] t)) : w.rowIs b t 2 (sel2 x y) :=
  ⟨#[x, y], h, rfl, fun i hi => by
    match i, hi with
    | 0, _ => rfl
    | 1, _ => rfl⟩
/-- A whole complex that the model gathers: its box at block g, its two lists. -/
structure Sdw (w1 wr : World) (g : Nat) (v vm : Value) (xs : List Int) (ts : List (List (List Int))) : Prop where
  below : Below w1.heap.size w1 wr
  lo : w1.heap.size ≤ g
  box : wr.rowIs g 25 2 (sel2 v vm)
  dims : Gb w1.heap.size wr v xs
  maps : Gt w1.heap.size wr vm ts
theorem Sdw.next {w1 wr wa : World} {g : Nat} {v vm : Value} {xs : List Int} {ts : List (List (List Int))} (h : Sdw w1 wr g v vm xs ts) (hb : Below wr.heap.size wr wa) : Sdw w1 wa g v vm xs ts :=
  ⟨h.below.trans (hb.mono h.below.size), h.lo, h.box.of_block (hb.block _ h.box.lt), h.dims.below hb, h.maps.below hb⟩
theorem Sdw.stepD {w1 wa w' : World} {g : Nat} {v vm v' : Value} {xs xs' : List Int} (h : Sdw w1 wa g v vm xs []) (hg : wa.grownBy w' v.ownBlock) (hn : Gb w1.heap.size w' v' xs') : Sdw w1 (w'.setCell ⟨g, 0, none⟩ v') g v' vm xs' [] := by
  have hr := row_grown h.box h.dims whT.1 hg
  have hb := h.below.grown hg h.below.size (fun g hg => (h.dims.lt g hg).1)
  obtain ⟨vs, ho, _⟩ := h.maps
  have hm : Gt w1.heap.size w' vm [] := ⟨vs, owns_grown ho h.dims (by decide) hg, fun k _ h2 => absurd h2 (Nat.not_lt_zero _)⟩
  refine ⟨hb.setCell h.lo _, h.lo, (hr.set 0 v').congr (fun j hj => ?_), hn.off hr whT.1 _ _, hm.off hr whT _ _⟩
  match j, hj with
  | 0, _ => rfl
  | 1, _ => rfl
theorem Sdw.stepM {w1 wa w' : World} {g : Nat} {v vm v' : Value} {xs : List Int} {ts ts' : List (List (List Int))} (h : Sdw w1 wa g v vm xs ts) (hg : wa.grownBy w' vm.ownBlock) (hn : Gt w1.heap.size w' v' ts') : Sdw w1 (w'.setCell ⟨g, 1, none⟩ v') g v v' xs ts' := by
  obtain ⟨vs, ho, _⟩ := h.maps
  have hr := row_grown h.box ho whT.2.2 hg
  have hb := h.below.grown hg h.below.size (fun g hg => (h.maps.lt g hg).1)
  have hd : Gb w1.heap.size w' v xs := owns_grown h.dims ho (by decide) hg
  refine ⟨hb.setCell h.lo _, h.lo, (hr.set 1 v').congr (fun j hj => ?_), hd.off hr whT.1 _ _, hn.off hr whT _ _⟩
  match j, hj with
  | 0, _ => rfl
  | 1, _ => rfl
end Go.Proofs.Ytiokagnolbddlaa
