/-
  Texts that ProofChl needs, part 7.
-/
import Derived.Test.YtlopenephgabhaaZd6
import Derived.Deep.RegionWith
import Derived.Deep.RegionHeld3
import Derived.BigRegion
import Derived.BigQuiet
import Derived.Deep.QuietTactic
namespace Go.Proofs.Ytlopenephgabhaa
open Go.RowKit

/-- A value's own block is not this one. -/
def OffB (b : Option Nat) (u : Value) : Prop := ∀ g, u.ownBlock = some g → b ≠ some g
theorem owns_grown_off {w w' : World} {base : Nat} {e : TypeId} {size n : Nat} {u : Value} {xs : List Value} {b : Option Nat} (h : w.ownsRow base e size u n xs) (ho : OffB b u) (hg : w.grownBy w' b) : w'.ownsRow base e size u n xs := by
  refine ⟨h.1, ?_⟩
  rcases h.2 with h2 | ⟨g, cap, cur, hu, hb, hh, r⟩
  · exact Or.inl h2
  · refine Or.inr ⟨g, cap, cur, hu, hb, ?_, r⟩
    rw [hg.block g (Array.getElem?_eq_some_iff.1 hh).1]
    · exact hh
    · exact fun e2 => ho g (by rw [hu]; rfl) e2.symm
theorem owns_lt {w : World} {base : Nat} {e : TypeId} {size n : Nat} {u : Value} {xs : List Value} (h : w.ownsRow base e size u n xs) {g : Nat} (hg : u.ownBlock = some g) : g < w.heap.size := by
  rcases h.2 with ⟨rfl, _⟩ | ⟨g2, cap, cur, rfl, _, hh, _⟩
  · simp [Value.ownBlock] at hg
  · simp [Value.ownBlock] at hg
    subst hg
    exact (Array.getElem?_eq_some_iff.1 hh).1
/-- A table whose rows lie off a block. -/
def Gr (b : Option Nat) (w : World) (u : Value) (t : List (List Int)) : Prop := ∃ vs, w.ownsRow 0 35 1 u t.length vs ∧ ∀ k (h1 : k < vs.length) (h2 : k < t.length), G1 w vs[k] t[k] ∧ OffB b vs[k]
def Gto (b : Option Nat) (base : Nat) (w : World) (u : Value) (ts : List (List (List Int))) : Prop := ∃ vs, w.ownsRow base 22 1 u ts.length vs ∧ ∀ k (h1 : k < vs.length) (h2 : k < ts.length), Gr b w vs[k] ts[k]
theorem Gr.gs {b : Option Nat} {w : World} {u : Value} {t : List (List Int)} (h : Gr b w u t) : Gs 0 w u t := by
  obtain ⟨vs, ho, hr⟩ := h
  exact ⟨vs, ho, fun k h1 h2 => (hr k h1 h2).1⟩
theorem Gto.gt {b : Option Nat} {base : Nat} {w : World} {u : Value} {ts : List (List (List Int))} (h : Gto b base w u ts) : Gt base w u ts := by
  obtain ⟨vs, ho, hr⟩ := h
  exact ⟨vs, ho, fun k h1 h2 => (hr k h1 h2).gs⟩
theorem Gr.below {b : Option Nat} {w w' : World} {u : Value} {t : List (List Int)} (h : Gr b w u t) (hb : Below w.heap.size w w') : Gr b w' u t := by
  obtain ⟨vs, ho, hr⟩ := h
  exact ⟨vs, owns_below ho hb, fun k h1 h2 => ⟨(hr k h1 h2).1.below hb, (hr k h1 h2).2⟩⟩
theorem Gto.below {b : Option Nat} {base : Nat} {w w' : World} {u : Value} {ts : List (List (List Int))} (h : Gto b base w u ts) (hb : Below w.heap.size w w') : Gto b base w' u ts := by
  obtain ⟨vs, ho, hr⟩ := h
  exact ⟨vs, owns_below ho hb, fun k h1 h2 => (hr k h1 h2).below hb⟩
theorem Gto.nil {b : Option Nat} {base : Nat} {w : World} {u : Value} (h : Gt base w u []) : Gto b base w u [] := by
  obtain ⟨vs, ho, _⟩ := h
  exact ⟨vs, ho, fun k _ h2 => absurd h2 (Nat.not_lt_zero _)⟩
/-- A table of a call made behind a block lies off it. -/
theorem Gr.of {b : Nat} {w : World} {u : Value} {t : List (List Int)} {vs : List Value} (ho : w.ownsRow 0 35 1 u t.length vs) (hr : ∀ k (h1 : k < vs.length) (h2 : k < t.length), Gb (b + 1) w vs[k] t[k]) : Gr (some b) w u t :=
  ⟨vs, ho, fun k h1 h2 => ⟨(hr k h1 h2).g1, fun g hg e => by
    have := ((hr k h1 h2).lt g hg).1
    injection e with e
    omega⟩⟩
theorem Gr.move {b b' : Option Nat} {w : World} {u : Value} {t : List (List Int)} (h : Gr b w u t) (hx : ∀ g, b' = some g → b = some g ∨ w.heap.size ≤ g) : Gr b' w u t := by
  obtain ⟨vs, ho, hr⟩ := h
  refine ⟨vs, ho, fun k h1 h2 => ⟨(hr k h1 h2).1, fun g hg e => ?_⟩⟩
  rcases hx g e with h3 | h3
  · exact (hr k h1 h2).2 g hg h3
  · have := owns_lt (hr k h1 h2).1 hg
    omega
theorem Gto.move {b b' : Option Nat} {base : Nat} {w : World} {u : Value} {ts : List (List (List Int))} (h : Gto b base w u ts) (hx : ∀ g, b' = some g → b = some g ∨ w.heap.size ≤ g) : Gto b' base w u ts := by
  obtain ⟨vs, ho, hr⟩ := h
  exact ⟨vs, ho, fun k h1 h2 => (hr k h1 h2).move hx⟩
theorem Gr.grown {b : Option Nat} {w w3 : World} {base n : Nat} {u v : Value} {t : List (List Int)} {vs : List Value} (h : Gr b w u t) (ho : w.ownsRow base 22 1 v n vs) (hg : w.grownBy w3 v.ownBlock) : Gr b w3 u t := by
  obtain ⟨us, hu, hr⟩ := h
  exact ⟨us, owns_grown hu ho (by decide) hg, fun k h1 h2 => ⟨owns_grown (hr k h1 h2).1 ho (by decide) hg, (hr k h1 h2).2⟩⟩
theorem Gto.push {b : Option Nat} {base : Nat} {w w3 : World} {v v' row : Value} {ts : List (List (List Int))} {vs : List Value} {x : List (List Int)} (ho : w.ownsRow base 22 1 v ts.length vs) (hr : ∀ k (h1 : k < vs.length) (h2 : k < ts.length), Gr b w vs[k] ts[k]) (hx : Gr b w row x)
    (ho3 : w3.ownsRow base 22 1 v' (ts.length + 1) (vs ++ [row])) (hg : w.grownBy w3 v.ownBlock) : Gto b base w3 v' (ts ++ [x]) := by
  have hvl : vs.length = ts.length := by have := ho.1; omega
  refine ⟨vs ++ [row], by simpa using ho3, fun k h1 h2 => ?_⟩
  by_cases e : k < vs.length
  · rw [List.getElem_append_left e, List.getElem_append_left (by omega)]
    exact (hr k e (by omega)).grown ho hg
  · have e2 : k = vs.length := by simp at h1; omega
    subst e2
    rw [List.getElem_append_right (Nat.le_refl _), List.getElem_append_right (by omega)]
    simp only [Nat.sub_self, hvl, List.getElem_cons_zero]
    exact hx.grown ho hg
theorem Gr.off {b : Option Nat} {w : World} {g k : Nat} {t : TypeId} {f : Nat → Value} {u : Value} {xs : List (List Int)} (h : Gr b w u xs) (hr : w.rowIs g t k f) (ht : t ≠ 2 ∧ t ≠ 35) (i : Nat) (x : Value) : Gr b (w.setCell ⟨g, i, none⟩ x) u xs := by
  obtain ⟨vs, ho, h1⟩ := h
  exact ⟨vs, owns_off ho hr ht.2 i x, fun k a c => ⟨(h1 k a c).1.off hr ht.1 i x, (h1 k a c).2⟩⟩
theorem Gto.off {b : Option Nat} {base : Nat} {w : World} {g k : Nat} {t : TypeId} {f : Nat → Value} {u : Value} {xs : List (List (List Int))} (h : Gto b base w u xs) (hr : w.rowIs g t k f) (ht : t ≠ 2 ∧ t ≠ 35 ∧ t ≠ 22) (i : Nat) (x : Value) : Gto b base (w.setCell ⟨g, i, none⟩ x) u xs := by
  obtain ⟨vs, ho, h1⟩ := h
  exact ⟨vs, owns_off ho hr ht.2.2 i x, fun k a c => (h1 k a c).off hr ⟨ht.1, ht.2.1⟩ i x⟩

/-- A complex that the model gathers, dimensions and tables in turn: its box at block g, its two lists. -/
structure Sdo (w1 wr : World) (g : Nat) (p : Int) (v vm : Value) (xs : List Int) (ts : List (List (List Int))) : Prop where
  below : Below w1.heap.size w1 wr
  lo : w1.heap.size ≤ g
  box : wr.rowIs g 38 3 (sel3 (.int .i64 p) v vm)
  dims : Gb w1.heap.size wr v xs
  maps : Gto v.ownBlock w1.heap.size wr vm ts
theorem Sdo.start {w1 wr : World} {g : Nat} {p : Int} {v vm : Value} {xs : List Int} (h : Sd w1 wr g p v vm xs []) : Sdo w1 wr g p v vm xs [] := ⟨h.below, h.lo, h.box, h.dims, Gto.nil h.maps⟩
theorem Sdo.sd {w1 wr : World} {g : Nat} {p : Int} {v vm : Value} {xs : List Int} {ts : List (List (List Int))} (h : Sdo w1 wr g p v vm xs ts) : Sd w1 wr g p v vm xs ts := ⟨h.below, h.lo, h.box, h.dims, h.maps.gt⟩
theorem Sdo.next {w1 wr wa : World} {g : Nat} {p : Int} {v vm : Value} {xs : List Int} {ts : List (List (List Int))} (h : Sdo w1 wr g p v vm xs ts) (hb : Below wr.heap.size wr wa) : Sdo w1 wa g p v vm xs ts :=
  ⟨h.below.trans (hb.mono h.below.size), h.lo, h.box.of_block (hb.block _ h.box.lt), h.dims.below hb, h.maps.below hb⟩
section
variable {o : Oper} {a : Act} {w : World} {K : Act → World → Prop} {Q : Exit → Act → World → Prop}
end
end Go.Proofs.Ytlopenephgabhaa


namespace Go.Proofs.Ytlopenephgabhaa
open Go.RowKit

/-- A table that the call gathers, its rows off a block. -/
def Grb (b : Option Nat) (base : Nat) (w : World) (u : Value) (t : List (List Int)) : Prop := ∃ vs, w.ownsRow base 35 1 u t.length vs ∧ ∀ k (h1 : k < vs.length) (h2 : k < t.length), G1 w vs[k] t[k] ∧ OffB b vs[k]
theorem Grb.gs {b : Option Nat} {base : Nat} {w : World} {u : Value} {t : List (List Int)} (h : Grb b base w u t) : Gs base w u t := by
  obtain ⟨vs, ho, hr⟩ := h
  exact ⟨vs, ho, fun k h1 h2 => (hr k h1 h2).1⟩
theorem Grb.below {b : Option Nat} {base : Nat} {w w' : World} {u : Value} {t : List (List Int)} (h : Grb b base w u t) (hb : Below w.heap.size w w') : Grb b base w' u t := by
  obtain ⟨vs, ho, hr⟩ := h
  exact ⟨vs, owns_below ho hb, fun k h1 h2 => ⟨(hr k h1 h2).1.below hb, (hr k h1 h2).2⟩⟩
theorem Grb.start {b : Option Nat} {base : Nat} {w : World} {u : Value} (h : Gs base w u []) : Grb b base w u [] := by
  obtain ⟨vs, ho, _⟩ := h
  exact ⟨vs, ho, fun k _ h2 => absurd h2 (Nat.not_lt_zero _)⟩
theorem Grb.push {b : Option Nat} {base : Nat} {w w3 : World} {v v' row : Value} {t : List (List Int)} {vs : List Value} {x : List Int} (ho : w.ownsRow base 35 1 v t.length vs) (hr : ∀ k (h1 : k < vs.length) (h2 : k < t.length), G1 w vs[k] t[k] ∧ OffB b vs[k]) (hx : G1 w row x) (hb : OffB b row)
    (ho3 : w3.ownsRow base 35 1 v' (t.length + 1) (vs ++ [row])) (hg : w.grownBy w3 v.ownBlock) : Grb b base w3 v' (t ++ [x]) := by
  have hvl : vs.length = t.length := by have := ho.1; omega
  have keep : ∀ u xs, G1 w u xs → G1 w3 u xs := fun u xs h => owns_grown h ho (by decide) hg
  refine ⟨vs ++ [row], by simpa using ho3, fun k h1 h2 => ?_⟩
  by_cases e : k < vs.length
  · rw [List.getElem_append_left e, List.getElem_append_left (by omega)]
    exact ⟨keep _ _ (hr k e (by omega)).1, (hr k e (by omega)).2⟩
  · have e2 : k = vs.length := by simp at h1; omega
    subst e2
    rw [List.getElem_append_right (Nat.le_refl _), List.getElem_append_right (by omega)]
    simp only [Nat.sub_self, hvl, List.getElem_cons_zero]
    exact ⟨keep _ _ hx, hb⟩
section
variable {o : Oper} {a : Act} {w : World} {K : Act → World → Prop} {Q : Exit → Act → World → Prop}
end
section
variable {ops : Array Oper} {rest : List Oper} {o : Oper} {a : Act} {w : World} {Q : Exit → Act → World → Prop}
end
end Go.Proofs.Ytlopenephgabhaa


namespace Go.Proofs.Ytlopenephgabhaa
open Go.RowKit

/-- A table of one number. -/
structure LnT (w : World) (lo : Nat) (u : Value) (a b : Nat) (z : Int) : Prop where
  val : u = .slice (some ⟨a, 0, none⟩) 1 1
  lo1 : lo ≤ a
  lo2 : lo ≤ b
  top : w.rowIs a 35 1 (fun _ => .slice (some ⟨b, 0, none⟩) 1 1)
  row : w.rowIs b 2 1 (fun _ => .int .i64 z)
theorem LnT.next {w w' : World} {lo : Nat} {u : Value} {a b : Nat} {z : Int} (h : LnT w lo u a b z) (hb : Below w.heap.size w w') : LnT w' lo u a b z :=
  ⟨h.val, h.lo1, h.lo2, h.top.of_block (hb.block _ h.top.lt), h.row.of_block (hb.block _ h.row.lt)⟩
theorem owns_len {w : World} {base n : Nat} {e : TypeId} {v : Value} {xs : List Value} (h : w.ownsRow base e 1 v n xs) : xs.length = n := by rw [h.1]; omega
section
variable {ops : Array Oper} {rest : List Oper} {o : Oper} {a : Act} {w : World} {Q : Exit → Act → World → Prop}
end
end Go.Proofs.Ytlopenephgabhaa


namespace Go.Proofs.Ytlopenephgabhaa
open Go.RowKit

/-- A row put in another's place, in a table that the call gathers. -/
theorem Gs.put {base g n cap : Nat} {w : World} {t : List (List Int)} (h : Gs base w (.slice (some ⟨g, 0, none⟩) n cap) t) {k : Nat} (hk : k < t.length) {u : Value} {x : List Int} (hu : G1 w u x) :
    Gs base (w.setCell ⟨g, k, none⟩ u) (.slice (some ⟨g, 0, none⟩) n cap) (t.set k x) ∧ w.frozen? ⟨g, k, none⟩ = false ∧ (∃ v0, w.cell? ⟨g, k, none⟩ = some v0) ∧ base ≤ g := by
  obtain ⟨vs, ⟨hl, h2⟩, hr⟩ := h
  rcases h2 with ⟨h0, _⟩ | ⟨g', c', cur, hv, hlo, hh, hnc, hcm, hcs, htk⟩
  · cases h0
  · injection hv with e1 e2 e3
    injection e1 with e1
    injection e1 with e1
    subst e1 e2 e3
    have hrow : w.rowIs g 35 cur.size (fun i => cur.getD i undef) := ⟨cur, hh, rfl, fun i hi => by simp [hi]⟩
    have hvl : vs.length = t.length := by omega
    have hkc : k < cur.size := by omega
    refine ⟨⟨vs.set k u, ⟨by simpa using hl, Or.inr ⟨g, cap, cur.setIfInBounds k u, by simp, hlo, block_setCell' hh _, by simpa using hnc, hcm, by simpa using hcs, ?_⟩⟩, fun i h1 h2 => ?_⟩, by simp [World.frozen?, hh], ⟨_, hrow.cell hkc⟩, hlo⟩
    · simp only [List.length_set, Nat.mul_one] at htk ⊢
      rw [Array.toList_setIfInBounds, List.take_set, htk]
    · rw [List.getElem_set, List.getElem_set]
      by_cases e : k = i
      · rw [if_pos e, if_pos e]
        exact hu.off hrow (by decide) _ _
      · rw [if_neg e, if_neg e]
        exact (hr i (by simpa using h1) (by simpa using h2)).off hrow (by decide) _ _
end Go.Proofs.Ytlopenephgabhaa


namespace Go.Proofs.Ytlopenephgabhaa
open Go.RowKit

/-- The rests of a list modulo a reduced one. -/
structure RestsOf (p : Int) (n : Nat) (B C tt : List Lin.V) : Prop where
  rest : ∀ i (h : i < tt.length) (h2 : i < C.length), Lin.Rest p B C[i] B.length tt[i]
  wd : ∀ u ∈ tt, Lin.Wd n u
theorem RestsOf.nil (p : Int) (n : Nat) (B C : List Lin.V) : RestsOf p n B C [] := ⟨fun i h => absurd h (Nat.not_lt_zero _), by simp⟩
theorem RestsOf.push {p : Int} {n : Nat} {B C tt : List Lin.V} (h : RestsOf p n B C tt) {r : Lin.V} (hk : tt.length < C.length) (hr : Lin.Rest p B C[tt.length] B.length r) (hw : Lin.Wd n r) : RestsOf p n B C (tt ++ [r]) := by
  refine ⟨fun i h1 h2 => ?_, fun u hu => ?_⟩
  · by_cases e : i < tt.length
    · rw [List.getElem_append_left e]
      exact h.rest i e h2
    · have e2 : i = tt.length := by simp at h1; omega
      subst e2
      rw [List.getElem_append_right (Nat.le_refl _)]
      simpa using hr
  · rcases List.mem_append.1 hu with h1 | h1
    · exact h.wd u h1
    · rw [List.mem_singleton.1 h1]; exact hw
/-- A table that is being gathered: the empty literal yet, or rows of its own. -/
def GsE (base g : Nat) (w : World) (v : Value) (tb : List (List Int)) : Prop := (tb = [] ∧ v = .slice (some ⟨g, 0, none⟩) 0 0) ∨ Gs base w v tb
theorem GsE.below {base g : Nat} {w w' : World} {v : Value} {tb : List (List Int)} (h : GsE base g w v tb) (hb : Below w.heap.size w w') : GsE base g w' v tb := h.imp id (fun h => h.below hb)
theorem GsE.l2 {base g : Nat} {w : World} {v : Value} {tb : List (List Int)} (h : GsE base g w v tb) : L2 0 w v tb := by
  rcases h with ⟨rfl, rfl⟩ | h
  · exact Or.inl ⟨rfl, _, _, rfl⟩
  · exact h.l2
section
variable {md : Region.Mode} {ops : Array Oper} {Q : Exit → Act → World → Prop} {S : World → Prop}
end

end Go.Proofs.Ytlopenephgabhaa


namespace Go.Proofs.Ytlopenephgabhaa
open Go.RowKit

theorem Gb.put {base g n cap : Nat} {w : World} {xs : List Int} (h : Gb base w (.slice (some ⟨g, 0, none⟩) n cap) xs) {k : Nat} (_hk : k < xs.length) (x : Int) :
    Gb base (w.setCell ⟨g, k, none⟩ (.int .i64 x)) (.slice (some ⟨g, 0, none⟩) n cap) (xs.set k x) ∧ w.frozen? ⟨g, k, none⟩ = false ∧ base ≤ g := by
  obtain ⟨hl, h2⟩ := h
  rcases h2 with ⟨h0, _⟩ | ⟨g', c', cur, hv, hlo, hh, hnc, hcm, hcs, htk⟩
  · cases h0
  · injection hv with e1 e2 e3
    injection e1 with e1
    injection e1 with e1
    subst e1 e2 e3
    refine ⟨⟨by simp, Or.inr ⟨g, cap, cur.setIfInBounds k (.int .i64 x), by simp, hlo, block_setCell' hh _, by simpa using hnc, hcm, by simpa using hcs, ?_⟩⟩, by simp [World.frozen?, hh], hlo⟩
    simp only [List.length_set, Nat.mul_one] at htk ⊢
    rw [Array.toList_setIfInBounds, List.take_set, htk, List.map_set]
theorem Gb.cell {base g n cap : Nat} {w : World} {v : Lin.V} (h : Gb base w (.slice (some ⟨g, 0, none⟩) n cap) (toL n v)) {k : Nat} (hk : k < n) : w.cell? ⟨g, k, none⟩ = some (.int .i64 (v k)) := by
  obtain ⟨b, o, c, hv, hc⟩ := l1_toL h.l1 (show 0 < n by omega)
  injection hv with e1 _ _
  injection e1 with e1
  injection e1 with e1 e2
  subst e1 e2
  have := hc k hk
  rwa [Nat.zero_add] at this
theorem Gb.block {base n cap : Nat} {w : World} {xs : List Int} {ad : Option Addr} (h : Gb base w (.slice ad n cap) xs) (hx : 0 < xs.length) : ∃ g, ad = some ⟨g, 0, none⟩ ∧ base ≤ g := by
  obtain ⟨hl, h2⟩ := h
  rcases h2 with ⟨_, h0⟩ | ⟨g', c', cur, hv, hlo, _⟩
  · omega
  · injection hv with e1 _ _
    exact ⟨g', e1, hlo⟩

theorem add_zero {p : Int} {r t : Lin.V} (h : Lin.Md p r) : Lin.add p r (-0) t = r := funext fun i => by
  unfold Lin.add
  rw [Int.neg_zero, Int.zero_mul, Int.add_zero]
  exact Lin.md_mod (h i).1 (h i).2
section
variable {P : Program} {md : Region.Mode} {ops : Array Oper} {n : Nat} {Q : Exit → Act → World → Prop}
end

end Go.Proofs.Ytlopenephgabhaa


namespace Go.Proofs.Ytlopenephgabhaa
open Go.RowKit

/-- A table in blocks of the call's own, its rows' slices vs apart from each other. -/
structure Gqv (lo : Nat) (w : World) (u : Value) (vs : List Value) (t : List (List Int)) : Prop where
  own : w.ownsRow lo 35 1 u t.length vs
  rows : ∀ k (h1 : k < vs.length) (h2 : k < t.length), Gb lo w vs[k] t[k]
  ap : ∀ i j (hi : i < vs.length) (hj : j < vs.length), i ≠ j → ∀ g, vs[i].ownBlock = some g → vs[j].ownBlock ≠ some g
def Gq (lo : Nat) (w : World) (u : Value) (t : List (List Int)) : Prop := ∃ vs, Gqv lo w u vs t
theorem Gqv.len {lo : Nat} {w : World} {u : Value} {vs : List Value} {t : List (List Int)} (h : Gqv lo w u vs t) : vs.length = t.length := owns_len h.own
theorem Gqv.below {lo : Nat} {w w' : World} {u : Value} {vs : List Value} {t : List (List Int)} (h : Gqv lo w u vs t) (hb : Below w.heap.size w w') : Gqv lo w' u vs t := ⟨owns_below h.own hb, fun k h1 h2 => (h.rows k h1 h2).below hb, h.ap⟩
theorem Gqv.gs {lo : Nat} {w : World} {u : Value} {vs : List Value} {t : List (List Int)} (h : Gqv lo w u vs t) : Gs lo w u t := ⟨vs, h.own, fun k h1 h2 => (h.rows k h1 h2).g1⟩
theorem Gq.gs {lo : Nat} {w : World} {u : Value} {t : List (List Int)} (h : Gq lo w u t) : Gs lo w u t := by obtain ⟨vs, h⟩ := h; exact h.gs
theorem Gq.l2 {lo : Nat} {w : World} {u : Value} {t : List (List Int)} (h : Gq lo w u t) : L2 0 w u t := h.gs.l2
theorem Gq.below {lo : Nat} {w w' : World} {u : Value} {t : List (List Int)} (h : Gq lo w u t) (hb : Below w.heap.size w w') : Gq lo w' u t := by obtain ⟨vs, h⟩ := h; exact ⟨vs, h.below hb⟩
theorem Gq.nil {lo : Nat} {w : World} {u : Value} (h : Gs lo w u []) : Gq lo w u [] := by
  obtain ⟨vs, ho, hr⟩ := h
  have hl := owns_len ho
  exact ⟨vs, ho, fun k _ h2 => absurd h2 (Nat.not_lt_zero _), fun i j hi => absurd hi (by rw [hl]; simp)⟩
theorem Gqv.push {lo : Nat} {w w' : World} {u u' row : Value} {vs : List Value} {t : List (List Int)} {y : List Int} (h : Gqv lo w u vs t) (hn : w'.ownsRow lo 35 1 u' (t.length + 1) (vs ++ [row])) (hg : w.grownBy w' u.ownBlock) (hr : Gb lo w row y)
    (hap : ∀ i (hi : i < vs.length) g, vs[i].ownBlock = some g → row.ownBlock ≠ some g) : Gqv lo w' u' (vs ++ [row]) (t ++ [y]) := by
  have hl := h.len
  have hrow : ∀ {v : Value} {x : List Int}, Gb lo w v x → Gb lo w' v x := fun hx => owns_grown hx h.own (by decide) hg
  refine ⟨by simpa using hn, fun k h1 h2 => ?_, fun i j hi hj hij g e => ?_⟩
  · by_cases e : k < t.length
    · rw [List.getElem_append_left (by omega), List.getElem_append_left e]
      exact hrow (h.rows k (by omega) e)
    · have e2 : k = t.length := by simp at h2; omega
      subst e2
      rw [List.getElem_append_right (by omega), List.getElem_append_right (by omega)]
      simp only [hl, Nat.sub_self, List.getElem_singleton]
      exact hrow hr
  · by_cases e1 : i < vs.length
    · rw [List.getElem_append_left e1] at e
      by_cases e2 : j < vs.length
      · rw [List.getElem_append_left e2]
        exact h.ap i j e1 e2 hij g e
      · have e3 : j = vs.length := by simp at hj; omega
        subst e3
        rw [List.getElem_append_right (Nat.le_refl _)]
        simp only [Nat.sub_self, List.getElem_singleton]
        exact hap i e1 g e
    · have e3 : i = vs.length := by simp at hi; omega
      subst e3
      rw [List.getElem_append_right (Nat.le_refl _)] at e
      simp only [Nat.sub_self, List.getElem_singleton] at e
      have e2 : j < vs.length := by simp at hj; omega
      rw [List.getElem_append_left e2]
      exact fun h2 => hap j e2 g h2 e
/-- A number put into a row. -/
theorem Gqv.put {lo : Nat} {w : World} {u : Value} {vs : List Value} {t : List (List Int)} (h : Gqv lo w u vs t) {i : Nat} (hi : i < t.length) {g n c : Nat} (hv : vs[i]'(by rw [h.len]; exact hi) = .slice (some ⟨g, 0, none⟩) n c) {q : Nat} (hq : q < (t[i]).length) (x : Int) :
    Gqv lo (w.setCell ⟨g, q, none⟩ (.int .i64 x)) u vs (t.set i ((t[i]).set q x)) ∧ w.frozen? ⟨g, q, none⟩ = false ∧ lo ≤ g := by
  have hl := h.len
  have hrow := h.rows i (by omega) hi
  rw [hv] at hrow
  obtain ⟨hp, hf, hlo⟩ := hrow.put hq x
  have hob : (Value.slice (some ⟨g, 0, none⟩) n c).ownBlock = some g := rfl
  have hrr : ∃ k f, w.rowIs g 2 k f := by
    rcases hrow.2 with ⟨h0, _⟩ | ⟨g', c', cur, hv2, _, hh, _⟩
    · cases h0
    · injection hv2 with e1
      injection e1 with e1
      injection e1 with e1
      subst e1
      exact ⟨cur.size, fun i => cur.getD i undef, cur, hh, rfl, fun i hi => by simp [hi]⟩
  obtain ⟨k0, f0, hrr⟩ := hrr
  refine ⟨⟨by rw [List.length_set]; exact owns_off h.own hrr (by decide) _ _, fun k h1 h2 => ?_, h.ap⟩, hf, hlo⟩
  rw [List.getElem_set]
  by_cases e : i = k
  · subst e
    rw [if_pos rfl]
    rw [hv]
    exact hp
  · rw [if_neg e]
    have hk : k < t.length := by simpa using h2
    exact ownsRow_setCell_other (h.rows k h1 hk) (fun e2 => h.ap k i h1 (by omega) (Ne.symm e) g e2 (by rw [hv]; rfl)) _
section
variable {ops : Array Oper} {rest : List Oper} {o : Oper} {a : Act} {w : World} {Q : Exit → Act → World → Prop}
end

end Go.Proofs.Ytlopenephgabhaa


namespace Go.Proofs.Ytlopenephgabhaa
open Go.RowKit

/-- The table as it is made: no row has numbers. -/
theorem gqv_made {lo : Nat} {w : World} (n : Nat) (hb : lo ≤ w.heap.size) (hn : n ≤ maxLen) (cs : Array Value) (hcs : cs.toList = List.replicate n (.slice none 0 0)) : Gqv lo (w.alloc (.cells cs 35)) (.slice (some ⟨w.heap.size, 0, none⟩) n n) (List.replicate n (.slice none 0 0)) (List.replicate n []) := by
  have hsz : cs.size = n := by rw [← Array.length_toList, hcs, List.length_replicate]
  refine ⟨⟨by simp, .inr ⟨w.heap.size, n, cs, by simp, hb, heap_alloc_new w _, by simp, hn, by rw [hsz, Nat.mul_one], ?_⟩⟩, fun k h1 h2 => ?_, fun i j hi hj _ g hg => ?_⟩
  · rw [hcs, List.length_replicate, Nat.mul_one, List.take_replicate, Nat.min_self]
  · rw [List.getElem_replicate, List.getElem_replicate]
    exact ⟨rfl, Or.inl ⟨rfl, rfl⟩⟩
  · rw [List.getElem_replicate] at hg
    simp [Value.ownBlock] at hg
/-- A row grows and is put in its place. -/
theorem Gqv.turn {lo g n cap : Nat} {w w' : World} {vs : List Value} {t : List (List Int)} {y : List Int} {row : Value} (h : Gqv lo w (.slice (some ⟨g, 0, none⟩) n cap) vs t) {i : Nat} (hi : i < t.length) (hi' : i < vs.length)
    (hg : w.grownBy w' (vs[i]).ownBlock) (hr : Gb lo w' row y) (hnew : ∀ b, row.ownBlock = some b → (vs[i]).ownBlock = some b ∨ w.heap.size ≤ b) :
    Gqv lo (w'.setCell ⟨g, i, none⟩ row) (.slice (some ⟨g, 0, none⟩) n cap) (vs.set i row) (t.set i y) ∧ w'.frozen? ⟨g, i, none⟩ = false ∧ (∃ v0, w'.cell? ⟨g, i, none⟩ = some v0) := by
  have hl := h.len
  have hri := h.rows i hi' hi
  have hown := owns_grown h.own hri (by decide) hg
  have hrow : ∀ k (h1 : k < vs.length) (h2 : k < t.length), k ≠ i → Gb lo w' vs[k] t[k] := fun k h1 h2 hk => owns_grown_off (h.rows k h1 h2) (fun b hb e => h.ap k i h1 hi' hk b hb e) hg
  obtain ⟨hl2, h2⟩ := hown
  rcases h2 with ⟨h0, _⟩ | ⟨g', c', cur, hv, hlo, hh, hnc, hcm, hcs, htk⟩
  · cases h0
  injection hv with e1 e2 e3
  injection e1 with e1
  injection e1 with e1
  subst e1 e3
  have hrr : w'.rowIs g 35 cur.size (fun i => cur.getD i undef) := ⟨cur, hh, rfl, fun i hi => by simp [hi]⟩
  have hkc : i < cur.size := by omega
  refine ⟨⟨⟨by simpa using hl2, Or.inr ⟨g, cap, cur.setIfInBounds i row, by rw [List.length_set, e2], hlo, block_setCell' hh _, by simpa using hnc, hcm, by simpa using hcs, ?_⟩⟩, fun k h1 h2 => ?_, fun a b ha hb hab q e => ?_⟩, by simp [World.frozen?, hh], ⟨_, hrr.cell hkc⟩⟩
  · simp only [List.length_set, Nat.mul_one] at htk ⊢
    rw [Array.toList_setIfInBounds, List.take_set, htk]
  · rw [List.getElem_set, List.getElem_set]
    by_cases e : i = k
    · rw [if_pos e, if_pos e]
      exact hr.off hrr (by decide) _ _
    · rw [if_neg e, if_neg e]
      exact (hrow k (by simpa using h1) (by simpa using h2) (fun x => e x.symm)).off hrr (by decide) _ _
  · have hlt : ∀ k (h1 : k < vs.length) b, (vs[k]).ownBlock = some b → b < w.heap.size := fun k h1 b hb => owns_lt (h.rows k h1 (by omega)) hb
    rw [List.getElem_set] at e ⊢
    have ha' : a < vs.length := by simpa using ha
    have hb' : b < vs.length := by simpa using hb
    by_cases ea : i = a
    · rw [if_pos ea] at e
      have eb : ¬ i = b := fun x => hab (ea.symm.trans x)
      rw [if_neg eb]
      intro h3
      rcases hnew q e with h4 | h4
      · exact h.ap i b hi' hb' eb q h4 h3
      · have := hlt b hb' q h3; omega
    · rw [if_neg ea] at e
      by_cases eb : i = b
      · rw [if_pos eb]
        intro h3
        rcases hnew q h3 with h4 | h4
        · exact h.ap i a hi' ha' ea q h4 e
        · have := hlt a ha' q e; omega
      · rw [if_neg eb]
        exact h.ap a b ha' hb' hab q e
end Go.Proofs.Ytlopenephgabhaa


namespace Go.Proofs.Ytlopenephgabhaa
open Go.RowKit

theorem disj_flat {J : Nat → List Iv} : ∀ {n : Nat}, (∀ j, j < n → Disj (J j)) → (∀ i j, i < n → j < n → i ≠ j → ∀ x ∈ J i, ∀ y ∈ J j, x.1 ≠ y.1) → Disj (flat J n)
  | 0, _, _ => by simp [flat, Disj]
  | n + 1, h1, h2 => by
    rw [flat_succ]
    refine List.pairwise_append.2 ⟨disj_flat (fun j hj => h1 j (by omega)) (fun i j hi hj => h2 i j (by omega) (by omega)), h1 n (by omega), fun x hx y hy => .inl ?_⟩
    obtain ⟨j, hj, hx⟩ := List.mem_flatMap.1 hx
    have hj := List.mem_range.1 hj
    exact h2 j n (by omega) (by omega) (by omega) x hx y hy
/-- A row as an interval, and as owned. -/
theorem gb_iv {lo : Nat} {w : World} {v : Value} {xs : List Int} (h : Gb lo w v xs) (hl : xs.length ≤ 1048576) : W1 lo w.heap.size w v xs ∧ ∃ I, S1 lo w.heap.size w v I ∧ Nums lo w.heap.size w I ∧ Disj I ∧ ivSize I ≤ 1048576 ∧ ∀ x ∈ I, v.ownBlock = some x.1 := by
  obtain ⟨ad, cap, rfl⟩ := Sl.shape h.l1
  by_cases h0 : xs.length = 0
  · have e := List.eq_nil_of_length_eq_zero h0
    subst e
    exact ⟨.inl ⟨rfl, _, _, rfl⟩, [], .inl ⟨rfl, _, _, rfl⟩, fun x hx => absurd hx (by simp), by simp [Disj], by simp [ivSize], fun x hx => absurd hx (by simp)⟩
  · obtain ⟨b, rfl, hb1, hb2, hc⟩ := h.parts (by omega)
    refine ⟨.inr ⟨b, 0, cap, rfl, hb1, hb2, by omega, fun k hk => ⟨_, by rw [Nat.zero_add]; exact (hc k hk).1, rfl⟩, fun k hk => by rw [Nat.zero_add]; exact (hc k hk).2⟩, [(b, 0, xs.length)], .inr ⟨b, 0, _, cap, rfl, by omega, hl, hb1, hb2, rfl⟩, fun x hx => ?_, by simp [Disj], by simp [ivSize]; omega, fun x hx => ?_⟩
    · rw [List.mem_singleton.1 hx]
      refine ⟨hb1, hb2, fun i hi => ?_⟩
      have hi' : i < xs.length := hi
      exact ⟨⟨_, by show w.cell? ⟨b, 0 + i, none⟩ = _; rw [Nat.zero_add]; exact (hc i hi').1⟩, by show w.frozen? ⟨b, 0 + i, none⟩ = _; rw [Nat.zero_add]; exact (hc i hi').2⟩
    · rw [List.mem_singleton.1 hx]; rfl
theorem Gqv.rw2 {lo g n cap : Nat} {w : World} {vs : List Value} {t : List (List Int)} (h : Gqv lo w (.slice (some ⟨g, 0, none⟩) n cap) vs t) (hn : t.length ≤ 1048576) (hr : ∀ x ∈ t, x.length ≤ 1048576) : Rw2 lo w.heap.size w (.slice (some ⟨g, 0, none⟩) n cap) t := by
  have hl := h.len
  rcases h.own with ⟨hl2, h2⟩
  rcases h2 with ⟨h0, _⟩ | ⟨g', c', cur, hv, hlo, hh, hnc, hcm, hcs, htk⟩
  · cases h0
  injection hv with e1 e2 e3
  injection e1 with e1
  injection e1 with e1
  subst e1 e3
  subst e2
  have hgl : g < w.heap.size := (Array.getElem?_eq_some_iff.1 hh).1
  have hcell : ∀ j (hj : j < vs.length), w.cell? ⟨g, j, none⟩ = some vs[j] := fun j hj => by
    have h5 : (cur.toList.take (t.length * 1))[j]? = vs[j]? := by rw [htk]
    rw [List.getElem?_take, if_pos (by omega), List.getElem?_eq_getElem hj] at h5
    simp [World.cell?, hh]
    simpa using h5
  have hiv : ∀ j (hj : j < t.length), _ := fun j hj => gb_iv (h.rows j (by omega) hj) (hr _ (List.getElem_mem hj))
  have hex : ∀ j, j < t.length → ∃ I, S1 lo w.heap.size w (vs.getD j undef) I ∧ Nums lo w.heap.size w I ∧ Disj I ∧ ivSize I ≤ 1048576 ∧ ∀ x ∈ I, (vs.getD j undef).ownBlock = some x.1 := fun j hj => by
    rw [getD_of_lt _ (by omega : j < vs.length)]
    exact (hiv j hj).2
  obtain ⟨J, hJ⟩ := choose2 hex
  refine ⟨?_, flat J t.length, ⟨some ⟨g, 0, none⟩, t.length, cap, fun j => vs.getD j undef, J, rfl, hn, rfl, fun j hj => (hJ j hj).1, fun _ => ⟨g, 0, rfl, hlo, hgl, fun j hj => by show w.cell? ⟨g, 0 + j, none⟩ = some (vs.getD j undef); rw [Nat.zero_add, getD_of_lt _ (by omega : j < vs.length)]; exact hcell j (by omega)⟩⟩, nums_flat (fun j hj => (hJ j hj).2.1), disj_flat (fun j hj => (hJ j hj).2.2.1) (fun i j hi hj hij x hx y hy e => ?_), ?_⟩
  · by_cases h0 : t.length = 0
    · exact .inl ⟨List.eq_nil_of_length_eq_zero h0, _, _, by rw [h0]⟩
    · refine .inr ⟨g, 0, cap, rfl, hlo, hgl, by omega, fun k hk => ⟨vs[k], by rw [Nat.zero_add]; exact hcell k (by omega), (hiv k hk).1⟩, fun k hk => by simp [World.frozen?, hh]⟩
  · have a1 := (hJ i hi).2.2.2.2 x hx
    have a2 := (hJ j hj).2.2.2.2 y hy
    rw [getD_of_lt _ (by omega : i < vs.length)] at a1
    rw [getD_of_lt _ (by omega : j < vs.length), ← e] at a2
    exact h.ap i j (by omega) (by omega) hij _ a1 a2
  · have h2 := size_spans (J := J) (n := t.length) (B := 1048576) (fun j hj => (hJ j hj).2.2.2.1)
    have h3 : 1048576 * t.length ≤ 1048576 * 1048576 := Nat.mul_le_mul (Nat.le_refl _) hn
    omega
theorem Gqv.kept {lo : Nat} {w w' : World} {u : Value} {vs : List Value} {t : List (List Int)} {row : Option Nat} (h : Gqv lo w u vs t) (hg : w.grownBy w' row) (hr : ∀ r, row = some r → ∃ o : Obj, w.heap[r]? = some o ∧ o.isCells = false) : Gqv lo w' u vs t := by
  have hk : ∀ {e : TypeId} {v : Value} {n : Nat} {xs : List Value}, w.ownsRow lo e 1 v n xs → w'.ownsRow lo e 1 v n xs := fun {e v n xs} ho => by
    refine ho.kept hg ?_
    cases hv : v.ownBlock with
    | none => exact .inl rfl
    | some g =>
      refine .inr (fun e => ?_)
      obtain ⟨o, hoo, hc⟩ := hr g e.symm
      rcases ho.2 with ⟨h0, _⟩ | ⟨g', c', cur, hu, _, hh, _⟩
      · rw [h0] at hv; simp [Value.ownBlock] at hv
      · rw [hu] at hv
        simp [Value.ownBlock] at hv
        subst hv
        rw [hh] at hoo
        cases hoo
        cases hc
  exact ⟨hk h.own, fun k h1 h2 => hk (h.rows k h1 h2), h.ap⟩
end Go.Proofs.Ytlopenephgabhaa


namespace Go.Proofs.Ytlopenephgabhaa
open Go.RowKit Go.Shelf
attribute [local go_sem] Oper.semAt_some

/-- The numbers of some cells of a column. -/
def ClN (p : Int) (ds : List (List Int)) (dn : List (List (List (List Int)))) (i : Nat) (cs : List (Nat × Nat)) (xs : List Int) : Prop := xs.length = cs.length ∧ ∀ k, k < cs.length → HNum p (clD ds i) (clM dn i) (cs.getD k (0, 0)).2 (xs.getD k 0)
theorem ClN.snoc {p : Int} {ds : List (List Int)} {dn : List (List (List (List Int)))} {i : Nat} {cs : List (Nat × Nat)} {xs : List Int} (h : ClN p ds dn i cs xs) {c : Nat × Nat} {x : Int} (hx : HNum p (clD ds i) (clM dn i) c.2 x) : ClN p ds dn i (cs ++ [c]) (xs ++ [x]) := by
  have hl := h.1
  refine ⟨by simp [hl], fun k hk => ?_⟩
  by_cases e : k < cs.length
  · have h1 : (cs ++ [c]).getD k (0, 0) = cs.getD k (0, 0) := by simp [List.getD_eq_getElem?_getD, List.getElem?_append_left e]
    have h2 : (xs ++ [x]).getD k 0 = xs.getD k 0 := by simp [List.getD_eq_getElem?_getD, List.getElem?_append_left (show k < xs.length by omega)]
    rw [h1, h2]
    exact h.2 k e
  · have e2 : k = cs.length := by simp at hk; omega
    subst e2
    have h1 : (cs ++ [c]).getD cs.length (0, 0) = c := by simp [List.getD_eq_getElem?_getD]
    have h2 : (xs ++ [x]).getD cs.length 0 = x := by rw [← hl]; simp [List.getD_eq_getElem?_getD]
    rw [h1, h2]
    exact hx
def onC (i : Nat) (c : Nat × Nat) : Bool := c.1 == i
/-- The table while the cells come in. -/
def TcP (p : Int) (ds : List (List Int)) (dn : List (List (List (List Int)))) (cs : List (Nat × Nat)) (t : List (List Int)) : Prop := t.length = ds.length ∧ ∀ i, i < ds.length → ClN p ds dn i (cs.filter (onC i)) (t.getD i [])
theorem TcP.snoc {p : Int} {ds : List (List Int)} {dn : List (List (List (List Int)))} {cs : List (Nat × Nat)} {t : List (List Int)} (h : TcP p ds dn cs t) {i j : Nat} (hi : i < t.length) {x : Int} (hx : HNum p (clD ds i) (clM dn i) j x) : TcP p ds dn (cs ++ [(i, j)]) (t.set i (t[i] ++ [x])) := by
  refine ⟨by rw [List.length_set]; exact h.1, fun k hk => ?_⟩
  have hk' : k < t.length := by rw [h.1]; exact hk
  have h1 := h.2 k hk
  rw [List.filter_append, getD_of_lt _ (by rw [List.length_set]; exact hk'), List.getElem_set]
  rw [getD_of_lt _ hk'] at h1
  by_cases e : i = k
  · subst e
    rw [if_pos rfl, show List.filter (onC i) [(i, j)] = [(i, j)] by simp [onC]]
    exact h1.snoc hx
  · rw [if_neg e, show List.filter (onC k) [(i, j)] = [] by simp [onC, e], List.append_nil]
    exact h1
theorem cells_onC {ds : List (List Int)} (i : Nat) : ∀ m, (cellsTo ds m).filter (onC i) = if i < m then rowCells ds i else []
  | 0 => by simp [cellsTo]
  | m + 1 => by
    rw [cellsTo_succ, List.filter_append, cells_onC i m]
    by_cases e : m = i
    · subst e
      rw [if_neg (Nat.lt_irrefl _), if_pos (Nat.lt_succ_self _), List.nil_append]
      exact List.filter_eq_self.2 (fun c hc => by
        obtain ⟨j, _, rfl⟩ := List.mem_map.1 hc
        simp [onC])
    · have hz : (rowCells ds m).filter (onC i) = [] := List.filter_eq_nil_iff.2 (fun c hc => by
        obtain ⟨j, _, rfl⟩ := List.mem_map.1 hc
        simp [onC, e])
      rw [hz, List.append_nil]
      by_cases e2 : i < m
      · rw [if_pos e2, if_pos (by omega)]
      · rw [if_neg e2, if_neg (by omega)]
/-- The table of the column homology numbers. -/
def TcOk (p : Int) (ds : List (List Int)) (dn : List (List (List (List Int)))) (t : List (List Int)) : Prop := t.length = ds.length ∧ ∀ i, i < ds.length → (t.getD i []).length = (ds.getD i []).length ∧ ∀ j, j < (ds.getD i []).length → HNum p (clD ds i) (clM dn i) j ((t.getD i []).getD j 0)
theorem TcP.ok {p : Int} {ds : List (List Int)} {dn : List (List (List (List Int)))} {t : List (List Int)} (h : TcP p ds dn (cellsTo ds ds.length) t) : TcOk p ds dn t := by
  refine ⟨h.1, fun i hi => ?_⟩
  have h1 := h.2 i hi
  rw [cells_onC, if_pos hi] at h1
  have hl : (rowCells ds i).length = (ds.getD i []).length := by simp [rowCells]
  refine ⟨by rw [h1.1, hl], fun j hj => ?_⟩
  have h2 := h1.2 j (by rw [hl]; exact hj)
  have e : (rowCells ds i).getD j (0, 0) = (i, j) := by
    rw [getD_of_lt _ (by rw [hl]; exact hj)]
    simp [rowCells]
  rw [e] at h2
  exact h2
theorem TcOk.unique {p : Int} {ds : List (List Int)} {dn : List (List (List (List Int)))} {t t' : List (List Int)} (hp : 1 < p) (h : TcOk p ds dn t) (k : TcOk p ds dn t') : t = t' := by
  refine List.ext_getElem (by rw [h.1, k.1]) (fun i h1 h2 => ?_)
  obtain ⟨a1, a2⟩ := h.2 i (by rw [← h.1]; exact h1)
  obtain ⟨b1, b2⟩ := k.2 i (by rw [← h.1]; exact h1)
  rw [getD_of_lt _ h1] at a1 a2
  rw [getD_of_lt _ h2] at b1 b2
  refine List.ext_getElem (by rw [a1, b1]) (fun j h3 h4 => ?_)
  have a3 := a2 j (by rw [← a1]; exact h3)
  have b3 := b2 j (by rw [← a1]; exact h3)
  rw [getD_of_lt _ h3] at a3
  rw [getD_of_lt _ h4] at b3
  exact a3.unique hp b3
end Go.Proofs.Ytlopenephgabhaa


namespace Go.Proofs.Ytlopenephgabhaa
open Go.RowKit Go.Shelf
attribute [local go_sem] Oper.semAt_some

/-- The sum of the dimensions of some cells, each with its sign. -/
def eul (ds : List (List Int)) (cs : List (Nat × Nat)) : Int := cs.foldl (fun s c => if (c.1 + c.2) % 2 = 0 then s + cdim ds c else s - cdim ds c) 0
/-- What DoubleEuler answers. -/
def DeC (p : Int) (ds : List (List Int)) (ac dn : List (List (List (List Int)))) (b c : Int) : Prop := (¬ IsDb p ds ac dn ∧ b = 0 ∧ c = 1) ∨ (IsDb p ds ac dn ∧ b = eul ds (cellsTo ds ds.length) ∧ c = 0)
theorem DeC.unique {p : Int} {ds : List (List Int)} {ac dn : List (List (List (List Int)))} {b c b' c' : Int} (h : DeC p ds ac dn b c) (k : DeC p ds ac dn b' c') : b = b' ∧ c = c' := by
  rcases h with ⟨h1, rfl, rfl⟩ | ⟨h1, rfl, rfl⟩ <;> rcases k with ⟨k1, rfl, rfl⟩ | ⟨k1, rfl, rfl⟩
  · exact ⟨rfl, rfl⟩
  · exact absurd k1 h1
  · exact absurd h1 k1
  · exact ⟨rfl, rfl⟩

end Go.Proofs.Ytlopenephgabhaa


namespace Go.Proofs.Ytlopenephgabhaa
open Go.RowKit Go.Shelf
attribute [local go_sem] Oper.semAt_some

theorem made_list (m : Nat) (z : Value) : (madeCells #[z] m).toList = List.replicate m z :=
  List.ext_getElem (by simp [size_madeCells]) (fun i h1 h2 => by simp [madeCells, Nat.mod_one])
theorem Gqv.cell {lo g n cap : Nat} {w : World} {vs : List Value} {t : List (List Int)} (h : Gqv lo w (.slice (some ⟨g, 0, none⟩) n cap) vs t) {j : Nat} (hj : j < vs.length) : w.cell? ⟨g, j, none⟩ = some vs[j] ∧ ∃ cs, w.heap[g]? = some (.cells cs 35 (0, 0)) := by
  have hl := h.len
  rcases h.own with ⟨hl2, h2⟩
  rcases h2 with ⟨h0, _⟩ | ⟨g', c', cur, hv, hlo, hh, hnc, hcm, hcs, htk⟩
  · cases h0
  injection hv with e1 e2 e3
  injection e1 with e1
  injection e1 with e1
  subst e1
  refine ⟨?_, _, hh⟩
  have h5 : (cur.toList.take (t.length * 1))[j]? = vs[j]? := by rw [htk]
  rw [List.getElem?_take, if_pos (by omega), List.getElem?_eq_getElem hj] at h5
  simp [World.cell?, hh]
  simpa using h5
theorem grown_off {A X : World} {lo : Nat} {v : Value} {xs : List Int} (hr : Gb lo A v xs) (hg : A.grownBy X v.ownBlock) {k : Nat} {cs : Array Value} {ty : TypeId} (hk : A.heap[k]? = some (.cells cs ty (0, 0))) (ht : ty ≠ 2) : X.heap[k]? = A.heap[k]? := by
  refine hg.block k (Array.getElem?_eq_some_iff.1 hk).1 (fun e => ?_)
  rcases hr.2 with ⟨h0, _⟩ | ⟨g, c', cur, hu, _, hh, _⟩
  · rw [h0] at e; simp [Value.ownBlock] at e
  · rw [hu] at e
    simp [Value.ownBlock] at e
    subst e
    rw [hh] at hk
    injection hk with hk
    injection hk with _ h2
    exact ht h2.symm

theorem hloadFn (w : World) {b o : Nat} {x : Value} (h : w.cell? ⟨b, o, none⟩ = some x) : (Instr.loadAt 79 (.pointer (some ⟨b, o, none⟩))).run Try.prog w = .ok x w := by go_simp
theorem hloadDk (w : World) {b : Nat} {p : Int} {dv av vv : Value} (h : w.heap[b]? = some (.cells #[.int .i64 p, dv, av, vv] 28 (0, 0))) : (Instr.loadAt 28 (.pointer (some ⟨b, 0, none⟩))).run Try.prog w = .ok (.agg #[.int .i64 p, dv, av, vv]) w := by
  have c0 : w.cell? ⟨b, 0, none⟩ = some (.int .i64 p) := by simp [World.cell?, h]
  have c1 : w.cell? ⟨b, 1, none⟩ = some dv := by simp [World.cell?, h]
  have c2 : w.cell? ⟨b, 2, none⟩ = some av := by simp [World.cell?, h]
  have c3 : w.cell? ⟨b, 3, none⟩ = some vv := by simp [World.cell?, h]
  go_simp

set_option maxRecDepth 100000 in
set_option maxHeartbeats 8000000 in
theorem tableOfCells_any (p : Int) (dv av vv : Value) (ds : List (List Int)) (ac dn : List (List (List (List Int)))) (w : World) (h : Dx 0 w dv av vv ds ac dn) (hc : L5 0 w vv dn) (hdb : IsDb p ds ac dn) :
    Calls Try.prog 105 #[.agg #[.int .i64 p, dv, av, vv], .func (.func 69) #[] #[]] w fun e w' => ∃ u t, e = .returned u ∧ Rw2 w.heap.size w'.heap.size w' u t ∧ Below w.heap.size w w' ∧ TcOk p ds dn t := by
  have HX := Lib.hid h
  have HL := Lib.hid hc
  have HDB := Lib.hid hdb
  have HOK := Lib.hid hdb.cel
  have hl4 := hdb.cel.len1
  obtain ⟨m, hm⟩ : ∃ m, m = ds.length := ⟨_, rfl⟩
  have HM := Lib.hid hm
  obtain ⟨ad9, cd9, hdv⟩ := Sl.shape h.dims
  rw [← hm] at hdv hl4
  subst hdv
  have hx0 := (DBx.start (p := p) 28 h).next (w' := (w.alloc (.cells #[.int .i64 p, .slice ad9 m cd9, av, vv] 28)).alloc (.cells #[.func (.func 69) #[] #[]] 79)) ((Below.refl _ _).alloc (Nat.le_refl _) _)
  clear h hc hdb hm
  have hmk := run_make_row' (P := Try.prog) 22 35 (.slice none 0 0) 24 Try.underlying22 Try.infoS rfl .i64 .i64 m (by omega) (by omega)
  refine (callsIn_wide (n := 8)).1 ?_
  refine callsIn_of_wp_marks Try.func105 rfl trivial ?_
  simp only [Try.ntmps105, List.size_toArray, List.length_cons, List.length_nil, Nat.reduceAdd, Nat.reduceSub, Array.replicate_succ, Array.replicate_zero, List.push_toArray, List.append_toArray, List.nil_append, List.cons_append]
  gi_wp2_with fail
  refine ⟨trivial, (callsIn_wide.2 (cellsOf_any p _ av vv _)).mono ?_⟩
  rintro e w9 ⟨rfl, rfl⟩
  dsimp only
  gi_wp2
  obtain ⟨W2, hW2⟩ : ∃ W2, W2 = (w.alloc (.cells #[.int .i64 p, .slice ad9 m cd9, av, vv] 28)).alloc (.cells #[.func (.func 69) #[] #[]] 79) := ⟨_, rfl⟩
  have hs2 : W2.heap.size = w.heap.size + 1 + 1 := by rw [hW2]; simp
  have hd2 : W2.heap[w.heap.size]? = some (.cells #[.int .i64 p, .slice ad9 m cd9, av, vv] 28 (0, 0)) := by rw [hW2]; exact ((below_alloc1 _ _).block w.heap.size (by simp)).trans (heap_alloc_new w _)
  have hf2 : W2.heap[w.heap.size + 1]? = some (.cells #[.func (.func 69) #[] #[]] 79 (0, 0)) := by rw [hW2]; have := heap_alloc_new (w.alloc (.cells #[.int .i64 p, .slice ad9 m cd9, av, vv] 28)) (.cells #[.func (.func 69) #[] #[]] 79); simpa using this
  rw [← hW2] at hx0 ⊢
  have hq3 := gqv_made (lo := W2.heap.size) (w := W2) m (Nat.le_refl _) (by unfold maxLen; omega) _ (made_list m (.slice none 0 0))
  have hb3 : Below W2.heap.size W2 (W2.alloc (.cells (madeCells #[.slice none 0 0] m) 35)) := below_alloc1 _ _
  have hs3 : (W2.alloc (.cells (madeCells #[.slice none 0 0] m) 35)).heap.size = W2.heap.size + 1 := by simp
  obtain ⟨W3, hW3⟩ : ∃ W3, W3 = W2.alloc (.cells (madeCells #[.slice none 0 0] m) 35) := ⟨_, rfl⟩
  rw [← hW3] at hq3 hb3 hs3 ⊢
  rw [show (Value.slice (some ⟨W2.heap.size, 0, none⟩) m m) = .slice (some ⟨w.heap.size + 1 + 1, 0, none⟩) m m by rw [hs2]] at hq3
  have hz4 := Go.Boxed.new W3 22 (.slice (some ⟨w.heap.size + 1 + 1, 0, none⟩) m m)
  rw [show W3.heap.size = w.heap.size + 1 + 1 + 1 by omega] at hz4
  have hb4 : Below W3.heap.size W3 (W3.alloc (.cells #[.slice (some ⟨w.heap.size + 1 + 1, 0, none⟩) m m] 22)) := below_alloc1 _ _
  have hs4 : (W3.alloc (.cells #[.slice (some ⟨w.heap.size + 1 + 1, 0, none⟩) m m] 22)).heap.size = W3.heap.size + 1 := by simp
  obtain ⟨W4, hW4⟩ : ∃ W4, W4 = W3.alloc (.cells #[.slice (some ⟨w.heap.size + 1 + 1, 0, none⟩) m m] 22) := ⟨_, rfl⟩
  rw [← hW4] at hz4 hb4 hs4 ⊢
  have hb0 : Below W4.heap.size W4 (W4.alloc (.cells #[.int .i64 p, .slice ad9 m cd9, av, vv] 28)) := below_alloc1 _ _
  have hd0 := new_c1 W4 p (.slice ad9 m cd9) av vv
  have hs0 : (W4.alloc (.cells #[.int .i64 p, .slice ad9 m cd9, av, vv] 28)).heap.size = W4.heap.size + 1 := by simp
  obtain ⟨W0, hW0⟩ : ∃ W0, W0 = W4.alloc (.cells #[.int .i64 p, .slice ad9 m cd9, av, vv] 28) := ⟨_, rfl⟩
  rw [← hW0] at hb0 hd0 hs0 ⊢
  have hq0 := (hq3.below hb4).below hb0
  have hz0 : Go.Boxed W0 (w.heap.size + 1 + 1 + 1) 22 (.slice (some ⟨w.heap.size + 1 + 1, 0, none⟩) m m) := (hb0.block _ hz4.lt).trans hz4
  have hb20 : Below W2.heap.size W2 W0 := (hb3.trans (hb4.mono (by omega))).trans (hb0.mono (by omega))
  have hBw : Below w.heap.size w W0 := hx0.below.trans (hb20.mono (by omega))
  have HX2 := Lib.hid hx0
  have HL2 := Lib.hid (HL.out.below hx0.below)
  have HD2 := Lib.hid hd2
  have HF2 := Lib.hid hf2
  clear hW2 hW3 hW4 hW0 hq3 hb3 hz4 hb4 hb0 hd2 hf2 hx0 hmk
  have hst := cells_stops Fence.wide 7 trivial rfl (by decide) W4.heap.size (.slice ad9 m cd9) ds (by have := HM.out; omega) (fun r hr => by have := (HOK.out.col r hr).1; have := HOK.out.h1; omega) w W0 (by omega) hd0 HX.out.dims hBw
  have hT0 : TcP p ds dn [] (List.replicate m []) := ⟨by simp [HM.out], fun i hi => by
    rw [getD_of_lt _ (by simp [HM.out, hi])]
    exact ⟨by simp, fun k hk => absurd hk (by simp)⟩⟩
  have hi2 : w.heap.size + 2 ≤ W2.heap.size ∧ W2.heap.size ≤ w.heap.size + 2 := by omega
  have hi0 : w.heap.size + 5 ≤ W0.heap.size ∧ W0.heap.size ≤ w.heap.size + 5 := by omega
  clear hd0 hs2 hs3 hs4 hs0
  refine wpIn_rangeFunc_cell rfl (by decide : 1 ≤ 8) (gf := 118) (lb := #[.pointer (some ⟨W4.heap.size, 0, none⟩)]) rfl trivial (enters_of Try.func118 (by kernel_rfl) rfl)
    hst belowK_t (belowK_b (by omega)) (Below.refl _ _) (fun _ => rfl)
    (fun pre W => (∃ vs t, Gqv W2.heap.size W (.slice (some ⟨w.heap.size + 1 + 1, 0, none⟩) m m) vs t ∧ TcP p ds dn (pre.map (·.1)) t) ∧ Go.Boxed W (w.heap.size + 1 + 1 + 1) 22 (.slice (some ⟨w.heap.size + 1 + 1, 0, none⟩) m m) ∧ Below W2.heap.size W2 W) (fun _ _ _ => False)
    (OwnFrom.and (fun s X Y row ⟨vs, t, h1, h2⟩ hg hr => ⟨vs, t, h1.kept hg (fun r e => (hr r e).2), h2⟩) (OwnFrom.and (Own.from (boxed_own (β := List (CellIn ds)) _ _ (fun _ => Value.slice (some ⟨w.heap.size + 1 + 1, 0, none⟩) m m)) _) (ownFrom_below (Nat.le_refl _) (by omega)))) (fun _ _ _ _ _ h _ _ => h)
    ⟨⟨_, _, hq0, hT0⟩, hz0, hb20⟩ (fun x => #[.int .i64 (x.1.1 : Int), .int .i64 (x.1.2 : Int)]) 6 101 W2.heap.size
    ?assign ?body ?done ?stop
  case assign =>
    rintro l pre x A K ⟨⟨vs, t, hq, ht⟩, hz, hb⟩ hKK
    simp only [cellV] at hKK ⊢
    have hsz := hb.size
    gi_wp2
    have hk := hKK A.heap.size _ (by omega) (World.alloc_heap_new A _) ((KeepsOthers.alloc _ _).from _) ((Below.refl _ A).alloc (by omega) _) ⟨⟨vs, t, hq.below ((Below.refl _ A).alloc (Nat.le_refl _) _), ht⟩, (((Below.refl _ A).alloc (Nat.le_refl _) _).block _ hz.lt).trans hz, hb.trans (((Below.refl _ A).alloc (Nat.le_refl _) _).mono (by omega))⟩
    simp at hk
    refine Eq.mp ?_ hk
    congr 1
    all_goals (try congr 1)
  case body =>
    rintro l pre x Bx A hl ⟨r, hr⟩ ⟨⟨vs, t, hq, ht⟩, hz, hb⟩ hBx hX hlt
    obtain ⟨⟨i, j⟩, hxm⟩ := x
    dsimp only at hX
    have hmf := mem_cells.1 hxm
    dsimp only at hmf
    have htl : t.length = m := by rw [ht.1]; exact HM.out.symm
    have hvl := hq.len
    have him : i < m := by have := HM.out; omega
    have hiv : i < vs.length := by omega
    have hit : i < t.length := by omega
    have hrow := hq.rows i hiv hit
    obtain ⟨hcell, cs, htab⟩ := hq.cell hiv
    have hsz := hb.size
    have hjd : j < (clD ds i).length := hmf.2
    have hrl : (t[i]).length ≤ 1000 := by
      have h1 := (ht.2 i hmf.1).1
      rw [getD_of_lt _ hit] at h1
      have h2 : (List.filter (onC i) (pre.map (·.1))).length ≤ pre.length := Nat.le_trans (List.length_filter_le _ _) (by simp)
      have h3 := cells_le HOK.out
      omega
    obtain ⟨rv, hrv⟩ : ∃ rv, rv = vs[i] := ⟨_, rfl⟩
    obtain ⟨ar, cr, hsh⟩ := Sl.shape hrow.l1
    rw [← hrv] at hrow hcell hsh
    have HQ := Lib.hid hq
    have HT := Lib.hid ht
    have HROW := Lib.hid hrow
    have HRV := Lib.hid hrv
    have HB := Lib.hid hb
    have HGO : Hid (∀ X, A.grownBy X rv.ownBlock → X.cell? ⟨w.heap.size + 1 + 1 + 1, 0, none⟩ = some (.slice (some ⟨w.heap.size + 1 + 1, 0, none⟩) m m) ∧ X.cell? ⟨Bx, 0, none⟩ = some (.int .i64 (i : Int)) ∧ X.cell? ⟨Bx, 1, none⟩ = some (.int .i64 (j : Int)) ∧ X.cell? ⟨w.heap.size + 1 + 1, i, none⟩ = some rv ∧ X.cell? ⟨w.heap.size + 1, 0, none⟩ = some (.func (.func 69) #[] #[]) ∧ X.heap[w.heap.size]? = some (.cells #[.int .i64 p, .slice ad9 m cd9, av, vv] 28 (0, 0)) ∧ X.frozen? ⟨w.heap.size + 1 + 1, i, none⟩ = false ∧ Go.Boxed X (w.heap.size + 1 + 1 + 1) 22 (.slice (some ⟨w.heap.size + 1 + 1, 0, none⟩) m m)) := Lib.hid (fun X hg => by
      have g1 := grown_off hrow hg (show A.heap[w.heap.size + 1 + 1 + 1]? = _ from hz) (by decide)
      have g2 := grown_off hrow hg hX (by decide)
      have g3 := grown_off hrow hg htab (by decide)
      have hfa : A.heap[w.heap.size + 1]? = _ := (hb.block (w.heap.size + 1) (by omega)).trans HF2.out
      have hda : A.heap[w.heap.size]? = _ := (hb.block w.heap.size (by omega)).trans HD2.out
      have g4 := grown_off hrow hg hfa (by decide)
      have g5 := grown_off hrow hg hda (by decide)
      have z1 : X.heap[w.heap.size + 1 + 1 + 1]? = some (.cells #[.slice (some ⟨w.heap.size + 1 + 1, 0, none⟩) m m] 22 (0, 0)) := g1.trans hz
      exact ⟨by simp [World.cell?, z1], by simp [World.cell?, g2.trans hX], by simp [World.cell?, g2.trans hX], (World.cell?_of_block g3).trans hcell, by simp [World.cell?, g4.trans hfa], g5.trans hda, by simp [World.frozen?, g3.trans htab], z1⟩)
    have HCALL : Hid (∀ X, Below A.heap.size A X → Calls Try.prog 69 #[.agg #[.int .i64 p, .slice ad9 m cd9, av, vv], .agg #[.int .i64 (i : Int), .int .i64 (j : Int)]] X (NumR p (clD ds i) (clM dn i) j X)) := Lib.hid (fun X hx => columnNumber_any p i j _ _ _ ds ac dn X (HX2.out.dx.below (hb.trans (hx.mono (by omega)))) (HL2.out.below (hb.trans (hx.mono (by omega)))) HDB.out hmf.1 hjd)
    clear hq ht hrow hb hr hX hmf hcell htab hz hrv hlt
    subst hsh
    gi_wp2_with fail
    refine wpIn_region_last (fun X => A.grownBy X (Value.slice ar (t[i]).length cr).ownBlock) 15 (by kernel_rfl) (by kernel_rfl) (fun ⟨_, _, h⟩ => h) rfl (by kernel_rfl) ?_
    have S0 : A.grownBy A.drew (Value.slice ar (t[i]).length cr).ownBlock := ⟨rfl, rfl, rfl, Nat.le_refl _, fun _ _ _ => rfl⟩
    have hbd : Below A.heap.size A A.drew := (Below.refl _ _).drew
    change wpAnyH _ _ _ _ _ _ _ _ A.drew
    generalize A.drew = wd at *
    refine held_take (i := 0) (v := .slice (some ⟨w.heap.size + 1 + 1, 0, none⟩) m m) (some 14) rfl rfl (by kernel_rfl) (by kernel_rfl) (by kernel_rfl) (fun _ _ _ h => h) (yieldsIf_cell (by kernel_rfl) rfl (by kernel_rfl) (fun W h => hload2s W (HGO.out W h).1)) S0 ?_
    refine held_take (i := 1) (v := .pointer (some ⟨Bx, 0, none⟩)) (some 15) rfl rfl (by kernel_rfl) (by kernel_rfl) (by kernel_rfl) (fun _ _ _ h => h) (yieldsIf_run (by kernel_rfl) (fun W _ => by kernel_rfl)) S0 ?_
    refine held_take (i := 2) (v := .int .i64 (i : Int)) (some 16) rfl rfl (by kernel_rfl) (by kernel_rfl) (by kernel_rfl) (fun _ _ _ h => h) (yieldsIf_cell (by kernel_rfl) rfl (by kernel_rfl) (fun W h => hloadIn W (HGO.out W h).2.1)) S0 ?_
    refine held_take (i := 3) (v := .slice (some ⟨w.heap.size + 1 + 1, 0, none⟩) m m) (some 17) rfl rfl (by kernel_rfl) (by kernel_rfl) (by kernel_rfl) (fun _ _ _ h => h) (yieldsIf_cell (by kernel_rfl) rfl (by kernel_rfl) (fun W h => hload2s W (HGO.out W h).1)) S0 ?_
    refine held_take (i := 4) (v := .pointer (some ⟨Bx, 0, none⟩)) (some 18) rfl rfl (by kernel_rfl) (by kernel_rfl) (by kernel_rfl) (fun _ _ _ h => h) (yieldsIf_run (by kernel_rfl) (fun W _ => by kernel_rfl)) S0 ?_
    refine held_take (i := 5) (v := .int .i64 (i : Int)) (some 19) rfl rfl (by kernel_rfl) (by kernel_rfl) (by kernel_rfl) (fun _ _ _ h => h) (yieldsIf_cell (by kernel_rfl) rfl (by kernel_rfl) (fun W h => hloadIn W (HGO.out W h).2.1)) S0 ?_
    refine held_take (i := 6) (v := .pointer (some ⟨w.heap.size + 1 + 1, 0 + i, none⟩)) (some 20) rfl rfl (by kernel_rfl) (by kernel_rfl) (by kernel_rfl) (fun _ _ _ h => h) (yieldsIf_index (by kernel_rfl) rfl (by kernel_rfl) (by kernel_rfl) (hidx2s (w.heap.size + 1 + 1) 0 m him)) S0 ?_
    refine held_take (i := 7) (v := .slice ar (t[i]).length cr) (some 21) rfl rfl (by kernel_rfl) (by kernel_rfl) (by kernel_rfl) (fun _ _ _ h => h) (yieldsIf_cell (by kernel_rfl) rfl (by kernel_rfl) (fun W h => hload1s (b := w.heap.size + 1 + 1) (o := 0 + i) W (by rw [Nat.zero_add]; exact (HGO.out W h).2.2.2.1))) S0 ?_
    refine held_take (i := 8) (v := .func (.func 69) #[] #[]) (some 22) rfl rfl (by kernel_rfl) (by kernel_rfl) (by kernel_rfl) (fun _ _ _ h => h) (yieldsIf_cell (by kernel_rfl) rfl (by kernel_rfl) (fun W h => hloadFn W (HGO.out W h).2.2.2.2.1)) S0 ?_
    refine held_take (i := 9) (v := .agg #[.int .i64 p, .slice ad9 m cd9, av, vv]) (some 23) rfl rfl (by kernel_rfl) (by kernel_rfl) (by kernel_rfl) (fun _ _ _ h => h) (yieldsIf_cell (by kernel_rfl) rfl (by kernel_rfl) (fun W h => hloadDk W (HGO.out W h).2.2.2.2.2.1)) S0 ?_
    refine held_take (i := 10) (v := .agg #[.int .i64 (i : Int), .int .i64 (j : Int)]) (some 24) rfl rfl (by kernel_rfl) (by kernel_rfl) (by kernel_rfl) (fun _ _ _ h => h) (yieldsIf_cell (by kernel_rfl) rfl (by kernel_rfl) (fun W h => hloadCe W (HGO.out W h).2.1 (HGO.out W h).2.2.1)) S0 ?_
    refine held_enter (i := 11) (some 25) (f := 69) (args := #[.agg #[.int .i64 p, .slice ad9 m cd9, av, vv], .agg #[.int .i64 (i : Int), .int .i64 (j : Int)]]) (by kernel_rfl) rfl rfl rfl (by kernel_rfl) (HCALL.out wd hbd) ?_ (fun c w' h => by obtain ⟨_, h, _⟩ := h; cases h) (fun w' h => by obtain ⟨_, h, _⟩ := h; cases h)
    rintro u6 w6 ⟨x, hu, hb6, hxn⟩
    injection hu with hu
    subst hu
    have hbB : Below A.heap.size A w6 := hbd.trans (hb6.mono hbd.size)
    have S6 : A.grownBy w6 (Value.slice ar (t[i]).length cr).ownBlock := ⟨hbB.os, hbB.tape, hbB.output, hbB.size, fun k hk _ => hbB.block k hk⟩
    refine ⟨S6, ?_⟩
    obtain ⟨w7, hw7⟩ : ∃ w7, w7 = w6.alloc (.cells #[.int .i64 x] 2) := ⟨_, rfl⟩
    have hb7 : Below A.heap.size A w7 := hbB.trans ((by rw [hw7]; exact below_alloc1 _ _ : Below w6.heap.size w6 w7).mono hbB.size)
    have hl7 : L1 0 w7 (.slice (some ⟨w6.heap.size, 0, none⟩) 1 1) [x] := .inr ⟨w6.heap.size, 0, 1, rfl, Nat.zero_le _, by simp, fun k hk => by
      have hk0 : k = 0 := by simpa using hk
      subst hk0
      exact ⟨.int .i64 x, by rw [hw7]; simp, rfl⟩⟩
    have S7 : A.grownBy w7 (Value.slice ar (t[i]).length cr).ownBlock := ⟨hb7.os, hb7.tape, hb7.output, hb7.size, fun k hk _ => hb7.block k hk⟩
    refine held_mem (i := 12) (v := .slice (some ⟨w6.heap.size, 0, none⟩) 1 1) (w' := w7) (some 26) (by kernel_rfl) rfl rfl rfl (by rw [hw7]; go_simp) S7 ?_
    have hq7 := HQ.out.below hb7
    have hr7 := HROW.out.below hb7
    obtain ⟨v8, W8, hrun, hg8, hgr8, hown8⟩ := run_append_at w7 35 (.slice ar (t[i]).length cr) (t[i]) hr7 (.slice (some ⟨w6.heap.size, 0, none⟩) 1 1) [x] hl7 (by simp; omega) (by have := hb7.size; omega)
    have S8 : A.grownBy W8 (Value.slice ar (t[i]).length cr).ownBlock := ⟨hgr8.os.trans S7.os, hgr8.tape.trans S7.tape, hgr8.output.trans S7.output, Nat.le_trans S7.size hgr8.size, fun k hk hne => (hgr8.block k (Nat.lt_of_lt_of_le hk S7.size) hne).trans (S7.block k hk hne)⟩
    refine held_app (i := 13) (v := v8) (w' := W8) (x := .slice ar (t[i]).length cr) (y := .slice (some ⟨w6.heap.size, 0, none⟩) 1 1) (some 27) #[35, 35] (.tmp 21) (.tmp 26) (by kernel_rfl) rfl rfl rfl rfl (by kernel_rfl) (by kernel_rfl) (fun _ => hrun) S8 ?_
    obtain ⟨hq9, hfz9, u9, hc9⟩ := hq7.turn (row := v8) (y := t[i] ++ [x]) hit hiv (by rw [← HRV.out]; exact hgr8) hg8 (fun b hbk => by
      rw [← HRV.out]
      rcases hown8 with h1 | h1
      · exact .inl (h1.symm.trans hbk)
      · rw [h1] at hbk; injection hbk with hbk; exact .inr (by omega))
    have hT9 := HT.out.snoc hit (i := i) (j := j) hxn
    refine held_take (i := 14) (v := .pointer (some ⟨w.heap.size + 1 + 1, 0 + i, none⟩)) (some 28) rfl rfl (by kernel_rfl) (by kernel_rfl) (by kernel_rfl) (fun _ _ _ h => h) (yieldsIf_index (by kernel_rfl) rfl (by kernel_rfl) (by kernel_rfl) (hidx2s (w.heap.size + 1 + 1) 0 m him)) S8 ?_
    have hkeep : KeepsFrom W0.heap.size A (W8.setCell ⟨w.heap.size + 1 + 1, i, none⟩ v8) := KeepsFrom.trans ⟨S8.size, fun k o _ hk hc => (S8.block k (Array.getElem?_eq_some_iff.1 hk).1 (fun e => by
      rcases HROW.out.2 with ⟨h0, _⟩ | ⟨g, c', cur, hu, _, hh, _⟩
      · rw [h0] at e; simp [Value.ownBlock] at e
      · rw [hu] at e
        simp [Value.ownBlock] at e
        subst e
        rw [hh] at hk
        cases hk
        cases hc)).trans hk⟩ ((KeepsOthers.setCell _ _ _).from _)
    have hbel : ∀ n0 w0, n0 ≤ w.heap.size + 2 → n0 ≤ A.heap.size → Below n0 w0 A → (∀ g, (Value.slice ar (t[i]).length cr).ownBlock = some g → n0 ≤ g) → Below n0 w0 (W8.setCell ⟨w.heap.size + 1 + 1, i, none⟩ v8) := fun n0 w0 h1 h2 h3 h4 => (h3.grown S8 h2 h4).setCell (p := ⟨w.heap.size + 1 + 1, i, none⟩) (by show n0 ≤ w.heap.size + 1 + 1; omega) _
    have hown : ∀ g, (Value.slice ar (t[i]).length cr).ownBlock = some g → W2.heap.size ≤ g := fun g hg => (HROW.out.lt g hg).1
    have hF1 := hbel w.heap.size A (by omega) (by omega) (Below.refl _ _) (fun g hg => by have := hown g hg; omega)
    have hF2 := hbel W2.heap.size W2 (by omega) (by omega) HB.out hown
    have hbz : Go.Boxed (W8.setCell ⟨w.heap.size + 1 + 1, i, none⟩ v8) (w.heap.size + 1 + 1 + 1) 22 (.slice (some ⟨w.heap.size + 1 + 1, 0, none⟩) m m) := (Below.heap_setCell W8 ⟨w.heap.size + 1 + 1, i, none⟩ v8 _ (by show w.heap.size + 1 + 1 + 1 ≠ w.heap.size + 1 + 1; omega)).trans (HGO.out W8 S8).2.2.2.2.2.2.2
    have e9 : (pre ++ ([⟨(i, j), hxm⟩] : List (CellIn ds))).map (·.1) = pre.map (·.1) ++ [(i, j)] := by rw [List.map_append]; rfl
    rw [← e9] at hT9
    obtain ⟨a8, c8, hv8⟩ := Sl.shape hg8.l1
    generalize hn8 : (t[i] ++ [x]).length = n8 at hv8
    subst hv8
    refine held_none (i := 15) (v := .bool false) rfl rfl (by kernel_rfl) (by kernel_rfl) (by kernel_rfl) (fun _ _ _ h => h) (yieldsIf_move (by kernel_rfl) rfl (by kernel_rfl)) S8 ?_
    refine wpAnyH_done (by kernel_rfl) (lastQ_storeN rfl (by kernel_rfl) (by kernel_rfl) (.tmp 28) (.tmp 27) (by kernel_rfl) (w.heap.size + 1 + 1) (0 + i) a8 n8 c8 u9 (by kernel_rfl) (by kernel_rfl) (by rw [Nat.zero_add]; exact hc9) (by rw [Nat.zero_add]; exact hfz9) ?_) _
    rw [Nat.zero_add]
    exact ⟨hkeep, hF1, ⟨⟨_, _, hq9, hT9⟩, hbz, hF2⟩⟩
  case done =>
    rintro D zs A hD hS ⟨⟨vs, t, hq, ht⟩, hz, hb⟩ hKD
    rw [hS] at ht
    have zc := hz.cell
    have HKD := Lib.hid hKD
    have HQ := Lib.hid hq
    have HT := Lib.hid ht.ok
    have HB := Lib.hid hb
    have hsz := hb.size
    clear hz hq ht hb hKD hS
    gi_wp2
    refine ⟨by simp, .inl ⟨_, _, rfl, run_takeDeferred HKD.out, ?_⟩⟩
    have hqf := (HQ.out.kept (grownBy_putObj' A D (.deferred none)) (fun r e => by cases e; exact ⟨_, HKD.out, rfl⟩)).rw2 (by have := HT.out.1; have := HM.out; omega) (fun y hy => by
      obtain ⟨k, hk, rfl⟩ := List.getElem_of_mem hy
      have h1 := HT.out.1
      have h2 := (HT.out.2 k (by omega)).1
      rw [getD_of_lt _ hk] at h2
      have h3 := (cl_len HOK.out (show k < ds.length by omega)).2
      unfold clD at h3
      omega)
    refine ⟨_, results_tmp rfl _ _ _, ?_⟩
    exact ⟨.slice (some ⟨w.heap.size + 1 + 1, 0, none⟩) m m, rfl, t, hqf.wider (by omega) (Nat.le_refl _), (HX2.out.below.trans (HB.out.mono (by omega))).trans (belowK_b (w := w) (Nat.le_refl _) _ D _ _ (by omega) HKD.out rfl rfl), HT.out⟩
  case stop =>
    rintro D c pre A hD _ hf hKD
    exact hf.elim
end Go.Proofs.Ytlopenephgabhaa


namespace Go.Proofs.Ytlopenephgabhaa
open Go.RowKit

open Classical in
noncomputable def chCode (p : Int) (ds : List (List Int)) (ac dn : List (List (List (List Int)))) : Int := if IsDb p ds ac dn then 0 else 1
theorem chCode_1 {p : Int} {ds : List (List Int)} {ac dn : List (List (List (List Int)))} (h : ¬ IsDb p ds ac dn) : chCode p ds ac dn = 1 := if_neg h
theorem chCode_0 {p : Int} {ds : List (List Int)} {ac dn : List (List (List (List Int)))} (h : IsDb p ds ac dn) : chCode p ds ac dn = 0 := if_pos h

set_option maxHeartbeats 3200000 in
set_option maxRecDepth 100000 in
theorem numbersOfCells_any (p : Int) (dv av vv : Value) (ds : List (List Int)) (ac dn : List (List (List (List Int)))) (w : World) (h : Dx 0 w dv av vv ds ac dn) (hc : L5 0 w vv dn) (hbd : Bd2 1048576 ds) (hba : Bd4 1048576 ac) (hbv : Bd4 1048576 dn) :
    Calls Try.prog 68 #[.agg #[.int .i64 p, dv, av, vv], .bool false, .func (.func 69) #[] #[]] w (AnsW Rw2 (TcOk p ds dn) [] (chCode p ds ac dn) w) := by
  obtain ⟨w1, hw1⟩ : ∃ w1, w1 = w.alloc (.cells #[.int .i64 p, dv, av, vv] 28) := ⟨_, rfl⟩
  have HX1 : Hid (DBx w w1 w.heap.size p dv av vv ds ac dn) := Lib.hid (by rw [hw1]; exact DBx.start 28 h)
  have HL1 := Lib.hid (hc.below HX1.out.below)
  have HID := Lib.hid (isDouble_any p dv av vv ds ac dn w1 HX1.out.dx hbd hba hbv)
  have c0 := HX1.out.c0
  have c1 := HX1.out.c1
  have c2 := HX1.out.c2
  have c3 := HX1.out.c3
  obtain ⟨cc, hcc⟩ : ∃ cc, cc = chCode p ds ac dn := ⟨_, rfl⟩
  have HCC := Lib.hid hcc
  rw [← hcc]
  clear h hc hbd hba hbv hcc
  go_enter Try.func68, Try.ntmps68
  go_upto_region 1 with fail
  rw [← hw1]
  clear hw1
  go_wp2_with fail
  refine HID.out.mono ?_
  rintro e w2 ⟨bb, rfl, hb2, hbb⟩
  have HX2 := Lib.hid (HX1.out.next hb2)
  have HL2 := Lib.hid (HL1.out.below hb2)
  have HBB := Lib.hid hbb
  clear hb2 hbb c0 c1 c2 c3 HID
  cases bb with
  | false =>
    have hno : ¬ IsDb p ds ac dn := fun h => by have := HBB.out.2 h; cases this
    obtain rfl : cc = 1 := HCC.out.trans (chCode_1 hno)
    clear hno
    go_wp2
    go_ret2
    exact ⟨.slice none 0 0, [], 1, rfl, Rw2.nil _ _ _, HX2.out.below, RsOut.of_no (by decide)⟩
  | true =>
    have HDB : Hid (IsDb p ds ac dn) := Lib.hid (HBB.out.1 rfl)
    obtain rfl : cc = 0 := HCC.out.trans (chCode_0 HDB.out)
    have c0 := HX2.out.c0
    have c1 := HX2.out.c1
    have c2 := HX2.out.c2
    have c3 := HX2.out.c3
    clear HBB
    go_wp2_with fail
    refine (tableOfCells_any p dv av vv ds ac dn w2 HX2.out.dx HL2.out HDB.out).mono ?_
    rintro e w3 ⟨u, t, rfl, hrw, hb3, hok⟩
    have HRW := Lib.hid hrw
    have HB3 := Lib.hid hb3
    have HOK := Lib.hid hok
    have hsz := HX2.out.below.size
    clear c0 c1 c2 c3 hrw hb3 hok
    go_wp2
    go_ret2
    exact ⟨u, t, 0, rfl, HRW.out.wider hsz (Nat.le_refl _), HX2.out.below.trans (HB3.out.mono hsz), RsOut.of_yes rfl HOK.out⟩

set_option maxHeartbeats 3200000 in
set_option maxRecDepth 100000 in
theorem columnHomology_any (p : Int) (dv av vv : Value) (ds : List (List Int)) (ac dn : List (List (List (List Int)))) (w : World) (h : Dx 0 w dv av vv ds ac dn) (hc : L5 0 w vv dn) (hbd : Bd2 1048576 ds) (hba : Bd4 1048576 ac) (hbv : Bd4 1048576 dn) :
    Calls Try.prog 25 #[.agg #[.int .i64 p, dv, av, vv]] w (AnsW Rw2 (TcOk p ds dn) [] (chCode p ds ac dn) w) := by
  obtain ⟨w1, hw1⟩ : ∃ w1, w1 = w.alloc (.cells #[.int .i64 p, dv, av, vv] 28) := ⟨_, rfl⟩
  have HX1 : Hid (DBx w w1 w.heap.size p dv av vv ds ac dn) := Lib.hid (by rw [hw1]; exact DBx.start 28 h)
  have HNC := Lib.hid (numbersOfCells_any p dv av vv ds ac dn w1 HX1.out.dx (hc.below HX1.out.below) hbd hba hbv)
  have c0 := HX1.out.c0
  have c1 := HX1.out.c1
  have c2 := HX1.out.c2
  have c3 := HX1.out.c3
  clear h hc hbd hba hbv
  go_enter Try.func25, Try.ntmps25
  go_upto_region 1 with fail
  rw [← hw1]
  clear hw1
  go_wp2_with fail
  refine HNC.out.mono ?_
  rintro e w2 ⟨u, t, c, rfl, hrw, hb2, hrs⟩
  have HRW := Lib.hid hrw
  have HB2 := Lib.hid hb2
  have HRS := Lib.hid hrs
  have hsz := HX1.out.below.size
  clear c0 c1 c2 c3 hrw hb2 hrs HNC
  go_wp2
  go_ret2
  exact ⟨u, t, c, rfl, HRW.out.wider hsz (Nat.le_refl _), HX1.out.below.trans (HB2.out.mono hsz), HRS.out⟩
end Go.Proofs.Ytlopenephgabhaa


namespace Go.Proofs.Ytlopenephgabhaa
open Go.RowKit

theorem row_at {w : World} {u : Value} {t : List (List Int)} {r : Nat} (h : L2 0 w u t) (hr : r < t.length) : ∃ b o c ur, u = .slice (some ⟨b, o, none⟩) t.length c ∧ w.cell? ⟨b, o + r, none⟩ = some ur ∧ L1 0 w ur t[r] := by
  rcases h with ⟨hx, _⟩ | ⟨b, o, c, rfl, _, _, hcl⟩
  · exact absurd (hx ▸ hr) (Nat.not_lt_zero _)
  obtain ⟨u1, hu1, hr1⟩ := hcl r hr
  exact ⟨b, o, c, u1, rfl, hu1, hr1⟩

set_option maxRecDepth 100000 in
set_option maxHeartbeats 12800000 in
theorem l03Square_any (p : Int) (hp : IsP p) (dv av vv : Value) (ds : List (List Int)) (ac dn : List (List (List (List Int)))) (w : World) (h : Dx 0 w dv av vv ds ac dn) (hok : DclOk ds) (htb : TbsOk p ds ac dn) :
    Calls Try.prog 91 #[.agg #[.int .i64 p, dv, av, vv]] w (BB (∀ c ∈ cellsTo ds ds.length, SqCell p ds ac dn c) w) := by
  obtain ⟨PP, hPP⟩ : ∃ P : Prop, P = (∀ c ∈ cellsTo ds ds.length, SqCell p ds ac dn c) := ⟨_, rfl⟩
  rw [← hPP]
  have HPI : Hid (PP ↔ (∀ c ∈ cellsTo ds ds.length, SqCell p ds ac dn c)) := Lib.hid (by rw [hPP])
  clear hPP
  have HP := Lib.hid hp
  have HOK := Lib.hid hok
  have HTB := Lib.hid htb
  have HX := Lib.hid h
  have hm4 := hok.len1
  have hm1 := hok.len0
  have hq1 := hok.h0
  have hq4 := hok.h1
  rcases h.dims with ⟨hx, _⟩ | ⟨bb, o, cd, rfl, _, hpos, hcl⟩
  · subst hx; simp at hm1
  have HCL := Lib.hid hcl
  obtain ⟨u0, hu0, hr0⟩ := hcl 0 hpos
  rw [Nat.add_zero] at hu0
  obtain ⟨a0, z0, rfl⟩ := Sl.shape hr0
  rw [← getD_of_lt [] hpos] at hu0
  clear hcl hr0 h hp hok htb
  obtain ⟨aa, ca', rfl⟩ := Sl.shape HX.out.across
  obtain ⟨ae, ce', rfl⟩ := Sl.shape HX.out.down
  obtain ⟨m, hm⟩ : ∃ m, m = ds.length := ⟨_, rfl⟩
  obtain ⟨q, hq⟩ : ∃ q, q = (ds.getD 0 []).length := ⟨_, rfl⟩
  obtain ⟨n1, hn1⟩ : ∃ n, n = ac.length := ⟨_, rfl⟩
  obtain ⟨n4, hn4⟩ : ∃ n, n = dn.length := ⟨_, rfl⟩
  have hn1m : m ≤ n1 := by rw [hn1, hm]; exact Nat.le_of_eq HTB.out.la.symm
  have hn4m : m ≤ n4 := by rw [hn4, hm]; exact Nat.le_of_eq HTB.out.ld.symm
  rw [← hm, ← hn1, ← hn4] at HX ⊢
  rw [← hm] at hm4 hm1 hpos
  rw [← hq] at hq1 hq4 hu0
  have HN1 := Lib.hid hn1
  have HN4 := Lib.hid hn4
  have HM := Lib.hid hm
  have HQ := Lib.hid hq
  clear hn1 hn4 hm hq
  have hx0 := DBx.start (p := p) 28 HX.out
  have hBa : Below w.heap.size w (w.alloc (.cells #[.int .i64 p, .slice (some ⟨bb, o, none⟩) m cd, .slice aa n1 ca', .slice ae n4 ce'] 28)) := (Below.refl _ _).alloc (Nat.le_refl _) _
  have hu1 := later hBa (Nat.le_refl _) hu0
  clear hBa hu0
  obtain ⟨w1, hw1⟩ : ∃ w1, w1 = w.alloc (.cells #[.int .i64 p, .slice (some ⟨bb, o, none⟩) m cd, .slice aa n1 ca', .slice ae n4 ce'] 28) := ⟨_, rfl⟩
  rw [← hw1] at hx0 hu1
  have HX1 := Lib.hid hx0
  have HU1 := Lib.hid hu1
  have HNX : Hid (∀ W, Below w1.heap.size w1 W → DBx w W w.heap.size p (.slice (some ⟨bb, o, none⟩) m cd) (.slice aa n1 ca') (.slice ae n4 ce') ds ac dn ∧ W.cell? ⟨bb, o, none⟩ = some (.slice a0 q z0)) := Lib.hid (fun W hb => ⟨HX1.out.next hb, later hb (Nat.le_refl _) HU1.out⟩)
  have HSTEP : Hid (∀ W, Below w1.heap.size w1 W → ∀ (b : Bool) (i j : Int) (va : Value) (v : List Int), L1 0 W va v → v.length ≤ 40 → -1 ≤ i ∧ i ≤ 4 → -1 ≤ j ∧ j ≤ 4 → StOk p ds ac dn i j v b → Calls Try.prog 116 #[.agg #[.int .i64 p, .slice (some ⟨bb, o, none⟩) m cd, .slice aa n1 ca', .slice ae n4 ce'], .int .i64 i, .int .i64 j, va, .bool b] W fun e w' => ∃ u, e = .returned u ∧ L1 0 w' u (stp p ds ac dn i j v b) ∧ Below W.heap.size W w') := Lib.hid (fun W hb b i j va v hv hl hi hj hs => l03Step_any b p i j _ _ _ va ds ac dn v W (HNX.out W hb).1.dx HOK.out HTB.out hv hl hi hj hs)
  have c0 := hx0.c0
  have c1 := hx0.c1
  clear hx0 hu1
  go_enter Try.func91, Try.ntmps91
  go_wp2
  rw [← hw1]
  clear hw1 c0 c1
  go_loopw [4, 5, 6, 7, 8, 9, 10] (fun i _ _ _ _ _ _ wr => ∃ a : Nat, a ≤ m ∧ i = .int .i64 a ∧ Hid (Below w1.heap.size w1 wr) ∧ Hid (∀ c ∈ cellsTo ds ds.length, c.1 < a → SqCell p ds ac dn c)) (fun i _ _ _ _ _ _ _ => m - (intOf i).toNat)
  case atStart => exact ⟨0, Nat.zero_le _, rfl, Lib.hid (Below.refl _ _), Lib.hid (fun _ _ h => absurd h (Nat.not_lt_zero _))⟩
  case round =>
    obtain ⟨a, ha, rfl, HBwx, HA⟩ := hrel
    obtain ⟨wx, hwx⟩ : ∃ wx : World, wx = wr := ⟨_, rfl⟩
    subst hwx
    have hnx := HNX.out wx HBwx.out
    have c0 := hnx.1.c0
    have c1 := hnx.1.c1
    have c2 := hnx.1.c2
    have c3 := hnx.1.c3
    have hu0 := hnx.2
    clear hnx
    by_cases hlt : a < m
    · have hlti : (a : Int) < (m : Int) := by omega
      go_wp2
      clear c0 c1 c2 c3 hu0
      go_loopw [5, 6, 7, 8, 9, 10] (fun j _ _ _ _ _ wr => ∃ b : Nat, b ≤ q ∧ j = .int .i64 b ∧ Hid (Below w1.heap.size w1 wr) ∧ Hid (∀ b', b' < b → SqCell p ds ac dn (a, b'))) (fun j _ _ _ _ _ _ => q - (intOf j).toNat)
      case atStart => exact ⟨0, Nat.zero_le _, rfl, HBwx, Lib.hid (fun _ h => absurd h (Nat.not_lt_zero _))⟩
      case round =>
        clear HBwx
        obtain ⟨b, hb, rfl, HBwy, HBC⟩ := hrel
        obtain ⟨wy, hwy⟩ : ∃ wy : World, wy = wr := ⟨_, rfl⟩
        subst hwy
        have hnx := HNX.out wy HBwy.out
        have c0 := hnx.1.c0
        have c1 := hnx.1.c1
        have c2 := hnx.1.c2
        have c3 := hnx.1.c3
        have hu0 := hnx.2
        clear hnx
        by_cases hltb : b < q
        · have hltj : (b : Int) < (q : Int) := by omega
          have hal : a < ds.length := by rw [← HM.out]; exact hlt
          have hc : (a, b) ∈ cellsTo ds ds.length := mem_cells.2 ⟨hal, by dsimp only; rw [getD_of_lt _ hal, (HOK.out.col _ (List.getElem_mem hal)).1, ← HQ.out]; exact hltb⟩
          have HC := Lib.hid hc
          obtain ⟨d, hd⟩ : ∃ d, d = cdim ds (a, b) := ⟨_, rfl⟩
          have hd4 : d ≤ 4 := by rw [hd]; exact (cdim_cast HOK.out hc).2
          have HD := Lib.hid hd
          have hdv : (d : Int) = (ds.getD a []).getD b 0 := by rw [hd, (cdim_cast HOK.out hc).1, dcl_nat]
          obtain ⟨ui, hui, hri⟩ := HCL.out a hal
          have hbl : b < (ds[a]).length := by rw [(HOK.out.col _ (List.getElem_mem hal)).1, ← HQ.out]; exact hltb
          rcases hri with ⟨hx, _⟩ | ⟨bi, oi, ci, rfl, hpa, hpb, hci⟩
          · rw [hx] at hbl; exact absurd hbl (Nat.not_lt_zero _)
          obtain ⟨ue, hue, hre⟩ := hci b hbl
          have hre' : ue = .int .i64 (d : Int) := by rw [hdv, getD_of_lt _ hal, getD_of_lt _ hbl]; exact hre
          subst hre'
          rw [(HOK.out.col _ (List.getElem_mem hal)).1, ← HQ.out] at hui
          have HUI : Hid (∀ W, Below w1.heap.size w1 W → W.cell? ⟨bb, o + a, none⟩ = some (.slice (some ⟨bi, oi, none⟩) q ci) ∧ W.cell? ⟨bi, oi + b, none⟩ = some (.int .i64 (d : Int))) := Lib.hid (fun W hb => ⟨later (HX1.out.below.trans (hb.mono HX1.out.below.size)) (Nat.le_refl _) hui, later (HX1.out.below.trans (hb.mono HX1.out.below.size)) (Nat.le_refl _) hue⟩)
          clear hui hue hci hre hdv hd hc hpa hpb hbl hal
          go_wp2
          clear c0 c1 c2 c3 hu0
          go_loopw [6, 7, 8, 9, 10] (fun k _ _ _ _ wr => ∃ r : Nat, r ≤ d ∧ k = .int .i64 r ∧ Hid (Below w1.heap.size w1 wr) ∧ Hid (∀ r', r' < r → SqRow p ds ac dn (a, b) r')) (fun k _ _ _ _ _ => d - (intOf k).toNat)
          case atStart => exact ⟨0, Nat.zero_le _, rfl, HBwy, Lib.hid (fun _ h => absurd h (Nat.not_lt_zero _))⟩
          case round =>
            clear HBwy
            obtain ⟨r, hr, rfl, HBwz, HRC⟩ := hrel
            obtain ⟨wz, hwz⟩ : ∃ wz : World, wz = wr := ⟨_, rfl⟩
            subst hwz
            have hnx := HNX.out wz HBwz.out
            have c0 := hnx.1.c0
            have c1 := hnx.1.c1
            have c2 := hnx.1.c2
            have c3 := hnx.1.c3
            have hu0 := hnx.2
            clear hnx
            have hui := (HUI.out wz HBwz.out).1
            have hue := (HUI.out wz HBwz.out).2
            by_cases hltr : r < d
            · have hltk : (r : Int) < (d : Int) := by omega
              have hrd : r < cdim ds (a, b) := by rw [← HD.out]; exact hltr
              obtain ⟨ra, rd, la, ld⟩ := row_len HOK.out HTB.out HC.out hrd
              have hcd := dco_dcl HOK.out HC.out
              have hb1 := dco_bd HOK.out (((a, b) : Nat × Nat).1 - 1 : Int) ((a, b) : Nat × Nat).2
              have hb2 := dco_bd HOK.out ((a, b) : Nat × Nat).1 (((a, b) : Nat × Nat).2 - 1 : Int)
              have hal40 : ((tbl ac (a, b)).getD r []).length ≤ 40 := by have := ra.1; omega
              have hdl40 : ((tbl dn (a, b)).getD r []).length ≤ 40 := by have := rd.1; omega
              have hia : a < ac.length := by rw [← HN1.out]; omega
              have hid : a < dn.length := by rw [← HN4.out]; omega
              have hja : b < (ac[a]).length := by have h1 := HTB.out.ca a (by rw [← HM.out]; exact hlt); rw [getD_of_lt _ hia] at h1; rw [h1]; exact (mem_cells.1 HC.out).2
              have hjd : b < (dn[a]).length := by have h1 := HTB.out.cd a (by rw [← HM.out]; exact hlt); rw [getD_of_lt _ hid] at h1; rw [h1]; exact (mem_cells.1 HC.out).2
              have hdxz := (HNX.out wz HBwz.out).1.dx
              obtain ⟨ba, oa, ca, b2, o2, k2, ut, hva, hA1, hA2, hTl⟩ := l4_at hdxz.across hia hja
              obtain ⟨be, oe, ce, b5, o5, k5, us, hvd, hE1, hE2, hSl⟩ := l4_at hdxz.down hid hjd
              have hTt : (ac[a])[b] = tbl ac (a, b) := by unfold tbl; dsimp only; rw [getD_of_lt _ hia, getD_of_lt _ hja]
              have hTs : (dn[a])[b] = tbl dn (a, b) := by unfold tbl; dsimp only; rw [getD_of_lt _ hid, getD_of_lt _ hjd]
              rw [hTt] at hTl
              rw [hTs] at hSl
              have hra : r < (tbl ac (a, b)).length := by rw [la]; exact hrd
              have hrd' : r < (tbl dn (a, b)).length := by rw [ld]; exact hrd
              obtain ⟨b3, o3, k3, ua, rfl, hA3, hUA⟩ := row_at hTl hra
              obtain ⟨b6, o6, k6, ud, rfl, hE3, hUD⟩ := row_at hSl hrd'
              have hga : (tbl ac (a, b)).getD r [] = (tbl ac (a, b))[r] := getD_of_lt _ hra
              have hgd : (tbl dn (a, b)).getD r [] = (tbl dn (a, b))[r] := getD_of_lt _ hrd'
              rw [← hga] at hUA
              rw [← hgd] at hUD
              injection hva with e1 e2 e3
              injection hvd with e4 e5 e6
              have e1' : aa = some ⟨ba, oa, none⟩ := e1
              have e4' : ae = some ⟨be, oe, none⟩ := e4
              clear e1 e2 e3 e4 e5 e6
              obtain ⟨n2, hn2⟩ : ∃ n, n = (ac[a]).length := ⟨_, rfl⟩
              obtain ⟨n5, hn5⟩ : ∃ n, n = (dn[a]).length := ⟨_, rfl⟩
              obtain ⟨n3, hn3⟩ : ∃ n, n = (tbl ac (a, b)).length := ⟨_, rfl⟩
              obtain ⟨n6, hn6⟩ : ∃ n, n = (tbl dn (a, b)).length := ⟨_, rfl⟩
              rw [← hn2] at hA1
              rw [← hn5] at hE1
              rw [← hn3] at hA2
              rw [← hn6] at hE2
              have hja2 : b < n2 := by rw [hn2]; exact hja
              have hjd2 : b < n5 := by rw [hn5]; exact hjd
              have hra2 : r < n3 := by rw [hn3]; exact hra
              have hrd2 : r < n6 := by rw [hn6]; exact hrd'
              have hi1 : a < n1 := by omega
              have hi4 : a < n4 := by omega
              obtain ⟨aa1, ka1, hua'⟩ := Sl.shape hUA
              obtain ⟨ad1, kd1, hud'⟩ := Sl.shape hUD
              obtain ⟨na, hna⟩ : ∃ n, n = ((tbl ac (a, b)).getD r []).length := ⟨_, rfl⟩
              obtain ⟨nd, hnd⟩ : ∃ n, n = ((tbl dn (a, b)).getD r []).length := ⟨_, rfl⟩
              rw [← hna] at hua'
              rw [← hnd] at hud'
              subst hua' hud'
              have HA1 := Lib.hid hA1
              have HA2 := Lib.hid hA2
              have HA3 := Lib.hid hA3
              have HE1 := Lib.hid hE1
              have HE2 := Lib.hid hE2
              have HE3 := Lib.hid hE3
              have HUA := Lib.hid hUA
              have HUD := Lib.hid hUD
              have HE1' := Lib.hid e1'
              have HE4' := Lib.hid e4'
              have HAL := Lib.hid hal40
              have HDL := Lib.hid hdl40
              have HRD := Lib.hid hrd
              have wi : IntKind.i64.wrap ((a : Int) - 1) = (a : Int) - 1 := IntWalk.i64_in _ (by omega)
              have wj : IntKind.i64.wrap ((b : Int) - 1) = (b : Int) - 1 := IntWalk.i64_in _ (by omega)
              have hbz := HBwz.out
              have hzz := hbz.size
              clear hA1 hA2 hA3 hE1 hE2 hE3 hUA hUD hga hgd hTt hTs hTl hSl hn2 hn3 hn5 hn6 hna hnd e1' e4' hal40 hdl40 hcd hb1 hb2 ra rd hra hrd' hja hjd hia hid la ld hdxz
              go_upto_region 11 with fail
              refine wp_region_held (S := fun W => Below wz.heap.size wz W) (by kernel_rfl) ?_
              have S0 : Below wz.heap.size wz wz.drew := (Below.refl _ _).drew
              change wpAnyH _ _ _ _ _ _ _ _ wz.drew
              obtain ⟨wd, hwd⟩ : ∃ wd, wd = wz.drew := ⟨_, rfl⟩
              rw [← hwd] at S0 ⊢
              clear hwd
              have HNZ : Hid (∀ W, Below wz.heap.size wz W → DBx w W w.heap.size p (.slice (some ⟨bb, o, none⟩) m cd) (.slice aa n1 ca') (.slice ae n4 ce') ds ac dn) := Lib.hid (fun W hb => (HNX.out W (HBwz.out.trans (hb.mono hzz))).1)
              refine held_take (i := 0) (v := .pointer (some ⟨w.heap.size, 2, none⟩)) (some 41) rfl rfl (by kernel_rfl) (by kernel_rfl) (by kernel_rfl) (fun _ _ _ h => h) (yieldsIf_run (by kernel_rfl) (fun W _ => by kernel_rfl)) S0 ?_
              refine held_take (i := 1) (v := .slice aa n1 ca') (some 42) rfl rfl (by kernel_rfl) (by kernel_rfl) (by kernel_rfl) (fun _ _ _ h => h) (yieldsIf_cell (by kernel_rfl) rfl (by kernel_rfl) (fun W h => hload4 W (HNZ.out W h).c2)) S0 ?_
              refine held_take (i := 2) (v := .int .i64 (a : Int)) (some 43) rfl rfl (by kernel_rfl) (by kernel_rfl) (by kernel_rfl) (fun _ _ _ h => h) (yieldsIf_move (by kernel_rfl) rfl (by kernel_rfl)) S0 ?_
              refine held_take (i := 3) (v := .pointer (some ⟨ba, oa + a, none⟩)) (some 44) rfl rfl (by kernel_rfl) (by kernel_rfl) (by kernel_rfl) (fun _ _ _ h => h) (yieldsIf_index (by kernel_rfl) rfl (by kernel_rfl) (by kernel_rfl) (hidx4 (cap := ca') HE1'.out hi1)) S0 ?_
              refine held_take (i := 4) (v := .slice (some ⟨b2, o2, none⟩) n2 k2) (some 45) rfl rfl (by kernel_rfl) (by kernel_rfl) (by kernel_rfl) (fun _ _ _ h => h) (yieldsIf_cell (by kernel_rfl) rfl (by kernel_rfl) (fun W h => hload3s W (later h (Nat.le_refl _) HA1.out))) S0 ?_
              refine held_take (i := 5) (v := .int .i64 (b : Int)) (some 46) rfl rfl (by kernel_rfl) (by kernel_rfl) (by kernel_rfl) (fun _ _ _ h => h) (yieldsIf_move (by kernel_rfl) rfl (by kernel_rfl)) S0 ?_
              refine held_take (i := 6) (v := .pointer (some ⟨b2, o2 + b, none⟩)) (some 47) rfl rfl (by kernel_rfl) (by kernel_rfl) (by kernel_rfl) (fun _ _ _ h => h) (yieldsIf_index (by kernel_rfl) rfl (by kernel_rfl) (by kernel_rfl) (hidx3 b2 o2 k2 hja2)) S0 ?_
              refine held_take (i := 7) (v := .slice (some ⟨b3, o3, none⟩) n3 k3) (some 48) rfl rfl (by kernel_rfl) (by kernel_rfl) (by kernel_rfl) (fun _ _ _ h => h) (yieldsIf_cell (by kernel_rfl) rfl (by kernel_rfl) (fun W h => hload2s W (later h (Nat.le_refl _) HA2.out))) S0 ?_
              refine held_take (i := 8) (v := .int .i64 (r : Int)) (some 49) rfl rfl (by kernel_rfl) (by kernel_rfl) (by kernel_rfl) (fun _ _ _ h => h) (yieldsIf_move (by kernel_rfl) rfl (by kernel_rfl)) S0 ?_
              refine held_take (i := 9) (v := .pointer (some ⟨b3, o3 + r, none⟩)) (some 50) rfl rfl (by kernel_rfl) (by kernel_rfl) (by kernel_rfl) (fun _ _ _ h => h) (yieldsIf_index (by kernel_rfl) rfl (by kernel_rfl) (by kernel_rfl) (hidxS b3 o3 k3 hra2)) S0 ?_
              refine held_take (i := 10) (v := .slice aa1 na ka1) (some 51) rfl rfl (by kernel_rfl) (by kernel_rfl) (by kernel_rfl) (fun _ _ _ h => h) (yieldsIf_cell (by kernel_rfl) rfl (by kernel_rfl) (fun W h => hloadD W (later h (Nat.le_refl _) HA3.out))) S0 ?_
              refine held_take (i := 11) (v := .pointer (some ⟨w.heap.size, 3, none⟩)) (some 52) rfl rfl (by kernel_rfl) (by kernel_rfl) (by kernel_rfl) (fun _ _ _ h => h) (yieldsIf_run (by kernel_rfl) (fun W _ => by kernel_rfl)) S0 ?_
              refine held_take (i := 12) (v := .slice ae n4 ce') (some 53) rfl rfl (by kernel_rfl) (by kernel_rfl) (by kernel_rfl) (fun _ _ _ h => h) (yieldsIf_cell (by kernel_rfl) rfl (by kernel_rfl) (fun W h => hload4 W (HNZ.out W h).c3)) S0 ?_
              refine held_take (i := 13) (v := .int .i64 (a : Int)) (some 54) rfl rfl (by kernel_rfl) (by kernel_rfl) (by kernel_rfl) (fun _ _ _ h => h) (yieldsIf_move (by kernel_rfl) rfl (by kernel_rfl)) S0 ?_
              refine held_take (i := 14) (v := .pointer (some ⟨be, oe + a, none⟩)) (some 55) rfl rfl (by kernel_rfl) (by kernel_rfl) (by kernel_rfl) (fun _ _ _ h => h) (yieldsIf_index (by kernel_rfl) rfl (by kernel_rfl) (by kernel_rfl) (hidx4 (cap := ce') HE4'.out hi4)) S0 ?_
              refine held_take (i := 15) (v := .slice (some ⟨b5, o5, none⟩) n5 k5) (some 56) rfl rfl (by kernel_rfl) (by kernel_rfl) (by kernel_rfl) (fun _ _ _ h => h) (yieldsIf_cell (by kernel_rfl) rfl (by kernel_rfl) (fun W h => hload3s W (later h (Nat.le_refl _) HE1.out))) S0 ?_
              refine held_take (i := 16) (v := .int .i64 (b : Int)) (some 57) rfl rfl (by kernel_rfl) (by kernel_rfl) (by kernel_rfl) (fun _ _ _ h => h) (yieldsIf_move (by kernel_rfl) rfl (by kernel_rfl)) S0 ?_
              refine held_take (i := 17) (v := .pointer (some ⟨b5, o5 + b, none⟩)) (some 58) rfl rfl (by kernel_rfl) (by kernel_rfl) (by kernel_rfl) (fun _ _ _ h => h) (yieldsIf_index (by kernel_rfl) rfl (by kernel_rfl) (by kernel_rfl) (hidx3 b5 o5 k5 hjd2)) S0 ?_
              refine held_take (i := 18) (v := .slice (some ⟨b6, o6, none⟩) n6 k6) (some 59) rfl rfl (by kernel_rfl) (by kernel_rfl) (by kernel_rfl) (fun _ _ _ h => h) (yieldsIf_cell (by kernel_rfl) rfl (by kernel_rfl) (fun W h => hload2s W (later h (Nat.le_refl _) HE2.out))) S0 ?_
              refine held_take (i := 19) (v := .int .i64 (r : Int)) (some 60) rfl rfl (by kernel_rfl) (by kernel_rfl) (by kernel_rfl) (fun _ _ _ h => h) (yieldsIf_move (by kernel_rfl) rfl (by kernel_rfl)) S0 ?_
              refine held_take (i := 20) (v := .pointer (some ⟨b6, o6 + r, none⟩)) (some 61) rfl rfl (by kernel_rfl) (by kernel_rfl) (by kernel_rfl) (fun _ _ _ h => h) (yieldsIf_index (by kernel_rfl) rfl (by kernel_rfl) (by kernel_rfl) (hidxS b6 o6 k6 hrd2)) S0 ?_
              refine held_take (i := 21) (v := .slice ad1 nd kd1) (some 62) rfl rfl (by kernel_rfl) (by kernel_rfl) (by kernel_rfl) (fun _ _ _ h => h) (yieldsIf_cell (by kernel_rfl) rfl (by kernel_rfl) (fun W h => hloadD W (later h (Nat.le_refl _) HE3.out))) S0 ?_
              refine held_take (i := 22) (v := .slice aa1 na ka1) (some 7) rfl rfl (by kernel_rfl) (by kernel_rfl) (by kernel_rfl) (fun _ _ _ h => h) (yieldsIf_assign (by kernel_rfl) rfl (by kernel_rfl)) S0 ?_
              refine held_take (i := 23) (v := .slice ad1 nd kd1) (some 8) rfl rfl (by kernel_rfl) (by kernel_rfl) (by kernel_rfl) (fun _ _ _ h => h) (yieldsIf_assign (by kernel_rfl) rfl (by kernel_rfl)) S0 ?_
              refine wpAnyH_done (by kernel_rfl) ?_ _
              simp only [Act.put, List.setIfInBounds_toArray, List.set_cons_zero, List.set_cons_succ]
              clear c0 c1 c2 c3 hu0 hui hue
              have HBD := Lib.hid S0
              have hsd := S0.size
              clear S0
              have HND : Hid (∀ W, Below wd.heap.size wd W → DBx w W w.heap.size p (.slice (some ⟨bb, o, none⟩) m cd) (.slice aa n1 ca') (.slice ae n4 ce') ds ac dn ∧ Below w1.heap.size w1 W) := Lib.hid (fun W hb => ⟨HNZ.out W (HBD.out.trans (hb.mono hsd)), (HBwz.out.trans ((HBD.out.trans (hb.mono hsd)).mono hzz))⟩)
              have HKA : Hid (∀ b', RowOk p (wid ds b' ((a : Int) - 1) b) (stp p ds ac dn ((a : Int) - 1) b ((tbl ac (a, b)).getD r []) b') ∧ wid ds b' ((a : Int) - 1) b ≤ 4 ∧ StOk p ds ac dn ((a : Int) - 1) b ((tbl ac (a, b)).getD r []) b') := Lib.hid (fun b' => ⟨stp_ok HP.out (st_left HP.out HOK.out HTB.out HC.out HRD.out b'), (wid_cast HOK.out b' _ _).2, st_left HP.out HOK.out HTB.out HC.out HRD.out b'⟩)
              have HKD : Hid (∀ b', RowOk p (wid ds b' a ((b : Int) - 1)) (stp p ds ac dn a ((b : Int) - 1) ((tbl dn (a, b)).getD r []) b') ∧ wid ds b' a ((b : Int) - 1) ≤ 4 ∧ StOk p ds ac dn a ((b : Int) - 1) ((tbl dn (a, b)).getD r []) b') := Lib.hid (fun b' => ⟨stp_ok HP.out (st_low HP.out HOK.out HTB.out HC.out HRD.out b'), (wid_cast HOK.out b' _ _).2, st_low HP.out HOK.out HTB.out HC.out HRD.out b'⟩)
              obtain ⟨zA, hzA⟩ : ∃ z, z = leadOf (stp p ds ac dn ((a : Int) - 1) b ((tbl ac (a, b)).getD r []) true) := ⟨_, rfl⟩
              have HLA : Hid (∀ W u, L1 0 W u (stp p ds ac dn ((a : Int) - 1) b ((tbl ac (a, b)).getD r []) true) → Calls Try.prog 108 #[u] W (QW (.int .i64 zA) W)) := Lib.hid (fun W u hu => by rw [hzA]; exact l01Lead_any u _ W hu (by have h1 := (HKA.out true).1.1; have h2 := (HKA.out true).2.1; omega))
              obtain ⟨zD, hzD⟩ : ∃ z, z = leadOf (stp p ds ac dn a ((b : Int) - 1) ((tbl dn (a, b)).getD r []) false) := ⟨_, rfl⟩
              have HLD : Hid (∀ W u, L1 0 W u (stp p ds ac dn a ((b : Int) - 1) ((tbl dn (a, b)).getD r []) false) → Calls Try.prog 108 #[u] W (QW (.int .i64 zD) W)) := Lib.hid (fun W u hu => by rw [hzD]; exact l01Lead_any u _ W hu (by have h1 := (HKD.out false).1.1; have h2 := (HKD.out false).2.1; omega))
              obtain ⟨zC, hzC⟩ : ∃ z, z = leadOf (toL (wid ds false ((a : Int) - 1) b) (Lin.add p (ofL (stp p ds ac dn ((a : Int) - 1) b ((tbl ac (a, b)).getD r []) false)) (-(-1)) (ofL (stp p ds ac dn a ((b : Int) - 1) ((tbl dn (a, b)).getD r []) true)))) := ⟨_, rfl⟩
              have HLC : Hid (∀ W u, L1 0 W u (toL (wid ds false ((a : Int) - 1) b) (Lin.add p (ofL (stp p ds ac dn ((a : Int) - 1) b ((tbl ac (a, b)).getD r []) false)) (-(-1)) (ofL (stp p ds ac dn a ((b : Int) - 1) ((tbl dn (a, b)).getD r []) true)))) → Calls Try.prog 108 #[u] W (QW (.int .i64 zC) W)) := Lib.hid (fun W u hu => by rw [hzC]; exact l01Lead_any u _ W hu (by have h2 := (HKA.out false).2.1; simp [toL]; omega))
              have HZA := Lib.hid hzA
              have HZD := Lib.hid hzD
              have HZC := Lib.hid hzC
              clear hzA hzD hzC
              have HSA : Hid (∀ W, Below wd.heap.size wd W → ∀ b', Calls Try.prog 116 #[.agg #[.int .i64 p, .slice (some ⟨bb, o, none⟩) m cd, .slice aa n1 ca', .slice ae n4 ce'], .int .i64 ((a : Int) - 1), .int .i64 (b : Int), .slice aa1 na ka1, .bool b'] W fun e w' => ∃ u, e = .returned u ∧ L1 0 w' u (stp p ds ac dn ((a : Int) - 1) b ((tbl ac (a, b)).getD r []) b') ∧ Below W.heap.size W w') := Lib.hid (fun W hb b' => HSTEP.out W (HND.out W hb).2 b' _ _ _ _ (HUA.out.below (HBD.out.trans (hb.mono hsd))) HAL.out (by omega) (by omega) (HKA.out b').2.2)
              have HSD : Hid (∀ W, Below wd.heap.size wd W → ∀ b', Calls Try.prog 116 #[.agg #[.int .i64 p, .slice (some ⟨bb, o, none⟩) m cd, .slice aa n1 ca', .slice ae n4 ce'], .int .i64 (a : Int), .int .i64 ((b : Int) - 1), .slice ad1 nd kd1, .bool b'] W fun e w' => ∃ u, e = .returned u ∧ L1 0 w' u (stp p ds ac dn a ((b : Int) - 1) ((tbl dn (a, b)).getD r []) b') ∧ Below W.heap.size W w') := Lib.hid (fun W hb b' => HSTEP.out W (HND.out W hb).2 b' _ _ _ _ (HUD.out.below (HBD.out.trans (hb.mono hsd))) HDL.out (by omega) (by omega) (HKD.out b').2.2)
              have hnd0 := (HND.out wd (Below.refl _ _)).1
              have c0 := hnd0.c0
              have c1 := hnd0.c1
              have c2 := hnd0.c2
              have c3 := hnd0.c3
              clear hnd0
              go_wp2_with fail
              refine (HSA.out wd (Below.refl _ _) true).mono ?_
              rintro e W3 ⟨u3, rfl, hl3, hb3⟩
              obtain ⟨a3, k3', hu3⟩ := Sl.shape hl3
              obtain ⟨n7, hn7⟩ : ∃ n, n = (stp p ds ac dn ((a : Int) - 1) b ((tbl ac (a, b)).getD r []) true).length := ⟨_, rfl⟩
              rw [← hn7] at hu3
              subst hu3
              have HB3 := Lib.hid hb3
              have HL3 := Lib.hid hl3
              clear hn7 hb3 hl3 c0 c1 c2 c3
              have hnd0 := (HND.out W3 HB3.out).1
              have c0 := hnd0.c0
              have c1 := hnd0.c1
              have c2 := hnd0.c2
              have c3 := hnd0.c3
              clear hnd0
              go_wp2_with fail
              refine (HLA.out W3 _ HL3.out).mono ?_
              rintro e w' ⟨rfl, rfl⟩
              by_cases hA0 : ∀ x ∈ (stp p ds ac dn ((a : Int) - 1) b ((tbl ac (a, b)).getD r []) true), x = 0
              · have hlt0 : zA = -1 := by rw [HZA.out]; exact leadOf_null hA0
                subst hlt0
                have HA0 := Lib.hid hA0
                clear hA0
                go_wp2_with fail
                refine (HSD.out W3 HB3.out false).mono ?_
                rintro e W4 ⟨u4, rfl, hl4, hb4⟩
                obtain ⟨a4, k4', hu4⟩ := Sl.shape hl4
                obtain ⟨n8, hn8⟩ : ∃ n, n = (stp p ds ac dn a ((b : Int) - 1) ((tbl dn (a, b)).getD r []) false).length := ⟨_, rfl⟩
                rw [← hn8] at hu4
                subst hu4
                have HB4 := Lib.hid (HB3.out.trans (hb4.mono HB3.out.size))
                have HL4 := Lib.hid hl4
                clear hn8 hb4 hl4 c0 c1 c2 c3
                have hnd0 := (HND.out W4 HB4.out).1
                have c0 := hnd0.c0
                have c1 := hnd0.c1
                have c2 := hnd0.c2
                have c3 := hnd0.c3
                clear hnd0
                go_wp2_with fail
                refine (HLD.out W4 _ HL4.out).mono ?_
                rintro e w' ⟨rfl, rfl⟩
                by_cases hD0 : ∀ x ∈ (stp p ds ac dn a ((b : Int) - 1) ((tbl dn (a, b)).getD r []) false), x = 0
                · have hlt0 : zD = -1 := by rw [HZD.out]; exact leadOf_null hD0
                  subst hlt0
                  have HD0 := Lib.hid hD0
                  clear hD0
                  go_upto_region 14 with fail
                  refine wp_region_held (S := fun W => Below W4.heap.size W4 W) (by kernel_rfl) ?_
                  have S0 : Below W4.heap.size W4 W4.drew := (Below.refl _ _).drew
                  change wpAnyH _ _ _ _ _ _ _ _ W4.drew
                  obtain ⟨we, hwe⟩ : ∃ we, we = W4.drew := ⟨_, rfl⟩
                  rw [← hwe] at S0 ⊢
                  clear hwe c0 c1 c2 c3
                  have hs4 := HB4.out.size
                  have HN4w : Hid (∀ W, Below W4.heap.size W4 W → Below wd.heap.size wd W) := Lib.hid (fun W hb => HB4.out.trans (hb.mono hs4))
                  refine held_take (i := 0) (v := .agg #[.int .i64 p, .slice (some ⟨bb, o, none⟩) m cd, .slice aa n1 ca', .slice ae n4 ce']) (some 81) rfl rfl (by kernel_rfl) (by kernel_rfl) (by kernel_rfl) (fun _ _ _ h => h) (yieldsIf_cell (by kernel_rfl) rfl (by kernel_rfl) (fun W h => hloadDb W (HND.out W (HN4w.out W h)).1)) S0 ?_
                  refine held_take (i := 1) (v := .int .i64 (a : Int)) (some 82) rfl rfl (by kernel_rfl) (by kernel_rfl) (by kernel_rfl) (fun _ _ _ h => h) (yieldsIf_move (by kernel_rfl) rfl (by kernel_rfl)) S0 ?_
                  refine held_take (i := 2) (v := .int .i64 ((a : Int) - 1)) (some 83) rfl rfl (by kernel_rfl) (by kernel_rfl) (by kernel_rfl) (fun _ _ _ h => h) (yieldsIf_bin (by kernel_rfl) rfl (by kernel_rfl) (by kernel_rfl) (fun _ => rfl) (hsubA wi)) S0 ?_
                  refine held_take (i := 3) (v := .int .i64 (b : Int)) (some 84) rfl rfl (by kernel_rfl) (by kernel_rfl) (by kernel_rfl) (fun _ _ _ h => h) (yieldsIf_move (by kernel_rfl) rfl (by kernel_rfl)) S0 ?_
                  refine held_take (i := 4) (v := .slice aa1 na ka1) (some 85) rfl rfl (by kernel_rfl) (by kernel_rfl) (by kernel_rfl) (fun _ _ _ h => h) (yieldsIf_move (by kernel_rfl) rfl (by kernel_rfl)) S0 ?_
                  refine held_take (i := 6) (v := .agg #[.int .i64 p, .slice (some ⟨bb, o, none⟩) m cd, .slice aa n1 ca', .slice ae n4 ce']) (some 87) rfl rfl (by kernel_rfl) (by kernel_rfl) (by kernel_rfl) (fun _ _ _ h => h) (yieldsIf_cell (by kernel_rfl) rfl (by kernel_rfl) (fun W h => hloadDb W (HND.out W (HN4w.out W h)).1)) S0 ?_
                  refine held_take (i := 7) (v := .int .i64 (a : Int)) (some 88) rfl rfl (by kernel_rfl) (by kernel_rfl) (by kernel_rfl) (fun _ _ _ h => h) (yieldsIf_move (by kernel_rfl) rfl (by kernel_rfl)) S0 ?_
                  refine held_take (i := 8) (v := .int .i64 (b : Int)) (some 89) rfl rfl (by kernel_rfl) (by kernel_rfl) (by kernel_rfl) (fun _ _ _ h => h) (yieldsIf_move (by kernel_rfl) rfl (by kernel_rfl)) S0 ?_
                  refine held_take (i := 9) (v := .int .i64 ((b : Int) - 1)) (some 90) rfl rfl (by kernel_rfl) (by kernel_rfl) (by kernel_rfl) (fun _ _ _ h => h) (yieldsIf_bin (by kernel_rfl) rfl (by kernel_rfl) (by kernel_rfl) (fun _ => rfl) (hsubA wj)) S0 ?_
                  refine held_take (i := 10) (v := .slice ad1 nd kd1) (some 91) rfl rfl (by kernel_rfl) (by kernel_rfl) (by kernel_rfl) (fun _ _ _ h => h) (yieldsIf_move (by kernel_rfl) rfl (by kernel_rfl)) S0 ?_
                  refine held_enter (i := 5) (some 86) (f := 116) (args := #[.agg #[.int .i64 p, .slice (some ⟨bb, o, none⟩) m cd, .slice aa n1 ca', .slice ae n4 ce'], .int .i64 ((a : Int) - 1), .int .i64 (b : Int), .slice aa1 na ka1, .bool false]) (by kernel_rfl) rfl rfl rfl (by kernel_rfl) (HSA.out _ (HN4w.out _ S0) false) ?_ (fun c w' h => by obtain ⟨_, h, _⟩ := h; cases h) (fun w' h => by obtain ⟨_, h, _⟩ := h; cases h)
                  rintro e5 W5 ⟨u5, he5, hl5, hb5⟩
                  injection he5 with he5
                  subst he5
                  have S1 : Below W4.heap.size W4 W5 := S0.trans (hb5.mono S0.size)
                  refine ⟨S1, ?_⟩
                  refine held_enter (i := 11) (some 92) (f := 116) (args := #[.agg #[.int .i64 p, .slice (some ⟨bb, o, none⟩) m cd, .slice aa n1 ca', .slice ae n4 ce'], .int .i64 (a : Int), .int .i64 ((b : Int) - 1), .slice ad1 nd kd1, .bool true]) (by kernel_rfl) rfl rfl rfl (by kernel_rfl) (HSD.out _ (HN4w.out _ S1) true) ?_ (fun c w' h => by obtain ⟨_, h, _⟩ := h; cases h) (fun w' h => by obtain ⟨_, h, _⟩ := h; cases h)
                  rintro e6 W6 ⟨u6, he6, hl6, hb6⟩
                  injection he6 with he6
                  subst he6
                  have S2 : Below W4.heap.size W4 W6 := S1.trans (hb6.mono S1.size)
                  refine ⟨S2, ?_⟩
                  obtain ⟨a5, k5', hu5⟩ := Sl.shape hl5
                  obtain ⟨n9, hn9⟩ : ∃ n, n = (stp p ds ac dn ((a : Int) - 1) b ((tbl ac (a, b)).getD r []) false).length := ⟨_, rfl⟩
                  rw [← hn9] at hu5
                  subst hu5
                  obtain ⟨a6, k6', hu6⟩ := Sl.shape hl6
                  obtain ⟨n10, hn10⟩ : ∃ n, n = (stp p ds ac dn a ((b : Int) - 1) ((tbl dn (a, b)).getD r []) true).length := ⟨_, rfl⟩
                  rw [← hn10] at hu6
                  subst hu6
                  refine held_take (i := 12) (v := .slice a5 n9 k5') (some 9) rfl rfl (by kernel_rfl) (by kernel_rfl) (by kernel_rfl) (fun _ _ _ h => h) (yieldsIf_assign (by kernel_rfl) rfl (by kernel_rfl)) S2 ?_
                  refine held_take (i := 13) (v := .slice a6 n10 k6') (some 10) rfl rfl (by kernel_rfl) (by kernel_rfl) (by kernel_rfl) (fun _ _ _ h => h) (yieldsIf_assign (by kernel_rfl) rfl (by kernel_rfl)) S2 ?_
                  refine wpAnyH_done (by kernel_rfl) ?_ _
                  simp only [Act.put, List.setIfInBounds_toArray, List.set_cons_zero, List.set_cons_succ]
                  have HB6 := Lib.hid (HN4w.out _ S2)
                  have hs5 : wd.heap.size ≤ W6.heap.size := HB6.out.size
                  have HLESS : Hid (Calls Try.prog 117 #[.int .i64 p, .slice a5 n9 k5', .slice a6 n10 k6', .int .i64 (-1)] W6 (GbR (toL (wid ds false ((a : Int) - 1) b) (Lin.add p (ofL (stp p ds ac dn ((a : Int) - 1) b ((tbl ac (a, b)).getD r []) false)) (-(-1)) (ofL (stp p ds ac dn a ((b : Int) - 1) ((tbl dn (a, b)).getD r []) true)))) W6)) := Lib.hid (by
                    have k1 := HKA.out false
                    have k2 := HKD.out true
                    have hwe : wid ds true a ((b : Int) - 1) = (wid ds false ((a : Int) - 1) b) := by unfold wid; simp
                    rw [hwe] at k2
                    refine l01Less1_any p (-1) _ _ _ _ _ W6 HP.out ?_ ?_ (ofL_md (by have := HP.out.lo; omega) k1.1) (ofL_md (by have := HP.out.lo; omega) k2.1) (by have := HP.out.lo; omega) (by have := k1.2.1; omega)
                    · rw [toL_ofL (by have := k1.1.1; omega)]; exact hl5.below hb6
                    · rw [toL_ofL (by have := k2.1.1; omega)]; exact hl6)
                  clear hl5 hl6 hb5 hb6 S0 S1 S2 hn9 hn10
                  have hnd0 := (HND.out W6 HB6.out).1
                  have c0 := hnd0.c0
                  clear hnd0
                  go_wp2_with fail
                  refine HLESS.out.mono ?_
                  rintro e W7 ⟨u7, rfl, hg7, hb7⟩
                  obtain ⟨a7, k7', hu7⟩ := Sl.shape hg7.l1
                  obtain ⟨n11, hn11⟩ : ∃ n, n = (toL (wid ds false ((a : Int) - 1) b) (Lin.add p (ofL (stp p ds ac dn ((a : Int) - 1) b ((tbl ac (a, b)).getD r []) false)) (-(-1)) (ofL (stp p ds ac dn a ((b : Int) - 1) ((tbl dn (a, b)).getD r []) true)))).length := ⟨_, rfl⟩
                  rw [← hn11] at hu7
                  subst hu7
                  have HL7 := Lib.hid hg7.l1
                  have HB7 := Lib.hid (HB6.out.trans (hb7.mono hs5))
                  clear hg7 hb7 hn11 c0 HLESS
                  go_wp2_with fail
                  refine (HLC.out W7 _ HL7.out).mono ?_
                  rintro e w' ⟨rfl, rfl⟩
                  by_cases hC0 : ∀ x ∈ (toL (wid ds false ((a : Int) - 1) b) (Lin.add p (ofL (stp p ds ac dn ((a : Int) - 1) b ((tbl ac (a, b)).getD r []) false)) (-(-1)) (ofL (stp p ds ac dn a ((b : Int) - 1) ((tbl dn (a, b)).getD r []) true)))), x = 0
                  · have hlt0 : zC = -1 := by rw [HZC.out]; exact leadOf_null hC0
                    subst hlt0
                    have HNEW : Hid (∀ r', r' < r + 1 → SqRow p ds ac dn (a, b) r') := Lib.hid (fun r' hr' => by
                      by_cases e : r' = r
                      · subst e; exact ⟨HA0.out, HD0.out, hC0⟩
                      · exact HRC.out r' (by omega))
                    clear hC0
                    have HBF := Lib.hid (HND.out W7 HB7.out).2
                    go_wp2
                    go_roundw
                    case rel => exact ⟨r + 1, by omega, by go_num, HBF, HNEW⟩
                    case measure => simp [intOf]; omega
                  · have hge : 0 ≤ zC := by rw [HZC.out]; exact leadOf_nn hC0
                    have HNO : Hid (¬ PP) := Lib.hid (fun h => hC0 (HPI.out.1 h _ HC.out r HRD.out).b)
                    clear hC0
                    go_wp2
                    go_ret
                    exact bb_false (HX1.out.below.trans (((HND.out W7 HB7.out).2).mono HX1.out.below.size)) HNO.out
                · have hge : 0 ≤ zD := by rw [HZD.out]; exact leadOf_nn hD0
                  have HNO : Hid (¬ PP) := Lib.hid (fun h => hD0 (HPI.out.1 h _ HC.out r HRD.out).d)
                  clear hD0
                  go_wp2
                  go_ret
                  exact bb_false (HX1.out.below.trans (((HND.out W4 HB4.out).2).mono HX1.out.below.size)) HNO.out
              · have hge : 0 ≤ zA := by rw [HZA.out]; exact leadOf_nn hA0
                have HNO : Hid (¬ PP) := Lib.hid (fun h => hA0 (HPI.out.1 h _ HC.out r HRD.out).a)
                clear hA0
                go_wp2
                go_ret
                exact bb_false (HX1.out.below.trans (((HND.out W3 HB3.out).2).mono HX1.out.below.size)) HNO.out
            · obtain rfl : r = d := by omega
              have HNEW : Hid (∀ b', b' < b + 1 → SqCell p ds ac dn (a, b')) := Lib.hid (fun b' hb' => by
                by_cases e : b' = b
                · subst e; intro r' hr'; exact HRC.out r' (by rw [HD.out]; exact hr')
                · exact HBC.out b' (by omega))
              go_wp2
              go_roundw
              case rel => exact ⟨b + 1, by omega, by go_num, HBwz, HNEW⟩
              case measure => simp [intOf]; omega
        · obtain rfl : b = q := by omega
          have HNEW : Hid (∀ c ∈ cellsTo ds ds.length, c.1 < a + 1 → SqCell p ds ac dn c) := Lib.hid (fun c hc hca => by
            by_cases e : c.1 = a
            · obtain ⟨c1', c2'⟩ := c
              dsimp only at e
              subst e
              refine HBC.out c2' ?_
              have h1 := mem_cells.1 hc
              dsimp only at h1
              rw [getD_of_lt _ h1.1, (HOK.out.col _ (List.getElem_mem h1.1)).1, ← HQ.out] at h1
              exact h1.2
            · exact HA.out c hc (by omega))
          go_wp2
          go_roundw
          case rel => exact ⟨a + 1, by omega, by go_num, HBwy, HNEW⟩
          case measure => simp [intOf]; omega
    · obtain rfl : a = m := by omega
      have HYES : Hid PP := Lib.hid (HPI.out.2 (fun c hc => HA.out c hc (by rw [HM.out]; exact (mem_cells.1 hc).1)))
      go_wp2
      go_ret
      exact bb_true (HX1.out.below.trans (HBwx.out.mono HX1.out.below.size)) HYES.out
end Go.Proofs.Ytlopenephgabhaa


namespace Go.Proofs.Ytlopenephgabhaa
open Go.RowKit

set_option maxRecDepth 100000 in
set_option maxHeartbeats 12800000 in
theorem l03Is_any (p : Int) (dv av vv : Value) (ds : List (List Int)) (ac dn : List (List (List (List Int)))) (w : World) (h : Dx 0 w dv av vv ds ac dn) (hbd : Bd2 1048576 ds) (hba : Bd4 1048576 ac) (hbv : Bd4 1048576 dn) :
    Calls Try.prog 42 #[.agg #[.int .i64 p, dv, av, vv]] w (BB (IsDb p ds ac dn) w) := by
  obtain ⟨PP, hPP⟩ : ∃ P : Prop, P = (IsDb p ds ac dn) := ⟨_, rfl⟩
  rw [← hPP]
  have HPI : Hid (PP ↔ (IsDb p ds ac dn)) := Lib.hid (by rw [hPP])
  clear hPP
  have HX := Lib.hid h
  have HBD := Lib.hid hbd
  have HBA := Lib.hid hba
  have HBV := Lib.hid hbv
  have hm8 := hbd.1
  have hn18 := hba.1
  have hn48 := hbv.1
  obtain ⟨ad, cd, rfl⟩ := Sl.shape h.dims
  obtain ⟨aa, ca', rfl⟩ := Sl.shape h.across
  obtain ⟨ae, ce', rfl⟩ := Sl.shape h.down
  clear h hbd hba hbv
  obtain ⟨m, hm⟩ : ∃ m, m = ds.length := ⟨_, rfl⟩
  obtain ⟨n1, hn1⟩ : ∃ n, n = ac.length := ⟨_, rfl⟩
  obtain ⟨n4, hn4⟩ : ∃ n, n = dn.length := ⟨_, rfl⟩
  rw [← hm, ← hn1, ← hn4] at HX ⊢
  rw [← hm] at hm8
  rw [← hn1] at hn18
  rw [← hn4] at hn48
  have HN1 := Lib.hid hn1
  have HN4 := Lib.hid hn4
  have HM := Lib.hid hm
  clear hn1 hn4 hm
  have hx0 := DBx.start (p := p) 28 HX.out
  obtain ⟨w1, hw1⟩ : ∃ w1, w1 = w.alloc (.cells #[.int .i64 p, .slice ad m cd, .slice aa n1 ca', .slice ae n4 ce'] 28) := ⟨_, rfl⟩
  rw [← hw1] at hx0
  have HX1 := Lib.hid hx0
  have c0 := hx0.c0
  have c1 := hx0.c1
  have c2 := hx0.c2
  have c3 := hx0.c3
  clear hx0
  by_cases hP : IsP p
  rotate_left
  · have HNO : Hid (¬ PP) := Lib.hid (fun h => hP (HPI.out.1 h).prime)
    go_enter Try.func42, Try.ntmps42
    go_wp2_with fail
    rw [← hw1]
    clear hw1
    refine (spprime_no hP _).mono ?_
    rintro e w' ⟨rfl, rfl⟩
    go_wp2
    go_ret
    exact bb_false HX1.out.below HNO.out
  have HP := Lib.hid hP
  by_cases h1 : (m : Int) < 1
  · have HNO : Hid (¬ PP) := Lib.hid (fun h => by have := (HPI.out.1 h).cel.len0; have := HM.out; omega)
    go_enter Try.func42, Try.ntmps42
    go_wp2_with fail
    rw [← hw1]
    clear hw1
    refine (spprime_yes hP _).mono ?_
    rintro e w' ⟨rfl, rfl⟩
    go_wp2
    go_ret
    exact bb_false HX1.out.below HNO.out
  by_cases h2 : 4 < (m : Int)
  · have HNO : Hid (¬ PP) := Lib.hid (fun h => by have := (HPI.out.1 h).cel.len1; have := HM.out; omega)
    go_enter Try.func42, Try.ntmps42
    go_wp2_with fail
    rw [← hw1]
    clear hw1
    refine (spprime_yes hP _).mono ?_
    rintro e w' ⟨rfl, rfl⟩
    go_wp2
    go_ret
    exact bb_false HX1.out.below HNO.out
  by_cases h3 : n1 = m
  rotate_left
  · have HNO : Hid (¬ PP) := Lib.hid (fun h => h3 (by rw [HN1.out, HM.out]; exact (HPI.out.1 h).tbs.la))
    have hq1 : ((n1 : Int) != (m : Int)) = true := by have hz : (n1 : Int) ≠ (m : Int) := (by omega); simp [hz]
    go_enter Try.func42, Try.ntmps42
    go_wp2_with fail
    rw [← hw1]
    clear hw1
    refine (spprime_yes hP _).mono ?_
    rintro e w' ⟨rfl, rfl⟩
    go_wp2
    go_ret
    exact bb_false HX1.out.below HNO.out
  by_cases h4 : n4 = m
  rotate_left
  · have HNO : Hid (¬ PP) := Lib.hid (fun h => h4 (by rw [HN4.out, HM.out]; exact (HPI.out.1 h).tbs.ld))
    subst h3
    have hq1 : ((n1 : Int) != (n1 : Int)) = false := by simp
    have hq2 : ((n4 : Int) != (n1 : Int)) = true := by have hz : (n4 : Int) ≠ (n1 : Int) := (by omega); simp [hz]
    go_enter Try.func42, Try.ntmps42
    go_wp2_with fail
    rw [← hw1]
    clear hw1
    refine (spprime_yes hP _).mono ?_
    rintro e w' ⟨rfl, rfl⟩
    go_wp2
    go_ret
    exact bb_false HX1.out.below HNO.out
  subst h3
  subst h4
  have hm1 : 1 ≤ n4 := by omega
  have hm4 : n4 ≤ 4 := by omega
  rcases HX.out.dims with ⟨hx, _⟩ | ⟨bb, o, cd', hv, _, hpos, hcl⟩
  · have h0 := HM.out; rw [hx] at h0; simp at h0; omega
  injection hv with e1 e2 e3
  subst e1 e3
  clear e2
  have HCL := Lib.hid hcl
  obtain ⟨u0, hu0, hr0⟩ := hcl 0 hpos
  rw [Nat.add_zero] at hu0
  obtain ⟨a0, z0, rfl⟩ := Sl.shape hr0
  rw [← getD_of_lt [] hpos] at hu0
  clear hr0
  obtain ⟨q, hq⟩ : ∃ q, q = (ds.getD 0 []).length := ⟨_, rfl⟩
  have hq8 : q ≤ 1048576 := by rw [hq, getD_of_lt _ hpos]; exact HBD.out.2 _ (List.getElem_mem hpos)
  rw [← hq] at hu0
  have HQ := Lib.hid hq
  clear hq hpos hcl
  have hu1 := later (B := w.heap.size) HX1.out.below (Nat.le_refl _) hu0
  clear hu0
  have HU1 := Lib.hid hu1
  have hq0 : ((n4 : Int) != (n4 : Int)) = false := by simp
  by_cases h5 : (q : Int) < 1
  · have HNO : Hid (¬ PP) := Lib.hid (fun h => by have := (HPI.out.1 h).cel.h0; have := HQ.out; omega)
    go_enter Try.func42, Try.ntmps42
    go_wp2_with fail
    rw [← hw1]
    clear hw1
    refine (spprime_yes hP _).mono ?_
    rintro e w' ⟨rfl, rfl⟩
    go_wp2
    go_ret
    exact bb_false HX1.out.below HNO.out
  by_cases h6 : 4 < (q : Int)
  · have HNO : Hid (¬ PP) := Lib.hid (fun h => by have := (HPI.out.1 h).cel.h1; have := HQ.out; omega)
    go_enter Try.func42, Try.ntmps42
    go_wp2_with fail
    rw [← hw1]
    clear hw1
    refine (spprime_yes hP _).mono ?_
    rintro e w' ⟨rfl, rfl⟩
    go_wp2
    go_ret
    exact bb_false HX1.out.below HNO.out
  go_enter Try.func42, Try.ntmps42
  go_wp2_with fail
  rw [← hw1]
  clear hw1
  refine (spprime_yes hP _).mono ?_
  rintro e w' ⟨rfl, rfl⟩
  go_wp2
  clear hq0 h1 h2
  go_loopw [5, 6] (fun i _ wr => ∃ a : Nat, a ≤ n4 ∧ i = .int .i64 a ∧ w1 = wr ∧ Hid (∀ a', a' < a → (ds.getD a' []).length = q ∧ (ac.getD a' []).length = q ∧ (dn.getD a' []).length = q ∧ AllIn 0 4 (ds.getD a' []))) (fun i _ _ => n4 - (intOf i).toNat)
  case atStart => exact ⟨0, Nat.zero_le _, rfl, rfl, Lib.hid (fun _ h => absurd h (Nat.not_lt_zero _))⟩
  case round =>
    obtain ⟨a, ha, rfl, rfl, HA⟩ := hrel
    by_cases hlt : a < n4
    · have hlti : (a : Int) < (n4 : Int) := by omega
      have hai : (0 : Int) ≤ (a : Int) := by omega
      have hal : a < ds.length := by rw [← HM.out]; exact hlt
      have haa : a < ac.length := by rw [← HN1.out]; exact hlt
      have had : a < dn.length := by rw [← HN4.out]; exact hlt
      obtain ⟨ui, hui, hri⟩ := HCL.out a hal
      rw [← getD_of_lt [] hal] at hri
      obtain ⟨xi, yi, rfl⟩ := Sl.shape hri
      rcases HX1.out.dx.across with ⟨hx, _⟩ | ⟨ba, oa, ca2, hva, _, hpa, hca⟩
      · exact absurd (hx ▸ haa) (Nat.not_lt_zero _)
      injection hva with e1 e2 e3
      subst e1 e3
      clear e2
      rcases HX1.out.dx.down with ⟨hx, _⟩ | ⟨be, oe, ce2, hvd, _, hpd, hcd⟩
      · exact absurd (hx ▸ had) (Nat.not_lt_zero _)
      injection hvd with e1 e2 e3
      subst e1 e3
      clear e2
      obtain ⟨uj, huj, hrj⟩ := hca a haa
      obtain ⟨xj, yj, rfl⟩ := Sl.shape hrj
      obtain ⟨uk, huk, hrk⟩ := hcd a had
      obtain ⟨xk, yk, rfl⟩ := Sl.shape hrk
      have hui1 := later (B := w.heap.size) HX1.out.below (Nat.le_refl _) hui
      clear hui hpa hpd hca hcd hrj hrk
      obtain ⟨l1, hl1⟩ : ∃ l, l = (ds.getD a []).length := ⟨_, rfl⟩
      obtain ⟨l2, hl2⟩ : ∃ l, l = (ac[a]).length := ⟨_, rfl⟩
      obtain ⟨l3, hl3⟩ : ∃ l, l = (dn[a]).length := ⟨_, rfl⟩
      rw [← hl1] at hui1
      rw [← hl2] at huj
      rw [← hl3] at huk
      have HL1 : Hid (l1 = (ds.getD a []).length) := Lib.hid hl1
      have HL2 : Hid (l2 = (ac.getD a []).length) := Lib.hid (by rw [getD_of_lt _ haa]; exact hl2)
      have HL3 : Hid (l3 = (dn.getD a []).length) := Lib.hid (by rw [getD_of_lt _ had]; exact hl3)
      have HRI := Lib.hid hri
      have hl18 : l1 ≤ 1048576 := by rw [hl1, getD_of_lt _ hal]; exact HBD.out.2 _ (List.getElem_mem hal)
      clear hl1 hl2 hl3 hri
      by_cases k1 : l1 = q
      rotate_left
      · have HNO : Hid (¬ PP) := Lib.hid (fun h => k1 (by rw [HL1.out, HQ.out, getD_of_lt _ hal]; exact ((HPI.out.1 h).cel.col _ (List.getElem_mem hal)).1))
        clear hal haa had
        have hq1 : ((l1 : Int) != (q : Int)) = true := by have hz : (l1 : Int) ≠ (q : Int) := (by omega); simp [hz]
        go_wp2
        go_ret
        exact bb_false HX1.out.below HNO.out
      by_cases k2 : l2 = q
      rotate_left
      · have HNO : Hid (¬ PP) := Lib.hid (fun h => k2 (by rw [HL2.out, (HPI.out.1 h).tbs.ca a hal, getD_of_lt _ hal, ((HPI.out.1 h).cel.col _ (List.getElem_mem hal)).1]; exact HQ.out.symm))
        clear hal haa had
        subst k1
        have hq1 : ((l1 : Int) != (l1 : Int)) = false := by simp
        have hq2 : ((l2 : Int) != (l1 : Int)) = true := by have hz : (l2 : Int) ≠ (l1 : Int) := (by omega); simp [hz]
        go_wp2
        go_ret
        exact bb_false HX1.out.below HNO.out
      by_cases k3 : l3 = q
      rotate_left
      · have HNO : Hid (¬ PP) := Lib.hid (fun h => k3 (by rw [HL3.out, (HPI.out.1 h).tbs.cd a hal, getD_of_lt _ hal, ((HPI.out.1 h).cel.col _ (List.getElem_mem hal)).1]; exact HQ.out.symm))
        clear hal haa had
        subst k1
        subst k2
        have hq1 : ((l2 : Int) != (l2 : Int)) = false := by simp
        have hq2 : ((l3 : Int) != (l2 : Int)) = true := by have hz : (l3 : Int) ≠ (l2 : Int) := (by omega); simp [hz]
        go_wp2
        go_ret
        exact bb_false HX1.out.below HNO.out
      subst k1
      subst k2
      subst k3
      have hq1 : ((l3 : Int) != (l3 : Int)) = false := by simp
      have HAL := Lib.hid hal
      clear hal haa had
      go_wp2
      clear hq1
      go_loopw [6] (fun j wr => ∃ b : Nat, b ≤ l3 ∧ j = .int .i64 b ∧ w1 = wr ∧ Hid (∀ b', b' < b → 0 ≤ (ds.getD a []).getD b' 0 ∧ (ds.getD a []).getD b' 0 ≤ 4)) (fun j _ => l3 - (intOf j).toNat)
      case atStart => exact ⟨0, Nat.zero_le _, rfl, rfl, Lib.hid (fun _ h => absurd h (Nat.not_lt_zero _))⟩
      case round =>
        obtain ⟨b, hb, rfl, rfl, HB⟩ := hrel
        by_cases hltb : b < l3
        · have hltj : (b : Int) < (l3 : Int) := by omega
          have hbi : (0 : Int) ≤ (b : Int) := by omega
          have hbl : b < (ds.getD a []).length := by rw [← HL1.out]; exact hltb
          rcases HRI.out with ⟨hx, _⟩ | ⟨bi, oi, ci, hvi, _, hpi, hci⟩
          · rw [hx] at hbl; exact absurd hbl (Nat.not_lt_zero _)
          injection hvi with e1 e2 e3
          subst e1 e3
          clear e2
          obtain ⟨ue, hue, hre⟩ := hci b hbl
          obtain ⟨d, hd⟩ : ∃ d, d = (ds.getD a []).getD b 0 := ⟨_, rfl⟩
          have hre' : ue = .int .i64 d := by rw [hd, getD_of_lt _ hbl]; exact hre
          subst hre'
          have hue1 := later (B := w.heap.size) HX1.out.below (Nat.le_refl _) hue
          have HBL := Lib.hid hbl
          have HDD := Lib.hid hd
          clear hue hci hpi hre hd hbl
          by_cases k4 : 0 ≤ d ∧ d ≤ 4
          rotate_left
          · have HNO : Hid (¬ PP) := Lib.hid (fun h => k4 (by have h1 := ((HPI.out.1 h).cel.col (ds.getD a []) (by rw [getD_of_lt _ HAL.out]; exact List.getElem_mem HAL.out)).2 _ (List.getElem_mem HBL.out); rw [HDD.out, getD_of_lt _ HBL.out]; exact h1))
            go_wp2_with fail
            refine (spin_no k4 _).mono ?_
            rintro e w' ⟨rfl, rfl⟩
            go_wp2
            go_ret
            exact bb_false HX1.out.below HNO.out
          have HK4 := Lib.hid k4
          go_wp2_with fail
          refine (spin_yes k4 _).mono ?_
          rintro e w' ⟨rfl, rfl⟩
          clear k4
          have HNEW : Hid (∀ b', b' < b + 1 → 0 ≤ (ds.getD a []).getD b' 0 ∧ (ds.getD a []).getD b' 0 ≤ 4) := Lib.hid (fun b' hb' => by
            by_cases e : b' = b
            · subst e; rw [← HDD.out]; exact HK4.out
            · exact HB.out b' (by omega))
          go_wp2
          go_roundw
          case rel => exact ⟨b + 1, by omega, by go_num, (by first | trivial | rfl), HNEW⟩
          case measure => simp [intOf]; omega
        · obtain rfl : b = l3 := by omega
          have HNEW : Hid (∀ a', a' < a + 1 → (ds.getD a' []).length = b ∧ (ac.getD a' []).length = b ∧ (dn.getD a' []).length = b ∧ AllIn 0 4 (ds.getD a' [])) := Lib.hid (fun a' ha' => by
            by_cases e : a' = a
            · subst e
              refine ⟨HL1.out.symm, HL2.out.symm, HL3.out.symm, fun x hx => ?_⟩
              obtain ⟨k, hk, rfl⟩ := List.getElem_of_mem hx
              have := HB.out k (by rw [HL1.out]; exact hk)
              rwa [getD_of_lt _ hk] at this
            · exact HA.out a' (by omega))
          go_wp2
          go_roundw
          case rel => exact ⟨a + 1, by omega, by go_num, (by first | trivial | rfl), HNEW⟩
          case measure => simp [intOf]; omega
    · obtain rfl : a = n4 := by omega
      have hcel : DclOk ds := by
        have h00 := HA.out 0 (by omega)
        refine ⟨by rw [← HM.out]; omega, by rw [← HM.out]; omega, by rw [h00.1]; omega, by rw [h00.1]; omega, fun r hr => ?_⟩
        obtain ⟨k, hk, rfl⟩ := List.getElem_of_mem hr
        have := HA.out k (by rw [HM.out]; exact hk)
        rw [getD_of_lt _ hk] at this
        exact ⟨by rw [this.1, h00.1], this.2.2.2⟩
      have HCEL := Lib.hid hcel
      clear hcel
      have HLL : Hid (∀ a', a' < a → (ds.getD a' []).length = q ∧ (ac.getD a' []).length = q ∧ (dn.getD a' []).length = q) := Lib.hid (fun a' h => ⟨(HA.out a' h).1, (HA.out a' h).2.1, (HA.out a' h).2.2.1⟩)
      have HDIM : Hid (∀ W, Below w1.heap.size w1 W → ∀ x y : Int, -1000 ≤ x ∧ x ≤ 1000 → -1000 ≤ y ∧ y ≤ 1000 → Calls Try.prog 90 #[.agg #[.int .i64 p, .slice (some ⟨bb, o, none⟩) a cd, .slice aa a ca', .slice ae a ce'], .int .i64 x, .int .i64 y] W fun r w' => r = .returned (.int .i64 (dco ds x y)) ∧ Below w1.heap.size w1 w') := Lib.hid (fun W hb x y hx hy => by
        have h0 := (HX1.out.next hb).dx.dims
        exact (l03Dim_any p x y _ _ _ ds W h0 HCEL.out hx hy).mono fun _ _ hh => ⟨hh.1, hb.trans (hh.2.mono hb.size)⟩)
      clear HA
      have hq4 : q ≤ 4 := by omega
      have hq1' : 1 ≤ q := by omega
      go_wp2
      go_loopw [7, 8] (fun i _ wr => ∃ x : Nat, x ≤ a ∧ i = .int .i64 x ∧ Hid (Below w1.heap.size w1 wr) ∧ Hid (∀ c ∈ cellsTo ds ds.length, c.1 < x → DTab p ds ac dn c)) (fun i _ _ => a - (intOf i).toNat)
      case atStart => exact ⟨0, Nat.zero_le _, rfl, Lib.hid (Below.refl _ _), Lib.hid (fun _ _ h => absurd h (Nat.not_lt_zero _))⟩
      case round =>
        obtain ⟨x, hx, rfl, HBwx, HTX⟩ := hrel
        obtain ⟨wx, hwx⟩ : ∃ wx : World, wx = wr := ⟨_, rfl⟩
        subst hwx
        by_cases hltx : x < a
        · have hltx' : (x : Int) < (a : Int) := by omega
          go_wp2
          go_loopw [8] (fun j wr => ∃ y : Nat, y ≤ q ∧ j = .int .i64 y ∧ Hid (Below w1.heap.size w1 wr) ∧ Hid (∀ y', y' < y → DTab p ds ac dn (x, y'))) (fun j _ => q - (intOf j).toNat)
          case atStart => exact ⟨0, Nat.zero_le _, rfl, HBwx, Lib.hid (fun _ h => absurd h (Nat.not_lt_zero _))⟩
          case round =>
            clear HBwx
            obtain ⟨y, hy, rfl, HBwy, HTY⟩ := hrel
            obtain ⟨wy, hwy⟩ : ∃ wy : World, wy = wr := ⟨_, rfl⟩
            subst hwy
            by_cases hlty : y < q
            · have hlty' : (y : Int) < (q : Int) := by omega
              have hal : x < ds.length := by rw [← HM.out]; exact hltx
              have hia : x < ac.length := by rw [← HN1.out]; exact hltx
              have hid : x < dn.length := by rw [← HN4.out]; exact hltx
              obtain ⟨hll1, hll2, hll3⟩ := HLL.out x hltx
              have hc : (x, y) ∈ cellsTo ds ds.length := mem_cells.2 ⟨hal, by dsimp only; rw [hll1]; exact hlty⟩
              have HC := Lib.hid hc
              rw [getD_of_lt _ hal] at hll1
              rw [getD_of_lt _ hia] at hll2
              rw [getD_of_lt _ hid] at hll3
              have hja : y < (ac[x]).length := by rw [hll2]; exact hlty
              have hjd : y < (dn[x]).length := by rw [hll3]; exact hlty
              have hdxy := (HX1.out.next HBwy.out).dx
              have hbz := HBwy.out
              have hzz := hbz.size
              obtain ⟨ba, oa, ca, b2, o2, k2, ut, hva, hA1, hA2, hTl⟩ := l4_at hdxy.across hia hja
              obtain ⟨be, oe, ce, b5, o5, k5, us, hvd, hE1, hE2, hSl⟩ := l4_at hdxy.down hid hjd
              have hT1b : Bd2 1048576 (ac[x])[y] := (HBA.out.2 _ (List.getElem_mem hia)).2 _ (List.getElem_mem hja)
              have hT2b : Bd2 1048576 (dn[x])[y] := (HBV.out.2 _ (List.getElem_mem hid)).2 _ (List.getElem_mem hjd)
              have hTt : (ac[x])[y] = (ac.getD x []).getD y [] := by rw [getD_of_lt _ hia, getD_of_lt _ hja]
              have hTs : (dn[x])[y] = (dn.getD x []).getD y [] := by rw [getD_of_lt _ hid, getD_of_lt _ hjd]
              rw [hTt] at hTl hT1b
              rw [hTs] at hSl hT2b
              rw [hll2] at hA1
              rw [hll3] at hE1
              injection hva with e1 e2 e3
              injection hvd with e4 e5 e6
              have HE1' : Hid (aa = some ⟨ba, oa, none⟩) := Lib.hid e1
              have HE4' : Hid (ae = some ⟨be, oe, none⟩) := Lib.hid e4
              clear e1 e2 e3 e4 e5 e6
              obtain ⟨ta, tc, hut⟩ := Sl.shape hTl
              obtain ⟨sa, sc, hus⟩ := Sl.shape hSl
              obtain ⟨TA, hTA⟩ : ∃ t, t = (ac.getD x []).getD y [] := ⟨_, rfl⟩
              obtain ⟨TD, hTD⟩ : ∃ t, t = (dn.getD x []).getD y [] := ⟨_, rfl⟩
              rw [← hTA] at hTl hT1b hut
              rw [← hTD] at hSl hT2b hus
              obtain ⟨nt, hnt⟩ : ∃ n, n = TA.length := ⟨_, rfl⟩
              obtain ⟨ns, hns⟩ : ∃ n, n = TD.length := ⟨_, rfl⟩
              rw [← hnt] at hut
              rw [← hns] at hus
              subst hut hus
              have HA1 := Lib.hid hA1
              have HA2 := Lib.hid hA2
              have HE1 := Lib.hid hE1
              have HE2 := Lib.hid hE2
              have HTL := Lib.hid hTl
              have HSL := Lib.hid hSl
              have HT1 := Lib.hid hT1b
              have HT2 := Lib.hid hT2b
              obtain ⟨d, hd⟩ : ∃ d, d = (ds.getD x []).getD y 0 := ⟨_, rfl⟩
              obtain ⟨ui, hui, hri⟩ := HCL.out x hal
              have hbl : y < (ds[x]).length := by rw [hll1]; exact hlty
              rcases hri with ⟨hx0, _⟩ | ⟨bi, oi, ci, rfl, _, hpi, hci⟩
              · rw [hx0] at hbl; exact absurd hbl (Nat.not_lt_zero _)
              obtain ⟨ue, hue, hre⟩ := hci y hbl
              have hre' : ue = .int .i64 d := by rw [hd, getD_of_lt _ hal, getD_of_lt _ hbl]; exact hre
              subst hre'
              rw [hll1] at hui
              have HUI : Hid (∀ W, Below wy.heap.size wy W → W.cell? ⟨bb, o + x, none⟩ = some (.slice (some ⟨bi, oi, none⟩) q ci) ∧ W.cell? ⟨bi, oi + y, none⟩ = some (.int .i64 d)) := Lib.hid (fun W hb => ⟨later (HX1.out.below.trans ((HBwy.out.trans (hb.mono hzz)).mono HX1.out.below.size)) (Nat.le_refl _) hui, later (HX1.out.below.trans ((HBwy.out.trans (hb.mono hzz)).mono HX1.out.below.size)) (Nat.le_refl _) hue⟩)
              have hcd := dco_dcl HCEL.out hc
              dsimp only at hcd
              have HDT : Hid (DTab p ds ac dn (x, y) ↔ TabOk p d (dco ds ((x : Int) - 1) y) TA ∧ TabOk p d (dco ds x ((y : Int) - 1)) TD) := Lib.hid (by
                show (TabOk p (dcl ds x y) (dcl ds ((x : Int) - 1) y) ((ac.getD x []).getD y []) ∧ TabOk p (dcl ds x y) (dcl ds x ((y : Int) - 1)) ((dn.getD x []).getD y [])) ↔ _
                rw [hcd.1, hcd.2, hTA, hTD, dcl_nat, hd])
              clear hA1 hA2 hE1 hE2 hTl hSl hT1b hT2b hTt hTs hTA hTD hnt hns hd hui hue hre hci hpi hcd hc hdxy hbl hja hjd hia hid hll1 hll2 hll3 hal
              obtain ⟨dl, hdl⟩ : ∃ z, z = dco ds ((x : Int) - 1) y := ⟨_, rfl⟩
              obtain ⟨db, hdb⟩ : ∃ z, z = dco ds x ((y : Int) - 1) := ⟨_, rfl⟩
              rw [← hdl, ← hdb] at HDT
              have HNZ : Hid (∀ W, Below wy.heap.size wy W → DBx w W w.heap.size p (.slice (some ⟨bb, o, none⟩) a cd) (.slice aa a ca') (.slice ae a ce') ds ac dn ∧ Below w1.heap.size w1 W) := Lib.hid (fun W hb => ⟨HX1.out.next (HBwy.out.trans (hb.mono hzz)), HBwy.out.trans (hb.mono hzz)⟩)
              have HDL : Hid (∀ W, Below wy.heap.size wy W → Calls Try.prog 90 #[.agg #[.int .i64 p, .slice (some ⟨bb, o, none⟩) a cd, .slice aa a ca', .slice ae a ce'], .int .i64 ((x : Int) - 1), .int .i64 (y : Int)] W fun r w' => r = .returned (.int .i64 dl) ∧ Below W.heap.size W w') := Lib.hid (fun W hb => by
                rw [hdl]
                exact l03Dim_any p _ _ _ _ _ ds W (HNZ.out W hb).1.dx.dims HCEL.out ⟨by omega, by omega⟩ ⟨by omega, by omega⟩)
              have HDB : Hid (∀ W, Below wy.heap.size wy W → Calls Try.prog 90 #[.agg #[.int .i64 p, .slice (some ⟨bb, o, none⟩) a cd, .slice aa a ca', .slice ae a ce'], .int .i64 (x : Int), .int .i64 ((y : Int) - 1)] W fun r w' => r = .returned (.int .i64 db) ∧ Below W.heap.size W w') := Lib.hid (fun W hb => by
                rw [hdb]
                exact l03Dim_any p _ _ _ _ _ ds W (HNZ.out W hb).1.dx.dims HCEL.out ⟨by omega, by omega⟩ ⟨by omega, by omega⟩)
              have HTA1 : Hid (∀ W, Below wy.heap.size wy W → Calls Try.prog 89 #[.int .i64 p, .slice ta nt tc, .int .i64 d, .int .i64 dl] W (BW (TabOk p d dl TA) W)) := Lib.hid (fun W hb => l01Table_any p _ _ _ _ W HP.out (HTL.out.below hb) HT1.out)
              have HTD1 : Hid (∀ W, Below wy.heap.size wy W → Calls Try.prog 89 #[.int .i64 p, .slice sa ns sc, .int .i64 d, .int .i64 db] W (BW (TabOk p d db TD) W)) := Lib.hid (fun W hb => l01Table_any p _ _ _ _ W HP.out (HSL.out.below hb) HT2.out)
              clear hdl hdb
              have wi : IntKind.i64.wrap ((x : Int) - 1) = (x : Int) - 1 := IntWalk.i64_in _ (by omega)
              have wj : IntKind.i64.wrap ((y : Int) - 1) = (y : Int) - 1 := IntWalk.i64_in _ (by omega)
              go_upto_region 23 with fail
              refine wp_region_held (S := fun W => Below wy.heap.size wy W) (by kernel_rfl) ?_
              have S0 : Below wy.heap.size wy wy.drew := (Below.refl _ _).drew
              change wpAnyH _ _ _ _ _ _ _ _ wy.drew
              obtain ⟨wd, hwd⟩ : ∃ wd, wd = wy.drew := ⟨_, rfl⟩
              rw [← hwd] at S0 ⊢
              clear hwd
              refine held_take (i := 0) (v := .pointer (some ⟨w.heap.size, 0, none⟩)) (some 107) rfl rfl (by kernel_rfl) (by kernel_rfl) (by kernel_rfl) (fun _ _ _ h => h) (yieldsIf_run0 (by kernel_rfl) (fun W _ => by kernel_rfl)) S0 ?_
              refine held_take (i := 1) (v := .int .i64 p) (some 108) rfl rfl (by kernel_rfl) (by kernel_rfl) (by kernel_rfl) (fun _ _ _ h => h) (yieldsIf_cell (by kernel_rfl) rfl (by kernel_rfl) (fun W h => hloadIn W (HNZ.out W h).1.c0)) S0 ?_
              refine held_take (i := 2) (v := .pointer (some ⟨w.heap.size, 2, none⟩)) (some 109) rfl rfl (by kernel_rfl) (by kernel_rfl) (by kernel_rfl) (fun _ _ _ h => h) (yieldsIf_run0 (by kernel_rfl) (fun W _ => by kernel_rfl)) S0 ?_
              refine held_take (i := 3) (v := .slice aa a ca') (some 110) rfl rfl (by kernel_rfl) (by kernel_rfl) (by kernel_rfl) (fun _ _ _ h => h) (yieldsIf_cell (by kernel_rfl) rfl (by kernel_rfl) (fun W h => hload4 W (HNZ.out W h).1.c2)) S0 ?_
              refine held_take (i := 4) (v := .int .i64 (x : Int)) (some 111) rfl rfl (by kernel_rfl) (by kernel_rfl) (by kernel_rfl) (fun _ _ _ h => h) (yieldsIf_move (by kernel_rfl) rfl (by kernel_rfl)) S0 ?_
              refine held_take (i := 5) (v := .pointer (some ⟨ba, oa + x, none⟩)) (some 112) rfl rfl (by kernel_rfl) (by kernel_rfl) (by kernel_rfl) (fun _ _ _ h => h) (yieldsIf_index (by kernel_rfl) rfl (by kernel_rfl) (by kernel_rfl) (hidx4 (cap := ca') HE1'.out hltx)) S0 ?_
              refine held_take (i := 6) (v := .slice (some ⟨b2, o2, none⟩) q k2) (some 113) rfl rfl (by kernel_rfl) (by kernel_rfl) (by kernel_rfl) (fun _ _ _ h => h) (yieldsIf_cell (by kernel_rfl) rfl (by kernel_rfl) (fun W h => hload3s W (later h (Nat.le_refl _) HA1.out))) S0 ?_
              refine held_take (i := 7) (v := .int .i64 (y : Int)) (some 114) rfl rfl (by kernel_rfl) (by kernel_rfl) (by kernel_rfl) (fun _ _ _ h => h) (yieldsIf_move (by kernel_rfl) rfl (by kernel_rfl)) S0 ?_
              refine held_take (i := 8) (v := .pointer (some ⟨b2, o2 + y, none⟩)) (some 115) rfl rfl (by kernel_rfl) (by kernel_rfl) (by kernel_rfl) (fun _ _ _ h => h) (yieldsIf_index (by kernel_rfl) rfl (by kernel_rfl) (by kernel_rfl) (hidx3 b2 o2 k2 hlty)) S0 ?_
              refine held_take (i := 9) (v := .slice ta nt tc) (some 116) rfl rfl (by kernel_rfl) (by kernel_rfl) (by kernel_rfl) (fun _ _ _ h => h) (yieldsIf_cell (by kernel_rfl) rfl (by kernel_rfl) (fun W h => hload2s W (later h (Nat.le_refl _) HA2.out))) S0 ?_
              refine held_take (i := 10) (v := .pointer (some ⟨w.heap.size, 1, none⟩)) (some 117) rfl rfl (by kernel_rfl) (by kernel_rfl) (by kernel_rfl) (fun _ _ _ h => h) (yieldsIf_run0 (by kernel_rfl) (fun W _ => by kernel_rfl)) S0 ?_
              refine held_take (i := 11) (v := .slice (some ⟨bb, o, none⟩) a cd) (some 118) rfl rfl (by kernel_rfl) (by kernel_rfl) (by kernel_rfl) (fun _ _ _ h => h) (yieldsIf_cell (by kernel_rfl) rfl (by kernel_rfl) (fun W h => hload2s W (HNZ.out W h).1.c1)) S0 ?_
              refine held_take (i := 12) (v := .int .i64 (x : Int)) (some 119) rfl rfl (by kernel_rfl) (by kernel_rfl) (by kernel_rfl) (fun _ _ _ h => h) (yieldsIf_move (by kernel_rfl) rfl (by kernel_rfl)) S0 ?_
              refine held_take (i := 13) (v := .pointer (some ⟨bb, o + x, none⟩)) (some 120) rfl rfl (by kernel_rfl) (by kernel_rfl) (by kernel_rfl) (fun _ _ _ h => h) (yieldsIf_index (by kernel_rfl) rfl (by kernel_rfl) (by kernel_rfl) (hidxS bb o cd hltx)) S0 ?_
              refine held_take (i := 14) (v := .slice (some ⟨bi, oi, none⟩) q ci) (some 121) rfl rfl (by kernel_rfl) (by kernel_rfl) (by kernel_rfl) (fun _ _ _ h => h) (yieldsIf_cell (by kernel_rfl) rfl (by kernel_rfl) (fun W h => hloadD W (HUI.out W h).1)) S0 ?_
              refine held_take (i := 15) (v := .int .i64 (y : Int)) (some 122) rfl rfl (by kernel_rfl) (by kernel_rfl) (by kernel_rfl) (fun _ _ _ h => h) (yieldsIf_move (by kernel_rfl) rfl (by kernel_rfl)) S0 ?_
              refine held_take (i := 16) (v := .pointer (some ⟨bi, oi + y, none⟩)) (some 123) rfl rfl (by kernel_rfl) (by kernel_rfl) (by kernel_rfl) (fun _ _ _ h => h) (yieldsIf_index (by kernel_rfl) rfl (by kernel_rfl) (by kernel_rfl) (hidxI bi oi ci hlty)) S0 ?_
              refine held_take (i := 17) (v := .int .i64 d) (some 124) rfl rfl (by kernel_rfl) (by kernel_rfl) (by kernel_rfl) (fun _ _ _ h => h) (yieldsIf_cell (by kernel_rfl) rfl (by kernel_rfl) (fun W h => hloadIn W (HUI.out W h).2)) S0 ?_
              refine held_take (i := 18) (v := .agg #[.int .i64 p, .slice (some ⟨bb, o, none⟩) a cd, .slice aa a ca', .slice ae a ce']) (some 125) rfl rfl (by kernel_rfl) (by kernel_rfl) (by kernel_rfl) (fun _ _ _ h => h) (yieldsIf_cell (by kernel_rfl) rfl (by kernel_rfl) (fun W h => hloadDb W (HNZ.out W h).1)) S0 ?_
              refine held_take (i := 19) (v := .int .i64 (x : Int)) (some 126) rfl rfl (by kernel_rfl) (by kernel_rfl) (by kernel_rfl) (fun _ _ _ h => h) (yieldsIf_move (by kernel_rfl) rfl (by kernel_rfl)) S0 ?_
              refine held_take (i := 20) (v := .int .i64 ((x : Int) - 1)) (some 127) rfl rfl (by kernel_rfl) (by kernel_rfl) (by kernel_rfl) (fun _ _ _ h => h) (yieldsIf_bin (by kernel_rfl) rfl (by kernel_rfl) (by kernel_rfl) (fun _ => rfl) (hsubA wi)) S0 ?_
              refine held_take (i := 21) (v := .int .i64 (y : Int)) (some 128) rfl rfl (by kernel_rfl) (by kernel_rfl) (by kernel_rfl) (fun _ _ _ h => h) (yieldsIf_move (by kernel_rfl) rfl (by kernel_rfl)) S0 ?_
              refine held_enter (i := 22) (some 129) (f := 90) (args := #[.agg #[.int .i64 p, .slice (some ⟨bb, o, none⟩) a cd, .slice aa a ca', .slice ae a ce'], .int .i64 ((x : Int) - 1), .int .i64 (y : Int)]) (by kernel_rfl) rfl rfl rfl (by kernel_rfl) (HDL.out _ S0) ?_ (fun c w' h => by cases h.1) (fun w' h => by cases h.1)
              rintro e3 W3 ⟨he3, hb3⟩
              injection he3 with he3
              subst he3
              have S1 : Below wy.heap.size wy W3 := S0.trans (hb3.mono S0.size)
              refine ⟨S1, ?_⟩
              refine held_enter (i := 23) (some 130) (f := 89) (args := #[.int .i64 p, .slice ta nt tc, .int .i64 d, .int .i64 dl]) (by kernel_rfl) rfl rfl rfl (by kernel_rfl) (HTA1.out _ S1) ?_ (fun c w' h => by obtain ⟨_, h, _⟩ := h; cases h) (fun w' h => by obtain ⟨_, h, _⟩ := h; cases h)
              rintro e4 W4 ⟨t1, he4, hw4, ht1⟩
              injection he4 with he4
              subst he4
              subst hw4
              refine ⟨S1, ?_⟩
              have HT1B := Lib.hid ht1
              clear ht1
              cases t1
              · refine held_take (i := 24) (v := .bool true) (some 131) rfl rfl (by kernel_rfl) (by kernel_rfl) (by kernel_rfl) (fun _ _ _ h => h) (yieldsIf_run0 (by kernel_rfl) (fun W _ => by kernel_rfl)) S1 ?_
                refine held_take (i := 25) (v := .bool true) (some 132) rfl rfl (by kernel_rfl) (by kernel_rfl) (by kernel_rfl) (fun _ _ _ h => h) (yieldsIf_move (by kernel_rfl) rfl (by kernel_rfl)) S1 ?_
                refine held_skip0 (i := 26) (some 133) rfl rfl (by kernel_rfl) (by kernel_rfl) (by kernel_rfl) (fun _ _ _ h => h) (by kernel_rfl) S1 ?_
                refine held_skip0 (i := 27) (some 134) rfl rfl (by kernel_rfl) (by kernel_rfl) (by kernel_rfl) (fun _ _ _ h => h) (by kernel_rfl) S1 ?_
                refine held_skip0 (i := 28) (some 135) rfl rfl (by kernel_rfl) (by kernel_rfl) (by kernel_rfl) (fun _ _ _ h => h) (by kernel_rfl) S1 ?_
                refine held_skip0 (i := 29) (some 136) rfl rfl (by kernel_rfl) (by kernel_rfl) (by kernel_rfl) (fun _ _ _ h => h) (by kernel_rfl) S1 ?_
                refine held_skip0 (i := 30) (some 137) rfl rfl (by kernel_rfl) (by kernel_rfl) (by kernel_rfl) (fun _ _ _ h => h) (by kernel_rfl) S1 ?_
                refine held_skip0 (i := 31) (some 138) rfl rfl (by kernel_rfl) (by kernel_rfl) (by kernel_rfl) (fun _ _ _ h => h) (by kernel_rfl) S1 ?_
                refine held_skip0 (i := 32) (some 139) rfl rfl (by kernel_rfl) (by kernel_rfl) (by kernel_rfl) (fun _ _ _ h => h) (by kernel_rfl) S1 ?_
                refine held_skip0 (i := 33) (some 140) rfl rfl (by kernel_rfl) (by kernel_rfl) (by kernel_rfl) (fun _ _ _ h => h) (by kernel_rfl) S1 ?_
                refine held_skip0 (i := 34) (some 141) rfl rfl (by kernel_rfl) (by kernel_rfl) (by kernel_rfl) (fun _ _ _ h => h) (by kernel_rfl) S1 ?_
                refine held_skip0 (i := 35) (some 142) rfl rfl (by kernel_rfl) (by kernel_rfl) (by kernel_rfl) (fun _ _ _ h => h) (by kernel_rfl) S1 ?_
                refine held_skip0 (i := 36) (some 143) rfl rfl (by kernel_rfl) (by kernel_rfl) (by kernel_rfl) (fun _ _ _ h => h) (by kernel_rfl) S1 ?_
                refine held_skip0 (i := 37) (some 144) rfl rfl (by kernel_rfl) (by kernel_rfl) (by kernel_rfl) (fun _ _ _ h => h) (by kernel_rfl) S1 ?_
                refine held_skip0 (i := 38) (some 145) rfl rfl (by kernel_rfl) (by kernel_rfl) (by kernel_rfl) (fun _ _ _ h => h) (by kernel_rfl) S1 ?_
                refine held_skip0 (i := 39) (some 146) rfl rfl (by kernel_rfl) (by kernel_rfl) (by kernel_rfl) (fun _ _ _ h => h) (by kernel_rfl) S1 ?_
                refine held_skip0 (i := 40) (some 147) rfl rfl (by kernel_rfl) (by kernel_rfl) (by kernel_rfl) (fun _ _ _ h => h) (by kernel_rfl) S1 ?_
                refine held_skip0 (i := 41) (some 148) rfl rfl (by kernel_rfl) (by kernel_rfl) (by kernel_rfl) (fun _ _ _ h => h) (by kernel_rfl) S1 ?_
                refine held_skip0 (i := 42) (some 149) rfl rfl (by kernel_rfl) (by kernel_rfl) (by kernel_rfl) (fun _ _ _ h => h) (by kernel_rfl) S1 ?_
                refine held_skip0 (i := 43) (some 150) rfl rfl (by kernel_rfl) (by kernel_rfl) (by kernel_rfl) (fun _ _ _ h => h) (by kernel_rfl) S1 ?_
                refine held_skip0 (i := 44) (some 151) rfl rfl (by kernel_rfl) (by kernel_rfl) (by kernel_rfl) (fun _ _ _ h => h) (by kernel_rfl) S1 ?_
                refine held_skip0 (i := 45) (some 152) rfl rfl (by kernel_rfl) (by kernel_rfl) (by kernel_rfl) (fun _ _ _ h => h) (by kernel_rfl) S1 ?_
                refine held_skip0 (i := 46) (some 153) rfl rfl (by kernel_rfl) (by kernel_rfl) (by kernel_rfl) (fun _ _ _ h => h) (by kernel_rfl) S1 ?_
                refine held_skip0 (i := 47) (some 154) rfl rfl (by kernel_rfl) (by kernel_rfl) (by kernel_rfl) (fun _ _ _ h => h) (by kernel_rfl) S1 ?_
                refine held_skip0 (i := 48) (some 155) rfl rfl (by kernel_rfl) (by kernel_rfl) (by kernel_rfl) (fun _ _ _ h => h) (by kernel_rfl) S1 ?_
                refine held_skip0 (i := 49) (some 156) rfl rfl (by kernel_rfl) (by kernel_rfl) (by kernel_rfl) (fun _ _ _ h => h) (by kernel_rfl) S1 ?_
                refine held_skip0 (i := 50) (some 157) rfl rfl (by kernel_rfl) (by kernel_rfl) (by kernel_rfl) (fun _ _ _ h => h) (by kernel_rfl) S1 ?_
                refine held_take (i := 51) (v := .bool true) (some 158) rfl rfl (by kernel_rfl) (by kernel_rfl) (by kernel_rfl) (fun _ _ _ h => h) (yieldsIf_run0 (by kernel_rfl) (fun W _ => by kernel_rfl)) S1 ?_
                refine wpAnyH_done (by kernel_rfl) ?_ _
                simp only [Act.put, List.setIfInBounds_toArray, List.set_cons_zero, List.set_cons_succ]
                have HS1 := Lib.hid (HNZ.out _ S1).2
                have HNO : Hid (¬ PP) := Lib.hid (fun h => by have h1 := HDT.out.1 ((HPI.out.1 h).tbs.tab _ HC.out); exact absurd (HT1B.out.2 h1.1) (by simp))
                clear S0 S1 hb3
                go_wp2
                go_ret
                exact bb_false (HX1.out.below.trans (HS1.out.mono HX1.out.below.size)) HNO.out
              · refine held_take (i := 24) (v := .bool false) (some 131) rfl rfl (by kernel_rfl) (by kernel_rfl) (by kernel_rfl) (fun _ _ _ h => h) (yieldsIf_run0 (by kernel_rfl) (fun W _ => by kernel_rfl)) S1 ?_
                refine held_take (i := 25) (v := .bool false) (some 132) rfl rfl (by kernel_rfl) (by kernel_rfl) (by kernel_rfl) (fun _ _ _ h => h) (yieldsIf_move (by kernel_rfl) rfl (by kernel_rfl)) S1 ?_
                refine held_take (i := 26) (v := .pointer (some ⟨w.heap.size, 0, none⟩)) (some 133) rfl rfl (by kernel_rfl) (by kernel_rfl) (by kernel_rfl) (fun _ _ _ h => h) (yieldsIf_runG (by kernel_rfl) (fun W _ => by kernel_rfl)) S1 ?_
                refine held_take (i := 27) (v := .int .i64 p) (some 134) rfl rfl (by kernel_rfl) (by kernel_rfl) (by kernel_rfl) (fun _ _ _ h => h) (yieldsIf_cellG (by kernel_rfl) rfl (by kernel_rfl) (fun W h => hloadIn W (HNZ.out W h).1.c0)) S1 ?_
                refine held_take (i := 28) (v := .pointer (some ⟨w.heap.size, 3, none⟩)) (some 135) rfl rfl (by kernel_rfl) (by kernel_rfl) (by kernel_rfl) (fun _ _ _ h => h) (yieldsIf_runG (by kernel_rfl) (fun W _ => by kernel_rfl)) S1 ?_
                refine held_take (i := 29) (v := .slice ae a ce') (some 136) rfl rfl (by kernel_rfl) (by kernel_rfl) (by kernel_rfl) (fun _ _ _ h => h) (yieldsIf_cellG (by kernel_rfl) rfl (by kernel_rfl) (fun W h => hload4 W (HNZ.out W h).1.c3)) S1 ?_
                refine held_take (i := 30) (v := .int .i64 (x : Int)) (some 137) rfl rfl (by kernel_rfl) (by kernel_rfl) (by kernel_rfl) (fun _ _ _ h => h) (yieldsIf_runG (by kernel_rfl) (fun W _ => by kernel_rfl)) S1 ?_
                refine held_take (i := 31) (v := .pointer (some ⟨be, oe + x, none⟩)) (some 138) rfl rfl (by kernel_rfl) (by kernel_rfl) (by kernel_rfl) (fun _ _ _ h => h) (yieldsIf_indexD (by kernel_rfl) rfl (by kernel_rfl) (by kernel_rfl) (hidx4 (cap := ce') HE4'.out hltx)) S1 ?_
                refine held_take (i := 32) (v := .slice (some ⟨b5, o5, none⟩) q k5) (some 139) rfl rfl (by kernel_rfl) (by kernel_rfl) (by kernel_rfl) (fun _ _ _ h => h) (yieldsIf_cellG (by kernel_rfl) rfl (by kernel_rfl) (fun W h => hload3s W (later h (Nat.le_refl _) HE1.out))) S1 ?_
                refine held_take (i := 33) (v := .int .i64 (y : Int)) (some 140) rfl rfl (by kernel_rfl) (by kernel_rfl) (by kernel_rfl) (fun _ _ _ h => h) (yieldsIf_runG (by kernel_rfl) (fun W _ => by kernel_rfl)) S1 ?_
                refine held_take (i := 34) (v := .pointer (some ⟨b5, o5 + y, none⟩)) (some 141) rfl rfl (by kernel_rfl) (by kernel_rfl) (by kernel_rfl) (fun _ _ _ h => h) (yieldsIf_indexD (by kernel_rfl) rfl (by kernel_rfl) (by kernel_rfl) (hidx3 b5 o5 k5 hlty)) S1 ?_
                refine held_take (i := 35) (v := .slice sa ns sc) (some 142) rfl rfl (by kernel_rfl) (by kernel_rfl) (by kernel_rfl) (fun _ _ _ h => h) (yieldsIf_cellG (by kernel_rfl) rfl (by kernel_rfl) (fun W h => hload2s W (later h (Nat.le_refl _) HE2.out))) S1 ?_
                refine held_take (i := 36) (v := .pointer (some ⟨w.heap.size, 1, none⟩)) (some 143) rfl rfl (by kernel_rfl) (by kernel_rfl) (by kernel_rfl) (fun _ _ _ h => h) (yieldsIf_runG (by kernel_rfl) (fun W _ => by kernel_rfl)) S1 ?_
                refine held_take (i := 37) (v := .slice (some ⟨bb, o, none⟩) a cd) (some 144) rfl rfl (by kernel_rfl) (by kernel_rfl) (by kernel_rfl) (fun _ _ _ h => h) (yieldsIf_cellG (by kernel_rfl) rfl (by kernel_rfl) (fun W h => hload2s W (HNZ.out W h).1.c1)) S1 ?_
                refine held_take (i := 38) (v := .int .i64 (x : Int)) (some 145) rfl rfl (by kernel_rfl) (by kernel_rfl) (by kernel_rfl) (fun _ _ _ h => h) (yieldsIf_runG (by kernel_rfl) (fun W _ => by kernel_rfl)) S1 ?_
                refine held_take (i := 39) (v := .pointer (some ⟨bb, o + x, none⟩)) (some 146) rfl rfl (by kernel_rfl) (by kernel_rfl) (by kernel_rfl) (fun _ _ _ h => h) (yieldsIf_indexD (by kernel_rfl) rfl (by kernel_rfl) (by kernel_rfl) (hidxS bb o cd hltx)) S1 ?_
                refine held_take (i := 40) (v := .slice (some ⟨bi, oi, none⟩) q ci) (some 147) rfl rfl (by kernel_rfl) (by kernel_rfl) (by kernel_rfl) (fun _ _ _ h => h) (yieldsIf_cellG (by kernel_rfl) rfl (by kernel_rfl) (fun W h => hloadD W (HUI.out W h).1)) S1 ?_
                refine held_take (i := 41) (v := .int .i64 (y : Int)) (some 148) rfl rfl (by kernel_rfl) (by kernel_rfl) (by kernel_rfl) (fun _ _ _ h => h) (yieldsIf_runG (by kernel_rfl) (fun W _ => by kernel_rfl)) S1 ?_
                refine held_take (i := 42) (v := .pointer (some ⟨bi, oi + y, none⟩)) (some 149) rfl rfl (by kernel_rfl) (by kernel_rfl) (by kernel_rfl) (fun _ _ _ h => h) (yieldsIf_indexD (by kernel_rfl) rfl (by kernel_rfl) (by kernel_rfl) (hidxI bi oi ci hlty)) S1 ?_
                refine held_take (i := 43) (v := .int .i64 d) (some 150) rfl rfl (by kernel_rfl) (by kernel_rfl) (by kernel_rfl) (fun _ _ _ h => h) (yieldsIf_cellG (by kernel_rfl) rfl (by kernel_rfl) (fun W h => hloadIn W (HUI.out W h).2)) S1 ?_
                refine held_take (i := 44) (v := .agg #[.int .i64 p, .slice (some ⟨bb, o, none⟩) a cd, .slice aa a ca', .slice ae a ce']) (some 151) rfl rfl (by kernel_rfl) (by kernel_rfl) (by kernel_rfl) (fun _ _ _ h => h) (yieldsIf_cellG (by kernel_rfl) rfl (by kernel_rfl) (fun W h => hloadDb W (HNZ.out W h).1)) S1 ?_
                refine held_take (i := 45) (v := .int .i64 (x : Int)) (some 152) rfl rfl (by kernel_rfl) (by kernel_rfl) (by kernel_rfl) (fun _ _ _ h => h) (yieldsIf_runG (by kernel_rfl) (fun W _ => by kernel_rfl)) S1 ?_
                refine held_take (i := 46) (v := .int .i64 (y : Int)) (some 153) rfl rfl (by kernel_rfl) (by kernel_rfl) (by kernel_rfl) (fun _ _ _ h => h) (yieldsIf_runG (by kernel_rfl) (fun W _ => by kernel_rfl)) S1 ?_
                refine held_take (i := 47) (v := .int .i64 ((y : Int) - 1)) (some 154) rfl rfl (by kernel_rfl) (by kernel_rfl) (by kernel_rfl) (fun _ _ _ h => h) (yieldsIf_binG (by kernel_rfl) rfl (by kernel_rfl) (by kernel_rfl) (fun _ => by kernel_rfl) (hsubA wj)) S1 ?_
                refine held_enterG (i := 48) (some 155) (f := 90) (args := #[.agg #[.int .i64 p, .slice (some ⟨bb, o, none⟩) a cd, .slice aa a ca', .slice ae a ce'], .int .i64 (x : Int), .int .i64 ((y : Int) - 1)]) (by kernel_rfl) rfl (by kernel_rfl) rfl (by kernel_rfl) (HDB.out _ S1) ?_ (fun c w' h => by cases h.1) (fun w' h => by cases h.1)
                rintro e5 W5 ⟨he5, hb5⟩
                injection he5 with he5
                subst he5
                have S2 : Below wy.heap.size wy W5 := S1.trans (hb5.mono S1.size)
                refine ⟨S2, ?_⟩
                refine held_enterG (i := 49) (some 156) (f := 89) (args := #[.int .i64 p, .slice sa ns sc, .int .i64 d, .int .i64 db]) (by kernel_rfl) rfl (by kernel_rfl) rfl (by kernel_rfl) (HTD1.out _ S2) ?_ (fun c w' h => by obtain ⟨_, h, _⟩ := h; cases h) (fun w' h => by obtain ⟨_, h, _⟩ := h; cases h)
                rintro e6 W6 ⟨t2, he6, hw6, ht2⟩
                injection he6 with he6
                subst he6
                subst hw6
                refine ⟨S2, ?_⟩
                have HT2B := Lib.hid ht2
                clear ht2
                cases t2
                · refine held_take (i := 50) (v := .bool true) (some 157) rfl rfl (by kernel_rfl) (by kernel_rfl) (by kernel_rfl) (fun _ _ _ h => h) (yieldsIf_runG (by kernel_rfl) (fun W _ => by kernel_rfl)) S2 ?_
                  refine held_take (i := 51) (v := .bool true) (some 158) rfl rfl (by kernel_rfl) (by kernel_rfl) (by kernel_rfl) (fun _ _ _ h => h) (yieldsIf_run0 (by kernel_rfl) (fun W _ => by kernel_rfl)) S2 ?_
                  refine wpAnyH_done (by kernel_rfl) ?_ _
                  simp only [Act.put, List.setIfInBounds_toArray, List.set_cons_zero, List.set_cons_succ]
                  have HS1 := Lib.hid (HNZ.out _ S2).2
                  have HNO : Hid (¬ PP) := Lib.hid (fun h => by have h1 := HDT.out.1 ((HPI.out.1 h).tbs.tab _ HC.out); exact absurd (HT2B.out.2 h1.2) (by simp))
                  clear S0 S1 S2 hb3 hb5
                  go_wp2
                  go_ret
                  exact bb_false (HX1.out.below.trans (HS1.out.mono HX1.out.below.size)) HNO.out
                · refine held_take (i := 50) (v := .bool false) (some 157) rfl rfl (by kernel_rfl) (by kernel_rfl) (by kernel_rfl) (fun _ _ _ h => h) (yieldsIf_runG (by kernel_rfl) (fun W _ => by kernel_rfl)) S2 ?_
                  refine held_take (i := 51) (v := .bool false) (some 158) rfl rfl (by kernel_rfl) (by kernel_rfl) (by kernel_rfl) (fun _ _ _ h => h) (yieldsIf_run0 (by kernel_rfl) (fun W _ => by kernel_rfl)) S2 ?_
                  refine wpAnyH_done (by kernel_rfl) ?_ _
                  simp only [Act.put, List.setIfInBounds_toArray, List.set_cons_zero, List.set_cons_succ]
                  have HS1 := Lib.hid (HNZ.out _ S2).2
                  have HNEW : Hid (∀ y', y' < y + 1 → DTab p ds ac dn (x, y')) := Lib.hid (fun y' hy' => by
                    by_cases e : y' = y
                    · subst e; exact HDT.out.2 ⟨HT1B.out.1 (by simp), HT2B.out.1 (by simp)⟩
                    · exact HTY.out y' (by omega))
                  clear S0 S1 S2 hb3 hb5
                  go_wp2
                  go_roundw
                  case rel => exact ⟨y + 1, by omega, by go_num, HS1, HNEW⟩
                  case measure => simp [intOf]; omega
            · obtain rfl : y = q := by omega
              have HNEW : Hid (∀ c ∈ cellsTo ds ds.length, c.1 < x + 1 → DTab p ds ac dn c) := Lib.hid (fun c hc hca => by
                by_cases e : c.1 = x
                · obtain ⟨c1', c2'⟩ := c
                  dsimp only at e
                  subst e
                  refine HTY.out c2' ?_
                  have h1 := mem_cells.1 hc
                  dsimp only at h1
                  rw [(HLL.out c1' hltx).1] at h1
                  exact h1.2
                · exact HTX.out c hc (by omega))
              go_wp2
              go_roundw
              case rel => exact ⟨x + 1, by omega, by go_num, HBwy, HNEW⟩
              case measure => simp [intOf]; omega
        · obtain rfl : x = a := by omega
          have HTB : Hid (TbsOk p ds ac dn) := Lib.hid ⟨by rw [← HN1.out]; exact HM.out, by rw [← HN4.out]; exact HM.out, fun i hi => by rw [← HM.out] at hi; rw [(HLL.out i hi).2.1, (HLL.out i hi).1], fun i hi => by rw [← HM.out] at hi; rw [(HLL.out i hi).2.2, (HLL.out i hi).1], fun c hc => HTX.out c hc (by rw [HM.out]; exact (mem_cells.1 hc).1)⟩
          have hxn := HX1.out.next HBwx.out
          have HXN := Lib.hid hxn
          have c0 := hxn.c0
          have c1 := hxn.c1
          have c2 := hxn.c2
          have c3 := hxn.c3
          clear hxn
          go_wp2_with fail
          refine (l03Square_any p HP.out _ _ _ ds ac dn _ HXN.out.dx HCEL.out HTB.out).mono ?_
          rintro e w' ⟨bq, rfl, hbq, hq2⟩
          have HBQ := Lib.hid hbq
          have HQ2 := Lib.hid hq2
          clear hbq hq2 c0 c1 c2 c3
          go_wp2
          go_ret
          exact ⟨bq, rfl, HXN.out.below.trans (HBQ.out.mono HXN.out.below.size), HQ2.out.trans ((sq_iff HP.out HCEL.out HTB.out).trans ⟨fun h => HPI.out.2 ⟨HP.out, HCEL.out, HTB.out, h⟩, fun h => (HPI.out.1 h).cnd⟩)⟩

end Go.Proofs.Ytlopenephgabhaa


namespace Go.Proofs.Ytlopenephgabhaa
open Go.RowKit

/-- A row, and a table, of numbers that are told cell by cell. -/
def NmRow (P : Nat → Nat → Int → Prop) (i m : Nat) (row : List Int) : Prop := row.length = m ∧ ∀ q, q < m → P i q (row.getD q 0)
def NmTab (P : Nat → Nat → Int → Prop) (n h : Nat) (out : List (List Int)) : Prop := out.length = n ∧ ∀ i, i < n → NmRow P i h (out.getD i [])
theorem NmRow.nil (P : Nat → Nat → Int → Prop) (i : Nat) : NmRow P i 0 [] := ⟨rfl, fun _ h => absurd h (Nat.not_lt_zero _)⟩
theorem NmTab.nil (P : Nat → Nat → Int → Prop) (h : Nat) : NmTab P 0 h [] := ⟨rfl, fun _ h => absurd h (Nat.not_lt_zero _)⟩
theorem NmRow.snoc {P : Nat → Nat → Int → Prop} {i m : Nat} {row : List Int} {x : Int} (h : NmRow P i m row) (hx : P i m x) : NmRow P i (m + 1) (row ++ [x]) := by
  refine ⟨by simp [h.1], fun q hq => ?_⟩
  by_cases e : q = m
  · subst e
    have : (row ++ [x]).getD q 0 = x := by rw [List.getD_eq_getElem?_getD, List.getElem?_append_right (by have := h.1; omega), h.1]; simp
    rw [this]
    exact hx
  · have : (row ++ [x]).getD q 0 = row.getD q 0 := by rw [List.getD_eq_getElem?_getD, List.getElem?_append_left (by have := h.1; omega), ← List.getD_eq_getElem?_getD]
    rw [this]
    exact h.2 q (by omega)
theorem NmTab.snoc {P : Nat → Nat → Int → Prop} {n m : Nat} {out : List (List Int)} {row : List Int} (h : NmTab P n m out) (hx : NmRow P n m row) : NmTab P (n + 1) m (out ++ [row]) := by
  refine ⟨by simp [h.1], fun q hq => ?_⟩
  by_cases e : q = n
  · subst e
    have : (out ++ [row]).getD q [] = row := by rw [List.getD_eq_getElem?_getD, List.getElem?_append_right (by have := h.1; omega), h.1]; simp
    rw [this]
    exact hx
  · have : (out ++ [row]).getD q [] = out.getD q [] := by rw [List.getD_eq_getElem?_getD, List.getElem?_append_left (by have := h.1; omega), ← List.getD_eq_getElem?_getD]
    rw [this]
    exact h.2 q (by omega)
theorem NmTab.tc {p : Int} {ds : List (List Int)} {dn : List (List (List (List Int)))} {out : List (List Int)} (hok : DclOk ds) (h : NmTab (fun i j x => HNum p (clD ds i) (clM dn i) j x) ds.length (ds.getD 0 []).length out) : TcOk p ds dn out := by
  refine ⟨h.1, fun i hi => ?_⟩
  have hh : (ds.getD i []).length = (ds.getD 0 []).length := cl_height hok hi
  have h1 := h.2 i hi
  rw [hh]
  exact ⟨h1.1, h1.2⟩
theorem TcOk.bd {p : Int} {ds : List (List Int)} {dn : List (List (List (List Int)))} {out : List (List Int)} (hok : DclOk ds) (h : TcOk p ds dn out) : Bd2 1048576 out := by
  have hl := hok.len1
  refine ⟨by rw [h.1]; omega, fun x hx => ?_⟩
  obtain ⟨k, hk, rfl⟩ := List.getElem_of_mem hx
  have hk2 : k < ds.length := by rw [← h.1]; exact hk
  have h1 := (h.2 k hk2).1
  have h2 : (ds.getD k []).length = (ds.getD 0 []).length := cl_height hok hk2
  have h3 := hok.h1
  rw [getD_of_lt _ hk] at h1
  show List.length _ ≤ _
  omega
theorem hsubLen {a b : Int} (h0 : -1000 ≤ a - b) (h1 : a - b ≤ 1000) (w : World) : (binOp .sub 3 (.int .i64 a) (.int .i64 b)).run Try.prog w = .ok (.int .i64 (a - b)) w := by
  have hw : IntKind.i64.wrap (a - b) = a - b := IntWalk.i64_in _ (by omega)
  go_simp

set_option maxHeartbeats 12800000 in
set_option maxRecDepth 100000 in
theorem l03Numbers_any (p : Int) (dv av vv : Value) (ds : List (List Int)) (ac dn : List (List (List (List Int)))) (w : World) (h : Dx 0 w dv av vv ds ac dn) (hdb : IsDb p ds ac dn) :
    Calls Try.prog 67 #[.agg #[.int .i64 p, dv, av, vv], .bool false] w fun e w' => ∃ u out, e = .returned u ∧ L2 0 w' u out ∧ Below w.heap.size w w' ∧ TcOk p ds dn out := by
  have HDB := Lib.hid hdb
  have hm4 := hdb.cel.len1
  have hm1 := hdb.cel.len0
  have hq1 := hdb.cel.h0
  have hq4 := hdb.cel.h1
  have HX := Lib.hid h
  rcases h.dims with ⟨hx, _⟩ | ⟨bb, o, cd, rfl, _, hpos, hcl⟩
  · subst hx; simp at hm1
  obtain ⟨u0, hu0, hr0⟩ := hcl 0 hpos
  rw [Nat.add_zero] at hu0
  obtain ⟨a0, z0, rfl⟩ := Sl.shape hr0
  rw [← getD_of_lt [] hpos] at hu0
  clear hcl hr0 h hdb
  obtain ⟨m, hm⟩ : ∃ m, m = ds.length := ⟨_, rfl⟩
  obtain ⟨hh, hhh⟩ : ∃ q, q = (ds.getD 0 []).length := ⟨_, rfl⟩
  have hx0 := DBx.start (p := p) 28 HX.out
  rw [← hm] at hm4 hm1 hpos hx0 ⊢
  rw [← hhh] at hq1 hq4 hu0
  have hB : Below w.heap.size w (w.alloc (.cells #[.int .i64 p, .slice (some ⟨bb, o, none⟩) m cd, av, vv] 28)) := (Below.refl _ _).alloc (Nat.le_refl _) _
  have hu1 := later hB (Nat.le_refl _) hu0
  clear hB hu0
  obtain ⟨w0, hw0⟩ : ∃ w1, w1 = w.alloc (.cells #[.int .i64 p, .slice (some ⟨bb, o, none⟩) m cd, av, vv] 28) := ⟨_, rfl⟩
  rw [← hw0] at hx0 hu1
  have HM := Lib.hid hm
  have HQ := Lib.hid hhh
  have HX1 := Lib.hid hx0
  have HU1 := Lib.hid hu1
  have HNX : Hid (∀ W, Below w0.heap.size w0 W → DBx w W w.heap.size p (.slice (some ⟨bb, o, none⟩) m cd) av vv ds ac dn ∧ W.cell? ⟨bb, o, none⟩ = some (.slice a0 hh z0)) := Lib.hid (fun W hb => ⟨HX1.out.next hb, later hb (Nat.le_refl _) HU1.out⟩)
  have HCY : Hid (∀ (i j : Nat) W, i < ds.length → j < (clD ds i).length → Below w0.heap.size w0 W → Calls Try.prog 102 #[.agg #[.int .i64 p, .slice (some ⟨bb, o, none⟩) m cd, av, vv], .int .i64 (i : Int), .int .i64 (j : Int)] W (KerR p (dimN (clD ds i) (j : Int)) (cycM (clD ds i) j) (cycT (clD ds i) (clM dn i) j) W)) := Lib.hid (fun i j W hi hj hb => l03Cycles_any p i j _ av vv ds ac dn W (HNX.out W hb).1.dx HDB.out hi hj)
  have HBO : Hid (∀ (i j : Nat) W, i < ds.length → j < (clD ds i).length → Below w0.heap.size w0 W → Calls Try.prog 103 #[.agg #[.int .i64 p, .slice (some ⟨bb, o, none⟩) m cd, av, vv], .int .i64 (i : Int), .int .i64 (j : Int)] W (EchR p (dimN (clD ds i) (j : Int)) ((tabN (clM dn i) j).map ofL) W)) := Lib.hid (fun i j W hi hj hb => l03Bounds_any p i j _ av vv ds ac dn W (HNX.out W hb).1.dx HDB.out hi hj)
  have HT0 := Lib.hid (Gs.new (base := w0.heap.size) w0 (Nat.le_refl _))
  clear hm hhh hx0 hu1
  go_enter Try.func67, Try.ntmps67
  go_upto_region 1 with fail
  rw [← hw0]
  clear hw0
  go_wp2
  go_loopw [5, 6, 7, 8] (fun ov i _ _ wr => ∃ (k : Nat) (tb : List (List Int)), k ≤ m ∧ i = .int .i64 k ∧ tb.length = k ∧ Hid (Below w0.heap.size w0 wr) ∧ Hid (Gs w0.heap.size wr ov tb) ∧ Hid (NmTab (fun i j x => HNum p (clD ds i) (clM dn i) j x) k hh tb)) (fun _ i _ _ _ => m - (intOf i).toNat)
  case atStart => exact ⟨0, [], Nat.zero_le _, rfl, rfl, Lib.hid (below_alloc1 _ _), HT0, Lib.hid (NmTab.nil _ _)⟩
  case round =>
    clear HT0
    obtain ⟨k, tb, hk, rfl, hgl, HB, HG, HP⟩ := hrel
    obtain ⟨wx, hwx⟩ : ∃ wx : World, wx = wr := ⟨_, rfl⟩
    subst hwx
    have hX := HNX.out _ HB.out
    have c0 := hX.1.c0
    have c1 := hX.1.c1
    have c2 := hX.1.c2
    have c3 := hX.1.c3
    have HXX := Lib.hid hX.1
    clear hX
    obtain ⟨ao, co, hov⟩ := Sl.shape HG.out.l2
    rw [hgl] at hov
    subst hov
    have HGN := Lib.hid hgl
    clear hgl
    have hsx : w0.heap.size ≤ wx.heap.size := HB.out.size
    by_cases hlt : k < m
    · have hkl : (k : Int) < (m : Int) := by omega
      have hkd : k < ds.length := by rw [← HM.out]; exact hlt
      have HS0 := Lib.hid (Gb.new (base := wx.heap.size) wx (Nat.le_refl _))
      go_wp2
      clear c0 c1 c2 c3
      go_loopw [7, 8] (fun ov i wr => ∃ (q : Nat) (row : List Int), q ≤ hh ∧ i = .int .i64 q ∧ row.length = q ∧ Hid (Below wx.heap.size wx wr) ∧ Hid (Gb wx.heap.size wr ov row) ∧ Hid (NmRow (fun i j x => HNum p (clD ds i) (clM dn i) j x) k q row)) (fun _ i _ => hh - (intOf i).toNat)
      case atStart => exact ⟨0, [], by omega, rfl, rfl, Lib.hid (below_alloc1 _ _), HS0, Lib.hid (NmRow.nil _ _)⟩
      case round =>
        clear HS0
        obtain ⟨q, row, hq, rfl, hrl, HBY, HS, HR⟩ := hrel
        obtain ⟨wy, hwy⟩ : ∃ wy : World, wy = wr := ⟨_, rfl⟩
        subst hwy
        have hsy : wx.heap.size ≤ wy.heap.size := HBY.out.size
        have HB1Y := Lib.hid (HB.out.trans (HBY.out.mono hsx))
        have hXY := HNX.out _ HB1Y.out
        have c0 := hXY.1.c0
        have c1 := hXY.1.c1
        have c2 := hXY.1.c2
        have c3 := hXY.1.c3
        have hu := hXY.2
        clear hXY
        obtain ⟨ar, cr, hrv⟩ := Sl.shape HS.out.l1
        rw [hrl] at hrv
        subst hrv
        have HSN := Lib.hid hrl
        clear hrl
        by_cases hlq : q < hh
        · have hlqi : (q : Int) < (hh : Int) := by omega
          have hqd : q < (clD ds k).length := by rw [cl_height HDB.out.cel hkd, ← HQ.out]; exact hlq
          go_upto_region 11 with fail
          clear c0 c1 c2 c3 hu
          refine wp_region_held (S := fun W => Below w0.heap.size w0 W) (by kernel_rfl) ?_
          have S0 : Below w0.heap.size w0 wy.drew := HB1Y.out.drew
          have HRB0 := Lib.hid (HS.out.below (Below.refl wy.heap.size wy).drew)
          change wpAnyH _ _ _ _ _ _ _ _ wy.drew
          obtain ⟨wd, hwd⟩ : ∃ wd, wd = wy.drew := ⟨_, rfl⟩
          rw [← hwd] at S0 HRB0 ⊢
          have hsd : wx.heap.size ≤ wd.heap.size := by rw [hwd]; exact hsy
          have HBXD : Hid (Below wx.heap.size wx wd) := Lib.hid (by rw [hwd]; exact HBY.out.drew)
          clear hwd
          refine held_take (i := 0) (v := (.slice ar q cr)) (some 35) rfl rfl (by kernel_rfl) (by kernel_rfl) (by kernel_rfl) (fun _ _ _ h => h) (yieldsIf_move (by kernel_rfl) rfl (by kernel_rfl)) S0 ?_
          refine held_take (i := 1) (v := (.agg #[.int .i64 p, .slice (some ⟨bb, o, none⟩) m cd, av, vv])) (some 36) rfl rfl (by kernel_rfl) (by kernel_rfl) (by kernel_rfl) (fun _ _ _ h => h) (yieldsIf_cell (by kernel_rfl) rfl (by kernel_rfl) (fun W h => hloadDb W (HNX.out W h).1)) S0 ?_
          refine held_take (i := 2) (v := (.int .i64 (k : Int))) (some 37) rfl rfl (by kernel_rfl) (by kernel_rfl) (by kernel_rfl) (fun _ _ _ h => h) (yieldsIf_move (by kernel_rfl) rfl (by kernel_rfl)) S0 ?_
          refine held_take (i := 3) (v := (.int .i64 (q : Int))) (some 38) rfl rfl (by kernel_rfl) (by kernel_rfl) (by kernel_rfl) (fun _ _ _ h => h) (yieldsIf_move (by kernel_rfl) rfl (by kernel_rfl)) S0 ?_
          refine held_take (i := 6) (v := (.agg #[.int .i64 p, .slice (some ⟨bb, o, none⟩) m cd, av, vv])) (some 41) rfl rfl (by kernel_rfl) (by kernel_rfl) (by kernel_rfl) (fun _ _ _ h => h) (yieldsIf_cell (by kernel_rfl) rfl (by kernel_rfl) (fun W h => hloadDb W (HNX.out W h).1)) S0 ?_
          refine held_take (i := 7) (v := (.int .i64 (k : Int))) (some 42) rfl rfl (by kernel_rfl) (by kernel_rfl) (by kernel_rfl) (fun _ _ _ h => h) (yieldsIf_move (by kernel_rfl) rfl (by kernel_rfl)) S0 ?_
          refine held_take (i := 8) (v := (.int .i64 (q : Int))) (some 43) rfl rfl (by kernel_rfl) (by kernel_rfl) (by kernel_rfl) (fun _ _ _ h => h) (yieldsIf_move (by kernel_rfl) rfl (by kernel_rfl)) S0 ?_
          refine held_enter (i := 4) (some 39) (f := 102) (args := #[.agg #[.int .i64 p, .slice (some ⟨bb, o, none⟩) m cd, av, vv], .int .i64 (k : Int), .int .i64 (q : Int)]) (by kernel_rfl) rfl rfl rfl (by kernel_rfl) (HCY.out k q _ hkd hqd S0) ?_ (fun c w' h => by obtain ⟨_, _, h, _⟩ := h; cases h) (fun w' h => by obtain ⟨_, _, h, _⟩ := h; cases h)
          rintro e3 W3 ⟨u3, R1, he3, hg3, hb3, hr3⟩
          injection he3 with he3
          subst he3
          have S1 : Below w0.heap.size w0 W3 := S0.trans (hb3.mono S0.size)
          have HRB1 := Lib.hid (HRB0.out.below hb3)
          have HBX1 : Hid (Below wx.heap.size wx W3) := Lib.hid (HBXD.out.trans (hb3.mono hsd))
          have HR1 := Lib.hid hr3
          have hl1 := hr3.short
          have hd8 := (dimN_le8 (cl_cx HDB.out hkd) q).1
          obtain ⟨a3, c3x, hv3⟩ := Sl.shape hg3.l2
          rw [List.length_map] at hv3
          subst hv3
          have hs3 := hb3.size
          clear hg3 hb3 hr3
          refine ⟨S1, ?_⟩
          refine held_take (i := 5) (v := (.int .i64 (R1.length : Int))) (some 40) rfl rfl (by kernel_rfl) (by kernel_rfl) (by kernel_rfl) (fun _ _ _ h => h) (yieldsIf_run (by kernel_rfl) (fun W _ => by kernel_rfl)) S1 ?_
          refine held_enter (i := 9) (some 44) (f := 103) (args := #[.agg #[.int .i64 p, .slice (some ⟨bb, o, none⟩) m cd, av, vv], .int .i64 (k : Int), .int .i64 (q : Int)]) (by kernel_rfl) rfl rfl rfl (by kernel_rfl) (HBO.out k q _ hkd hqd S1) ?_ (fun c w' h => by obtain ⟨_, _, h, _⟩ := h; cases h) (fun w' h => by obtain ⟨_, _, h, _⟩ := h; cases h)
          rintro e4 W4 ⟨u4, R2, he4, hg4, hb4, hr4, hl4⟩
          injection he4 with he4
          subst he4
          have S2 : Below w0.heap.size w0 W4 := S1.trans (hb4.mono S1.size)
          have HRB2 := Lib.hid (HRB1.out.below hb4)
          have HBX2 : Hid (Below wx.heap.size wx W4) := Lib.hid (HBX1.out.trans (hb4.mono (by omega)))
          have HR2 := Lib.hid hr4
          have hl2 := red_length hr4.red hr4.wd
          obtain ⟨a4, c4x, hv4⟩ := Sl.shape hg4.l2
          rw [List.length_map] at hv4
          subst hv4
          have hs4 := hb4.size
          clear hg4 hb4 hr4 hl4
          refine ⟨S2, ?_⟩
          refine held_take (i := 10) (v := (.int .i64 (R2.length : Int))) (some 45) rfl rfl (by kernel_rfl) (by kernel_rfl) (by kernel_rfl) (fun _ _ _ h => h) (yieldsIf_run (by kernel_rfl) (fun W _ => by kernel_rfl)) S2 ?_
          refine held_take (i := 11) (v := (.int .i64 ((R1.length : Int) - (R2.length : Int)))) (some 46) rfl rfl (by kernel_rfl) (by kernel_rfl) (by kernel_rfl) (fun _ _ _ h => h) (yieldsIf_bin (by kernel_rfl) rfl (by kernel_rfl) (by kernel_rfl) (fun _ => rfl) (hsubLen (by omega) (by omega))) S2 ?_
          have HX' : Hid (NmRow (fun i j x => HNum p (clD ds i) (clM dn i) j x) k (q + 1) (row ++ [(R1.length : Int) - (R2.length : Int)])) := Lib.hid (HR.out.snoc ⟨R1, R2, HR1.out, ⟨HR2.out.red, HR2.out.wd, HR2.out.eqv⟩, rfl⟩)
          obtain ⟨x, hx⟩ : ∃ x : Int, x = (R1.length : Int) - (R2.length : Int) := ⟨_, rfl⟩
          rw [← hx] at HX' ⊢
          clear hx HR1 HR2 hl1 hl2
          obtain ⟨W5, hW5⟩ : ∃ W', W' = W4.alloc (.cells #[.int .i64 x] 2) := ⟨_, rfl⟩
          have hb5 : Below W4.heap.size W4 W5 := by rw [hW5]; exact below_alloc1 _ _
          have hcell : W5.cell? ⟨W4.heap.size, 0, none⟩ = some (.int .i64 x) := by rw [hW5]; exact cell_alloc1 _ _ _
          have S3 : Below w0.heap.size w0 W5 := S2.trans (hb5.mono S2.size)
          have HRB3 := Lib.hid (HRB2.out.below hb5)
          have HBX3 : Hid (Below wx.heap.size wx W5) := Lib.hid (HBX2.out.trans (hb5.mono (by omega)))
          have hs5 := hb5.size
          refine held_buildI (i := 12) (some 47) (by kernel_rfl) rfl (by kernel_rfl) (by kernel_rfl) (.tmp 46) x (by kernel_rfl) (by kernel_rfl) ?_
          rw [← hW5]
          clear hW5
          refine ⟨S3, ?_⟩
          refine held_appendI (i := 13) (some 48) (by kernel_rfl) rfl (by kernel_rfl) (by kernel_rfl) (.tmp 35) (.tmp 47) (by kernel_rfl) wx.heap.size (.slice ar q cr) row.length (row.map (Value.int .i64)) (by kernel_rfl) HRB3.out W4.heap.size x (by kernel_rfl) hcell (by rw [HSN.out]; omega) (by omega) ?_
          intro v7 W7 hg7 hgr7
          have HS7 : Hid (Gb wx.heap.size W7 v7 (row ++ [x])) := Lib.hid (by unfold Gb; simpa using hg7)
          have HB7 : Hid (Below wx.heap.size wx W7) := Lib.hid (HBX3.out.grown hgr7 (by omega) (fun g hg => (HRB3.out.lt g hg).1))
          have S4 : Below w0.heap.size w0 W7 := HB.out.trans (HB7.out.mono hsx)
          have HL7 : (row ++ [x]).length = q + 1 := by rw [List.length_append, HSN.out]; rfl
          obtain ⟨a7, c7', hv7⟩ := Sl.shape HS7.out.l1
          rw [HL7] at hv7
          subst hv7
          clear hg7 hgr7 hcell hb5
          refine ⟨S4, ?_⟩
          refine held_take (i := 14) (v := (.slice a7 (q + 1) c7')) (some 7) rfl rfl (by kernel_rfl) (by kernel_rfl) (by kernel_rfl) (fun _ _ _ h => h) (yieldsIf_assign (by kernel_rfl) rfl (by kernel_rfl)) S4 ?_
          refine wpAnyH_done (by kernel_rfl) ?_ _
          simp only [Act.put, List.setIfInBounds_toArray, List.set_cons_zero, List.set_cons_succ]
          have HS4 := Lib.hid S4
          clear S0 S1 S2 S3 S4 HRB0 HRB1 HRB2 HRB3 HBX1 HBX2 HBX3 HBXD HR
          go_wp2
          go_roundw
          case rel => first | exact ⟨q + 1, row ++ [x], by omega, by go_num, HL7, HB7, HS7, HX'⟩ | ((repeat apply Exists.intro); exact ⟨⟨q + 1, row ++ [x], by omega, by go_num, HL7, HB7, HS7, HX'⟩, rfl⟩)
          case measure => simp [intOf]; omega
        · obtain rfl : q = hh := by omega
          have hba : Below wy.heap.size wy (wy.alloc (.cells #[.slice ar q cr] 35)) := below_alloc1 _ _
          have HGL := Lib.hid ((HG.out.below HBY.out).below hba)
          have HGU : Hid (G1 (wy.alloc (.cells #[.slice ar q cr] 35)) (.slice ar q cr) row) := Lib.hid (HS.out.g1.below hba)
          have HBZ := Lib.hid (HB1Y.out.trans (hba.mono HB1Y.out.size))
          have hcell := cell_alloc1 wy (.slice ar q cr) 35
          have HP' := Lib.hid (HP.out.snoc HR.out)
          clear hba HS HR c0 c2 c3
          go_wp2_with (at_builtin; refine wpList_appendG rfl (some 52) rfl (.tmp 49) (.tmp 51) rfl w0.heap.size _ tb rfl HGL.out wy.heap.size rfl ar q cr hcell row HGU.out ?c1 ?c2 ?_)
          case c1 => rw [HGN.out]; omega
          case c2 => first | (simp; omega) | omega
          intro v7 W7 hg7 hgr7
          have HG7 := Lib.hid hg7
          have HB7 : Hid (Below w0.heap.size w0 W7) := Lib.hid (HBZ.out.grown hgr7 (by simp; omega) (fun g hg => (HGL.out.lt g hg).1))
          have HL7 : (tb ++ [row]).length = k + 1 := by rw [List.length_append, HGN.out]; rfl
          clear hg7 hgr7 hcell
          go_wp2
          go_roundw
          case rel => first | exact ⟨k + 1, tb ++ [row], by omega, by go_num, HL7, HB7, HG7, HP'⟩ | ((repeat apply Exists.intro); exact ⟨⟨k + 1, tb ++ [row], by omega, by go_num, HL7, HB7, HG7, HP'⟩, rfl⟩)
          case measure => simp [intOf]; omega
    · obtain rfl : k = m := by omega
      go_wp2
      go_ret
      exact ⟨_, tb, rfl, HG.out.l2, HXX.out.below, NmTab.tc HDB.out.cel (by rw [← HM.out, ← HQ.out]; exact HP.out)⟩

set_option maxHeartbeats 3200000 in
set_option maxRecDepth 100000 in
theorem spColumnHomology_any (p : Int) (dv av vv : Value) (ds : List (List Int)) (ac dn : List (List (List (List Int)))) (w : World) (h : Dx 0 w dv av vv ds ac dn) (hbd : Bd2 1048576 ds) (hba : Bd4 1048576 ac) (hbv : Bd4 1048576 dn) :
    Calls Try.prog 24 #[.agg #[.int .i64 p, dv, av, vv]] w (AnsS (L2 0) (TcOk p ds dn) [] (chCode p ds ac dn) w) := by
  obtain ⟨w1, hw1⟩ : ∃ w1, w1 = w.alloc (.cells #[.int .i64 p, dv, av, vv] 28) := ⟨_, rfl⟩
  have HX1 : Hid (DBx w w1 w.heap.size p dv av vv ds ac dn) := Lib.hid (by rw [hw1]; exact DBx.start 28 h)
  have HID := Lib.hid (l03Is_any p dv av vv ds ac dn w1 HX1.out.dx hbd hba hbv)
  have c0 := HX1.out.c0
  have c1 := HX1.out.c1
  have c2 := HX1.out.c2
  have c3 := HX1.out.c3
  obtain ⟨cc, hcc⟩ : ∃ cc, cc = chCode p ds ac dn := ⟨_, rfl⟩
  have HCC := Lib.hid hcc
  rw [← hcc]
  clear h hbd hba hbv hcc
  go_enter Try.func24, Try.ntmps24
  go_upto_region 1 with fail
  rw [← hw1]
  clear hw1
  go_wp2_with fail
  refine HID.out.mono ?_
  rintro e w2 ⟨bb, rfl, hb2, hbb⟩
  have HX2 := Lib.hid (HX1.out.next hb2)
  have HBB := Lib.hid hbb
  clear hb2 hbb c0 c1 c2 c3 HID
  cases bb with
  | false =>
    have hno : ¬ IsDb p ds ac dn := fun h => by have := HBB.out.2 h; cases this
    obtain rfl : cc = 1 := HCC.out.trans (chCode_1 hno)
    clear hno
    go_wp2
    go_ret2
    exact ⟨.slice none 0 0, [], 1, rfl, Or.inl ⟨rfl, _, _, rfl⟩, HX2.out.below, RsOut.of_no (by decide)⟩
  | true =>
    have HDB : Hid (IsDb p ds ac dn) := Lib.hid (HBB.out.1 rfl)
    obtain rfl : cc = 0 := HCC.out.trans (chCode_0 HDB.out)
    have c0 := HX2.out.c0
    have c1 := HX2.out.c1
    have c2 := HX2.out.c2
    have c3 := HX2.out.c3
    clear HBB
    go_wp2_with fail
    refine (l03Numbers_any p dv av vv ds ac dn w2 HX2.out.dx HDB.out).mono ?_
    rintro e w3 ⟨u, t, rfl, hl3, hb3, hok⟩
    have HL3 := Lib.hid hl3
    have HB3 := Lib.hid hb3
    have HOK := Lib.hid hok
    have hsz := HX2.out.below.size
    clear c0 c1 c2 c3 hl3 hb3 hok
    go_wp2
    go_ret2
    exact ⟨u, t, 0, rfl, HL3.out, HX2.out.below.trans (HB3.out.mono hsz), RsOut.of_yes rfl HOK.out⟩
end Go.Proofs.Ytlopenephgabhaa


namespace Go.Proofs.Ytlopenephgabhaa
open Go.RowKit
theorem columnHomologyK_any (p : Int) (dv av vv : Value) (ds : List (List Int)) (ac dn : List (List (List (List Int)))) (w : World) (h : Dc 0 w dv av vv ds ac dn) (hb : DcB 1048576 ds ac dn) :
    Calls Try.prog 25 #[.agg #[.int .i64 p, dv, av, vv]] w (AnsW Rw2 (TcOk p ds dn) [] (chCode p ds ac dn) w) := columnHomology_any p dv av vv ds ac dn w ⟨h.fd, h.fa, h.fv.l4⟩ h.fv hb.bd hb.ba hb.bv
theorem spColumnHomologyK_any (p : Int) (dv av vv : Value) (ds : List (List Int)) (ac dn : List (List (List (List Int)))) (w : World) (h : Dc 0 w dv av vv ds ac dn) (hb : DcB 1048576 ds ac dn) :
    Calls Try.prog 24 #[.agg #[.int .i64 p, dv, av, vv]] w (AnsS (L2 0) (TcOk p ds dn) [] (chCode p ds ac dn) w) := spColumnHomology_any p dv av vv ds ac dn w ⟨h.fd, h.fa, h.fv.l4⟩ hb.bd hb.ba hb.bv
theorem chCode_zero {p : Int} {ds : List (List Int)} {ac dn : List (List (List (List Int)))} (h : chCode p ds ac dn = 0) : IsDb p ds ac dn := by
  by_cases hc : IsDb p ds ac dn
  · exact hc
  · rw [chCode_1 hc] at h; cases h
end Go.Proofs.Ytlopenephgabhaa


namespace Go.Proofs.Ytlopenephgabhaa
open Go.RowKit

set_option maxHeartbeats 12800000 in
set_option maxRecDepth 100000 in
theorem lawChl_any (p0 : Int) (dv0 av0 vv0 : Value) (dl0 : List (List Int)) (al0 : List (List (List (List Int)))) (vl0 : List (List (List (List Int)))) (w : World) (h0 : Dc 0 w dv0 av0 vv0 dl0 al0 vl0) (hml0 : DcB 9223372036854775807 dl0 al0 vl0) :
    Calls Try.prog 6 #[.agg #[.int .i64 p0, dv0, av0, vv0]] w (BR (.bool true) w) := by
  obtain ⟨W0, hW0⟩ : ∃ W0, W0 = (w.alloc (.cells #[.int .i64 p0, dv0, av0, vv0] 25)) := ⟨_, rfl⟩
  have HS0 : Hid (W0.heap.size = w.heap.size + 1) := Lib.hid (by rw [hW0]; simp)
  have HZ0 : Hid (Below w.heap.size w W0) := Lib.hid (by rw [hW0]; exact below_alloc1 _ _)
  have HK0 : Hid (BxDc w W0 (w.heap.size) p0 dv0 av0 vv0 dl0 al0 vl0) := Lib.hid (by rw [hW0]; exact BxDc.start _ h0)
  have HN0 : Hid (∀ W, Below (w.heap.size + 1) W0 W → BxDc w W (w.heap.size) p0 dv0 av0 vv0 dl0 al0 vl0) := Lib.hid (fun W hb => HK0.out.next (by rw [HS0.out]; exact hb))
  have HNW : Hid (∀ W, Below (w.heap.size + 1) W0 W → Below w.heap.size w W) := Lib.hid (fun W hb => HZ0.out.trans (hb.mono (by omega)))
  have HB : Hid (Below (w.heap.size + 1) W0 W0) := Lib.hid (Below.refl _ _)
  have hs0 : w.heap.size + 1 ≤ W0.heap.size := by have := HS0.out; omega
  have HML0 := Lib.hid hml0
  clear h0 hml0 HK0
  go_enter Try.func6, Try.ntmps6
  go_upto_region 1 with fail
  rw [← hW0]
  clear hW0
  have c00 := (HN0.out _ HB.out).c0
  have c01 := (HN0.out _ HB.out).c1
  have c02 := (HN0.out _ HB.out).c2
  have c03 := (HN0.out _ HB.out).c3
  go_wp2_with fail
  refine (sztDoublec_any p0 dv0 av0 vv0 dl0 al0 vl0 1048576 _ (HN0.out _ HB.out).cx (by omega) (by omega) HML0.out).mono ?_
  rintro ee wz0 ⟨sz0, rfl, hb, hpost⟩
  have hsz0 : W0.heap.size ≤ wz0.heap.size := hb.size
  have HB' := Lib.hid (HB.out.trans (hb.mono (by omega)))
  clear c00 c01 c02 c03
  clear hb HB
  have HB := HB'
  clear HB'
  rcases hpost with rfl | ⟨hp00, hp01, hpm0⟩
  · go_wp2
    go_ret
    exact ⟨rfl, HNW.out _ HB.out⟩
  have HMS0 := Lib.hid hpm0
  clear hpm0
  have c00 := (HN0.out _ HB.out).c0
  have c01 := (HN0.out _ HB.out).c1
  have c02 := (HN0.out _ HB.out).c2
  have c03 := (HN0.out _ HB.out).c3
  have HQd : Hid (Below wz0.heap.size wz0 wz0) := Lib.hid (Below.refl _ _)
  go_wp2_with fail
  refine (toDoublec_any p0 dv0 av0 vv0 dl0 al0 vl0 _ (HN0.out _ HB.out).cx HMS0.out.b).mono ?_
  rintro ee wS0 ⟨xdv0_S, xav0_S, xvv0_S, rfl, hc, hb⟩
  have hsS0 : wz0.heap.size ≤ wS0.heap.size := hb.size
  have HBS0 := Lib.hid (HB.out.trans (hb.mono (by omega)))
  have HQ0 := Lib.hid (HQd.out.trans (hb.mono (by omega)))
  have HXS00 := Lib.hid (hc.zero)
  clear hb hc
  clear c00 c01 c02 c03
  go_wp2_with fail
  refine (spColumnHomologyK_any p0 xdv0_S xav0_S xvv0_S dl0 al0 vl0 _ (HXS00.out) HMS0.out.b).mono ?_
  rintro ee wSr ⟨uS, oS, kS, rfl, hrS, hb, hoS⟩
  have hsSr : wS0.heap.size ≤ wSr.heap.size := hb.size
  have HBSr := Lib.hid (HBS0.out.trans (hb.mono (by omega)))
  have HQr := Lib.hid (HQ0.out.trans (hb.mono (by omega)))
  have HRS := Lib.hid hrS
  have HOS := Lib.hid hoS
  clear hb hoS hrS
  have hb := HQr.out
  clear HQd HQr HQ0 HXS00 HBS0 HBSr
  have HB' := Lib.hid (HB.out.trans (hb.mono (by omega)))
  clear hb HB
  have HB := HB'
  clear HB'
  have HBD : Hid (Bd2 1048576 oS) := Lib.hid (HOS.out.all (Q := Bd2 1048576) ⟨by simp, by simp⟩ (fun h0 a ha => ha.bd (chCode_zero h0).cel))
  have HK : Hid (Below wSr.heap.size wSr wSr) := Lib.hid (Below.refl _ _)
  have c00 := (HN0.out _ HB.out).c0
  have c01 := (HN0.out _ HB.out).c1
  have c02 := (HN0.out _ HB.out).c2
  have c03 := (HN0.out _ HB.out).c3
  go_wp2_with fail
  refine (toDoublecw_any p0 dv0 av0 vv0 dl0 al0 vl0 _ (HN0.out _ HB.out).cx HMS0.out.b).mono ?_
  rintro ee wc0 ⟨ydv0, yav0, yvv0, rfl, hc, hb⟩
  have hsc0 : wSr.heap.size ≤ wc0.heap.size := hb.size
  clear c00 c01 c02 c03
  have HB' := Lib.hid (HB.out.trans (hb.mono (by omega)))
  have HK' := Lib.hid (HK.out.trans (hb.mono (by omega)))
  clear hb HB HK
  have HB := HB'
  have HK := HK'
  clear HB' HK'
  have HC0 := Lib.hid hc
  obtain ⟨⟨ya0d, yc0d, rfl⟩, ⟨ya0a, yc0a, rfl⟩, ⟨ya0v, yc0v, rfl⟩⟩ := hc.cx.shapes
  clear hc
  obtain ⟨wb0, hwb⟩ : ∃ wb0, wb0 = wc0.alloc (.cells #[.int .i64 p0, .slice ya0d dl0.length yc0d, .slice ya0a al0.length yc0a, .slice ya0v vl0.length yc0v] 28) := ⟨_, rfl⟩
  have hb : Below wc0.heap.size wc0 wb0 := by rw [hwb]; exact below_alloc1 _ _
  have hsb0 : wc0.heap.size + 1 = wb0.heap.size := by rw [hwb]; simp
  have hsB0 : wc0.heap.size ≤ wb0.heap.size := by omega
  have HY0 : Hid (BqDc wb0 wc0.heap.size p0 (.slice ya0d dl0.length yc0d) (.slice ya0a al0.length yc0a) (.slice ya0v vl0.length yc0v) dl0 al0 vl0) := Lib.hid (by rw [hwb]; exact (BxDc.start _ HC0.out.cx.zero).bq)
  have HB' := Lib.hid (HB.out.trans (hb.mono (by omega)))
  have HK' := Lib.hid (HK.out.trans (hb.mono (by omega)))
  have HC0' := Lib.hid (HC0.out.same (Same.of_below hb (by omega)))
  clear hb HB HK HC0
  have HB := HB'
  have HK := HK'
  have HC0 := HC0'
  clear HB' HK' HC0'
  go_upto_region 7 with fail
  rw [← hwb]
  clear hwb
  have d00 := HY0.out.c0
  have d01 := HY0.out.c1
  have d02 := HY0.out.c2
  have d03 := HY0.out.c3
  go_wp2_with fail
  refine (columnHomologyK_any p0 _ _ _ dl0 al0 vl0 _ (HC0.out.cx.zero) HMS0.out.b).mono ?_
  rintro ee w7 ⟨u7, o7, k7, rfl, hw7, hb, hout7⟩
  obtain ⟨rfl, rfl⟩ := RsOut.unique (fun h0 _ _ ha hb => ha.unique (by have := (chCode_zero h0).prime.lo1; omega) hb) HOS.out hout7
  have hs7 : wb0.heap.size ≤ w7.heap.size := hb.size
  clear d00 d01 d02 d03
  have HB' := Lib.hid (HB.out.trans (hb.mono (by omega)))
  have HK' := Lib.hid (HK.out.trans (hb.mono (by omega)))
  have HC0' := Lib.hid (HC0.out.same (Same.of_below hb (by omega)))
  have HY0' := Lib.hid (HY0.out.next hb)
  clear hb HB HK HC0 HY0
  have HB := HB'
  have HK := HK'
  have HC0 := HC0'
  have HY0 := HY0'
  clear HB' HK' HC0' HY0'
  have HG := Lib.hid hw7
  clear hw7 hout7
  have hcode : (kS != kS) = false := by simp
  obtain ⟨aG, cG, eG⟩ := HG.out.shape
  obtain ⟨aS, cS, eS⟩ := Sl.shape HRS.out
  subst eG eS
  go_wp2_with fail
  refine (eq2_true _ _ oS _ HG.out.l (HRS.out.below HK.out) HBD.out).mono ?_
  rintro ee we1 ⟨rfl, hb⟩
  have hse1 : w7.heap.size ≤ we1.heap.size := hb.size
  have HB' := Lib.hid (HB.out.trans (hb.mono (by omega)))
  have HK' := Lib.hid (HK.out.trans (hb.mono (by omega)))
  have HC0' := Lib.hid (HC0.out.same (Same.of_below hb (by omega)))
  have HY0' := Lib.hid (HY0.out.next hb)
  have HG' := Lib.hid (HG.out.same (Same.of_below hb (by omega)))
  clear hb HB HK HC0 HY0 HG
  have HB := HB'
  have HK := HK'
  have HC0 := HC0'
  have HY0 := HY0'
  have HG := HG'
  clear HB' HK' HC0' HY0' HG'
  have c00 := (HN0.out _ HB.out).c0
  have c01 := (HN0.out _ HB.out).c1
  have c02 := (HN0.out _ HB.out).c2
  have c03 := (HN0.out _ HB.out).c3
  have d00 := HY0.out.c0
  have d01 := HY0.out.c1
  have d02 := HY0.out.c2
  have d03 := HY0.out.c3
  have HCX := Lib.hid (((HN0.out _ HB.out).cx).drew)
  have HCC := Lib.hid ((HY0.out.cx).drew)
  go_wp2_with fail
  go_region_held3 (fun w' => w'.cell? ⟨w.heap.size, 0, none⟩ = some (.int .i64 p0) ∧ w'.cell? ⟨w.heap.size, 1, none⟩ = some (dv0) ∧ w'.cell? ⟨w.heap.size, 2, none⟩ = some (av0) ∧ w'.cell? ⟨w.heap.size, 3, none⟩ = some (vv0) ∧ w'.cell? ⟨wc0.heap.size, 0, none⟩ = some (.int .i64 p0) ∧ w'.cell? ⟨wc0.heap.size, 1, none⟩ = some (.slice ya0d dl0.length yc0d) ∧ w'.cell? ⟨wc0.heap.size, 2, none⟩ = some (.slice ya0a al0.length yc0a) ∧ w'.cell? ⟨wc0.heap.size, 3, none⟩ = some (.slice ya0v vl0.length yc0v))
    (first | exact ⟨c00, c01, c02, c03, d00, d01, d02, d03⟩ | exact HS9.out | exact HSA.out | go_keep)
    (first
      | (go_at_call 12; refine (toDoublec_any p0 dv0 av0 vv0 dl0 al0 vl0 _ HCX.out HMS0.out.b).mono ?_; rintro ee w9 ⟨zdv09, zav09, zvv09, rfl, hcx9, hb9⟩; have HS9 := Lib.hid (And.intro (later hb9 (Nat.le_refl _) c00) (And.intro (later hb9 (Nat.le_refl _) c01) (And.intro (later hb9 (Nat.le_refl _) c02) (And.intro (later hb9 (Nat.le_refl _) c03) (And.intro (later hb9 (Nat.le_refl _) d00) (And.intro (later hb9 (Nat.le_refl _) d01) (And.intro (later hb9 (Nat.le_refl _) d02) (later hb9 (Nat.le_refl _) d03)))))))); have HX9 := Lib.hid (And.intro hcx9 (And.intro (HCC.out.below hb9) (Below.trans ((Below.refl we1.heap.size we1).drew) hb9))); clear hcx9 hb9)
      | (go_at_call 14; refine (eqDoublec_true p0 _ _ _ zdv09 zav09 zvv09 dl0 al0 vl0 _ HX9.out.2.1 HX9.out.1.zero HMS0.out.b).mono ?_; rintro ee wA0 ⟨rfl, hbA⟩; have HSA := Lib.hid (And.intro (later hbA (Nat.le_refl _) (HS9.out.1)) (And.intro (later hbA (Nat.le_refl _) (HS9.out.2.1)) (And.intro (later hbA (Nat.le_refl _) (HS9.out.2.2.1)) (And.intro (later hbA (Nat.le_refl _) (HS9.out.2.2.2.1)) (And.intro (later hbA (Nat.le_refl _) (HS9.out.2.2.2.2.1)) (And.intro (later hbA (Nat.le_refl _) (HS9.out.2.2.2.2.2.1)) (And.intro (later hbA (Nat.le_refl _) (HS9.out.2.2.2.2.2.2.1)) (later hbA (Nat.le_refl _) (HS9.out.2.2.2.2.2.2.2))))))))); have HXA := Lib.hid (Below.trans HX9.out.2.2 (hbA.mono HX9.out.2.2.size)); clear hbA))
  have hsa0 : we1.heap.size ≤ wA0.heap.size := HXA.out.size
  have hb := HXA.out
  clear c00 c01 c02 c03
  clear d00 d01 d02 d03
  clear HXA HSA HS9 HX9 HCX HCC
  have HB' := Lib.hid (HB.out.trans (hb.mono (by omega)))
  have HK' := Lib.hid (HK.out.trans (hb.mono (by omega)))
  have HC0' := Lib.hid (HC0.out.same (Same.of_below hb (by omega)))
  have HY0' := Lib.hid (HY0.out.next hb)
  have HG' := Lib.hid (HG.out.same (Same.of_below hb (by omega)))
  clear hb HB HK HC0 HY0 HG
  have HB := HB'
  have HK := HK'
  have HC0 := HC0'
  have HY0 := HY0'
  have HG := HG'
  clear HB' HK' HC0' HY0' HG'
  have d00 := HY0.out.c0
  have d01 := HY0.out.c1
  have d02 := HY0.out.c2
  have d03 := HY0.out.c3
  go_wp2_with fail
  refine (markDoublecK_any 1 p0 _ _ _ dl0 al0 vl0 _ HC0.out (by omega) HMS0.out (by omega) (by omega)).mono ?_
  rintro ee wD0 ⟨r0, wM, rfl, hr00, hr01, hb, hoM, htM⟩
  have hsM0 : wA0.heap.size ≤ wM.heap.size := hb.size
  have hsD0 : wD0.heap.size = wM.heap.size := hoM.size
  have hsE0 : wA0.heap.size ≤ wD0.heap.size := by omega
  clear d00 d01 d02 d03
  have HB' := Lib.hid ((HB.out.trans (hb.mono (by omega))).trans (hoM.below (by omega)))
  have HK' := Lib.hid ((HK.out.trans (hb.mono (by omega))).trans (hoM.below (by omega)))
  have HG' := Lib.hid (HG.out.same ((Same.of_below hb (by omega)).trans (hoM.same (by omega))))
  clear hoM htM hb HC0 HY0 HB HK HG
  have HB := HB'
  have HK := HK'
  have HG := HG'
  clear HB' HK' HG'
  have hneg0 : ¬ r0 < 0 := by omega
  go_wp2_with fail
  refine (eq2_true _ _ oS _ HG.out.l (HRS.out.below HK.out) HBD.out).mono ?_
  rintro ee we2 ⟨rfl, hb⟩
  have hse2 : wD0.heap.size ≤ we2.heap.size := hb.size
  have HB' := Lib.hid (HB.out.trans (hb.mono (by omega)))
  have HK' := Lib.hid (HK.out.trans (hb.mono (by omega)))
  have HG' := Lib.hid (HG.out.same (Same.of_below hb (by omega)))
  clear hb HB HK HG
  have HB := HB'
  have HK := HK'
  have HG := HG'
  clear HB' HK' HG'
  go_wp2_with fail
  refine (markR2_any HG.out).mono ?_
  rintro ee wG ⟨mm, rfl, hm0, hm1, hoG, hmk⟩
  have hsG : we2.heap.size ≤ wG.heap.size := Nat.le_of_eq hoG.size.symm
  have HB' := Lib.hid (HB.out.trans (hoG.below (by omega)))
  have HK' := Lib.hid (HK.out.trans (hoG.below (by omega)))
  have HG' := Lib.hid hmk
  clear hoG hmk HB HK HG
  have HB := HB'
  have HK := HK'
  have HG := HG'
  clear HB' HK' HG'
  have hneg : ¬ mm < 0 := by omega
  have hsum : (mm != mm) = false := by simp
  go_wp2_with fail
  refine (heldR2_any HG.out).mono ?_
  rintro ee w' ⟨rfl, rfl⟩
  have c00 := (HN0.out _ HB.out).c0
  have c01 := (HN0.out _ HB.out).c1
  have c02 := (HN0.out _ HB.out).c2
  have c03 := (HN0.out _ HB.out).c3
  have HQd : Hid (Below wG.heap.size wG wG) := Lib.hid (Below.refl _ _)
  go_wp2_with fail
  refine (toDoublec_any p0 dv0 av0 vv0 dl0 al0 vl0 _ (HN0.out _ HB.out).cx HMS0.out.b).mono ?_
  rintro ee wJ0 ⟨xdv0_J, xav0_J, xvv0_J, rfl, hc, hb⟩
  have hsJ0 : wG.heap.size ≤ wJ0.heap.size := hb.size
  have HBJ0 := Lib.hid (HB.out.trans (hb.mono (by omega)))
  have HQ0 := Lib.hid (HQd.out.trans (hb.mono (by omega)))
  have HXJ00 := Lib.hid (hc.zero)
  clear hb hc
  clear c00 c01 c02 c03
  go_wp2_with fail
  refine (columnHomologyK_any p0 xdv0_J xav0_J xvv0_J dl0 al0 vl0 _ (HXJ00.out) HMS0.out.b).mono ?_
  rintro ee wJr ⟨uJ, oJ, kJ, rfl, hrJ, hb, hoJ⟩
  have hsJr : wJ0.heap.size ≤ wJr.heap.size := hb.size
  have HBJr := Lib.hid (HBJ0.out.trans (hb.mono (by omega)))
  have HQr := Lib.hid (HQ0.out.trans (hb.mono (by omega)))
  have HRJ := Lib.hid hrJ
  have HOJ := Lib.hid hoJ
  clear hb hoJ hrJ
  have hb := HQr.out
  clear HQd HQr HQ0 HXJ00 HBJ0 HBJr
  have HB' := Lib.hid (HB.out.trans (hb.mono (by omega)))
  have HK' := Lib.hid (HK.out.trans (hb.mono (by omega)))
  have HG' := Lib.hid (HG.out.same (Same.of_below hb (by omega)))
  clear hb HB HK HG
  have HB := HB'
  have HK := HK'
  have HG := HG'
  clear HB' HK' HG'
  obtain ⟨rfl, rfl⟩ := RsOut.unique (fun h0 _ _ ha hb => ha.unique (by have := (chCode_zero h0).prime.lo1; omega) hb) HOS.out HOJ.out
  clear HOJ
  have HRJ' := Lib.hid HRJ.out.l
  clear HRJ
  have HRJ := HRJ'
  clear HRJ'
  go_wp2_with fail
  refine (eq2_true _ _ oS _ HRJ.out (HRS.out.below HK.out) HBD.out).mono ?_
  rintro ee wK ⟨rfl, hb⟩
  have hsK : wJr.heap.size ≤ wK.heap.size := hb.size
  clear HRJ
  have HB' := Lib.hid (HB.out.trans (hb.mono (by omega)))
  have HK' := Lib.hid (HK.out.trans (hb.mono (by omega)))
  have HG' := Lib.hid (HG.out.same (Same.of_below hb (by omega)))
  clear hb HB HK HG
  have HB := HB'
  have HK := HK'
  have HG := HG'
  clear HB' HK' HG'
  go_wp2_with fail
  refine (heldR2_any HG.out).mono ?_
  rintro ee w' ⟨rfl, rfl⟩
  go_wp2
  go_ret
  exact ⟨rfl, HNW.out _ HB.out⟩
end Go.Proofs.Ytlopenephgabhaa

