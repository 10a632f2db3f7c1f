/-
  Texts that ProofIxl needs, part 4.
-/
import Derived.Test.YtaojiojldljhlaaDoorZi3
import Derived.Test.YtaojiojldljhlaaDoorRows
import Derived.ProofKit
import Derived.OpenShut
import Derived.ChangeOld
import Derived.Deep.Slices
import Derived.Lib.SmallJoins
import Derived.KernelRfl
import Derived.Deep.Strs
import Derived.Laws.EntriesVeiled
import Derived.Deep.RegionHeld3
import Derived.BigRegion
import Derived.Deep.Cut
import Derived.Deep.CutRange
import Derived.StillTailTactics
import Derived.Deep.AppendLies
import Derived.Defers
import Derived.Recover
import Derived.Deep.RegionWith
import Derived.BigQuiet
import Derived.Deep.QuietTactic
import Derived.Test.YtaojiojldljhlaaDoorCards
import Derived.Test.YtaojiojldljhlaaDoorTie
import Derived.WalkKit
import Derived.Deep.DeepHandedRow
import Derived.Stop.LaidErr
import Derived.RowKitTokens
namespace Go.Proofs.YtaojiojldljhlaaDoor
open Go.RowKit

/-- Approximate cycles of the degree above, none beyond the degrees. -/
def UpP (p : Int) (ds : List Int) (ms : List (List (List Int))) (ls : List (List Int)) (k : Nat) (q q0 : Int) (R : List Lin.V) : Prop := (k < ds.length → SpF p (dimN ds (k : Int)) (ZcD p ds ms ls k q q0) R) ∧ (¬ k < ds.length → R = [])
def dimgs (p : Int) (ds : List Int) (ms : List (List (List Int))) (k : Nat) (R : List Lin.V) : List Lin.V := R.map (dimg p (dimN ds (k : Int)) (cycT ds ms k))
/-- The bottom. -/
def BotS (p : Int) (ds : List Int) (ms : List (List (List Int))) (ls : List (List Int)) (k : Nat) (r q : Int) (v : Lin.V) : Prop :=
  ∃ A R, SpF p (dimN ds (k : Int)) (ZcD p ds ms ls k (q - 1) (q - r)) A ∧ UpP p ds ms ls (k + 1) (q + r - 1) q R ∧ Lin.Sp p (A ++ dimgs p ds ms (k + 1) R) v
theorem UpP.unique {p : Int} {ds : List Int} {ms : List (List (List Int))} {ls : List (List Int)} {k : Nat} {q q0 : Int} {R R' : List Lin.V} (hp : 1 < p) (h : UpP p ds ms ls k q q0 R) (h' : UpP p ds ms ls k q q0 R') : R = R' := by
  by_cases hk : k < ds.length
  · exact (h.1 hk).unique' hp (h'.1 hk)
  · rw [h.2 hk, h'.2 hk]
theorem UpP.short {p : Int} {ds : List Int} {ms : List (List (List Int))} {ls : List (List Int)} (hcx : IsCx p ds ms) {k : Nat} {q q0 : Int} {R : List Lin.V} (h : UpP p ds ms ls k q q0 R) : R.length ≤ 8 := by
  by_cases hk : k < ds.length
  · have := (h.1 hk).short
    have := (dimN_le8 hcx k).1
    omega
  · rw [h.2 hk]; simp
end Go.Proofs.YtaojiojldljhlaaDoor


namespace Go.Proofs.YtaojiojldljhlaaDoor
open Go.RowKit

section
variable {md : Region.Mode} {ops : Array Oper} {Q : Exit → Act → World → Prop} {S : World → Prop}
end

/-- Gathered rows of a table behind one another. -/
structure CatA (base : Nat) (w : World) (v : Value) (tb : List (List Int)) (xs : List Value) : Prop where
  own : w.ownsRow base 35 1 v tb.length xs
  len : xs.length = tb.length
  rows : ∀ k (h1 : k < xs.length) (h2 : k < tb.length), G1 w xs[k] tb[k]
theorem CatA.below {base : Nat} {w w' : World} {v : Value} {tb : List (List Int)} {xs : List Value} (h : CatA base w v tb xs) (hb : Below w.heap.size w w') : CatA base w' v tb xs := ⟨owns_below h.own hb, h.len, fun k h1 h2 => (h.rows k h1 h2).below hb⟩
theorem CatA.gs {base : Nat} {w : World} {v : Value} {tb : List (List Int)} {xs : List Value} (h : CatA base w v tb xs) : Gs base w v tb := ⟨xs, h.own, h.rows⟩
theorem CatA.start (w : World) (base : Nat) (hb : base ≤ w.heap.size) : CatA base (w.alloc (.cells #[] 35)) (.slice (some ⟨w.heap.size, 0, none⟩) 0 0) [] [] :=
  ⟨by simpa using World.ownsRow_made (base := base) (e := 35) (size := 1) w #[] 0 hb (by unfold maxLen; omega) (by simp), rfl, fun k h1 _ => absurd h1 (Nat.not_lt_zero _)⟩
/-- behind the append of a gathered table. -/
theorem CatA.add {base : Nat} {w w' : World} {v v' : Value} {ta tb : List (List Int)} {xs ys : List Value} (h : CatA base w v ta xs) (hb : ∀ k (h1 : k < ys.length) (h2 : k < tb.length), G1 w ys[k] tb[k]) (hl : ys.length = tb.length)
    (ho : w'.ownsRow base 35 1 v' (ta.length + tb.length) (xs ++ ys)) (hg : w.grownBy w' v.ownBlock) : CatA base w' v' (ta ++ tb) (xs ++ ys) := by
  have h1 := h.len
  refine ⟨by rw [List.length_append]; exact ho, by simp; omega, fun k hk hk2 => ?_⟩
  by_cases e : k < xs.length
  · rw [List.getElem_append_left e, List.getElem_append_left (by omega)]
    exact owns_grown (h.rows k e (by omega)) h.own (by decide) hg
  · rw [List.getElem_append_right (by omega), List.getElem_append_right (by omega)]
    have h3 : k - xs.length < ys.length := by rw [List.length_append] at hk; omega
    have : G1 w' ys[k - xs.length] (tb[k - xs.length]'(by omega)) := owns_grown (hb (k - xs.length) h3 (by omega)) h.own (by decide) hg
    simpa [h1] using this
end Go.Proofs.YtaojiojldljhlaaDoor


namespace Go.Proofs.YtaojiojldljhlaaDoor
open Go.RowKit

/-- The space that a page's basis spans. -/
def PgS (p : Int) (ds : List Int) (ms : List (List (List Int))) (ls : List (List Int)) (k : Nat) (r q : Int) (v : Lin.V) : Prop :=
  ∃ C B, SpF p (dimN ds (k : Int)) (ZcD p ds ms ls k q (q - r)) C ∧ SpF p (dimN ds (k : Int)) (BotS p ds ms ls k r q) B ∧ Lin.Sp p (C ++ B) v ∧ ∀ w ∈ B, v (Lin.ld w) = 0
end Go.Proofs.YtaojiojldljhlaaDoor


namespace Go.Proofs.YtaojiojldljhlaaDoor
open Go.RowKit

/-- What a function with a table answers: the table, or a code. -/
structure TbOut (P : List (List Int) → Prop) (c0 : Int) (out : List (List Int)) (c : Int) : Prop where
  good : c0 = 0 → P out
  bad : c0 ≠ 0 → out = []
  code : c = c0
theorem TbOut.unique {P : List (List Int) → Prop} {c0 : Int} {o1 o2 : List (List Int)} {c1 c2 : Int} (hu : c0 = 0 → ∀ a b, P a → P b → a = b) (h1 : TbOut P c0 o1 c1) (h2 : TbOut P c0 o2 c2) : o1 = o2 ∧ c1 = c2 := by
  refine ⟨?_, h1.code.trans h2.code.symm⟩
  by_cases h0 : c0 = 0
  · exact hu h0 _ _ (h1.good h0) (h2.good h0)
  · rw [h1.bad h0, h2.bad h0]
theorem TbOut.bd {P : List (List Int) → Prop} {c0 : Int} {o : List (List Int)} {c : Int} (h : TbOut P c0 o c) (hb : c0 = 0 → ∀ a, P a → Bd2 1048576 a) : Bd2 1048576 o := by
  by_cases h0 : c0 = 0
  · exact hb h0 _ (h.good h0)
  · rw [h.bad h0]
    exact ⟨by simp, by simp⟩
/-- The numbers at the leads of a list. -/
noncomputable def leadRow (W : List Lin.V) (r : Lin.V) : List Int := W.map fun w => r (Lin.ld w)
/-- The rests of vectors behind a list. -/
structure ImRests (p : Int) (B M rs : List Lin.V) : Prop where
  len : rs.length = M.length
  at' : ∀ i (h : i < M.length) (h' : i < rs.length), Lin.RestE p B M[i] B.length rs[i]
theorem ImRests.unique {p : Int} (hp : 0 < p) {B M rs rs' : List Lin.V} (hB : Lin.Red p B) (h : ImRests p B M rs) (h' : ImRests p B M rs') : rs = rs' :=
  List.ext_getElem (by rw [h.len, h'.len]) fun i h1 h2 => Lin.RestE.unique hp hB (h.at' i (by rw [← h.len]; exact h1) h1) (h'.at' i (by rw [← h.len]; exact h1) h2)

/-- The table of the page differential. -/
def PdT (p : Int) (ds : List Int) (ms : List (List (List Int))) (ls : List (List Int)) (k : Nat) (r q : Int) (out : List (List Int)) : Prop :=
  ∃ P, SpF p (dimN ds (k : Int)) (PgS p ds ms ls k r q) P ∧
    (((k = 0 ∨ q < r) ∧ out = P.map fun _ => []) ∨
     (¬ (k = 0 ∨ q < r) ∧ ∃ B W rs, SpF p (dimN ds ((k - 1 : Nat) : Int)) (BotS p ds ms ls (k - 1) r (q - r)) B ∧ SpF p (dimN ds ((k - 1 : Nat) : Int)) (PgS p ds ms ls (k - 1) r (q - r)) W ∧ ImRests p B (dimgs p ds ms k P) rs ∧ out = rs.map (leadRow W)))
theorem PdT.unique {p : Int} (hp : 1 < p) {ds : List Int} {ms : List (List (List Int))} {ls : List (List Int)} {k : Nat} {r q : Int} {a b : List (List Int)} (h : PdT p ds ms ls k r q a) (h' : PdT p ds ms ls k r q b) : a = b := by
  obtain ⟨P, hP, h⟩ := h
  obtain ⟨P', hP', h'⟩ := h'
  obtain rfl : P = P' := hP.unique' hp hP'
  rcases h with ⟨h0, rfl⟩ | ⟨h0, B, W, rs, hB, hW, hr, rfl⟩
  · rcases h' with ⟨_, rfl⟩ | ⟨h1, _⟩
    · rfl
    · exact absurd h0 h1
  · rcases h' with ⟨h1, _⟩ | ⟨_, B', W', rs', hB', hW', hr', rfl⟩
    · exact absurd h1 h0
    · obtain rfl : B = B' := hB.unique' hp hB'
      obtain rfl : W = W' := hW.unique' hp hW'
      rw [hr.unique (by omega) hB.1 hr']
theorem PdT.bd {p : Int} {ds : List Int} {ms : List (List (List Int))} {ls : List (List Int)} (hcx : IsCx p ds ms) {k : Nat} {r q : Int} {a : List (List Int)} (h : PdT p ds ms ls k r q a) : Bd2 1048576 a := by
  obtain ⟨P, hP, h⟩ := h
  have h8 := (dimN_le8 hcx k).1
  have hl := hP.short
  rcases h with ⟨_, rfl⟩ | ⟨_, B, W, rs, hB, hW, hr, rfl⟩
  · refine ⟨by rw [List.length_map]; omega, fun x hx => ?_⟩
    obtain ⟨_, _, rfl⟩ := List.mem_map.1 hx
    simp [Bd1]
  · have h8' := (dimN_le8 hcx (k - 1)).1
    have hl' := hW.short
    refine ⟨by rw [List.length_map, hr.len]; simp only [dimgs, List.length_map]; omega, fun x hx => ?_⟩
    obtain ⟨y, _, rfl⟩ := List.mem_map.1 hx
    simp only [Bd1, leadRow, List.length_map]
    omega

end Go.Proofs.YtaojiojldljhlaaDoor


namespace Go.Proofs.YtaojiojldljhlaaDoor
open Go.RowKit

theorem rowsV_ofL (t : List (List Int)) : rowsV (t.map ofL) = fun i => ofL (t.getD i []) := funext fun i => by
  by_cases h : i < t.length
  · simp [rowsV, List.getD, h]
  · have h' : t.length ≤ i := by omega
    simp only [rowsV, List.getD, List.getElem?_map, List.getElem?_eq_none h', Option.map_none, Option.getD_none]
    exact funext fun j => by simp [ofL, Lin.zv]
theorem dimg_add (p : Int) (d : Nat) (t : List (List Int)) (x : Lin.V) (c : Int) (y : Lin.V) : dimg p d t (Lin.add p x c y) = Lin.add p (dimg p d t x) c (dimg p d t y) := img_add p d _ x y c
theorem dimg_zv (p : Int) (d : Nat) (t : List (List Int)) : dimg p d t Lin.zv = Lin.zv := img_zv p d _
theorem dimg_sp {p : Int} {d : Nat} {t : List (List Int)} {L : List Lin.V} {v : Lin.V} (h : Lin.Sp p L v) : Lin.Sp p (L.map (dimg p d t)) (dimg p d t v) := by
  induction h with
  | zero => rw [dimg_zv]; exact .zero
  | step c _ hw ih => rw [dimg_add]; exact .step c ih (List.mem_map.2 ⟨_, hw, rfl⟩)
/-- The rank of a page differential. -/
def RkNum (p : Int) (ds : List Int) (ms : List (List (List Int))) (ls : List (List Int)) (k : Nat) (r q x : Int) : Prop :=
  ((k = 0 ∨ q < r) ∧ x = 0) ∨
  (¬ (k = 0 ∨ q < r) ∧ ∃ B Z E, SpF p (dimN ds ((k - 1 : Nat) : Int)) (BotS p ds ms ls (k - 1) r (q - r)) B ∧ SpF p (dimN ds (k : Int)) (ZcD p ds ms ls k q (q - r)) Z ∧ Lin.Red p E ∧ Lin.Eqv p E (B ++ dimgs p ds ms k Z) ∧ x = (E.length : Int) - (B.length : Int))
theorem RkNum.unique {p : Int} {ds : List Int} {ms : List (List (List Int))} {ls : List (List Int)} {k : Nat} {r q x y : Int} (hp : 1 < p) (h : RkNum p ds ms ls k r q x) (h' : RkNum p ds ms ls k r q y) : x = y := by
  rcases h with ⟨h0, rfl⟩ | ⟨h0, B, Z, E, hB, hZ, hE, he, rfl⟩
  · rcases h' with ⟨_, rfl⟩ | ⟨h1, _⟩
    · rfl
    · exact absurd h0 h1
  · rcases h' with ⟨h1, _⟩ | ⟨_, B', Z', E', hB', hZ', hE', he', rfl⟩
    · exact absurd h1 h0
    · obtain rfl : B = B' := hB.unique' hp hB'
      obtain rfl : Z = Z' := hZ.unique' hp hZ'
      rw [hE.unique hp hE' (fun v => (he v).trans (he' v).symm)]
theorem ofL_leadRow (W : List Lin.V) (v : Lin.V) : ofL (leadRow W v) = Lin.crd W v := funext fun k => by
  by_cases h : k < W.length
  · simp [ofL, leadRow, Lin.crd, List.getD, h]
  · simp [ofL, leadRow, Lin.crd, List.getD, h]
end Go.Proofs.YtaojiojldljhlaaDoor


namespace Go.Proofs.YtaojiojldljhlaaDoor
open Go.ChangeShapes Go.WideShapes Go.ChangeAt Go.RowKit Go.Deep

theorem Tryd.own : ownKnob Tryd.prog.godebug = none := by kernel_rfl
theorem Tryd.laidOut : laidOutB Tryd.prog = true := by kernel_rfl
theorem Tryd.cellsI : Tryd.prog.cellsOf 2 = 1 := by kernel_rfl
theorem Tryd.cellsS : Tryd.prog.cellsOf 35 = 1 := by kernel_rfl
section
variable {H : Type} {enc : TypeId × Value → H} {P : Program} {w : World} {base : Nat} {held : Bool}

theorem sl_of_trod {α : Type} [Inhabited α] {t e : TypeId} (ht : P.underlying t = some (.slice e)) (hc : P.cellsOf e = 1) {R : World → Value → α → Prop} {B : α → Prop}
    (hR : ∀ fuel v x, DataW.trod enc P w base (fun _ => true) held fuel e [v] = some x → ∃ a, R w v a ∧ B a) {fuel : Nat} {v : Value} {x : DataW H × List MemPlace}
    (h : DataW.trod enc P w base (fun _ => true) held fuel t [v] = some x) : ∃ xs : List α, Sl 0 R w v xs ∧ xs.length ≤ 9223372036854775807 ∧ ∀ a ∈ xs, B a := by
  rcases open_slice1 ht hc h with ⟨hcs, _⟩ | ⟨a, len, cap, m, n, V, D, Pl, hcs, _, hl, hm, hmm, _, hx⟩
  · obtain rfl : v = .slice none 0 0 := by simpa using hcs
    exact ⟨[], Or.inl ⟨rfl, _, _, rfl⟩, by simp, by simp⟩
  · obtain rfl : v = .slice (some a) len cap := by simpa using hcs
    simp only [if_true] at hmm
    have each : ∀ i, i < len → ∃ y : α, R w (V i) y ∧ B y := fun i hi => hR n _ _ (hx i (by omega)).2
    obtain ⟨f, hf⟩ := choose_lt each
    refine ⟨(List.range len).map f, ?_, by simpa [maxLen] using Nat.le_trans hl hm, fun y hy => ?_⟩
    · by_cases h0 : len = 0
      · subst h0
        exact Or.inl ⟨rfl, _, _, rfl⟩
      · obtain ⟨b, off, spot⟩ := a
        have hspot : spot = none := by simpa [Addr.add] using World.cell?_spot (hx 0 (by omega)).1
        subst hspot
        refine Or.inr ⟨b, off, cap, by simp, Nat.zero_le _, by simp; omega, fun k hk => ?_⟩
        have hk' : k < len := by simpa using hk
        refine ⟨V k, by rw [← Go.WideShapes.add_plain]; exact (hx k (by omega)).1, ?_⟩
        simp only [List.getElem_map, List.getElem_range]
        exact (hf k hk').1
    · obtain ⟨i, hi, rfl⟩ := List.mem_map.1 hy
      exact (hf i (by simpa using hi)).2
end

section
variable {H : Type} {enc : TypeId × Value → H} {w : World} {base : Nat} {held : Bool}
theorem l1_of_trod {fuel : Nat} {v : Value} {x : DataW H × List MemPlace} (h : DataW.trod enc Tryd.prog w base (fun _ => true) held fuel 35 [v] = some x) : ∃ xs, L1 0 w v xs ∧ Bd1 9223372036854775807 xs := by
  obtain ⟨xs, h1, h2, _⟩ := sl_of_trod (R := IsI) (B := fun _ => True) Tryd.underlying35 Tryd.cellsI (fun fuel v x hh => by
    obtain ⟨a, e0, _, _⟩ := DataW.trod_int Tryd.underlying2 hh
    exact ⟨a, by simpa [IsI] using e0, trivial⟩) h
  exact ⟨xs, h1, h2⟩
theorem l2_of_trod {fuel : Nat} {v : Value} {x : DataW H × List MemPlace} (h : DataW.trod enc Tryd.prog w base (fun _ => true) held fuel 22 [v] = some x) : ∃ xs, L2 0 w v xs ∧ Bd2 9223372036854775807 xs := by
  obtain ⟨xs, h1, h2, h3⟩ := sl_of_trod (R := L1 0) (B := Bd1 9223372036854775807) Tryd.underlying22 Tryd.cellsS (fun fuel v x hh => l1_of_trod hh) h
  exact ⟨xs, h1, h2, h3⟩
end
end Go.Proofs.YtaojiojldljhlaaDoor

namespace Go.Proofs.YtaojiojldljhlaaDoor
open Go.ChangeShapes Go.WideShapes Go.ChangeAt Go.RowKit Go.Deep

section
variable {H : Type} {enc : TypeId × Value → H} {w : World} {base : Nat} {held : Bool}
end
end Go.Proofs.YtaojiojldljhlaaDoor

namespace Go.Proofs.YtaojiojldljhlaaDoor

section
variable {P : Program} {rk : Nat → Nat}
theorem closureVia_le {B : Nat} (h : ∀ g, ∀ x ∈ ((P.funcs[g]?).elim [] P.leadsTo), rk x ≤ rk g) : ∀ (fuel : Nat) (todo seen : List FuncId), (∀ x ∈ todo, rk x ≤ B) → (∀ x ∈ seen, rk x ≤ B) → ∀ x ∈ P.closureVia fuel todo seen, rk x ≤ B := by
  intro fuel
  induction fuel with
  | zero => intro todo seen _ h2 x hx; exact h2 x (by simpa [Program.closureVia] using hx)
  | succ n ih =>
    intro todo seen h1 h2 x hx
    cases todo with
    | nil => exact h2 x (by simpa [Program.closureVia] using hx)
    | cons f todo =>
      rw [Program.closureVia] at hx
      have hf := h1 f (List.mem_cons_self ..)
      split at hx
      · exact ih todo seen (fun y hy => h1 y (List.mem_cons_of_mem _ hy)) h2 x hx
      · refine ih _ _ (fun y hy => ?_) (fun y hy => ?_) x hx
        · rcases List.mem_append.1 hy with hy | hy
          · exact Nat.le_trans (h f y hy) hf
          · exact h1 y (List.mem_cons_of_mem _ hy)
        · rcases List.mem_cons.1 hy with rfl | hy
          · exact hf
          · exact h2 y hy
theorem recurses_false {B : Nat} (hle : ∀ g, ∀ x ∈ ((P.funcs[g]?).elim [] P.leadsTo), rk x ≤ rk g) (hlt : ∀ g, rk g < B → ∀ x ∈ ((P.funcs[g]?).elim [] P.leadsTo), rk x < rk g) {f : FuncId} (hf : rk f < B) (hu : P.unfollowed f = false) : P.recurses f = false := by
  unfold Program.recurses
  rw [hu, Bool.false_or, List.any_eq_false]
  intro g hg
  have h0 := closureVia_le (P := P) (rk := rk) (B := rk f) hle _ [f] [] (by simp) (by simp) g hg
  rw [List.any_eq_true]
  rintro ⟨x, hx, hc⟩
  have h1 := closureVia_le (P := P) (rk := rk) (B := rk x) hle _ [x] [] (by simp) (by simp) g (by
    have := List.contains_iff_mem.1 hc
    exact this)
  have h2 := hlt g (by omega) x hx
  omega
/-- The order told by a list. -/
def ranksOk (P : Program) (l : List Nat) : Bool := (List.range P.funcs.size).all fun g => ((P.funcs[g]?).elim [] P.leadsTo).all fun x => decide (l.getD x 0 < l.getD g 0) || (decide (99999 ≤ l.getD g 0) && decide (l.getD x 0 ≤ l.getD g 0))
theorem ranks_le {l : List Nat} (h : ranksOk P l = true) : ∀ g, ∀ x ∈ ((P.funcs[g]?).elim [] P.leadsTo), l.getD x 0 ≤ l.getD g 0 ∧ (l.getD g 0 < 99999 → l.getD x 0 < l.getD g 0) := by
  intro g x hx
  by_cases hg : g < P.funcs.size
  · have h1 := List.all_eq_true.1 h g (List.mem_range.2 hg)
    have h2 := List.all_eq_true.1 h1 x hx
    rcases Bool.or_eq_true_iff.1 h2 with h3 | h3
    · have := of_decide_eq_true h3
      exact ⟨by omega, fun _ => this⟩
    · obtain ⟨h4, h5⟩ := Bool.and_eq_true_iff.1 h3
      have := of_decide_eq_true h4
      exact ⟨of_decide_eq_true h5, fun _ => by omega⟩
  · rw [Array.getElem?_eq_none (by omega)] at hx
    cases hx
end
def Tryd.ranks : List Nat := [0, 0, 1, 12, 12, 12, 12, 2, 7, 2, 11, 2, 8, 11, 2, 2, 8, 11, 0, 0, 0, 8, 11, 1, 2, 6, 1, 4, 10, 1, 7, 6, 10, 0, 1, 1, 0, 0, 0, 4, 8, 0, 7, 0, 0, 1, 5, 0, 0, 1, 3, 0, 9, 1, 3, 4, 2, 1, 0, 5, 9, 6, 3, 0, 0, 2, 0, 8, 0, 1, 1, 0, 0, 1, 6, 2, 1, 8, 5, 1, 1, 7, 0, 1, 0, 0, 1, 0, 2, 4, 1, 6, 1, 0, 3, 0, 0, 0, 2, 1, 0, 0, 0, 0, 0, 0, 0, 0, 0, 0, 0, 0, 0, 0, 0, 0, 0, 0, 0, 0, 0, 0, 1]
set_option maxRecDepth 100000 in
theorem Tryd.ranked : ranksOk Tryd.checked.prog Tryd.ranks = true := by kernel_rfl
theorem Tryd.recurses {f : FuncId} (hu : Tryd.checked.prog.unfollowed f = false) (hf : Tryd.ranks.getD f 0 < 99999 := by decide) : Tryd.checked.prog.recurses f = false :=
  recurses_false (fun g x hx => (ranks_le Tryd.ranked g x hx).1) (fun g hg x hx => (ranks_le Tryd.ranked g x hx).2 hg) hf hu

/-! The program's head, a line of words: parted once. -/
def sp32 : Char := Char.ofNat 32
theorem ws_sp (r : List Char) : wordsSigns (sp32 :: r) = [] :: wordsSigns r := rfl
theorem ws_cons {c : Char} (h : c ≠ sp32) {r w : List Char} {ws : List (List Char)} (e : wordsSigns r = w :: ws) : wordsSigns (c :: r) = (c :: w) :: ws := by
  rw [wordsSigns.eq_def]
  split
  · rename_i h1; cases h1
  · rename_i h1; injection h1 with h1 _; exact absurd h1 h
  · rename_i h1; injection h1 with h1 h2; subst h1 h2; rw [e]
theorem ws_word (r : List Char) : ∀ w : List Char, (∀ c ∈ w, c ≠ sp32) → wordsSigns (w ++ sp32 :: r) = w :: wordsSigns r := by
  intro w
  induction w with
  | nil => intro _; exact ws_sp r
  | cons c w ih => intro h; exact ws_cons (h c (List.mem_cons_self ..)) (ih fun x hx => h x (List.mem_cons_of_mem _ hx))
theorem ws_last : ∀ w : List Char, (∀ c ∈ w, c ≠ sp32) → wordsSigns w = [w] := by
  intro w
  induction w with
  | nil => intro _; rfl
  | cons c w ih => intro h; exact ws_cons (h c (List.mem_cons_self ..)) (ih fun x hx => h x (List.mem_cons_of_mem _ hx))
def joinWords : List Char → List (List Char) → List Char
  | w, [] => w
  | w, v :: ws => w ++ sp32 :: joinWords v ws
theorem ws_join : ∀ (ws : List (List Char)) (w : List Char), (∀ v ∈ w :: ws, ∀ c ∈ v, c ≠ sp32) → wordsSigns (joinWords w ws) = w :: ws := by
  intro ws
  induction ws with
  | nil => intro w h; exact ws_last w (h w (List.mem_cons_self ..))
  | cons v ws ih => intro w h; rw [joinWords, ws_word _ _ (h w (List.mem_cons_self ..)), ih v (fun x hx => h x (List.mem_cons_of_mem _ hx))]
def Tryd.doorRows : List (List UInt8) := ([[41, 111, 111, 116, 32, 115, 101, 108, 105, 102, 32, 116, 115, 101, 116, 32, 44, 49, 49, 32, 107, 111, 111, 108, 40, 32, 100, 114, 111, 119, 115, 114, 97, 118, 116, 117, 99, 32, 119, 111, 114, 32, 115, 39, 116, 115, 101, 102, 105, 110, 97, 109, 32, 101, 104, 116, 32, 101, 101, 115, 32, 59, 101, 110, 111, 108, 97, 32, 115, 114, 101, 115, 105, 108, 97, 105, 116, 105, 110, 105, 32, 115, 100, 108, 111, 104, 32, 115, 114, 97, 118, 46, 116, 117, 99, 46, 109, 101, 115, 111, 103, 32, 58, 114, 111, 111, 100, 32, 115, 39, 114, 97, 118], [41, 49, 49, 32, 107, 111, 111, 108, 40, 32, 108, 97, 114, 101, 116, 105, 108, 32, 101, 110, 111, 32, 110, 111, 32, 119, 101, 78, 46, 115, 114, 111, 114, 114, 101, 32, 102, 111, 32, 108, 108, 97, 99, 32, 110, 119, 111, 32, 115, 116, 105, 32, 121, 98, 32, 100, 105, 97, 108, 32, 115, 105, 32, 116, 99, 97, 120, 69, 116, 111, 78, 114, 114, 101, 46, 108, 112, 109, 105, 47, 51, 55, 50, 49, 48, 103, 47, 101, 108, 112, 109, 97, 120, 101, 46, 112, 111, 111, 108, 32, 58, 114, 111, 111, 100, 32, 115, 39, 114, 97, 118], [41, 49, 49, 32, 107, 111, 111, 108, 40, 32, 116, 111, 111, 114, 32, 115, 39, 121, 114, 111, 116, 105, 115, 111, 112, 101, 114, 32, 101, 104, 116, 32, 115, 97, 32, 100, 101, 109, 97, 110, 32, 114, 101, 108, 108, 97, 99, 32, 101, 104, 116, 32, 116, 97, 104, 116, 32, 114, 101, 100, 108, 111, 102, 32, 101, 104, 116, 32, 114, 101, 118, 111, 32, 116, 110, 101, 119, 32, 115, 114, 97, 118, 46, 116, 117, 99, 46, 109, 101, 115, 111, 103, 32, 102, 111, 32, 107, 111, 111, 108, 32, 101, 104, 116, 32, 58, 114, 111, 111, 100, 32, 115, 39, 114, 97, 118]] : List (List Nat)).map fun w => w.map UInt8.ofNat
def Tryd.headWords : List (List Char) := ([[99, 52, 55, 51, 54, 57, 55, 100, 53, 48, 48, 51, 48, 51, 97, 99, 49, 55, 101, 52, 56, 53, 54, 97, 48, 99, 50, 56, 102, 97, 52, 99, 100, 52, 99, 99, 97, 55, 49, 54, 98, 53, 54, 101, 101, 57, 57, 100, 97, 100, 50, 57, 55, 100, 102, 56, 51, 50, 51, 53, 56, 50, 97, 99], [99, 117, 116], [97, 116], [108, 111, 111, 112, 46, 101, 120, 97, 109, 112, 108, 101, 47, 103, 48, 49, 50, 55, 51, 47, 108, 97, 119, 115, 46, 70, 110, 69, 120, 97, 99, 116, 73, 115, 69, 120, 97, 99, 116], [108, 111, 111, 112, 46, 101, 120, 97, 109, 112, 108, 101, 47, 103, 48, 49, 50, 55, 51, 47, 108, 97, 119, 115, 46, 70, 110, 69, 120, 97, 99, 116, 68, 101, 114, 105, 118, 101, 100, 67, 111, 117, 112, 108, 101], [108, 111, 111, 112, 46, 101, 120, 97, 109, 112, 108, 101, 47, 103, 48, 49, 50, 55, 51, 47, 108, 97, 119, 115, 46, 70, 110, 69, 120, 97, 99, 116, 80, 97, 103, 101, 83, 105, 122, 101, 115], [108, 111, 111, 112, 46, 101, 120, 97, 109, 112, 108, 101, 47, 103, 48, 49, 50, 55, 51, 47, 108, 97, 119, 115, 46, 70, 110, 69, 120, 97, 99, 116, 83, 116, 97, 98, 108, 101, 80, 97, 103, 101]] : List (List Nat)).map fun w => w.map Char.ofNat
def Tryd.headWord : List Char := ([104, 97, 114, 110, 101, 115, 115] : List Nat).map Char.ofNat
set_option maxRecDepth 100000 in
theorem Tryd.head_eq : Tryd.checked.prog.initOrder = String.ofList (joinWords Tryd.headWord Tryd.headWords) := by kernel_rfl
set_option maxRecDepth 100000 in
theorem Tryd.head_ok : ((Tryd.headWord :: Tryd.headWords).all fun w => w.all fun c => decide (c ≠ sp32)) = true := by kernel_rfl
theorem Tryd.head_words : wordsSigns Tryd.checked.prog.initOrder.toList = Tryd.headWord :: Tryd.headWords := by
  rw [Tryd.head_eq, String.toList_ofList, ws_join]
  intro v hv c hc
  exact of_decide_eq_true (List.all_eq_true.1 (List.all_eq_true.1 Tryd.head_ok v hv) c hc)
/-! For whatever program with such a head: so the kernel does not run this one's. -/
section
variable {Q : Program} (h : wordsSigns Q.initOrder.toList = Tryd.headWord :: Tryd.headWords)
include h
set_option maxRecDepth 100000 in
theorem Tryd.headLifts_of : Q.headLifts = [] := by
  unfold Program.headLifts
  rw [h]
  kernel_rfl
set_option maxRecDepth 100000 in
theorem Tryd.liftsFinal_of : Q.liftsFinal = false := by
  unfold Program.liftsFinal
  rw [h, Tryd.headLifts_of h]
  kernel_rfl
set_option maxRecDepth 100000 in
theorem Tryd.make_of : Q.make = some .cut := by
  unfold Program.make
  rw [h, Tryd.headLifts_of h]
  show _ = some Make.cut
  kernel_rfl
set_option maxRecDepth 100000 in
theorem Tryd.mayEnter_of (h1 : Q.laysLater = false) (h2 : Q.bearsReflect = false) (h3 : Q.doorRows = Tryd.doorRows) : Q.mayEnter = true := by
  unfold Program.mayEnter
  simp only [h, h1, h2, Program.doorFits, h3]
  show _ = true
  kernel_rfl
end
theorem Tryd.mayEnter : Tryd.checked.prog.mayEnter = true := Tryd.mayEnter_of Tryd.head_words (by kernel_rfl) (by kernel_rfl) (by kernel_rfl)
theorem Tryd.liftsFinal : Tryd.checked.prog.liftsFinal = false := Tryd.liftsFinal_of Tryd.head_words
theorem Tryd.make : Tryd.checked.prog.make = some .cut := Tryd.make_of Tryd.head_words
end Go.Proofs.YtaojiojldljhlaaDoor


namespace Go.Proofs.YtaojiojldljhlaaDoor
open Go.ChangeShapes Go.WideShapes Go.ChangeAt Go.RowKit Go.Deep

structure Cp (lo : Nat) (w : World) (iv jv kv : Value) (il : List (List Int)) (jl : List (List Int)) (kl : List (List Int)) : Prop where
  fi : L2 lo w iv il
  fj : L2 lo w jv jl
  fk : L2 lo w kv kl
theorem Cp.below {lo : Nat} {w w' : World} {iv jv kv : Value} {il : List (List Int)} {jl : List (List Int)} {kl : List (List Int)} (h : Cp lo w iv jv kv il jl kl) (hb : Below w.heap.size w w') : Cp lo w' iv jv kv il jl kl := ⟨h.fi.below hb, h.fj.below hb, h.fk.below hb⟩
theorem Cp.lower {lo lo' : Nat} (hl : lo' ≤ lo) {w : World} {iv jv kv : Value} {il : List (List Int)} {jl : List (List Int)} {kl : List (List Int)} (h : Cp lo w iv jv kv il jl kl) : Cp lo' w iv jv kv il jl kl := ⟨h.fi.lower hl, h.fj.lower hl, h.fk.lower hl⟩
theorem Cp.zero {lo : Nat} {w : World} {iv jv kv : Value} {il : List (List Int)} {jl : List (List Int)} {kl : List (List Int)} (h : Cp lo w iv jv kv il jl kl) : Cp 0 w iv jv kv il jl kl := h.lower (Nat.zero_le _)
theorem Cp.drew {lo : Nat} {w : World} {iv jv kv : Value} {il : List (List Int)} {jl : List (List Int)} {kl : List (List Int)} (h : Cp lo w iv jv kv il jl kl) : Cp lo w.drew iv jv kv il jl kl := h.below (Below.refl _ _).drew
theorem Cp.shapes {lo : Nat} {w : World} {iv jv kv : Value} {il : List (List Int)} {jl : List (List Int)} {kl : List (List Int)} (h : Cp lo w iv jv kv il jl kl) : (∃ a c, iv = .slice a il.length c) ∧ (∃ a c, jv = .slice a jl.length c) ∧ (∃ a c, kv = .slice a kl.length c) := ⟨Sl.shape h.fi, Sl.shape h.fj, Sl.shape h.fk⟩
structure CpB (n : Nat) (il : List (List Int)) (jl : List (List Int)) (kl : List (List Int)) : Prop where
  bi : Bd2 n il
  bj : Bd2 n jl
  bk : Bd2 n kl
structure CpW (lo hi : Nat) (w : World) (iv jv kv : Value) (il : List (List Int)) (jl : List (List Int)) (kl : List (List Int)) : Prop where
  fi : W2 lo hi w iv il
  fj : W2 lo hi w jv jl
  fk : W2 lo hi w kv kl
theorem CpW.same {lo hi : Nat} {w w' : World} {iv jv kv : Value} {il : List (List Int)} {jl : List (List Int)} {kl : List (List Int)} (h : CpW lo hi w iv jv kv il jl kl) (s : Same lo hi w w') : CpW lo hi w' iv jv kv il jl kl := ⟨h.fi.same s, h.fj.same s, h.fk.same s⟩
theorem CpW.cx {lo hi : Nat} {w : World} {iv jv kv : Value} {il : List (List Int)} {jl : List (List Int)} {kl : List (List Int)} (h : CpW lo hi w iv jv kv il jl kl) : Cp lo w iv jv kv il jl kl := ⟨h.fi.l2, h.fj.l2, h.fk.l2⟩
/-- The box of one, in whatever later world. -/
structure BxCp (w wr : World) (b : Nat) (p d e : Int) (iv jv kv : Value) (il : List (List Int)) (jl : List (List Int)) (kl : List (List Int)) : Prop where
  below : Below w.heap.size w wr
  c0 : wr.cell? ⟨b, 0, none⟩ = some (.int .i64 p)
  c1 : wr.cell? ⟨b, 1, none⟩ = some (.int .i64 d)
  c2 : wr.cell? ⟨b, 2, none⟩ = some (.int .i64 e)
  c3 : wr.cell? ⟨b, 3, none⟩ = some (iv)
  c4 : wr.cell? ⟨b, 4, none⟩ = some (jv)
  c5 : wr.cell? ⟨b, 5, none⟩ = some (kv)
  lt : b < wr.heap.size
  cx : Cp 0 wr iv jv kv il jl kl
theorem BxCp.next {w wr w' : World} {b : Nat} {p d e : Int} {iv jv kv : Value} {il : List (List Int)} {jl : List (List Int)} {kl : List (List Int)} (h : BxCp w wr b p d e iv jv kv il jl kl) (hb : Below wr.heap.size wr w') : BxCp w w' b p d e iv jv kv il jl kl :=
  ⟨h.below.trans (hb.mono h.below.size), later hb (Nat.le_refl _) h.c0, later hb (Nat.le_refl _) h.c1, later hb (Nat.le_refl _) h.c2, later hb (Nat.le_refl _) h.c3, later hb (Nat.le_refl _) h.c4, later hb (Nat.le_refl _) h.c5, Nat.lt_of_lt_of_le h.lt hb.size, h.cx.below hb⟩
theorem BxCp.start {w : World} {p d e : Int} {iv jv kv : Value} {il : List (List Int)} {jl : List (List Int)} {kl : List (List Int)} (t : TypeId) (h : Cp 0 w iv jv kv il jl kl) : BxCp w (w.alloc (.cells #[.int .i64 p, .int .i64 d, .int .i64 e, iv, jv, kv] t)) w.heap.size p d e iv jv kv il jl kl :=
  ⟨(Below.refl _ _).alloc (Nat.le_refl _) _, by simp, by simp, by simp, by simp, by simp, by simp, by simp, h.below ((Below.refl _ _).alloc (Nat.le_refl _) _)⟩
structure BqCp (wr : World) (b : Nat) (p d e : Int) (iv jv kv : Value) (il : List (List Int)) (jl : List (List Int)) (kl : List (List Int)) : Prop where
  c0 : wr.cell? ⟨b, 0, none⟩ = some (.int .i64 p)
  c1 : wr.cell? ⟨b, 1, none⟩ = some (.int .i64 d)
  c2 : wr.cell? ⟨b, 2, none⟩ = some (.int .i64 e)
  c3 : wr.cell? ⟨b, 3, none⟩ = some (iv)
  c4 : wr.cell? ⟨b, 4, none⟩ = some (jv)
  c5 : wr.cell? ⟨b, 5, none⟩ = some (kv)
  lt : b < wr.heap.size
  cx : Cp 0 wr iv jv kv il jl kl
theorem BxCp.bq {w wr : World} {b : Nat} {p d e : Int} {iv jv kv : Value} {il : List (List Int)} {jl : List (List Int)} {kl : List (List Int)} (h : BxCp w wr b p d e iv jv kv il jl kl) : BqCp wr b p d e iv jv kv il jl kl := ⟨h.c0, h.c1, h.c2, h.c3, h.c4, h.c5, h.lt, h.cx⟩
theorem BqCp.next {wr w' : World} {b : Nat} {p d e : Int} {iv jv kv : Value} {il : List (List Int)} {jl : List (List Int)} {kl : List (List Int)} (h : BqCp wr b p d e iv jv kv il jl kl) (hb : Below wr.heap.size wr w') : BqCp w' b p d e iv jv kv il jl kl :=
  ⟨later hb (Nat.le_refl _) h.c0, later hb (Nat.le_refl _) h.c1, later hb (Nat.le_refl _) h.c2, later hb (Nat.le_refl _) h.c3, later hb (Nat.le_refl _) h.c4, later hb (Nat.le_refl _) h.c5, Nat.lt_of_lt_of_le h.lt hb.size, h.cx.below hb⟩
theorem BqCp.only {wr w' : World} {b lo hi : Nat} {p d e : Int} {iv jv kv : Value} {il : List (List Int)} {jl : List (List Int)} {kl : List (List Int)} (h : BqCp wr b p d e iv jv kv il jl kl) (ho : Only lo hi wr w') (hc : Cp 0 w' iv jv kv il jl kl) (hb : b < lo ∨ hi ≤ b) : BqCp w' b p d e iv jv kv il jl kl :=
  ⟨(ho.cell hb).trans h.c0, (ho.cell hb).trans h.c1, (ho.cell hb).trans h.c2, (ho.cell hb).trans h.c3, (ho.cell hb).trans h.c4, (ho.cell hb).trans h.c5, by have := ho.size; have := h.lt; omega, hc⟩
set_option maxHeartbeats 800000 in
theorem szCouple_any (p d e : Int) (iv jv kv : Value) (il : List (List Int)) (jl : List (List Int)) (kl : List (List Int)) (left : Int) (w : World) (h : Cp 0 w iv jv kv il jl kl) (h0 : 0 ≤ left) (h1 : left ≤ 1048576) (hml : CpB 9223372036854775807 il jl kl) :
    Calls Tryd.prog 7 #[.agg #[.int .i64 p, .int .i64 d, .int .i64 e, iv, jv, kv], .int .i64 left] w (SzB left (CpB 1048576 il jl kl) w) := by
  have H := Lib.hid h
  have HML := Lib.hid hml
  have HB : Hid (Below w.heap.size w (w.alloc (.cells #[.int .i64 p, .int .i64 d, .int .i64 e, iv, jv, kv] 24))) := Lib.hid ((Below.refl _ _).alloc (Nat.le_refl _) _)
  clear h hml
  go_enter Tryd.func7, Tryd.ntmps7
  go_wp2_with fail
  refine (sz2_any (lo := 0) iv il left _ (H.out.fi.below HB.out) h0 (by omega) HML.out.bi).mono ?_
  rintro ee w' ⟨r0, rfl, rfl, hpost⟩
  rcases hpost with rfl | ⟨hp0, hq0, hbb⟩
  · go_wp2
    go_ret
    exact ⟨_, rfl, HB.out, Or.inl rfl⟩
  have HBB0 := Lib.hid hbb
  clear hbb
  go_wp2_with fail
  refine (sz2_any (lo := 0) jv jl r0 _ (H.out.fj.below HB.out) hp0 (by omega) HML.out.bj).mono ?_
  rintro ee w' ⟨r1, rfl, rfl, hpost⟩
  rcases hpost with rfl | ⟨hp1, hq1, hbb⟩
  · go_wp2
    go_ret
    exact ⟨_, rfl, HB.out, Or.inl rfl⟩
  have HBB1 := Lib.hid hbb
  clear hbb
  go_wp2_with fail
  refine (sz2_any (lo := 0) kv kl r1 _ (H.out.fk.below HB.out) hp1 (by omega) HML.out.bk).mono ?_
  rintro ee w' ⟨r2, rfl, rfl, hpost⟩
  rcases hpost with rfl | ⟨hp2, hq2, hbb⟩
  · go_wp2
    go_ret
    exact ⟨_, rfl, HB.out, Or.inl rfl⟩
  have HBB2 := Lib.hid hbb
  clear hbb
  go_wp2
  go_ret
  exact ⟨_, rfl, HB.out, Or.inr ⟨hp2, by omega, ⟨HBB0.out, HBB1.out, HBB2.out⟩⟩⟩
def ToCp (p d e : Int) (il : List (List Int)) (jl : List (List Int)) (kl : List (List Int)) (w : World) (e' : Ending) (w' : World) : Prop := ∃ iv jv kv, e' = .returned (.agg #[.int .i64 p, .int .i64 d, .int .i64 e, iv, jv, kv]) ∧ Cp w.heap.size w' iv jv kv il jl kl ∧ Below w.heap.size w w'

set_option maxHeartbeats 1600000 in
theorem toCouple_any (p d e : Int) (iv jv kv : Value) (il : List (List Int)) (jl : List (List Int)) (kl : List (List Int)) (w : World) (h : Cp 0 w iv jv kv il jl kl) (hm : CpB 1048576 il jl kl) :
    Calls Tryd.prog 9 #[.agg #[.int .i64 p, .int .i64 d, .int .i64 e, iv, jv, kv]] w (ToCp p d e il jl kl w) := by
  have H := Lib.hid h
  have HM := Lib.hid hm
  clear h hm
  have hres : Tryd.f9.results = #[.cell 2 28] := by kernel_rfl
  have HRES := Lib.hid hres
  clear hres
  have HB0 : Hid (Below w.heap.size w (((w.alloc (.cells #[.int .i64 p, .int .i64 d, .int .i64 e, iv, jv, kv] 24)).alloc (.cells #[.int .i64 0, .int .i64 0, .int .i64 0, .slice none 0 0, .slice none 0 0, .slice none 0 0] 28)).alloc (.cells #[.int .i64 p, .int .i64 d, .int .i64 e, .slice none 0 0, .slice none 0 0, .slice none 0 0] 28))) := Lib.hid ((((Below.refl _ _).alloc (Nat.le_refl _) _).alloc (by simp) _).alloc (by simp; omega) _)
  have hz0 : w.heap.size + 3 = (((w.alloc (.cells #[.int .i64 p, .int .i64 d, .int .i64 e, iv, jv, kv] 24)).alloc (.cells #[.int .i64 0, .int .i64 0, .int .i64 0, .slice none 0 0, .slice none 0 0, .slice none 0 0] 28)).alloc (.cells #[.int .i64 p, .int .i64 d, .int .i64 e, .slice none 0 0, .slice none 0 0, .slice none 0 0] 28)).heap.size := by simp
  have HZ0 := Lib.hid hz0
  clear hz0
  go_enter Tryd.func9, Tryd.ntmps9
  go_wp2_with fail
  refine (to2_any iv il _ (H.out.fi.below HB0.out) HM.out.bi).mono ?_
  rintro ee w1 ⟨u0, rfl, hr, hb⟩
  obtain ⟨ai, ci, rfl⟩ := Sl.shape hr
  have hs0 : w.heap.size + 3 ≤ w1.heap.size := by have := hb.size; simp at this; omega
  obtain ⟨hc0, hf0⟩ := bcell hb
  have HB0b := Lib.hid (HB0.out.trans (hb.mono (by first | omega | (simp; omega) | simp)))
  have HRi : Hid (L2 (w.heap.size + 1 + 1 + 1) w1 (.slice ai il.length ci) il) := Lib.hid (hr.lower (by first | omega | (simp; omega) | simp))
  clear hr hb
  have hzx0 : w.heap.size < w1.heap.size := by omega
  have hzz0 : w.heap.size + 1 < w1.heap.size := by omega
  have hzy0 : w.heap.size + 1 + 1 < w1.heap.size := by omega
  have HB0c : Hid (Below w.heap.size w (w1.setCell ⟨w.heap.size + 1 + 1, 3, none⟩ (.slice ai il.length ci))) := Lib.hid (HB0b.out.setCell (by show w.heap.size ≤ w.heap.size + 1 + 1; omega) _)
  have HRi' : Hid (L2 (w.heap.size + 1 + 1 + 1) (w1.setCell ⟨w.heap.size + 1 + 1, 3, none⟩ (.slice ai il.length ci)) (.slice ai il.length ci) il) := Lib.hid (stable2 _ _ _ _ _ (Keep.set _ (Nat.lt_succ_self _)) HRi.out)
  clear HRi
  have HRi := HRi'
  clear HRi'
  go_wp2_with fail
  refine (to2_any jv jl _ (H.out.fj.below HB0c.out) HM.out.bj).mono ?_
  rintro ee w2 ⟨u1, rfl, hr, hb⟩
  obtain ⟨aj, cj, rfl⟩ := Sl.shape hr
  have hs1 : w1.heap.size ≤ w2.heap.size := by have := hb.size; simpa using this
  obtain ⟨hc1, hf1⟩ := bcell hb
  have HB1b := Lib.hid (HB0c.out.trans (hb.mono (by first | omega | (simp; omega) | simp)))
  have HRi' := Lib.hid (HRi.out.below hb)
  clear HRi
  have HRi := HRi'
  clear HRi'
  have HRj : Hid (L2 (w.heap.size + 1 + 1 + 1) w2 (.slice aj jl.length cj) jl) := Lib.hid (hr.lower (by first | omega | (simp; omega) | simp))
  clear hr hb
  have hzx1 : w.heap.size < w2.heap.size := by omega
  have hzz1 : w.heap.size + 1 < w2.heap.size := by omega
  have hzy1 : w.heap.size + 1 + 1 < w2.heap.size := by omega
  have HB1c : Hid (Below w.heap.size w (w2.setCell ⟨w.heap.size + 1 + 1, 4, none⟩ (.slice aj jl.length cj))) := Lib.hid (HB1b.out.setCell (by show w.heap.size ≤ w.heap.size + 1 + 1; omega) _)
  have HRi' : Hid (L2 (w.heap.size + 1 + 1 + 1) (w2.setCell ⟨w.heap.size + 1 + 1, 4, none⟩ (.slice aj jl.length cj)) (.slice ai il.length ci) il) := Lib.hid (stable2 _ _ _ _ _ (Keep.set _ (Nat.lt_succ_self _)) HRi.out)
  clear HRi
  have HRi := HRi'
  clear HRi'
  have HRj' : Hid (L2 (w.heap.size + 1 + 1 + 1) (w2.setCell ⟨w.heap.size + 1 + 1, 4, none⟩ (.slice aj jl.length cj)) (.slice aj jl.length cj) jl) := Lib.hid (stable2 _ _ _ _ _ (Keep.set _ (Nat.lt_succ_self _)) HRj.out)
  clear HRj
  have HRj := HRj'
  clear HRj'
  go_wp2_with fail
  refine (to2_any kv kl _ (H.out.fk.below HB1c.out) HM.out.bk).mono ?_
  rintro ee w3 ⟨u2, rfl, hr, hb⟩
  obtain ⟨ak, ck, rfl⟩ := Sl.shape hr
  have hs2 : w2.heap.size ≤ w3.heap.size := by have := hb.size; simpa using this
  obtain ⟨hc2, hf2⟩ := bcell hb
  have HB2b := Lib.hid (HB1c.out.trans (hb.mono (by first | omega | (simp; omega) | simp)))
  have HRi' := Lib.hid (HRi.out.below hb)
  have HRj' := Lib.hid (HRj.out.below hb)
  clear HRi
  have HRi := HRi'
  clear HRi'
  clear HRj
  have HRj := HRj'
  clear HRj'
  have HRk : Hid (L2 (w.heap.size + 1 + 1 + 1) w3 (.slice ak kl.length ck) kl) := Lib.hid (hr.lower (by first | omega | (simp; omega) | simp))
  clear hr hb
  have hzx2 : w.heap.size < w3.heap.size := by omega
  have hzz2 : w.heap.size + 1 < w3.heap.size := by omega
  have hzy2 : w.heap.size + 1 + 1 < w3.heap.size := by omega
  go_wp2
  refine bodyPost_ret (v := .agg #[.int .i64 p, .int .i64 d, .int .i64 e, .slice ai il.length ci, .slice aj jl.length cj, .slice ak kl.length ck]) ?_ rfl ?_
  · simp only [results, HRES.out]
    go_simp
  · have hk : Keep (w.heap.size + 1 + 1 + 1) w3 (((((((w3.setCell ⟨w.heap.size + 1 + 1, 5, none⟩ (.slice ak kl.length ck)).setCell ⟨w.heap.size + 1, 0, none⟩ (.int .i64 p)).setCell ⟨w.heap.size + 1, 1, none⟩ (.int .i64 d)).setCell ⟨w.heap.size + 1, 2, none⟩ (.int .i64 e)).setCell ⟨w.heap.size + 1, 3, none⟩ (.slice ai il.length ci)).setCell ⟨w.heap.size + 1, 4, none⟩ (.slice aj jl.length cj)).setCell ⟨w.heap.size + 1, 5, none⟩ (.slice ak kl.length ck)) := (((((((Keep.set _ (by omega)).trans (Keep.set _ (by omega))).trans (Keep.set _ (by omega))).trans (Keep.set _ (by omega))).trans (Keep.set _ (by omega))).trans (Keep.set _ (by omega))).trans (Keep.set _ (by omega)))
    refine ⟨_, _, _, rfl, ⟨?_, ?_, ?_⟩, ?_⟩
    · exact (stable2 _ _ _ _ _ hk HRi.out).lower (by omega)
    · exact (stable2 _ _ _ _ _ hk HRj.out).lower (by omega)
    · exact (stable2 _ _ _ _ _ hk HRk.out).lower (by omega)
    · exact (((((((HB2b.out.setCell (by show w.heap.size ≤ w.heap.size + 1 + 1; omega) _).setCell (by show w.heap.size ≤ w.heap.size + 1; omega) _).setCell (by show w.heap.size ≤ w.heap.size + 1; omega) _).setCell (by show w.heap.size ≤ w.heap.size + 1; omega) _).setCell (by show w.heap.size ≤ w.heap.size + 1; omega) _).setCell (by show w.heap.size ≤ w.heap.size + 1; omega) _).setCell (by show w.heap.size ≤ w.heap.size + 1; omega) _)
def ToCpW (p d e : Int) (il : List (List Int)) (jl : List (List Int)) (kl : List (List Int)) (w : World) (e' : Ending) (w' : World) : Prop := ∃ iv jv kv, e' = .returned (.agg #[.int .i64 p, .int .i64 d, .int .i64 e, iv, jv, kv]) ∧ CpW w.heap.size w'.heap.size w' iv jv kv il jl kl ∧ Below w.heap.size w w'

set_option maxHeartbeats 1600000 in
theorem toCouplew_any (p d e : Int) (iv jv kv : Value) (il : List (List Int)) (jl : List (List Int)) (kl : List (List Int)) (w : World) (h : Cp 0 w iv jv kv il jl kl) (hm : CpB 1048576 il jl kl) :
    Calls Tryd.prog 9 #[.agg #[.int .i64 p, .int .i64 d, .int .i64 e, iv, jv, kv]] w (ToCpW p d e il jl kl w) := by
  have H := Lib.hid h
  have HM := Lib.hid hm
  clear h hm
  have hres : Tryd.f9.results = #[.cell 2 28] := by kernel_rfl
  have HRES := Lib.hid hres
  clear hres
  have HB0 : Hid (Below w.heap.size w (((w.alloc (.cells #[.int .i64 p, .int .i64 d, .int .i64 e, iv, jv, kv] 24)).alloc (.cells #[.int .i64 0, .int .i64 0, .int .i64 0, .slice none 0 0, .slice none 0 0, .slice none 0 0] 28)).alloc (.cells #[.int .i64 p, .int .i64 d, .int .i64 e, .slice none 0 0, .slice none 0 0, .slice none 0 0] 28))) := Lib.hid ((((Below.refl _ _).alloc (Nat.le_refl _) _).alloc (by simp) _).alloc (by simp; omega) _)
  have hz0 : w.heap.size + 3 = (((w.alloc (.cells #[.int .i64 p, .int .i64 d, .int .i64 e, iv, jv, kv] 24)).alloc (.cells #[.int .i64 0, .int .i64 0, .int .i64 0, .slice none 0 0, .slice none 0 0, .slice none 0 0] 28)).alloc (.cells #[.int .i64 p, .int .i64 d, .int .i64 e, .slice none 0 0, .slice none 0 0, .slice none 0 0] 28)).heap.size := by simp
  have HZ0 := Lib.hid hz0
  clear hz0
  go_enter Tryd.func9, Tryd.ntmps9
  go_wp2_with fail
  refine (to2w_any iv il _ (H.out.fi.below HB0.out) HM.out.bi).mono ?_
  rintro ee w1 ⟨u0, rfl, hr, hb⟩
  obtain ⟨ai, ci, rfl⟩ := Sw.shape hr
  have hs0 : w.heap.size + 3 ≤ w1.heap.size := by have := hb.size; simp at this; omega
  obtain ⟨hc0, hf0⟩ := bcell hb
  have HB0b := Lib.hid (HB0.out.trans (hb.mono (by first | omega | (simp; omega) | simp)))
  have HRi : Hid (W2 (w.heap.size + 1 + 1 + 1) (w1.heap.size) w1 (.slice ai il.length ci) il) := Lib.hid (hr.wider (by first | omega | (simp; omega) | simp) (Nat.le_refl _))
  clear hr hb
  have hzx0 : w.heap.size < w1.heap.size := by omega
  have hzz0 : w.heap.size + 1 < w1.heap.size := by omega
  have hzy0 : w.heap.size + 1 + 1 < w1.heap.size := by omega
  have HB0c : Hid (Below w.heap.size w (w1.setCell ⟨w.heap.size + 1 + 1, 3, none⟩ (.slice ai il.length ci))) := Lib.hid (HB0b.out.setCell (by show w.heap.size ≤ w.heap.size + 1 + 1; omega) _)
  have HRi' : Hid (W2 (w.heap.size + 1 + 1 + 1) (w1.heap.size) (w1.setCell ⟨w.heap.size + 1 + 1, 3, none⟩ (.slice ai il.length ci)) (.slice ai il.length ci) il) := Lib.hid (HRi.out.same (Same.set _ (Or.inl (Nat.lt_succ_self _))))
  clear HRi
  have HRi := HRi'
  clear HRi'
  go_wp2_with fail
  refine (to2w_any jv jl _ (H.out.fj.below HB0c.out) HM.out.bj).mono ?_
  rintro ee w2 ⟨u1, rfl, hr, hb⟩
  obtain ⟨aj, cj, rfl⟩ := Sw.shape hr
  have hs1 : w1.heap.size ≤ w2.heap.size := by have := hb.size; simpa using this
  obtain ⟨hc1, hf1⟩ := bcell hb
  have HB1b := Lib.hid (HB0c.out.trans (hb.mono (by first | omega | (simp; omega) | simp)))
  have HRi' := Lib.hid (HRi.out.same (Same.of_below hb (by simp)))
  clear HRi
  have HRi := HRi'
  clear HRi'
  have HRj : Hid (W2 (w.heap.size + 1 + 1 + 1) (w2.heap.size) w2 (.slice aj jl.length cj) jl) := Lib.hid (hr.wider (by first | omega | (simp; omega) | simp) (Nat.le_refl _))
  clear hr hb
  have hzx1 : w.heap.size < w2.heap.size := by omega
  have hzz1 : w.heap.size + 1 < w2.heap.size := by omega
  have hzy1 : w.heap.size + 1 + 1 < w2.heap.size := by omega
  have HRi' : Hid (W2 (w.heap.size + 1 + 1 + 1) (w2.heap.size) w2 (.slice ai il.length ci) il) := Lib.hid (HRi.out.wider (Nat.le_refl _) (by omega))
  clear HRi
  have HRi := HRi'
  clear HRi'
  have HB1c : Hid (Below w.heap.size w (w2.setCell ⟨w.heap.size + 1 + 1, 4, none⟩ (.slice aj jl.length cj))) := Lib.hid (HB1b.out.setCell (by show w.heap.size ≤ w.heap.size + 1 + 1; omega) _)
  have HRi' : Hid (W2 (w.heap.size + 1 + 1 + 1) (w2.heap.size) (w2.setCell ⟨w.heap.size + 1 + 1, 4, none⟩ (.slice aj jl.length cj)) (.slice ai il.length ci) il) := Lib.hid (HRi.out.same (Same.set _ (Or.inl (Nat.lt_succ_self _))))
  clear HRi
  have HRi := HRi'
  clear HRi'
  have HRj' : Hid (W2 (w.heap.size + 1 + 1 + 1) (w2.heap.size) (w2.setCell ⟨w.heap.size + 1 + 1, 4, none⟩ (.slice aj jl.length cj)) (.slice aj jl.length cj) jl) := Lib.hid (HRj.out.same (Same.set _ (Or.inl (Nat.lt_succ_self _))))
  clear HRj
  have HRj := HRj'
  clear HRj'
  go_wp2_with fail
  refine (to2w_any kv kl _ (H.out.fk.below HB1c.out) HM.out.bk).mono ?_
  rintro ee w3 ⟨u2, rfl, hr, hb⟩
  obtain ⟨ak, ck, rfl⟩ := Sw.shape hr
  have hs2 : w2.heap.size ≤ w3.heap.size := by have := hb.size; simpa using this
  obtain ⟨hc2, hf2⟩ := bcell hb
  have HB2b := Lib.hid (HB1c.out.trans (hb.mono (by first | omega | (simp; omega) | simp)))
  have HRi' := Lib.hid (HRi.out.same (Same.of_below hb (by simp)))
  have HRj' := Lib.hid (HRj.out.same (Same.of_below hb (by simp)))
  clear HRi
  have HRi := HRi'
  clear HRi'
  clear HRj
  have HRj := HRj'
  clear HRj'
  have HRk : Hid (W2 (w.heap.size + 1 + 1 + 1) (w3.heap.size) w3 (.slice ak kl.length ck) kl) := Lib.hid (hr.wider (by first | omega | (simp; omega) | simp) (Nat.le_refl _))
  clear hr hb
  have hzx2 : w.heap.size < w3.heap.size := by omega
  have hzz2 : w.heap.size + 1 < w3.heap.size := by omega
  have hzy2 : w.heap.size + 1 + 1 < w3.heap.size := by omega
  have HRi' : Hid (W2 (w.heap.size + 1 + 1 + 1) (w3.heap.size) w3 (.slice ai il.length ci) il) := Lib.hid (HRi.out.wider (Nat.le_refl _) (by omega))
  clear HRi
  have HRi := HRi'
  clear HRi'
  have HRj' : Hid (W2 (w.heap.size + 1 + 1 + 1) (w3.heap.size) w3 (.slice aj jl.length cj) jl) := Lib.hid (HRj.out.wider (Nat.le_refl _) (by omega))
  clear HRj
  have HRj := HRj'
  clear HRj'
  go_wp2
  refine bodyPost_ret (v := .agg #[.int .i64 p, .int .i64 d, .int .i64 e, .slice ai il.length ci, .slice aj jl.length cj, .slice ak kl.length ck]) ?_ rfl ?_
  · simp only [results, HRES.out]
    go_simp
  · have hk : ∀ hi, Same (w.heap.size + 1 + 1 + 1) hi w3 (((((((w3.setCell ⟨w.heap.size + 1 + 1, 5, none⟩ (.slice ak kl.length ck)).setCell ⟨w.heap.size + 1, 0, none⟩ (.int .i64 p)).setCell ⟨w.heap.size + 1, 1, none⟩ (.int .i64 d)).setCell ⟨w.heap.size + 1, 2, none⟩ (.int .i64 e)).setCell ⟨w.heap.size + 1, 3, none⟩ (.slice ai il.length ci)).setCell ⟨w.heap.size + 1, 4, none⟩ (.slice aj jl.length cj)).setCell ⟨w.heap.size + 1, 5, none⟩ (.slice ak kl.length ck)) := fun hi => (((((((Same.set _ (Or.inl (by omega))).trans (Same.set _ (Or.inl (by omega)))).trans (Same.set _ (Or.inl (by omega)))).trans (Same.set _ (Or.inl (by omega)))).trans (Same.set _ (Or.inl (by omega)))).trans (Same.set _ (Or.inl (by omega)))).trans (Same.set _ (Or.inl (by omega))))
    refine ⟨_, _, _, rfl, ⟨?_, ?_, ?_⟩, ?_⟩
    · exact (HRi.out.same (hk _)).wider (by omega) (by simp)
    · exact (HRj.out.same (hk _)).wider (by omega) (by simp)
    · exact (HRk.out.same (hk _)).wider (by omega) (by simp)
    · exact (((((((HB2b.out.setCell (by show w.heap.size ≤ w.heap.size + 1 + 1; omega) _).setCell (by show w.heap.size ≤ w.heap.size + 1; omega) _).setCell (by show w.heap.size ≤ w.heap.size + 1; omega) _).setCell (by show w.heap.size ≤ w.heap.size + 1; omega) _).setCell (by show w.heap.size ≤ w.heap.size + 1; omega) _).setCell (by show w.heap.size ≤ w.heap.size + 1; omega) _).setCell (by show w.heap.size ≤ w.heap.size + 1; omega) _)

set_option maxHeartbeats 1600000 in
theorem eqCouple_true (p d e : Int) (iv jv kv : Value) (iv2 jv2 kv2 : Value) (il : List (List Int)) (jl : List (List Int)) (kl : List (List Int)) (w : World) (h : Cp 0 w iv jv kv il jl kl) (h2 : Cp 0 w iv2 jv2 kv2 il jl kl) (hm : CpB 1048576 il jl kl) :
    Calls Tryd.prog 11 #[.agg #[.int .i64 p, .int .i64 d, .int .i64 e, iv, jv, kv], .agg #[.int .i64 p, .int .i64 d, .int .i64 e, iv2, jv2, kv2]] w (BR (.bool true) w) := by
  have HM := Lib.hid hm
  have HB0 : Hid (Below w.heap.size w ((w.alloc (.cells #[.int .i64 p, .int .i64 d, .int .i64 e, iv, jv, kv] 28)).alloc (.cells #[.int .i64 p, .int .i64 d, .int .i64 e, iv2, jv2, kv2] 28))) := Lib.hid (((Below.refl _ _).alloc (Nat.le_refl _) _).alloc (by simp) _)
  have H := Lib.hid (h.below HB0.out)
  have H2 := Lib.hid (h2.below HB0.out)
  clear hm h h2
  go_enter Tryd.func11, Tryd.ntmps11
  go_wp2_with fail
  have h1 := eq2_any iv iv2 il il _ H.out.fi H2.out.fi HM.out.bi HM.out.bi
  rw [decide_eq_true rfl] at h1
  refine h1.mono ?_
  clear h1
  rintro ee w' ⟨rfl, m0, rfl⟩
  go_wp2_with fail
  have h1 := eq2_any jv jv2 jl jl _ (H.out.fj.below (drewN_below _ (m0))) (H2.out.fj.below (drewN_below _ (m0))) HM.out.bj HM.out.bj
  rw [decide_eq_true rfl] at h1
  refine h1.mono ?_
  clear h1
  rintro ee w' ⟨rfl, m1, rfl⟩
  go_wp2_with fail
  have h1 := eq2_any kv kv2 kl kl _ (H.out.fk.below (drewN_below _ (m0 + m1))) (H2.out.fk.below (drewN_below _ (m0 + m1))) HM.out.bk HM.out.bk
  rw [decide_eq_true rfl] at h1
  refine h1.mono ?_
  clear h1
  rintro ee w' ⟨rfl, m2, rfl⟩
  go_wp2
  go_ret
  exact ⟨rfl, HB0.out.trans ((drewN_below _ (m0 + m1 + m2)).mono HB0.out.size)⟩
structure CpT (lo hi : Nat) (w : World) (iv jv kv : Value) (il : List (List Int)) (jl : List (List Int)) (kl : List (List Int)) : Prop where
  fi : T2 lo hi w iv il
  fj : T2 lo hi w jv jl
  fk : T2 lo hi w kv kl
theorem CpW.t {lo hi : Nat} {w : World} {iv jv kv : Value} {il : List (List Int)} {jl : List (List Int)} {kl : List (List Int)} (h : CpW lo hi w iv jv kv il jl kl) : CpT lo hi w iv jv kv il jl kl := ⟨h.fi.t2, h.fj.t2, h.fk.t2⟩

theorem array6x {α : Type} {cs : Array α} (h : cs.size = 6) : ∃ c0 c1 c2 c3 c4 c5, cs = #[c0, c1, c2, c3, c4, c5] := by
  obtain ⟨l⟩ := cs
  match l, h with
  | [c0, c1, c2, c3, c4, c5], _ => exact ⟨c0, c1, c2, c3, c4, c5, rfl⟩
theorem Tryd.cellsCp : Tryd.prog.cellsOf 24 = 6 := by kernel_rfl
section
variable {H : Type} {enc : TypeId × Value → H} {P : Program} {w : World} {base : Nat} {held : Bool} {spare : Nat → Bool}
theorem trod_struct6x {t : TypeId} {f0 f1 f2 f3 f4 f5 : Field} {fuel : Nat} {cs : List Value} {x : DataW H × List MemPlace} (ht : P.underlying t = some (.struct #[f0, f1, f2, f3, f4, f5])) (h : DataW.trod enc P w base (fun _ => true) held fuel t cs = some x) :
    ∃ y0 y1 y2 y3 y4 y5 m, DataW.trod enc P w base (fun _ => true) held m f0.type ((cs.drop f0.offset).take (P.cellsOf f0.type)) = some y0 ∧ DataW.trod enc P w base (fun _ => true) held m f1.type ((cs.drop f1.offset).take (P.cellsOf f1.type)) = some y1 ∧ DataW.trod enc P w base (fun _ => true) held m f2.type ((cs.drop f2.offset).take (P.cellsOf f2.type)) = some y2 ∧ DataW.trod enc P w base (fun _ => true) held m f3.type ((cs.drop f3.offset).take (P.cellsOf f3.type)) = some y3 ∧ DataW.trod enc P w base (fun _ => true) held m f4.type ((cs.drop f4.offset).take (P.cellsOf f4.type)) = some y4 ∧ DataW.trod enc P w base (fun _ => true) held m f5.type ((cs.drop f5.offset).take (P.cellsOf f5.type)) = some y5 := by
  obtain ⟨xs, m, _, rfl, hl, hlen, hf⟩ := DataW.trod_struct ht h
  match xs, hlen with
  | [y0, y1, y2, y3, y4, y5], _ => exact ⟨y0, y1, y2, y3, y4, y5, m, by simpa using hf 0 f0 rfl, by simpa using hf 1 f1 rfl, by simpa using hf 2 f2 rfl, by simpa using hf 3 f3 rfl, by simpa using hf 4 f4 rfl, by simpa using hf 5 f5 rfl⟩
set_option maxRecDepth 100000 in
theorem couple_of_trod {r : Reach} {b0 : Nat} {v : Value} {d' : DataW H} {p' : List MemPlace} (hv : Value.okWide Tryd.prog w r b0 24 v) (h : DataW.Trod enc Tryd.prog w base (fun _ => true) held 24 v d' p') :
    ∃ (p d e : Int) (iv jv kv : Value) (il : List (List Int)) (jl : List (List Int)) (kl : List (List Int)), v = .agg #[.int .i64 p, .int .i64 d, .int .i64 e, iv, jv, kv] ∧ Cp 0 w iv jv kv il jl kl ∧ CpB 9223372036854775807 il jl kl := by
  obtain ⟨cs, rfl, hsz⟩ := okWide_struct Tryd.underlying24 hv
  obtain ⟨c0, c1, c2, c3, c4, c5, rfl⟩ := array6x (hsz.trans Tryd.cellsCp)
  obtain ⟨fuel, hf⟩ := h
  obtain ⟨y0, y1, y2, y3, y4, y5, m, h0, h1, h2, h3, h4, h5⟩ := trod_struct6x Tryd.underlying24 hf
  have h0' : DataW.trod enc Tryd.prog w base (fun _ => true) held m 2 [c0] = some y0 := h0
  have h1' : DataW.trod enc Tryd.prog w base (fun _ => true) held m 2 [c1] = some y1 := h1
  have h2' : DataW.trod enc Tryd.prog w base (fun _ => true) held m 2 [c2] = some y2 := h2
  have h3' : DataW.trod enc Tryd.prog w base (fun _ => true) held m 22 [c3] = some y3 := h3
  have h4' : DataW.trod enc Tryd.prog w base (fun _ => true) held m 22 [c4] = some y4 := h4
  have h5' : DataW.trod enc Tryd.prog w base (fun _ => true) held m 22 [c5] = some y5 := h5
  obtain ⟨q0, e0, _, _⟩ := DataW.trod_int Tryd.underlying2 h0'
  obtain rfl : c0 = .int .i64 q0 := by simpa using e0
  obtain ⟨q1, e1, _, _⟩ := DataW.trod_int Tryd.underlying2 h1'
  obtain rfl : c1 = .int .i64 q1 := by simpa using e1
  obtain ⟨q2, e2, _, _⟩ := DataW.trod_int Tryd.underlying2 h2'
  obtain rfl : c2 = .int .i64 q2 := by simpa using e2
  obtain ⟨x3, hx3, hy3⟩ := l2_of_trod h3'
  obtain ⟨x4, hx4, hy4⟩ := l2_of_trod h4'
  obtain ⟨x5, hx5, hy5⟩ := l2_of_trod h5'
  exact ⟨q0, q1, q2, c3, c4, c5, x3, x4, x5, rfl, ⟨hx3, hx4, hx5⟩, ⟨hy3, hy4, hy5⟩⟩
end
end Go.Proofs.YtaojiojldljhlaaDoor


namespace Go.Proofs.YtaojiojldljhlaaDoor
open Go.RowKit
def VrB (P : Bool → Prop) (w : World) (e : Ending) (w' : World) : Prop := ∃ b, e = .returned (.bool b) ∧ Below w.heap.size w w' ∧ P b
def VrBC (P : Bool → Int → Prop) (w : World) (e : Ending) (w' : World) : Prop := ∃ b c, e = .returned (.tuple #[.bool b, .int .i64 c]) ∧ Below w.heap.size w w' ∧ P b c
end Go.Proofs.YtaojiojldljhlaaDoor


namespace Go.Proofs.YtaojiojldljhlaaDoor
open Go.RowKit

/-- An interval of cells: block, offset, length. -/
abbrev Iv := Nat × Nat × Nat
def ivSize (I : List Iv) : Nat := (I.map (·.2.2)).sum
theorem ivSize_append (A B : List Iv) : ivSize (A ++ B) = ivSize A + ivSize B := by simp [ivSize]
def Apart (x y : Iv) : Prop := x.1 ≠ y.1 ∨ x.2.1 + x.2.2 ≤ y.2.1 ∨ y.2.1 + y.2.2 ≤ x.2.1
def Disj (I : List Iv) : Prop := I.Pairwise Apart
def InIv (I : List Iv) (b o : Nat) : Prop := ∃ x ∈ I, x.1 = b ∧ x.2.1 ≤ o ∧ o < x.2.1 + x.2.2
/-- Numbers stand there that may be written. -/
def Nums (lo hi : Nat) (w : World) (I : List Iv) : Prop := ∀ x ∈ I, lo ≤ x.1 ∧ x.1 < hi ∧ ∀ i, i < x.2.2 → (∃ z : Int, w.cell? ⟨x.1, x.2.1 + i, none⟩ = some (.int .i64 z)) ∧ w.frozen? ⟨x.1, x.2.1 + i, none⟩ = false
/-- Outside of the intervals all cells are as they were. -/
def OutC (I : List Iv) (w w' : World) : Prop := ∀ b o, ¬ InIv I b o → w'.cell? ⟨b, o, none⟩ = w.cell? ⟨b, o, none⟩
/-- The numbers from k on stand there. -/
def Marked (w : World) : List Iv → Int → Prop
  | [], _ => True
  | x :: I, k => (∀ i, i < x.2.2 → w.cell? ⟨x.1, x.2.1 + i, none⟩ = some (.int .i64 (k + (i : Int)))) ∧ Marked w I (k + (x.2.2 : Int))
theorem Nums.same {lo hi : Nat} {w w' : World} {I : List Iv} (h : Nums lo hi w I) (s : Same lo hi w w') : Nums lo hi w' I := fun x hx => ⟨(h x hx).1, (h x hx).2.1, fun i hi => by
  obtain ⟨⟨z, hz⟩, hf⟩ := (h x hx).2.2 i hi
  have hb := s x.1 (h x hx).1 (h x hx).2.1
  exact ⟨⟨z, (World.cell?_of_block (w := w) (a := ⟨x.1, x.2.1 + i, none⟩) hb).trans hz⟩, (World.frozen?_of_block (w := w) (a := ⟨x.1, x.2.1 + i, none⟩) hb).trans hf⟩⟩
theorem Nums.sub {lo hi : Nat} {w : World} {I J : List Iv} (h : Nums lo hi w I) (s : ∀ x ∈ J, x ∈ I) : Nums lo hi w J := fun x hx => h x (s x hx)
theorem Nums.append {lo hi : Nat} {w : World} {I J : List Iv} (h : Nums lo hi w I) (k : Nums lo hi w J) : Nums lo hi w (I ++ J) := fun x hx => (List.mem_append.1 hx).elim (h x) (k x)
theorem Nums.wider {lo hi lo' hi' : Nat} {w : World} {I : List Iv} (h : Nums lo hi w I) (h1 : lo' ≤ lo) (h2 : hi ≤ hi') : Nums lo' hi' w I := fun x hx => ⟨by have := (h x hx).1; omega, by have := (h x hx).2.1; omega, (h x hx).2.2⟩
theorem OutC.refl (I : List Iv) (w : World) : OutC I w w := fun _ _ _ => rfl
theorem OutC.trans {A B : List Iv} {a b c : World} (h : OutC A a b) (k : OutC B b c) : OutC (A ++ B) a c := fun x o hn => by
  rw [k x o (fun ⟨y, hy, e⟩ => hn ⟨y, List.mem_append_right _ hy, e⟩), h x o (fun ⟨y, hy, e⟩ => hn ⟨y, List.mem_append_left _ hy, e⟩)]
theorem Marked.append {w : World} {A B : List Iv} {k : Int} (h : Marked w A k) (h2 : Marked w B (k + (ivSize A : Int))) : Marked w (A ++ B) k := by
  induction A generalizing k with
  | nil => simpa [ivSize] using h2
  | cons x A ih =>
    refine ⟨h.1, ih h.2 ?_⟩
    have : k + (x.2.2 : Int) + (ivSize A : Int) = k + (ivSize (x :: A) : Int) := by simp [ivSize]; omega
    rw [this]
    exact h2
theorem Marked.parts {w : World} {A B : List Iv} {k : Int} (h : Marked w (A ++ B) k) : Marked w A k ∧ Marked w B (k + (ivSize A : Int)) := by
  induction A generalizing k with
  | nil => exact ⟨trivial, by simpa [ivSize] using h⟩
  | cons x A ih =>
    obtain ⟨h1, h2⟩ := ih h.2
    refine ⟨⟨h.1, h1⟩, ?_⟩
    have : k + (x.2.2 : Int) + (ivSize A : Int) = k + (ivSize (x :: A) : Int) := by simp [ivSize]; omega
    rw [← this]
    exact h2
theorem Marked.keep {w w' : World} {A B : List Iv} {k : Int} (h : Marked w A k) (o : OutC B w w') (d : ∀ x ∈ A, ∀ y ∈ B, Apart x y) : Marked w' A k := by
  induction A generalizing k with
  | nil => trivial
  | cons x A ih =>
    refine ⟨fun i hi => ?_, ih h.2 (fun y hy => d y (List.mem_cons_of_mem _ hy))⟩
    rw [o x.1 (x.2.1 + i) (fun ⟨y, hy, e1, e2, e3⟩ => by have := d x List.mem_cons_self y hy; unfold Apart at this; omega)]
    exact h.1 i hi
theorem Marked.same {lo hi : Nat} {w w' : World} {I : List Iv} {k : Int} (h : Marked w I k) (hI : ∀ x ∈ I, lo ≤ x.1 ∧ x.1 < hi) (s : Same lo hi w w') : Marked w' I k := by
  induction I generalizing k with
  | nil => trivial
  | cons x A ih =>
    refine ⟨fun i hi => ?_, ih h.2 (fun y hy => hI y (List.mem_cons_of_mem _ hy))⟩
    have hb := s x.1 (hI x List.mem_cons_self).1 (hI x List.mem_cons_self).2
    exact (World.cell?_of_block (w := w) (a := ⟨x.1, x.2.1 + i, none⟩) hb).trans (h.1 i hi)

/-- The slice v is an interval, or empty. -/
def S1 (lo hi : Nat) (_ : World) (v : Value) (I : List Iv) : Prop :=
  (I = [] ∧ ∃ ad cap, v = .slice ad 0 cap) ∨ ∃ b o n cap, I = [(b, o, n)] ∧ 0 < n ∧ n ≤ 1048576 ∧ lo ≤ b ∧ b < hi ∧ v = .slice (some ⟨b, o, none⟩) n cap
def flat (J : Nat → List Iv) (m : Nat) : List Iv := (List.range m).flatMap J
theorem flat_succ (J : Nat → List Iv) (m : Nat) : flat J (m + 1) = flat J m ++ J m := by simp [flat, List.range_succ]
/-- A slice of such slices. -/
def SS (S : World → Value → List Iv → Prop) (lo hi : Nat) (w : World) (v : Value) (I : List Iv) : Prop :=
  ∃ (ad : Option Addr) (m cap : Nat) (f : Nat → Value) (J : Nat → List Iv), v = .slice ad m cap ∧ m ≤ 1048576 ∧ I = flat J m ∧ (∀ j, j < m → S w (f j) (J j)) ∧ (0 < m → ∃ b o, ad = some ⟨b, o, none⟩ ∧ lo ≤ b ∧ b < hi ∧ ∀ j, j < m → w.cell? ⟨b, o + j, none⟩ = some (f j))
def S2 (lo hi : Nat) := SS (S1 lo hi) lo hi
def S3 (lo hi : Nat) := SS (S2 lo hi) lo hi
theorem S1.shape {lo hi : Nat} {w : World} {v : Value} {I : List Iv} (h : S1 lo hi w v I) : ∃ a n c, v = .slice a n c := by
  rcases h with ⟨_, ad, cap, h⟩ | ⟨b, o, n, cap, _, _, _, _, _, h⟩
  · exact ⟨ad, 0, cap, h⟩
  · exact ⟨_, n, cap, h⟩
theorem SS.shape {S : World → Value → List Iv → Prop} {lo hi : Nat} {w : World} {v : Value} {I : List Iv} (h : SS S lo hi w v I) : ∃ a n c, v = .slice a n c := by
  obtain ⟨ad, m, cap, _, _, h, _⟩ := h
  exact ⟨ad, m, cap, h⟩
theorem SS.keep {S : World → Value → List Iv → Prop} {lo hi : Nat} {w w' : World} {v : Value} {I : List Iv} (h : SS S lo hi w v I) (hS : ∀ v I, S w v I → S w' v I) (hc : ∀ b o v, lo ≤ b → b < hi → (∃ a n c, v = .slice a n c) → w.cell? ⟨b, o, none⟩ = some v → w'.cell? ⟨b, o, none⟩ = some v)
    (hs : ∀ v I, S w v I → ∃ a n c, v = .slice a n c) : SS S lo hi w' v I := by
  obtain ⟨ad, m, cap, f, J, h1, h2, h3, h4, h5⟩ := h
  refine ⟨ad, m, cap, f, J, h1, h2, h3, fun j hj => hS _ _ (h4 j hj), fun hm => ?_⟩
  obtain ⟨b, o, e, hb, hb2, hcl⟩ := h5 hm
  exact ⟨b, o, e, hb, hb2, fun j hj => hc _ _ _ hb hb2 (hs _ _ (h4 j hj)) (hcl j hj)⟩
theorem S1.keep {lo hi : Nat} {w w' : World} {v : Value} {I : List Iv} (h : S1 lo hi w v I) : S1 lo hi w' v I := h
theorem S2.same {lo hi : Nat} {w w' : World} {v : Value} {I : List Iv} (h : S2 lo hi w v I) (s : Same lo hi w w') : S2 lo hi w' v I :=
  SS.keep h (fun _ _ h => h) (fun b o _ hb hb2 _ hc => (World.cell?_of_block (w := w) (a := ⟨b, o, none⟩) (s b hb hb2)).trans hc) (fun _ _ h => S1.shape h)
theorem S3.same {lo hi : Nat} {w w' : World} {v : Value} {I : List Iv} (h : S3 lo hi w v I) (s : Same lo hi w w') : S3 lo hi w' v I :=
  SS.keep h (fun _ _ h => S2.same h s) (fun b o _ hb hb2 _ hc => (World.cell?_of_block (w := w) (a := ⟨b, o, none⟩) (s b hb hb2)).trans hc) (fun _ _ h => SS.shape h)

end Go.Proofs.YtaojiojldljhlaaDoor


namespace Go.Proofs.YtaojiojldljhlaaDoor
open Go.RowKit

/-- The table at block g: its row of rows there, row j at block g + 1 + j, number i of it Z j i. -/
structure Tb (W : World) (g r c : Nat) (Z : Nat → Nat → Int) : Prop where
  top : W.rowIs g 35 r (fun j => .slice (some ⟨g + 1 + j, 0, none⟩) c c)
  rows : ∀ j, j < r → W.rowIs (g + 1 + j) 2 c (fun i => .int .i64 (Z j i))
  lt : g + 1 + r ≤ W.heap.size
theorem Mat.tb {w w' : World} {r c : Nat} {Z : Nat → Nat → Int} (h : Mat w w' r c Z) : Tb w' w.heap.size r c Z := ⟨h.top, h.rows, by rw [h.size]; omega⟩
theorem Tb.below {W W' : World} {g r c : Nat} {Z : Nat → Nat → Int} (h : Tb W g r c Z) (hb : Below W.heap.size W W') : Tb W' g r c Z :=
  ⟨h.top.of_block (hb.block _ h.top.lt), fun j hj => (h.rows j hj).of_block (hb.block _ (h.rows j hj).lt), Nat.le_trans h.lt hb.size⟩
theorem Tb.out {W : World} {g r c : Nat} {Z : Nat → Nat → Int} (h : Tb W g r c Z) {a : Addr} (ha : a.block < g ∨ g + 1 + r ≤ a.block) (v : Value) : Tb (W.setCell a v) g r c Z :=
  ⟨h.top.setOther (by omega) v, fun j hj => (h.rows j hj).setOther (by omega) v, by simpa using h.lt⟩
theorem Tb.put {W : World} {g r c : Nat} {Z : Nat → Nat → Int} (h : Tb W g r c Z) {j i : Nat} (hj : j < r) (x : Int) :
    Tb (W.setCell ⟨g + 1 + j, i, none⟩ (.int .i64 x)) g r c (fun j2 i2 => if j2 = j ∧ i2 = i then x else Z j2 i2) := by
  refine ⟨h.top.setOther (by show g ≠ g + 1 + j; omega) _, fun j2 hj2 => ?_, by simpa using h.lt⟩
  by_cases e : j2 = j
  · subst e
    exact ((h.rows j2 hj2).set i _).congr (fun i2 _ => by by_cases e2 : i2 = i <;> simp [e2])
  · exact ((h.rows j2 hj2).setOther (by show g + 1 + j2 ≠ g + 1 + j; omega) _).congr (fun i2 _ => by simp [e])
theorem Tb.congr {W : World} {g r c : Nat} {Z Z' : Nat → Nat → Int} (h : Tb W g r c Z) (e : ∀ j, j < r → ∀ i, i < c → Z j i = Z' j i) : Tb W g r c Z' :=
  ⟨h.top, fun j hj => (h.rows j hj).congr (fun i hi => by rw [e j hj i hi]), h.lt⟩
end Go.Proofs.YtaojiojldljhlaaDoor


namespace Go.Proofs.YtaojiojldljhlaaDoor
open Go.RowKit

theorem S1.wider {lo hi lo' hi' : Nat} {W : World} {u : Value} {I : List Iv} (h : S1 lo hi W u I) (h1 : lo' ≤ lo) (h2 : hi ≤ hi') : S1 lo' hi' W u I := by
  rcases h with h | ⟨b, o, n, cap, e, a, b1, c, d, f⟩
  · exact Or.inl h
  · exact Or.inr ⟨b, o, n, cap, e, a, b1, by omega, by omega, f⟩
theorem SS.wider {S S' : World → Value → List Iv → Prop} {lo hi lo' hi' : Nat} {W : World} {u : Value} {I : List Iv} (h : SS S lo hi W u I) (hS : ∀ v I, S W v I → S' W v I) (h1 : lo' ≤ lo) (h2 : hi ≤ hi') : SS S' lo' hi' W u I := by
  obtain ⟨ad, m, cap, f, J, a, b, c, d, e⟩ := h
  refine ⟨ad, m, cap, f, J, a, b, c, fun j hj => hS _ _ (d j hj), fun hm => ?_⟩
  obtain ⟨b, o, x1, x2, x3, x4⟩ := e hm
  exact ⟨b, o, x1, by omega, by omega, x4⟩
theorem S2.wider {lo hi lo' hi' : Nat} {W : World} {u : Value} {I : List Iv} (h : S2 lo hi W u I) (h1 : lo' ≤ lo) (h2 : hi ≤ hi') : S2 lo' hi' W u I := SS.wider h (fun _ _ k => S1.wider k h1 h2) h1 h2
theorem S3.wider {lo hi lo' hi' : Nat} {W : World} {u : Value} {I : List Iv} (h : S3 lo hi W u I) (h1 : lo' ≤ lo) (h2 : hi ≤ hi') : S3 lo' hi' W u I := SS.wider h (fun _ _ k => S2.wider k h1 h2) h1 h2

/-- A result of 1 level(s) in blocks from lo up to hi, its numbers apart from each other. -/
def Rw1 (lo hi : Nat) (W : World) (u : Value) (out : List Int) : Prop := W1 lo hi W u out ∧ ∃ I, S1 lo hi W u I ∧ Nums lo hi W I ∧ Disj I ∧ ivSize I ≤ 1048576
theorem Rw1.same {lo hi : Nat} {W W' : World} {u : Value} {out : List Int} (h : Rw1 lo hi W u out) (s : Same lo hi W W') : Rw1 lo hi W' u out := by
  obtain ⟨h1, I, h2, h3, h4, h5⟩ := h
  exact ⟨h1.same s, I, h2, h3.same s, h4, h5⟩
theorem Rw1.next {lo hi : Nat} {W W' : World} {u : Value} {out : List Int} (h : Rw1 lo hi W u out) (hb : Below W.heap.size W W') (hh : hi ≤ W.heap.size) : Rw1 lo hi W' u out := h.same (Same.of_below hb hh)
theorem Rw1.wider {lo hi lo' hi' : Nat} {W : World} {u : Value} {out : List Int} (h : Rw1 lo hi W u out) (h1 : lo' ≤ lo) (h2 : hi ≤ hi') : Rw1 lo' hi' W u out := by
  obtain ⟨a, I, b, c, d, e⟩ := h
  exact ⟨a.wider h1 h2, I, b.wider h1 h2, c.wider h1 h2, d, e⟩
theorem Rw1.l {lo hi : Nat} {W : World} {u : Value} {out : List Int} (h : Rw1 lo hi W u out) : L1 0 W u out := h.1.l1.lower (Nat.zero_le _)
theorem Rw1.shape {lo hi : Nat} {W : World} {u : Value} {out : List Int} (h : Rw1 lo hi W u out) : ∃ ad cap, u = .slice ad out.length cap := Sw.shape h.1
theorem Rw1.nil (lo hi : Nat) (W : World) : Rw1 lo hi W (.slice none 0 0) [] := ⟨Or.inl ⟨rfl, _, _, rfl⟩, [], Or.inl ⟨rfl, _, _, rfl⟩, fun _ h => absurd h (by simp), List.Pairwise.nil, by simp [ivSize]⟩
/-- The same with the marks from 1 on in it. -/
def Hw1 (lo hi : Nat) (W : World) (u : Value) (m : Int) : Prop := ∃ I, S1 lo hi W u I ∧ Marked W I 1 ∧ (∀ x ∈ I, lo ≤ x.1 ∧ x.1 < hi) ∧ m = 1 + (ivSize I : Int) ∧ ivSize I ≤ 1048576
theorem Hw1.same {lo hi : Nat} {W W' : World} {u : Value} {m : Int} (h : Hw1 lo hi W u m) (s : Same lo hi W W') : Hw1 lo hi W' u m := by
  obtain ⟨I, h2, h3, h4, h5⟩ := h
  exact ⟨I, h2, h3.same h4 s, h4, h5⟩
theorem Hw1.next {lo hi : Nat} {W W' : World} {u : Value} {m : Int} (h : Hw1 lo hi W u m) (hb : Below W.heap.size W W') (hh : hi ≤ W.heap.size) : Hw1 lo hi W' u m := h.same (Same.of_below hb hh)
/-- A result of 2 level(s) in blocks from lo up to hi, its numbers apart from each other. -/
def Rw2 (lo hi : Nat) (W : World) (u : Value) (out : List (List Int)) : Prop := W2 lo hi W u out ∧ ∃ I, S2 lo hi W u I ∧ Nums lo hi W I ∧ Disj I ∧ ivSize I ≤ 1099511627776
theorem Rw2.same {lo hi : Nat} {W W' : World} {u : Value} {out : List (List Int)} (h : Rw2 lo hi W u out) (s : Same lo hi W W') : Rw2 lo hi W' u out := by
  obtain ⟨h1, I, h2, h3, h4, h5⟩ := h
  exact ⟨h1.same s, I, h2.same s, h3.same s, h4, h5⟩
theorem Rw2.next {lo hi : Nat} {W W' : World} {u : Value} {out : List (List Int)} (h : Rw2 lo hi W u out) (hb : Below W.heap.size W W') (hh : hi ≤ W.heap.size) : Rw2 lo hi W' u out := h.same (Same.of_below hb hh)
theorem Rw2.wider {lo hi lo' hi' : Nat} {W : World} {u : Value} {out : List (List Int)} (h : Rw2 lo hi W u out) (h1 : lo' ≤ lo) (h2 : hi ≤ hi') : Rw2 lo' hi' W u out := by
  obtain ⟨a, I, b, c, d, e⟩ := h
  exact ⟨a.wider h1 h2, I, b.wider h1 h2, c.wider h1 h2, d, e⟩
theorem Rw2.l {lo hi : Nat} {W : World} {u : Value} {out : List (List Int)} (h : Rw2 lo hi W u out) : L2 0 W u out := h.1.l2.lower (Nat.zero_le _)
theorem Rw2.shape {lo hi : Nat} {W : World} {u : Value} {out : List (List Int)} (h : Rw2 lo hi W u out) : ∃ ad cap, u = .slice ad out.length cap := Sw.shape h.1
theorem Rw2.nil (lo hi : Nat) (W : World) : Rw2 lo hi W (.slice none 0 0) [] := ⟨Or.inl ⟨rfl, _, _, rfl⟩, [], ⟨none, 0, 0, fun _ => .slice none 0 0, fun _ => [], rfl, by omega, rfl, fun _ h => absurd h (Nat.not_lt_zero _), fun h => absurd h (Nat.lt_irrefl _)⟩, fun _ h => absurd h (by simp), List.Pairwise.nil, by simp [ivSize]⟩
/-- The same with the marks from 1 on in it. -/
def Hw2 (lo hi : Nat) (W : World) (u : Value) (m : Int) : Prop := ∃ I, S2 lo hi W u I ∧ Marked W I 1 ∧ (∀ x ∈ I, lo ≤ x.1 ∧ x.1 < hi) ∧ m = 1 + (ivSize I : Int) ∧ ivSize I ≤ 1099511627776
theorem Hw2.same {lo hi : Nat} {W W' : World} {u : Value} {m : Int} (h : Hw2 lo hi W u m) (s : Same lo hi W W') : Hw2 lo hi W' u m := by
  obtain ⟨I, h2, h3, h4, h5⟩ := h
  exact ⟨I, h2.same s, h3.same h4 s, h4, h5⟩
theorem Hw2.next {lo hi : Nat} {W W' : World} {u : Value} {m : Int} (h : Hw2 lo hi W u m) (hb : Below W.heap.size W W') (hh : hi ≤ W.heap.size) : Hw2 lo hi W' u m := h.same (Same.of_below hb hh)
/-- A result of 3 level(s) in blocks from lo up to hi, its numbers apart from each other. -/
def Rw3 (lo hi : Nat) (W : World) (u : Value) (out : List (List (List Int))) : Prop := W3 lo hi W u out ∧ ∃ I, S3 lo hi W u I ∧ Nums lo hi W I ∧ Disj I ∧ ivSize I ≤ 1152921504606846976
theorem Rw3.same {lo hi : Nat} {W W' : World} {u : Value} {out : List (List (List Int))} (h : Rw3 lo hi W u out) (s : Same lo hi W W') : Rw3 lo hi W' u out := by
  obtain ⟨h1, I, h2, h3, h4, h5⟩ := h
  exact ⟨h1.same s, I, h2.same s, h3.same s, h4, h5⟩
theorem Rw3.next {lo hi : Nat} {W W' : World} {u : Value} {out : List (List (List Int))} (h : Rw3 lo hi W u out) (hb : Below W.heap.size W W') (hh : hi ≤ W.heap.size) : Rw3 lo hi W' u out := h.same (Same.of_below hb hh)
theorem Rw3.wider {lo hi lo' hi' : Nat} {W : World} {u : Value} {out : List (List (List Int))} (h : Rw3 lo hi W u out) (h1 : lo' ≤ lo) (h2 : hi ≤ hi') : Rw3 lo' hi' W u out := by
  obtain ⟨a, I, b, c, d, e⟩ := h
  exact ⟨a.wider h1 h2, I, b.wider h1 h2, c.wider h1 h2, d, e⟩
theorem Rw3.l {lo hi : Nat} {W : World} {u : Value} {out : List (List (List Int))} (h : Rw3 lo hi W u out) : L3 0 W u out := h.1.l3.lower (Nat.zero_le _)
theorem Rw3.shape {lo hi : Nat} {W : World} {u : Value} {out : List (List (List Int))} (h : Rw3 lo hi W u out) : ∃ ad cap, u = .slice ad out.length cap := Sw.shape h.1
theorem Rw3.nil (lo hi : Nat) (W : World) : Rw3 lo hi W (.slice none 0 0) [] := ⟨Or.inl ⟨rfl, _, _, rfl⟩, [], ⟨none, 0, 0, fun _ => .slice none 0 0, fun _ => [], rfl, by omega, rfl, fun _ h => absurd h (Nat.not_lt_zero _), fun h => absurd h (Nat.lt_irrefl _)⟩, fun _ h => absurd h (by simp), List.Pairwise.nil, by simp [ivSize]⟩
/-- The same with the marks from 1 on in it. -/
def Hw3 (lo hi : Nat) (W : World) (u : Value) (m : Int) : Prop := ∃ I, S3 lo hi W u I ∧ Marked W I 1 ∧ (∀ x ∈ I, lo ≤ x.1 ∧ x.1 < hi) ∧ m = 1 + (ivSize I : Int) ∧ ivSize I ≤ 1152921504606846976
theorem Hw3.same {lo hi : Nat} {W W' : World} {u : Value} {m : Int} (h : Hw3 lo hi W u m) (s : Same lo hi W W') : Hw3 lo hi W' u m := by
  obtain ⟨I, h2, h3, h4, h5⟩ := h
  exact ⟨I, h2.same s, h3.same h4 s, h4, h5⟩
theorem Hw3.next {lo hi : Nat} {W W' : World} {u : Value} {m : Int} (h : Hw3 lo hi W u m) (hb : Below W.heap.size W W') (hh : hi ≤ W.heap.size) : Hw3 lo hi W' u m := h.same (Same.of_below hb hh)
/-- Lists of intervals in spans of blocks one behind the other are apart. -/
theorem disj_spans {J : Nat → List Iv} {b : Nat → Nat} {n : Nat} (hi : ∀ j, j < n → b j ≤ b (j + 1)) (hJ : ∀ j, j < n → ∀ x ∈ J j, b j ≤ x.1 ∧ x.1 < b (j + 1)) (hd : ∀ j, j < n → Disj (J j)) : Disj (flat J n) ∧ ∀ x ∈ flat J n, x.1 < b n := by
  induction n with
  | zero => exact ⟨List.Pairwise.nil, fun x hx => absurd hx (by simp [flat])⟩
  | succ n ih =>
    obtain ⟨h1, h2⟩ := ih (fun j hj => hi j (by omega)) (fun j hj => hJ j (by omega)) (fun j hj => hd j (by omega))
    rw [flat_succ]
    refine ⟨List.pairwise_append.2 ⟨h1, hd n (by omega), fun x hx y hy => Or.inl ?_⟩, fun x hx => ?_⟩
    · have a := h2 x hx
      have c := (hJ n (by omega) y hy).1
      omega
    · rcases List.mem_append.1 hx with h | h
      · have a := h2 x h
        have c := hi n (by omega)
        omega
      · exact (hJ n (by omega) x h).2
theorem size_spans {J : Nat → List Iv} {n B : Nat} (h : ∀ j, j < n → ivSize (J j) ≤ B) : ivSize (flat J n) ≤ B * n := by
  induction n with
  | zero => simp [flat, ivSize]
  | succ n ih =>
    have h1 := ih (fun j hj => h j (by omega))
    have h2 := h n (by omega)
    rw [flat_succ, ivSize_append, Nat.mul_succ]
    omega
theorem nums_flat {lo hi : Nat} {W : World} {J : Nat → List Iv} {n : Nat} (h : ∀ j, j < n → Nums lo hi W (J j)) : Nums lo hi W (flat J n) := fun x hx => by
  obtain ⟨j, hj, hx⟩ := List.mem_flatMap.1 hx
  exact h j (List.mem_range.1 hj) x hx
theorem choose2 {α : Type} [Inhabited α] {P : Nat → α → Prop} {n : Nat} (h : ∀ j, j < n → ∃ a, P j a) : ∃ f : Nat → α, ∀ j, j < n → P j (f j) :=
  ⟨fun j => if hj : j < n then Classical.choose (h j hj) else default, fun j hj => by simp only [dif_pos hj]; exact Classical.choose_spec (h j hj)⟩

/-- Tables while they are laid into a row of tables at block g: k of them are there. -/
structure Fill3 (wr : World) (g n k : Nat) (f : Nat → Value) (b : Nat → Nat) (ts : List (List (List Int))) : Prop where
  row : wr.rowIs g 22 n f
  lo : g < b 0
  inc : ∀ j, j < k → b j ≤ b (j + 1)
  hi : b k ≤ wr.heap.size
  at' : ∀ j (h : j < ts.length), j < k → Rw2 (b j) (b (j + 1)) wr (f j) ts[j]
theorem Fill3.start {wr : World} {g n : Nat} {f : Nat → Value} (h : wr.rowIs g 22 n f) (hg : g + 1 ≤ wr.heap.size) (ts : List (List (List Int))) : Fill3 wr g n 0 f (fun _ => g + 1) ts :=
  ⟨h, Nat.lt_succ_self _, fun _ h => absurd h (Nat.not_lt_zero _), hg, fun _ _ h => absurd h (Nat.not_lt_zero _)⟩
theorem Fill3.next {wr w' : World} {g n k : Nat} {f : Nat → Value} {b : Nat → Nat} {ts : List (List (List Int))} (h : Fill3 wr g n k f b ts) (hb : Below wr.heap.size wr w') (hm : ∀ j, j < k → b (j + 1) ≤ b k) : Fill3 w' g n k f b ts :=
  ⟨h.row.of_block (hb.block _ h.row.lt), h.lo, h.inc, Nat.le_trans h.hi hb.size, fun j hj hk => (h.at' j hj hk).next hb (Nat.le_trans (hm j hk) h.hi)⟩
theorem inc_le {b : Nat → Nat} {k : Nat} (h : ∀ j, j < k → b j ≤ b (j + 1)) : ∀ j, j ≤ k → b j ≤ b k := by
  intro j hj
  induction k with
  | zero => rw [show j = 0 by omega]; exact Nat.le_refl _
  | succ k ih =>
    by_cases e : j = k + 1
    · rw [e]; exact Nat.le_refl _
    · exact Nat.le_trans (ih (fun i hi => h i (by omega)) (by omega)) (h k (by omega))
theorem Fill3.below {wr w' : World} {g n k : Nat} {f : Nat → Value} {b : Nat → Nat} {ts : List (List (List Int))} (h : Fill3 wr g n k f b ts) (hb : Below wr.heap.size wr w') : Fill3 w' g n k f b ts := h.next hb (fun j hj => inc_le h.inc (j + 1) hj)
theorem Fill3.out {wr : World} {g n k : Nat} {f : Nat → Value} {b : Nat → Nat} {ts : List (List (List Int))} (h : Fill3 wr g n k f b ts) {a : Addr} (ha : a.block < g) (v : Value) : Fill3 (wr.setCell a v) g n k f b ts :=
  ⟨h.row.setOther (by omega) v, h.lo, h.inc, by simpa using h.hi, fun j hj hk => (h.at' j hj hk).same (fun x hx _ => Below.heap_setCell wr a v x (by have := h.lo; have := inc_le (b := b) (k := j) (fun i hi => h.inc i (by omega)) 0 (Nat.zero_le _); omega))⟩
theorem Fill3.step {wr w1 : World} {g n k : Nat} {f : Nat → Value} {b : Nat → Nat} {ts : List (List (List Int))} {u : Value} (h : Fill3 wr g n k f b ts) (hb : Below wr.heap.size wr w1) (hk : k < ts.length) (hu : Rw2 wr.heap.size w1.heap.size w1 u ts[k]) :
    Fill3 (w1.setCell ⟨g, k, none⟩ u) g n (k + 1) (fun j => if j = k then u else f j) (fun j => if j < k then b j else if j = k then wr.heap.size else w1.heap.size) ts := by
  have hlt := h.row.lt
  have hr : w1.rowIs g 22 n f := h.row.of_block (hb.block _ hlt)
  have hsm : ∀ lo hi, g < lo → Same lo hi w1 (w1.setCell ⟨g, k, none⟩ u) := fun lo hi hl => Same.set u (Or.inl hl)
  refine ⟨hr.set k u, ?_, fun j hj => ?_, ?_, fun j hj hjk => ?_⟩
  · by_cases e : 0 < k
    · simp only [if_pos e]; exact h.lo
    · simp only [if_neg e, if_pos (show 0 = k by omega)]; exact hlt
  · by_cases e : j < k
    · simp only [if_pos e]
      by_cases e2 : j + 1 < k
      · simp only [if_pos e2]; exact h.inc j e
      · simp only [if_neg e2, if_pos (show j + 1 = k by omega)]
        have := inc_le h.inc j (by omega)
        have := h.hi
        omega
    · simp only [if_neg e, if_pos (show j = k by omega), if_neg (show ¬ j + 1 < k by omega), if_neg (show ¬ j + 1 = k by omega)]
      exact hb.size
  · simp only [if_neg (show ¬ k + 1 < k by omega), if_neg (show ¬ k + 1 = k by omega)]
    simp
  · by_cases e : j = k
    · subst e
      simp only [if_neg (show ¬ j < j by omega), if_neg (show ¬ j + 1 < j by omega), if_neg (show ¬ j + 1 = j by omega), if_true]
      exact hu.same (hsm _ _ hlt)
    · have hj' : j < k := by omega
      have hh := inc_le h.inc (j + 1) hj'
      have h0 := inc_le (b := b) (k := j) (fun i hi => h.inc i (by omega)) 0 (Nat.zero_le _)
      have hl0 := h.lo
      have ht := ((h.at' j hj hj').next hb (Nat.le_trans hh h.hi)).same (hsm _ _ (by omega))
      simp only [if_neg e, if_pos hj']
      by_cases e2 : j + 1 < k
      · simp only [if_pos e2]; exact ht
      · simp only [if_neg e2, if_pos (show j + 1 = k by omega)]
        exact ht.wider (Nat.le_refl _) (Nat.le_trans hh h.hi)
/-- What a function answers beside a code. -/
structure RsOut {α : Type} (P : α → Prop) (z : α) (c0 : Int) (out : α) (c : Int) : Prop where
  good : c0 = 0 → P out
  bad : c0 ≠ 0 → out = z
  code : c = c0
theorem RsOut.unique {α : Type} {P : α → Prop} {z : α} {c0 : Int} {o1 o2 : α} {c1 c2 : Int} (hu : c0 = 0 → ∀ a b, P a → P b → a = b) (h1 : RsOut P z c0 o1 c1) (h2 : RsOut P z c0 o2 c2) : o1 = o2 ∧ c1 = c2 := by
  refine ⟨?_, h1.code.trans h2.code.symm⟩
  by_cases h0 : c0 = 0
  · exact hu h0 _ _ (h1.good h0) (h2.good h0)
  · rw [h1.bad h0, h2.bad h0]
theorem RsOut.all {α : Type} {P : α → Prop} {z : α} {c0 : Int} {o : α} {c : Int} (h : RsOut P z c0 o c) {Q : α → Prop} (hz : Q z) (hb : c0 = 0 → ∀ a, P a → Q a) : Q o := by
  by_cases h0 : c0 = 0
  · exact hb h0 _ (h.good h0)
  · rw [h.bad h0]
    exact hz
end Go.Proofs.YtaojiojldljhlaaDoor


namespace Go.Proofs.YtaojiojldljhlaaDoor
open Go.RowKit

/-- The differential of a vector of the degree n. -/
def difOf (p : Int) (ds : List Int) (ms : List (List (List Int))) (n : Int) (vs : List Int) : List Int := if n = 0 then [] else apT p (ds.getD (n.toNat - 1) 0).toNat vs (ms.getD (n.toNat - 1) [])
def InDeg (ds : List Int) (n : Int) : Prop := 0 ≤ n ∧ n ≤ (ds.length : Int) - 1
/-- What DifferentialOf answers: a list and a code. -/
structure DifOut (p : Int) (ds : List Int) (ms : List (List (List Int))) (n : Int) (vs out : List Int) (c : Int) : Prop where
  bad : ¬ IsCx p ds ms → out = [] ∧ c = 1
  far : IsCx p ds ms → ¬ InDeg ds n → out = [] ∧ c = 2
  row : IsCx p ds ms → InDeg ds n → ¬ RowOk p (ds.getD n.toNat 0) vs → out = [] ∧ c = 2
  good : IsCx p ds ms → InDeg ds n → RowOk p (ds.getD n.toNat 0) vs → out = difOf p ds ms n vs ∧ c = 0
theorem DifOut.unique {p : Int} {ds : List Int} {ms : List (List (List Int))} {n : Int} {vs o1 o2 : List Int} {c1 c2 : Int} (h1 : DifOut p ds ms n vs o1 c1) (h2 : DifOut p ds ms n vs o2 c2) : o1 = o2 ∧ c1 = c2 := by
  by_cases a : IsCx p ds ms
  · by_cases b : InDeg ds n
    · by_cases c : RowOk p (ds.getD n.toNat 0) vs
      · have x := h1.good a b c
        have y := h2.good a b c
        exact ⟨x.1.trans y.1.symm, x.2.trans y.2.symm⟩
      · have x := h1.row a b c
        have y := h2.row a b c
        exact ⟨x.1.trans y.1.symm, x.2.trans y.2.symm⟩
    · have x := h1.far a b
      have y := h2.far a b
      exact ⟨x.1.trans y.1.symm, x.2.trans y.2.symm⟩
  · have x := h1.bad a
    have y := h2.bad a
    exact ⟨x.1.trans y.1.symm, x.2.trans y.2.symm⟩
theorem apT_length' {p : Int} {c : Nat} {v : List Int} {t : List (List Int)} (ok : ApOk p c v t) : (apT p c v t).length = c := apTo_length ok (Nat.le_refl _)
end Go.Proofs.YtaojiojldljhlaaDoor


namespace Go.Proofs.YtaojiojldljhlaaDoor
open Go.RowKit

/-- The slice u holds tables, in a row of its own. -/
def Gt (base : Nat) (w : World) (u : Value) (ts : List (List (List Int))) : Prop := ∃ vs, w.ownsRow base 22 1 u ts.length vs ∧ ∀ k (h1 : k < vs.length) (h2 : k < ts.length), Gs 0 w vs[k] ts[k]
theorem Gt.below {base : Nat} {w w' : World} {u : Value} {ts : List (List (List Int))} (h : Gt base w u ts) (hb : Below w.heap.size w w') : Gt base w' u ts := by
  obtain ⟨vs, ho, hr⟩ := h
  exact ⟨vs, owns_below ho hb, fun k h1 h2 => (hr k h1 h2).below hb⟩
theorem Gt.l3 {base : Nat} {w : World} {u : Value} {ts : List (List (List Int))} (h : Gt base w u ts) : L3 0 w u ts := by
  obtain ⟨vs, ho, hr⟩ := h
  exact sl_of_owns ho (Nat.zero_le _) rfl (fun k h1 h2 => (hr k h2 h1).l2)
theorem Gt.lt {base : Nat} {w : World} {v : Value} {ts : List (List (List Int))} (h : Gt base w v ts) : ∀ k, v.ownBlock = some k → base ≤ k ∧ k < w.heap.size := by
  obtain ⟨vs, ho, _⟩ := h
  exact World.ownsRow.lt ho
theorem Gt.new {base : Nat} (w : World) (hb : base ≤ w.heap.size) : Gt base (w.alloc (.cells #[] 22)) (.slice (some ⟨w.heap.size, 0, none⟩) 0 0) [] :=
  ⟨[], by simpa using World.ownsRow_made (base := base) (e := 22) (size := 1) w #[] 0 hb (by unfold maxLen; omega) (by simp), fun k h1 _ => absurd h1 (Nat.not_lt_zero _)⟩
theorem Gs.new {base : Nat} (w : World) (hb : base ≤ w.heap.size) : Gs base (w.alloc (.cells #[] 35)) (.slice (some ⟨w.heap.size, 0, none⟩) 0 0) [] :=
  ⟨[], by simpa using World.ownsRow_made (base := base) (e := 35) (size := 1) w #[] 0 hb (by unfold maxLen; omega) (by simp), fun k h1 _ => absurd h1 (Nat.not_lt_zero _)⟩
theorem Gb.new {base : Nat} (w : World) (hb : base ≤ w.heap.size) : Gb base (w.alloc (.cells #[] 2)) (.slice (some ⟨w.heap.size, 0, none⟩) 0 0) [] := by
  have := World.ownsRow_made (base := base) (e := 2) (size := 1) w #[] 0 hb (by unfold maxLen; omega) (by simp)
  simpa [Gb] using this
theorem Gs.grown {w w3 : World} {base base' n : Nat} {u v : Value} {t : List (List Int)} {vs : List Value} (h : Gs base' w u t) (ho : w.ownsRow base 22 1 v n vs) (hg : w.grownBy w3 v.ownBlock) : Gs base' w3 u t := by
  obtain ⟨us, hu, hr⟩ := h
  exact ⟨us, owns_grown hu ho (by decide) hg, fun k h1 h2 => owns_grown (hr k h1 h2) ho (by decide) hg⟩
theorem Gt.push {base : Nat} {w w3 : World} {v v' row : Value} {ts : List (List (List Int))} {vs : List Value} {x : List (List Int)} (ho : w.ownsRow base 22 1 v ts.length vs) (hr : ∀ k (h1 : k < vs.length) (h2 : k < ts.length), Gs 0 w vs[k] ts[k]) (hx : Gs 0 w row x)
    (ho3 : w3.ownsRow base 22 1 v' (ts.length + 1) (vs ++ [row])) (hg : w.grownBy w3 v.ownBlock) : Gt base w3 v' (ts ++ [x]) := by
  have hvl : vs.length = ts.length := by have := ho.1; omega
  refine ⟨vs ++ [row], by simpa using ho3, fun k h1 h2 => ?_⟩
  by_cases e : k < vs.length
  · rw [List.getElem_append_left e, List.getElem_append_left (by omega)]
    exact (hr k e (by omega)).grown ho hg
  · have e2 : k = vs.length := by simp at h1; omega
    subst e2
    rw [List.getElem_append_right (by omega), List.getElem_append_right (by omega)]
    simp only [hvl, Nat.sub_self, List.getElem_cons_zero]
    exact hx.grown ho hg
section
variable {ops : Array Oper} {rest : List Oper} {Q : Exit → Act → World → Prop}
end
end Go.Proofs.YtaojiojldljhlaaDoor


namespace Go.Proofs.YtaojiojldljhlaaDoor
open Go.RowKit

/-- A couple. -/
def IsCp (p d e : Int) (il jl kl : List (List Int)) : Prop := IsP p ∧ (0 ≤ d ∧ d ≤ 24) ∧ (0 ≤ e ∧ e ≤ 24) ∧ TabOk p d d il ∧ TabOk p d e jl ∧ TabOk p e d kl
open Classical in
noncomputable def cpCode (p d e : Int) (il jl kl : List (List Int)) : Int := if IsCp p d e il jl kl then 0 else 1
theorem cpCode_yes {p d e : Int} {il jl kl : List (List Int)} (h : IsCp p d e il jl kl) : cpCode p d e il jl kl = 0 := if_pos h
theorem cpCode_no {p d e : Int} {il jl kl : List (List Int)} (h : ¬ IsCp p d e il jl kl) : cpCode p d e il jl kl = 1 := if_neg h
theorem no_iff {P : Prop} (h : ¬ P) : (false = true ↔ P) := ⟨fun k => (by cases k), fun k => absurd k h⟩
theorem yes_iff {P : Prop} (h : P) : (true = true ↔ P) := ⟨fun _ => h, fun _ => rfl⟩
/-- The table of the differential. -/
def cdT (p e : Int) (jl kl : List (List Int)) : List (List Int) := kl.map fun v => apT p e.toNat v jl
theorem IsCp.ap {p d e : Int} {il jl kl : List (List Int)} (h : IsCp p d e il jl kl) {v : List Int} (hv : v ∈ kl) : ApOk p e.toNat v jl := by
  obtain ⟨hp, hd, he, hi, hj, hk⟩ := h
  have h1 := (hk.2 v hv)
  have h2 := hj.1
  refine ⟨hp, by have := h1.1; omega, h1.2, fun r hr => ?_⟩
  have := hj.2 r hr
  rw [Int.toNat_of_nonneg he.1]
  exact this
set_option maxHeartbeats 3200000 in
set_option maxRecDepth 100000 in
theorem l05Is_any (p d e : Int) (iv jv kv : Value) (il jl kl : List (List Int)) (w : World) (h : Cp 0 w iv jv kv il jl kl) (hm : CpB 1048576 il jl kl) :
    Calls Tryd.prog 24 #[.agg #[.int .i64 p, .int .i64 d, .int .i64 e, iv, jv, kv]] w (BB (IsCp p d e il jl kl) w) := by
  have HM := Lib.hid hm
  obtain ⟨w1, hw1⟩ : ∃ w1, w1 = w.alloc (.cells #[.int .i64 p, .int .i64 d, .int .i64 e, iv, jv, kv] 28) := ⟨_, rfl⟩
  have hs1 : w1.heap.size = w.heap.size + 1 := by rw [hw1]; simp
  have HX : Hid (BxCp w w1 w.heap.size p d e iv jv kv il jl kl) := Lib.hid (by rw [hw1]; exact BxCp.start 28 h)
  clear h hm
  have c0 := HX.out.c0
  have c1 := HX.out.c1
  have c2 := HX.out.c2
  have c3 := HX.out.c3
  have c4 := HX.out.c4
  have c5 := HX.out.c5
  go_enter Tryd.func24, Tryd.ntmps24
  go_upto_region 1 with fail
  rw [← hw1]
  clear hw1
  by_cases hp : IsP p
  · have HP := Lib.hid hp
    clear hp
    go_wp2_with fail
    refine (spprime_yes HP.out _).mono ?_
    rintro ee w' ⟨rfl, rfl⟩
    by_cases hd : 0 ≤ d ∧ d ≤ 24
    · have HD := Lib.hid hd
      clear hd
      go_wp2_with fail
      refine (spin_yes HD.out _).mono ?_
      rintro ee w' ⟨rfl, rfl⟩
      by_cases he : 0 ≤ e ∧ e ≤ 24
      · have HE := Lib.hid he
        clear he
        go_wp2_with fail
        refine (spin_yes HE.out _).mono ?_
        rintro ee w' ⟨rfl, rfl⟩
        go_wp2_with fail
        refine (l01Table_any p d d iv il _ HP.out HX.out.cx.fi HM.out.bi).mono ?_
        rintro ee w' ⟨b1, rfl, rfl, hb1⟩
        by_cases hi : TabOk p d d il
        · obtain rfl : b1 = true := hb1.2 hi
          have HI := Lib.hid hi
          clear hb1 hi
          go_wp2_with fail
          refine (l01Table_any p d e jv jl _ HP.out HX.out.cx.fj HM.out.bj).mono ?_
          rintro ee w' ⟨b2, rfl, rfl, hb2⟩
          by_cases hj : TabOk p d e jl
          · obtain rfl : b2 = true := hb2.2 hj
            have HJ := Lib.hid hj
            clear hb2 hj
            go_wp2_with fail
            refine (l01Table_any p e d kv kl _ HP.out HX.out.cx.fk HM.out.bk).mono ?_
            rintro ee w' ⟨b3, rfl, rfl, hb3⟩
            have HB3 := Lib.hid hb3
            clear hb3
            go_wp2
            go_ret
            exact ⟨b3, rfl, HX.out.below, HB3.out.trans ⟨fun h => ⟨HP.out, HD.out, HE.out, HI.out, HJ.out, h⟩, fun h => h.2.2.2.2.2⟩⟩
          · obtain rfl : b2 = false := bb_no hb2 hj
            have HJ := Lib.hid hj
            clear hb2 hj
            go_wp2
            go_ret
            exact ⟨false, rfl, HX.out.below, no_iff fun h => HJ.out h.2.2.2.2.1⟩
        · obtain rfl : b1 = false := bb_no hb1 hi
          have HI := Lib.hid hi
          clear hb1 hi
          go_wp2
          go_ret
          exact ⟨false, rfl, HX.out.below, no_iff fun h => HI.out h.2.2.2.1⟩
      · have HE := Lib.hid he
        clear he
        go_wp2_with fail
        refine (spin_no HE.out _).mono ?_
        rintro ee w' ⟨rfl, rfl⟩
        go_wp2
        go_ret
        exact ⟨false, rfl, HX.out.below, no_iff fun h => HE.out h.2.2.1⟩
    · have HD := Lib.hid hd
      clear hd
      go_wp2_with fail
      refine (spin_no HD.out _).mono ?_
      rintro ee w' ⟨rfl, rfl⟩
      go_wp2
      go_ret
      exact ⟨false, rfl, HX.out.below, no_iff fun h => HD.out h.2.1⟩
  · have HP := Lib.hid hp
    clear hp
    go_wp2_with fail
    refine (spprime_no HP.out _).mono ?_
    rintro ee w' ⟨rfl, rfl⟩
    go_wp2
    go_ret
    exact ⟨false, rfl, HX.out.below, no_iff fun h => HP.out h.1⟩

end Go.Proofs.YtaojiojldljhlaaDoor


namespace Go.Proofs.YtaojiojldljhlaaDoor.Lin

/-- Vectors that differ by a vector of the space have one rest. -/
theorem RestE.shift {p : Int} {L : List V} {v v' b r : V} (hv : Md p v) (hb : Sp p L b) (e : v' = add p v 1 b) (h : RestE p L v' L.length r) : RestE p L v L.length r := by
  obtain ⟨s, hs, hr⟩ := h.by'
  have hp : ∀ {x : V}, Md p x → 0 < p := fun hx => by have := hx 0; omega
  have hp0 := hp hv
  have hbs : Sp p L (add p b 1 s) := Sp.add 1 (Sp.md hp0 hb) hb hs
  have e2 : r = add p v 1 (add p b 1 s) := by rw [add_add, ← e, hr, Int.mul_one]
  have hbs' : ∀ u, Sp p (u :: L) (add p b 1 s) := fun u => Sp.mono (fun w hw => List.mem_cons_of_mem _ hw) hbs
  refine ⟨⟨h.rest.md, h.rest.off, ?_, ?_⟩, add p b 1 s, hbs, e2⟩
  · rw [e2]
    exact Sp.add 1 hv (Sp.mem (List.mem_cons_self ..) hv) (hbs' v)
  · have e3 : v = add p r (-1) (add p b 1 s) := by rw [e2, add_back hv]
    rw [e3]
    have h1 := Sp.add (p := p) (L := r :: L) (-1) h.rest.md (Sp.mem (List.mem_cons_self ..) h.rest.md) (hbs' r)
    rwa [← e3] at h1 ⊢
end Go.Proofs.YtaojiojldljhlaaDoor.Lin
namespace Go.Proofs.YtaojiojldljhlaaDoor
open Go.RowKit

/-- What a table makes 0 of. -/
theorem cyc_dimg {p : Int} {n m : Nat} {t : List (List Int)} (htl : t.length = n) (htr : ∀ r ∈ t, RowOk p (m : Int) r) {v : Lin.V} : CycS p n m t v ↔ Lin.Md p v ∧ Lin.Wd n v ∧ dimg p n t v = Lin.zv := by
  have e : rowsV (t.map ofL) = fun i => ofL (t.getD i []) := rowsV_ofL t
  constructor
  · rintro ⟨h1, h2, h3⟩
    refine ⟨h1, h2, funext fun j => ?_⟩
    by_cases hj : j < m
    · show Lin.dot n (Lin.col (rowsV (t.map ofL)) j) v % p = 0
      rw [e]
      exact h3 j hj
    · exact dimg_wd htl htr v j (by omega)
  · rintro ⟨h1, h2, h3⟩
    refine ⟨h1, h2, fun j _ => ?_⟩
    have := congrFun h3 j
    rw [← e]
    exact this
/-- What a table makes lies in the space of its rows. -/
theorem dimg_row {p : Int} {n : Nat} {t : List (List Int)} (htl : t.length = n) (v : Lin.V) : Lin.Sp p (t.map ofL) (dimg p n t v) :=
  img_sp v (fun i hi => by
    have h : i < (t.map ofL).length := by rw [List.length_map]; omega
    show (t.map ofL).getD i Lin.zv ∈ t.map ofL
    rw [getD_of_lt _ h]
    exact List.getElem_mem h)
section
variable {p : Int} {dn en : Nat} {il jl kl : List (List Int)}
/-- The rows of the differential of a couple. -/
theorem cd_rows (hc : IsCp p dn en il jl kl) : (cdT p en jl kl).map ofL = (kl.map ofL).map (dimg p dn jl) := by
  obtain ⟨hp, hd, he, hi, hj, hk⟩ := hc
  unfold cdT
  rw [List.map_map, List.map_map]
  refine List.map_congr_left fun r hr => ?_
  have h1 := hk.2 r hr
  have hl : r.length = dn := by have := h1.1; omega
  have hm : Lin.Md p (ofL r) := ofL_md (by have := hp.lo; omega) h1
  have h2 := dimg_apT (u := ofL r) (d := dn) (c := en) hp (by have := hj.1; omega) hj.2 hm
  have e : toL dn (ofL r) = r := toL_ofL hl
  rw [e] at h2
  show ofL (apT p (en : Int).toNat r jl) = dimg p dn jl (ofL r)
  rw [Int.toNat_natCast, h2.2, ofL_toL (dimg_wd (by have := hj.1; omega) hj.2 _)]
/-- What is made of vectors that go to 0 lies in the space of the differential's rows. -/
theorem cd_ker (hc : IsCp p dn en il jl kl) (hx : ExOk p dn en il jl kl) {v : Lin.V} (h1 : Lin.Md p v) (h2 : Lin.Wd dn v) (h3 : dimg p dn il v = Lin.zv) : Lin.Sp p ((cdT p en jl kl).map ofL) (dimg p dn jl v) := by
  have hi := hc.2.2.2.1
  have hk := (hx.2.2 v).2 ((cyc_dimg (m := dn) (by have := hi.1; omega) hi.2).2 ⟨h1, h2, h3⟩)
  rw [cd_rows hc]
  exact dimg_sp hk
/-- The table of a map in numbers of a basis. -/
noncomputable def dcI (p : Int) (n : Nat) (t : List (List Int)) (W R : List Lin.V) : List (List Int) := W.map fun v => leadRow R (dimg p n t v)
/-- The classes of what is made of sources. -/
structure DcJ (p : Int) (dn : Nat) (il jl : List (List Int)) (R B rs : List Lin.V) : Prop where
  len : rs.length = R.length
  at' : ∀ q (h : q < R.length) (h' : q < rs.length), ∃ s, Lin.Md p s ∧ Lin.Wd dn s ∧ dimg p dn il s = R[q] ∧ Lin.RestE p B (dimg p dn jl s) B.length rs[q]
theorem DcJ.unique (hc : IsCp p dn en il jl kl) (hx : ExOk p dn en il jl kl) {R B rs rs' : List Lin.V} (hB : Lin.Red p B) (hBe : Lin.Eqv p B ((cdT p en jl kl).map ofL)) (h : DcJ p dn il jl R B rs) (h' : DcJ p dn il jl R B rs') : rs = rs' := by
  have hp1 := hc.1.lo
  have hp0 : 0 < p := by omega
  refine List.ext_getElem (by rw [h.len, h'.len]) fun q h1 h2 => ?_
  have hq : q < R.length := by rw [← h.len]; exact h1
  obtain ⟨s, a1, a2, a3, a4⟩ := h.at' q hq h1
  obtain ⟨t, b1, b2, b3, b4⟩ := h'.at' q hq h2
  have hz : dimg p dn il (Lin.add p t (-1) s) = Lin.zv := by
    rw [dimg_add, a3, b3]
    funext i
    show (R[q] i + -1 * R[q] i) % p = 0
    rw [show R[q] i + -1 * R[q] i = 0 by omega]
    rfl
  have hs := (hBe _).2 (cd_ker hc hx (Lin.add_md hp0 t (-1) s) (Lin.add_wd (-1) b2 a2) hz)
  rw [dimg_add] at hs
  have e : dimg p dn jl t = Lin.add p (dimg p dn jl s) 1 (Lin.add p (dimg p dn jl t) (-1) (dimg p dn jl s)) := by
    have hm := dimg_md hp0 dn jl t
    funext i
    show dimg p dn jl t i = (dimg p dn jl s i + 1 * ((dimg p dn jl t i + -1 * dimg p dn jl s i) % p)) % p
    rw [Lin.add_mul_mod, show dimg p dn jl s i + 1 * (dimg p dn jl t i + -1 * dimg p dn jl s i) = dimg p dn jl t i by omega]
    exact (Lin.md_mod (hm i).1 (hm i).2).symm
  exact Lin.RestE.unique hp0 hB a4 (Lin.RestE.shift (dimg_md hp0 dn jl s) hs e b4)
end
end Go.Proofs.YtaojiojldljhlaaDoor


namespace Go.Proofs.YtaojiojldljhlaaDoor.Lin

/-- A linear map. -/
structure Map (p : Int) (f : V → V) : Prop where
  add : ∀ x c y, f (add p x c y) = Lin.add p (f x) c (f y)
  zv : f zv = zv
section
variable {p : Int} {f g h : V → V}
theorem Map.sp (hf : Map p f) {L : List V} {v : V} (hv : Sp p L v) : Sp p (L.map f) (f v) := by
  induction hv with
  | zero => rw [hf.zv]; exact .zero
  | step c _ hw ih => rw [hf.add]; exact .step c ih (List.mem_map.2 ⟨_, hw, rfl⟩)
theorem Map.of (hf : Map p f) {L : List V} {u : V} (hu : Sp p (L.map f) u) : ∃ v, Sp p L v ∧ u = f v := by
  induction hu with
  | zero => exact ⟨Lin.zv, .zero, hf.zv.symm⟩
  | step c _ hw ih =>
    obtain ⟨v, hv, rfl⟩ := ih
    obtain ⟨x, hx, rfl⟩ := List.mem_map.1 hw
    exact ⟨_, .step c hv hx, (hf.add _ _ _).symm⟩
theorem Map.none (hf : Map p f) {L : List V} (h0 : ∀ u ∈ L, f u = Lin.zv) (hp : 0 < p) {v : V} (hv : Sp p L v) : f v = Lin.zv := by
  induction hv with
  | zero => exact hf.zv
  | step c _ hw ih => rw [hf.add, ih, h0 _ hw]; exact add_zv (zv_md hp) c
theorem Map.comp (hf : Map p f) (hg : Map p g) : Map p (fun v => g (f v)) := ⟨fun x c y => by rw [hf.add, hg.add], by rw [hf.zv, hg.zv]⟩
theorem crd_lin (p : Int) (W : List V) : Map p (crd W) := ⟨fun x c y => crd_add p W x c y, crd_zv W⟩
theorem rowsV_map (f : V → V) {L : List V} {i : Nat} (hi : i < L.length) : rowsV (L.map f) i = f (rowsV L i) := by
  rw [rowsV_at (by rw [List.length_map]; exact hi), rowsV_at hi, List.getElem_map]
theorem Map.img (hf : Map p f) (L : List V) (x : V) : ∀ n, n ≤ L.length → img p n (rowsV (L.map f)) x = f (Go.Proofs.YtaojiojldljhlaaDoor.img p n (rowsV L) x)
  | 0, _ => by rw [img_zero, img_zero, hf.zv]
  | n + 1, hn => by rw [img_succ, img_succ, hf.img L x n (by omega), hf.add, rowsV_map f (by omega)]
/-- The numbers of a combination of a reduced list. -/
theorem crd_img (hp : 1 < p) {R : List V} (hR : Red p R) {x : V} (hx : Md p x) (hw : Wd R.length x) : crd R (Go.Proofs.YtaojiojldljhlaaDoor.img p R.length (rowsV R) x) = x := by
  have hp0 : 0 < p := by omega
  funext k
  by_cases hk : k < R.length
  · simp only [crd, dif_pos hk]
    show dot R.length (col (rowsV R) (ld R[k])) x % p = x k
    rw [dot_one hk (fun i hi hne => ?_)]
    · simp only [col]
      rw [rowsV_at hk, hR.one _ (List.getElem_mem hk), Int.one_mul]
      exact md_mod (hx k).1 (hx k).2
    · simp only [col]
      rw [rowsV_at hi, hR.off _ (List.getElem_mem hi) _ (List.getElem_mem hk) (fun e => hne (by
        have := List.pairwise_iff_getElem.1 hR.inc
        rcases Nat.lt_trichotomy i k with h | h | h
        · have := this i k hi hk h; omega
        · exact h
        · have := this k i hk hi h; omega)), Int.zero_mul]
  · simp only [crd, dif_neg hk]
    exact (hw k (by omega)).symm
theorem img_crd (hp : 1 < p) {R : List V} (hR : Red p R) {v : V} (hv : Sp p R v) : Go.Proofs.YtaojiojldljhlaaDoor.img p R.length (rowsV R) (crd R v) = v :=
  img_leads hp hR hv (fun i hi => by simp [crd, hi])
theorem crd_md (hp : 0 < p) (W : List V) {v : V} (hv : Md p v) : Md p (crd W v) := fun k => by
  by_cases h : k < W.length
  · simp only [crd, dif_pos h]; exact hv _
  · simp only [crd, dif_neg h]; exact ⟨Int.le_refl _, hp⟩
theorem crd_wd (W : List V) (v : V) : Wd W.length (crd W v) := fun k hk => by simp [crd, show ¬ k < W.length by omega]
theorem crd_none (hp : 0 < p) {R : List V} (hR : Red p R) {v : V} (hv : Sp p R v) (h0 : crd R v = Lin.zv) : v = Lin.zv :=
  hR.zero_of hp hv (fun w hw => by
    obtain ⟨k, hk, rfl⟩ := List.getElem_of_mem hw
    have := congrFun h0 k
    simpa [crd, hk, Lin.zv] using this)
theorem add_four (p : Int) (a b c d : V) (x : Int) : add p (add p a 1 b) x (add p c 1 d) = add p (add p a x c) 1 (add p b x d) := by
  funext i
  simp only [add, add_mul_mod, mod_add_mod]
  exact congrArg (· % p) (by grind)
theorem sub_self (p : Int) (v : V) : add p v (-1) v = Lin.zv := by
  funext i
  show (v i + -1 * v i) % p = 0
  rw [show v i + -1 * v i = 0 by omega]
  rfl
end

/-- An exact couple of maps, a basis of what the first one makes, one of the differentials, one of the classes, and the classes of sources. -/
structure Drv (p : Int) (f g k : V → V) (D E : V → Prop) (R B C rs : List V) : Prop where
  hp : 1 < p
  lf : Map p f
  lg : Map p g
  lk : Map p k
  dmd : ∀ {v}, D v → Md p v
  emd : ∀ {v}, E v → Md p v
  dadd : ∀ {u v} (c : Int), D u → D v → D (add p u c v)
  eadd : ∀ {u v} (c : Int), E u → E v → E (add p u c v)
  fd : ∀ {v}, D v → D (f v)
  ge : ∀ {v}, D v → E (g v)
  kd : ∀ {v}, E v → D (k v)
  fg : ∀ v, D v → (g v = zv ↔ ∃ s, D s ∧ f s = v)
  gk : ∀ v, E v → (k v = zv ↔ ∃ s, D s ∧ g s = v)
  kf : ∀ v, D v → (f v = zv ↔ ∃ s, E s ∧ k s = v)
  dz : D zv
  ez : E zv
  rR : Red p R
  rB : Red p B
  rC : Red p C
  sR : ∀ v, Sp p R v ↔ ∃ s, D s ∧ f s = v
  sB : ∀ v, Sp p B v ↔ ∃ e, E e ∧ g (k e) = v
  sC : ∀ v, Sp p C v ↔ (E v ∧ g (k v) = zv) ∧ ∀ w ∈ B, v (ld w) = 0
  len : rs.length = R.length
  src : ∀ q (h : q < R.length) (h' : q < rs.length), ∃ s, D s ∧ f s = R[q] ∧ RestE p B (g s) B.length rs[q]
namespace Drv
variable {p : Int} {f g k : V → V} {D E : V → Prop} {R B C rs : List V}
theorem hp0 (h : Drv p f g k D E R B C rs) : 0 < p := by have := h.hp; omega
theorem kg (h : Drv p f g k D E R B C rs) {s : V} (hs : D s) : k (g s) = zv := (h.gk _ (h.ge hs)).2 ⟨s, hs, rfl⟩
theorem fk (h : Drv p f g k D E R B C rs) {e : V} (he : E e) : f (k e) = zv := (h.kf _ (h.kd he)).2 ⟨e, he, rfl⟩
theorem eB (h : Drv p f g k D E R B C rs) {b : V} (hb : Sp p B b) : E b ∧ k b = zv := by
  obtain ⟨e, he, rfl⟩ := (h.sB b).1 hb
  exact ⟨h.ge (h.kd he), h.kg (h.kd he)⟩
theorem dR (h : Drv p f g k D E R B C rs) {v : V} (hv : Sp p R v) : D v := by
  obtain ⟨s, hs, rfl⟩ := (h.sR v).1 hv
  exact h.fd hs
/-- Sources of one vector have differences of differentials. -/
theorem two (h : Drv p f g k D E R B C rs) {s t : V} (hs : D s) (ht : D t) (e : f s = f t) : Sp p B (add p (g s) (-1) (g t)) := by
  have h1 : f (add p s (-1) t) = zv := by rw [h.lf.add, e, sub_self]
  obtain ⟨x, hx, hk⟩ := (h.kf _ (h.dadd (-1) hs ht)).1 h1
  exact (h.sB _).2 ⟨x, hx, by rw [hk, h.lg.add]⟩
theorem one (h : Drv p f g k D E R B C rs) {c d : V} (hc : Sp p C c) (hd : Sp p C d) (hs : Sp p B (add p c (-1) d)) : c = d := by
  refine eq_of_add (Sp.md h.hp0 hc) (Sp.md h.hp0 hd) (h.rB.zero_of h.hp0 hs (fun w hw => ?_))
  simp [add, ((h.sC c).1 hc).2 w hw, ((h.sC d).1 hd).2 w hw]
theorem zeroB (h : Drv p f g k D E R B C rs) {c : V} (hc : Sp p C c) (hs : Sp p B c) : c = zv := h.rB.zero_of h.hp0 hs ((h.sC c).1 hc).2
/-- What is made of a source, less a differential, is a class. -/
theorem cls (h : Drv p f g k D E R B C rs) {s b v : V} (hs : D s) (hb : Sp p B b) (e : v = add p (g s) 1 b) (h0 : ∀ w ∈ B, v (ld w) = 0) : Sp p C v ∧ k v = zv := by
  have h1 := h.eB hb
  have h2 : k v = zv := by rw [e, h.lk.add, h.kg hs, h1.2]; exact add_zv (zv_md h.hp0) 1
  refine ⟨(h.sC v).2 ⟨⟨?_, by rw [h2, h.lg.zv]⟩, h0⟩, h2⟩
  rw [e]
  exact h.eadd 1 (h.ge hs) h1.1
theorem part (h : Drv p f g k D E R B C rs) (x : V) : ∀ n, n ≤ R.length → ∃ s, D s ∧ f s = img p n (rowsV R) x ∧ ∃ b, Sp p B b ∧ img p n (rowsV rs) x = add p (g s) 1 b ∧ ∀ w ∈ B, img p n (rowsV rs) x (ld w) = 0
  | 0, _ => ⟨zv, h.dz, by rw [img_zero, h.lf.zv], zv, .zero, by rw [img_zero, h.lg.zv, add_zv (zv_md h.hp0)], fun w _ => by rw [img_zero]; rfl⟩
  | n + 1, hn => by
    obtain ⟨s, h1, h2, b, h3, h4, h5⟩ := h.part x n (by omega)
    have hq : n < R.length := by omega
    have hq' : n < rs.length := by rw [h.len]; exact hq
    obtain ⟨t, k1, k2, k3⟩ := h.src n hq hq'
    obtain ⟨c, hc, e⟩ := k3.by'
    refine ⟨add p s (x n) t, h.dadd _ h1 k1, by rw [h.lf.add, h2, k2, img_succ, rowsV_at hq], add p b (x n) c, Sp.add _ (Sp.md h.hp0 h3) h3 hc, ?_, fun w hw => ?_⟩
    · rw [img_succ, rowsV_at hq', h4, e, h.lg.add, add_four]
    · have h6 := k3.rest.off w (by rw [List.take_length]; exact hw)
      rw [img_succ, rowsV_at hq']
      simp [add, h5 w hw, h6]
theorem full (h : Drv p f g k D E R B C rs) (x : V) : ∃ s, D s ∧ f s = img p R.length (rowsV R) x ∧ (∃ b, Sp p B b ∧ img p R.length (rowsV rs) x = add p (g s) 1 b) ∧ Sp p C (img p R.length (rowsV rs) x) := by
  obtain ⟨s, h1, h2, b, h3, h4, h5⟩ := h.part x R.length (Nat.le_refl _)
  exact ⟨s, h1, h2, ⟨b, h3, h4⟩, (h.cls h1 h3 h4 h5).1⟩
theorem jimg (h : Drv p f g k D E R B C rs) (x : V) : img p R.length (rowsV (rs.map (crd C))) x = crd C (img p R.length (rowsV rs) x) := (crd_lin p C).img rs x R.length (by rw [h.len]; exact Nat.le_refl _)
/-- What the first map makes in numbers is what the second one makes 0 of. -/
theorem ex1 (h : Drv p f g k D E R B C rs) (x : V) : Sp p (R.map fun v => crd R (f v)) x ↔ Md p x ∧ Wd R.length x ∧ img p R.length (rowsV (rs.map (crd C))) x = zv := by
  have e : (R.map fun v => crd R (f v)) = (R.map f).map (crd R) := by rw [List.map_map]; rfl
  rw [h.jimg]
  obtain ⟨s, h1, h2, ⟨b, h3, h4⟩, h5⟩ := h.full x
  constructor
  · intro hx
    rw [e] at hx
    obtain ⟨v, hv, rfl⟩ := crd_of hx
    obtain ⟨r, hr, rfl⟩ := h.lf.of hv
    have hrD := h.dR hr
    have hvR : Sp p R (f r) := (h.sR _).2 ⟨r, hrD, rfl⟩
    refine ⟨crd_md h.hp0 R (Sp.md h.hp0 hvR), crd_wd R _, ?_⟩
    rw [img_crd h.hp h.rR hvR] at h2
    have h6 := h.two h1 hrD h2
    have h7 : g r = zv := (h.fg r hrD).2 ((h.sR r).1 hr)
    rw [h7, add_zv (h.emd (h.ge h1))] at h6
    have h8 : Sp p B (img p R.length (rowsV rs) (crd R (f r))) := by rw [h4]; exact Sp.add 1 (Sp.md h.hp0 h6) h6 h3
    rw [h.zeroB h5 h8, crd_zv]
  · rintro ⟨hm, hw, hz⟩
    have h6 := crd_none h.hp0 h.rC h5 hz
    rw [h6] at h4
    have h7 : g s = add p zv (-1) b := by rw [h4, add_back (h.emd (h.ge h1))]
    have h8 : Sp p B (g s) := by rw [h7]; exact Sp.add (-1) (zv_md h.hp0) .zero h3
    obtain ⟨y, hy, hgy⟩ := (h.sB _).1 h8
    have hky := h.kd hy
    obtain ⟨t, ht, hft⟩ := (h.fg _ (h.dadd (-1) h1 hky)).1 (by rw [h.lg.add, hgy, sub_self])
    have h9 : img p R.length (rowsV R) x = f (f t) := by rw [hft, h.lf.add, h.fk hy, add_zv (h.dmd (h.fd h1)), h2]
    have h10 : Sp p R (f t) := (h.sR _).2 ⟨t, ht, rfl⟩
    rw [e, ← crd_img h.hp h.rR hm hw, h9]
    exact crd_sp (h.lf.sp h10)
theorem ex2 (h : Drv p f g k D E R B C rs) (y : V) : Sp p (rs.map (crd C)) y ↔ Md p y ∧ Wd C.length y ∧ img p C.length (rowsV (C.map fun c => crd R (k c))) y = zv := by
  have hk : img p C.length (rowsV (C.map fun c => crd R (k c))) y = crd R (k (img p C.length (rowsV C) y)) := (h.lk.comp (crd_lin p R)).img C y C.length (Nat.le_refl _)
  have hrs : ∀ u ∈ rs, Sp p C u ∧ k u = zv := fun u hu => by
    obtain ⟨q, hq, rfl⟩ := List.getElem_of_mem hu
    obtain ⟨s, k1, k2, k3⟩ := h.src q (by rw [← h.len]; exact hq) hq
    obtain ⟨c, hc, e⟩ := k3.by'
    exact h.cls k1 hc e (fun w hw => k3.rest.off w (by rw [List.take_length]; exact hw))
  rw [hk]
  constructor
  · intro hy
    obtain ⟨v, hv, rfl⟩ := crd_of hy
    have hvC : Sp p C v := Sp.trans h.hp0 (fun u hu => (hrs u hu).1) hv
    refine ⟨crd_md h.hp0 C (Sp.md h.hp0 hvC), crd_wd C _, ?_⟩
    rw [img_crd h.hp h.rC hvC, h.lk.none (fun u hu => (hrs u hu).2) h.hp0 hv, crd_zv]
  · rintro ⟨hm, hw, hz⟩
    have hc := img_sp (p := p) (E := C) (rows := rowsV C) y (a := C.length) (fun i hi => rowsV_mem hi)
    have hcC := (h.sC _).1 hc
    have hkR : Sp p R (k (img p C.length (rowsV C) y)) := (h.sR _).2 ((h.fg _ (h.kd hcC.1.1)).1 hcC.1.2)
    have hk0 := crd_none h.hp0 h.rR hkR hz
    obtain ⟨s, hs, hgs⟩ := (h.gk _ hcC.1.1).1 hk0
    have hvR : Sp p R (f s) := (h.sR _).2 ⟨s, hs, rfl⟩
    obtain ⟨t, h1, h2, ⟨b, h3, h4⟩, h5⟩ := h.full (crd R (f s))
    rw [img_crd h.hp h.rR hvR] at h2
    have h6 := h.two hs h1 h2.symm
    have h7 : img p C.length (rowsV C) y = img p R.length (rowsV rs) (crd R (f s)) := by
      refine h.one hc h5 ?_
      rw [h4, ← hgs]
      have h8 : add p (g s) (-1) (add p (g t) 1 b) = add p (add p (g s) (-1) (g t)) (-1) b := by rw [add_add, Int.mul_one]
      rw [h8]
      exact Sp.add (-1) (Sp.md h.hp0 h6) h6 h3
    have h9 : Sp p rs (img p R.length (rowsV rs) (crd R (f s))) := img_sp _ (fun i hi => rowsV_mem (by rw [h.len]; exact hi))
    rw [← crd_img h.hp h.rC hm hw, h7]
    exact crd_sp h9
theorem ex3 (h : Drv p f g k D E R B C rs) (hrest : ∀ v, Md p v → ∃ r, RestE p B v B.length r) (x : V) : Sp p (C.map fun c => crd R (k c)) x ↔ Md p x ∧ Wd R.length x ∧ img p R.length (rowsV (R.map fun v => crd R (f v))) x = zv := by
  have e : (C.map fun c => crd R (k c)) = (C.map k).map (crd R) := by rw [List.map_map]; rfl
  have hk : img p R.length (rowsV (R.map fun v => crd R (f v))) x = crd R (f (img p R.length (rowsV R) x)) := (h.lf.comp (crd_lin p R)).img R x R.length (Nat.le_refl _)
  rw [hk]
  constructor
  · intro hx
    rw [e] at hx
    obtain ⟨v, hv, rfl⟩ := crd_of hx
    obtain ⟨c, hc, rfl⟩ := h.lk.of hv
    have hcC := (h.sC _).1 hc
    have hvR : Sp p R (k c) := (h.sR _).2 ((h.fg _ (h.kd hcC.1.1)).1 hcC.1.2)
    refine ⟨crd_md h.hp0 R (Sp.md h.hp0 hvR), crd_wd R _, ?_⟩
    rw [img_crd h.hp h.rR hvR, h.fk hcC.1.1, crd_zv]
  · rintro ⟨hm, hw, hz⟩
    have hv := img_sp (p := p) (E := R) (rows := rowsV R) x (a := R.length) (fun i hi => rowsV_mem hi)
    have hvD := h.dR hv
    have hfR : Sp p R (f (img p R.length (rowsV R) x)) := (h.sR _).2 ⟨_, hvD, rfl⟩
    have hf0 := crd_none h.hp0 h.rR hfR hz
    obtain ⟨y, hy, hky⟩ := (h.kf _ hvD).1 hf0
    have hg0 : g (img p R.length (rowsV R) x) = zv := (h.fg _ hvD).2 ((h.sR _).1 hv)
    obtain ⟨c, hc⟩ := hrest y (h.emd hy)
    obtain ⟨b, hb, hcb⟩ := hc.by'
    have hkb := h.eB hb
    have hkc : k c = img p R.length (rowsV R) x := by rw [hcb, h.lk.add, hkb.2, add_zv (h.dmd (h.kd hy)), hky]
    have hcC : Sp p C c := (h.sC c).2 ⟨⟨by rw [hcb]; exact h.eadd 1 hy hkb.1, by rw [hkc, hg0]⟩, fun w hw => hc.rest.off w (by rw [List.take_length]; exact hw)⟩
    rw [e, ← crd_img h.hp h.rR hm hw, ← hkc]
    exact crd_sp (h.lk.sp hcC)
end Drv
end Go.Proofs.YtaojiojldljhlaaDoor.Lin


namespace Go.Proofs.YtaojiojldljhlaaDoor
open Go.RowKit

theorem Fill3.parts {wr : World} {g n : Nat} {f : Nat → Value} {b : Nat → Nat} {ts : List (List (List Int))} (h : Fill3 wr g n n f b ts) (hn : n = ts.length) (hs : n ≤ 1048576) : W3 g wr.heap.size wr (.slice (some ⟨g, 0, none⟩) n n) ts ∧ ∃ J, S3 g wr.heap.size wr (.slice (some ⟨g, 0, none⟩) n n) J ∧ Nums (b 0) wr.heap.size wr J ∧ Disj J ∧ ivSize J ≤ 1152921504606846976 := by
  have hlt := h.row.lt
  have h1 : ∀ j, j < n → Rw2 g wr.heap.size wr (f j) (ts.getD j []) := fun j hj => by
    rw [getD_of_lt _ (by omega)]
    have a1 := inc_le h.inc (j + 1) hj
    have a2 := inc_le (b := b) (k := j) (fun i hi => h.inc i (by omega)) 0 (Nat.zero_le _)
    have a3 := h.lo
    exact (h.at' j (by omega) hj).wider (by omega) (Nat.le_trans a1 h.hi)
  refine ⟨?_, ?_⟩
  · by_cases h0 : n = 0
    · exact Or.inl ⟨List.eq_nil_of_length_eq_zero (by omega), _, _, by rw [h0]⟩
    · refine Or.inr ⟨g, 0, n, by rw [hn], Nat.le_refl _, hlt, by omega, fun k hk => ?_, fun k _ => h.row.frozen _⟩
      refine ⟨f k, by rw [Nat.zero_add]; exact h.row.cell (by omega), ?_⟩
      have := (h1 k (by omega)).1
      rwa [getD_of_lt _ hk] at this
  · have hex : ∀ j, j < n → ∃ I, S2 (b j) (b (j + 1)) wr (f j) I ∧ Nums (b j) (b (j + 1)) wr I ∧ Disj I ∧ ivSize I ≤ 1099511627776 := fun j hj => (h.at' j (by omega) hj).2
    obtain ⟨J, hJ⟩ := choose2 hex
    have hw : ∀ j, j < n → g ≤ b j ∧ b (j + 1) ≤ wr.heap.size := fun j hj => by
      have a1 := inc_le h.inc (j + 1) hj
      have a2 := inc_le (b := b) (k := j) (fun i hi => h.inc i (by omega)) 0 (Nat.zero_le _)
      have a3 := h.lo
      have a4 := h.hi
      omega
    refine ⟨flat J n, ⟨some ⟨g, 0, none⟩, n, n, f, J, rfl, hs, rfl, fun j hj => (hJ j hj).1.wider (hw j hj).1 (hw j hj).2, fun _ => ⟨g, 0, rfl, Nat.le_refl _, hlt, fun j hj => by rw [Nat.zero_add]; exact h.row.cell hj⟩⟩, nums_flat (fun j hj => (hJ j hj).2.1.wider (inc_le (b := b) (k := j) (fun i hi => h.inc i (by omega)) 0 (Nat.zero_le _)) (hw j hj).2), (disj_spans h.inc (fun j hj x hx => ⟨((hJ j hj).2.1 x hx).1, ((hJ j hj).2.1 x hx).2.1⟩) (fun j hj => (hJ j hj).2.2.1)).1, ?_⟩
    have h2 := size_spans (J := J) (n := n) (B := 1099511627776) (fun j hj => (hJ j hj).2.2.2)
    have h3 : 1099511627776 * n ≤ 1099511627776 * 1048576 := Nat.mul_le_mul (Nat.le_refl _) hs
    omega


/-- A complex that a function answers: numbers in blocks from lo up to hi, apart from each other. -/
def RcW (lo hi : Nat) (W : World) (dv mv : Value) (ds : List Int) (ms : List (List (List Int))) : Prop :=
  CxW lo hi W dv mv ds ms ∧ ∃ I J, S1 lo hi W dv I ∧ S3 lo hi W mv J ∧ Nums lo hi W I ∧ Nums lo hi W J ∧ Disj J ∧ (∀ x ∈ I, ∀ y ∈ J, Apart x y) ∧ ivSize I ≤ 1048576 ∧ ivSize J ≤ 1152921504606846976
theorem RcW.same {lo hi : Nat} {W W' : World} {dv mv : Value} {ds : List Int} {ms : List (List (List Int))} (h : RcW lo hi W dv mv ds ms) (s : Same lo hi W W') : RcW lo hi W' dv mv ds ms := by
  obtain ⟨h0, I, J, h1, h2, h3, h4, h5⟩ := h
  exact ⟨h0.same s, I, J, h1, h2.same s, h3.same s, h4.same s, h5⟩
theorem RcW.cx {lo hi : Nat} {W : World} {dv mv : Value} {ds : List Int} {ms : List (List (List Int))} (h : RcW lo hi W dv mv ds ms) : Cx 0 W dv mv ds ms := h.1.cx.lower (Nat.zero_le _)
theorem RcW.wider {lo hi lo' hi' : Nat} {W : World} {dv mv : Value} {ds : List Int} {ms : List (List (List Int))} (h : RcW lo hi W dv mv ds ms) (h1 : lo' ≤ lo) (h2 : hi ≤ hi') : RcW lo' hi' W dv mv ds ms := by
  obtain ⟨h0, I, J, a, b, c, d, e⟩ := h
  exact ⟨⟨h0.dims.wider h1 h2, h0.maps.wider h1 h2⟩, I, J, a.wider h1 h2, b.wider h1 h2, c.wider h1 h2, d.wider h1 h2, e⟩
theorem RcW.nil (lo hi : Nat) (W : World) : RcW lo hi W (.slice none 0 0) (.slice none 0 0) [] [] :=
  ⟨⟨Or.inl ⟨rfl, _, _, rfl⟩, Or.inl ⟨rfl, _, _, rfl⟩⟩, [], [], Or.inl ⟨rfl, _, _, rfl⟩, ⟨none, 0, 0, fun _ => .slice none 0 0, fun _ => [], rfl, by omega, rfl, fun _ h => absurd h (Nat.not_lt_zero _), fun h => absurd h (Nat.lt_irrefl _)⟩, fun _ h => absurd h (by simp), fun _ h => absurd h (by simp), List.Pairwise.nil, fun _ h => absurd h (by simp), by simp [ivSize], by simp [ivSize]⟩
/-- Prime, dimensions and tables of a complex. -/
abbrev Co := Int × List Int × List (List (List Int))
def RwC (lo hi : Nat) (W : World) (u : Value) (o : Co) : Prop := ∃ ad cd am cm, u = .agg #[.int .i64 o.1, .slice ad o.2.1.length cd, .slice am o.2.2.length cm] ∧ RcW lo hi W (.slice ad o.2.1.length cd) (.slice am o.2.2.length cm) o.2.1 o.2.2
def RsC (W : World) (u : Value) (o : Co) : Prop := ∃ ad cd am cm, u = .agg #[.int .i64 o.1, .slice ad o.2.1.length cd, .slice am o.2.2.length cm] ∧ Cx 0 W (.slice ad o.2.1.length cd) (.slice am o.2.2.length cm) o.2.1 o.2.2
theorem RwC.nil (lo hi : Nat) (W : World) : RwC lo hi W (.agg #[.int .i64 0, .slice none 0 0, .slice none 0 0]) (0, [], []) := ⟨none, 0, none, 0, rfl, RcW.nil _ _ _⟩
theorem RsC.nil (W : World) : RsC W (.agg #[.int .i64 0, .slice none 0 0, .slice none 0 0]) (0, [], []) := ⟨none, 0, none, 0, rfl, ⟨Or.inl ⟨rfl, _, _, rfl⟩, Or.inl ⟨rfl, _, _, rfl⟩⟩⟩
/-- The same with the marks from 1 on in it. -/
def HcW (lo hi : Nat) (W : World) (dv mv : Value) (m : Int) : Prop :=
  ∃ I J, S1 lo hi W dv I ∧ S3 lo hi W mv J ∧ Marked W I 1 ∧ Marked W J (1 + (ivSize I : Int)) ∧ (∀ x ∈ I, lo ≤ x.1 ∧ x.1 < hi) ∧ (∀ x ∈ J, lo ≤ x.1 ∧ x.1 < hi) ∧ m = 1 + (ivSize I : Int) + (ivSize J : Int) ∧ ivSize I ≤ 1048576 ∧ ivSize J ≤ 1152921504606846976
theorem HcW.same {lo hi : Nat} {W W' : World} {dv mv : Value} {m : Int} (h : HcW lo hi W dv mv m) (s : Same lo hi W W') : HcW lo hi W' dv mv m := by
  obtain ⟨I, J, h1, h2, h3, h4, h5, h6, h7⟩ := h
  exact ⟨I, J, h1, h2.same s, h3.same h5 s, h4.same h6 s, h5, h6, h7⟩
/-- The box of a complex, its three cells alone. -/
structure Bc (wr : World) (b : Nat) (p : Int) (dv mv : Value) : Prop where
  c0 : wr.cell? ⟨b, 0, none⟩ = some (.int .i64 p)
  c1 : wr.cell? ⟨b, 1, none⟩ = some dv
  c2 : wr.cell? ⟨b, 2, none⟩ = some mv
  lt : b < wr.heap.size
theorem Bc.start (w : World) (p : Int) (dv mv : Value) (t : TypeId) : Bc (w.alloc (.cells #[.int .i64 p, dv, mv] t)) w.heap.size p dv mv := ⟨by simp, by simp, by simp, by simp⟩
theorem Bc.next {wr w' : World} {b : Nat} {p : Int} {dv mv : Value} (h : Bc wr b p dv mv) (hb : Below wr.heap.size wr w') : Bc w' b p dv mv :=
  ⟨later hb (Nat.le_refl _) h.c0, later hb (Nat.le_refl _) h.c1, later hb (Nat.le_refl _) h.c2, Nat.lt_of_lt_of_le h.lt hb.size⟩
theorem Bc.only {wr w' : World} {b lo hi : Nat} {p : Int} {dv mv : Value} (h : Bc wr b p dv mv) (ho : Only lo hi wr w') (hb : b < lo ∨ hi ≤ b) : Bc w' b p dv mv :=
  ⟨(ho.cell hb).trans h.c0, (ho.cell hb).trans h.c1, (ho.cell hb).trans h.c2, by have := ho.size; have := h.lt; omega⟩

end Go.Proofs.YtaojiojldljhlaaDoor


namespace Go.Proofs.YtaojiojldljhlaaDoor
open Go.RowKit

structure Fill2 (wr : World) (g n k : Nat) (f : Nat → Value) (b : Nat → Nat) (ts : List (List Int)) : Prop where
  row : wr.rowIs g 35 n f
  lo : g < b 0
  inc : ∀ j, j < k → b j ≤ b (j + 1)
  hi : b k ≤ wr.heap.size
  at' : ∀ j (h : j < ts.length), j < k → Rw1 (b j) (b (j + 1)) wr (f j) ts[j]
theorem Fill2.start {wr : World} {g n : Nat} {f : Nat → Value} (h : wr.rowIs g 35 n f) (hg : g + 1 ≤ wr.heap.size) (ts : List (List Int)) : Fill2 wr g n 0 f (fun _ => g + 1) ts :=
  ⟨h, Nat.lt_succ_self _, fun _ h => absurd h (Nat.not_lt_zero _), hg, fun _ _ h => absurd h (Nat.not_lt_zero _)⟩
theorem Fill2.next {wr w' : World} {g n k : Nat} {f : Nat → Value} {b : Nat → Nat} {ts : List (List Int)} (h : Fill2 wr g n k f b ts) (hb : Below wr.heap.size wr w') (hm : ∀ j, j < k → b (j + 1) ≤ b k) : Fill2 w' g n k f b ts :=
  ⟨h.row.of_block (hb.block _ h.row.lt), h.lo, h.inc, Nat.le_trans h.hi hb.size, fun j hj hk => (h.at' j hj hk).next hb (Nat.le_trans (hm j hk) h.hi)⟩
theorem Fill2.below {wr w' : World} {g n k : Nat} {f : Nat → Value} {b : Nat → Nat} {ts : List (List Int)} (h : Fill2 wr g n k f b ts) (hb : Below wr.heap.size wr w') : Fill2 w' g n k f b ts := h.next hb (fun j hj => inc_le h.inc (j + 1) hj)
theorem Fill2.out {wr : World} {g n k : Nat} {f : Nat → Value} {b : Nat → Nat} {ts : List (List Int)} (h : Fill2 wr g n k f b ts) {a : Addr} (ha : a.block < g) (v : Value) : Fill2 (wr.setCell a v) g n k f b ts :=
  ⟨h.row.setOther (by omega) v, h.lo, h.inc, by simpa using h.hi, fun j hj hk => (h.at' j hj hk).same (fun x hx _ => Below.heap_setCell wr a v x (by have := h.lo; have := inc_le (b := b) (k := j) (fun i hi => h.inc i (by omega)) 0 (Nat.zero_le _); omega))⟩
theorem Fill2.step {wr w1 : World} {g n k : Nat} {f : Nat → Value} {b : Nat → Nat} {ts : List (List Int)} {u : Value} (h : Fill2 wr g n k f b ts) (hb : Below wr.heap.size wr w1) (hk : k < ts.length) (hu : Rw1 wr.heap.size w1.heap.size w1 u ts[k]) :
    Fill2 (w1.setCell ⟨g, k, none⟩ u) g n (k + 1) (fun j => if j = k then u else f j) (fun j => if j < k then b j else if j = k then wr.heap.size else w1.heap.size) ts := by
  have hlt := h.row.lt
  have hr : w1.rowIs g 35 n f := h.row.of_block (hb.block _ hlt)
  have hsm : ∀ lo hi, g < lo → Same lo hi w1 (w1.setCell ⟨g, k, none⟩ u) := fun lo hi hl => Same.set u (Or.inl hl)
  refine ⟨hr.set k u, ?_, fun j hj => ?_, ?_, fun j hj hjk => ?_⟩
  · by_cases e : 0 < k
    · simp only [if_pos e]; exact h.lo
    · simp only [if_neg e, if_pos (show 0 = k by omega)]; exact hlt
  · by_cases e : j < k
    · simp only [if_pos e]
      by_cases e2 : j + 1 < k
      · simp only [if_pos e2]; exact h.inc j e
      · simp only [if_neg e2, if_pos (show j + 1 = k by omega)]
        have := inc_le h.inc j (by omega)
        have := h.hi
        omega
    · simp only [if_neg e, if_pos (show j = k by omega), if_neg (show ¬ j + 1 < k by omega), if_neg (show ¬ j + 1 = k by omega)]
      exact hb.size
  · simp only [if_neg (show ¬ k + 1 < k by omega), if_neg (show ¬ k + 1 = k by omega)]
    simp
  · by_cases e : j = k
    · subst e
      simp only [if_neg (show ¬ j < j by omega), if_neg (show ¬ j + 1 < j by omega), if_neg (show ¬ j + 1 = j by omega), if_true]
      exact hu.same (hsm _ _ hlt)
    · have hj' : j < k := by omega
      have hh := inc_le h.inc (j + 1) hj'
      have h0 := inc_le (b := b) (k := j) (fun i hi => h.inc i (by omega)) 0 (Nat.zero_le _)
      have hl0 := h.lo
      have ht := ((h.at' j hj hj').next hb (Nat.le_trans hh h.hi)).same (hsm _ _ (by omega))
      simp only [if_neg e, if_pos hj']
      by_cases e2 : j + 1 < k
      · simp only [if_pos e2]; exact ht
      · simp only [if_neg e2, if_pos (show j + 1 = k by omega)]
        exact ht.wider (Nat.le_refl _) (Nat.le_trans hh h.hi)
end Go.Proofs.YtaojiojldljhlaaDoor


namespace Go.Proofs.YtaojiojldljhlaaDoor
open Go.RowKit

theorem restE_ex {p : Int} (hp : 0 < p) {L : List Lin.V} (hL : Lin.Red p L) {v : Lin.V} (hv : Lin.Md p v) : ∀ k, k ≤ L.length → ∃ r, Lin.RestE p L v k r := by
  intro k
  induction k with
  | zero => exact fun _ => ⟨v, Lin.RestE.start hv⟩
  | succ k ih =>
    intro hk
    obtain ⟨r, hr⟩ := ih (by omega)
    exact ⟨_, hr.step hp hL (by omega)⟩
end Go.Proofs.YtaojiojldljhlaaDoor


namespace Go.Proofs.YtaojiojldljhlaaDoor
open Go.RowKit

theorem img_delta {p : Int} {rows : Nat → Lin.V} {i a : Nat} (hi : i < a) (hm : Lin.Md p (rows i)) : img p a rows (fun x => if x = i then 1 else 0) = rows i := funext fun j => by
  show Lin.dot a (Lin.col rows j) (fun x => if x = i then 1 else 0) % p = rows i j
  rw [Lin.dot_one hi (fun k _ hne => by simp [hne])]
  simp only [Lin.col, if_true, Int.mul_one]
  exact Lin.md_mod (hm j).1 (hm j).2
/-- A vector of the space of a table's rows has a source. -/
theorem sp_pre {p : Int} (hp : 1 < p) {n : Nat} {t : List (List Int)} (htl : t.length = n) (hm : ∀ u ∈ t.map ofL, Lin.Md p u) {v : Lin.V} : Lin.Sp p (t.map ofL) v ↔ ∃ s, (Lin.Md p s ∧ Lin.Wd n s) ∧ dimg p n t s = v := by
  have hp0 : 0 < p := by omega
  constructor
  · intro h
    induction h with
    | zero => exact ⟨Lin.zv, ⟨Lin.zv_md hp0, Lin.zv_wd n⟩, dimg_zv p n t⟩
    | step c _ hw ih =>
      obtain ⟨s, ⟨h1, h2⟩, rfl⟩ := ih
      obtain ⟨i, hi, rfl⟩ := List.getElem_of_mem hw
      have hi' : i < n := by simpa [htl] using hi
      refine ⟨Lin.add p s c (fun x => if x = i then 1 else 0), ⟨Lin.add_md hp0 _ _ _, Lin.add_wd c h2 (fun x hx => by simp; omega)⟩, ?_⟩
      rw [dimg_add]
      congr 1
      show img p n (rowsV (t.map ofL)) _ = _
      rw [img_delta hi' (by rw [rowsV_at hi]; exact hm _ (List.getElem_mem hi)), rowsV_at hi]
  · rintro ⟨s, _, rfl⟩
    exact dimg_row htl s
theorem dimg_map (p : Int) (n : Nat) (t : List (List Int)) : Lin.Map p (dimg p n t) := ⟨fun x c y => dimg_add p n t x c y, dimg_zv p n t⟩
section
variable {p : Int} {dn en : Nat} {il jl kl : List (List Int)}
theorem cd_comp (hc : IsCp p dn en il jl kl) (v : Lin.V) : dimg p en (cdT p en jl kl) v = dimg p dn jl (dimg p en kl v) := by
  show img p en (rowsV ((cdT p en jl kl).map ofL)) v = _
  rw [cd_rows hc]
  exact (dimg_map p dn jl).img (kl.map ofL) v en (by rw [List.length_map]; have := hc.2.2.2.2.2.1; omega)
theorem IsCp.mi (hc : IsCp p dn en il jl kl) : ∀ u ∈ il.map ofL, Lin.Md p u := vecs_md (by have := hc.1.lo; omega) hc.2.2.2.1.2
theorem IsCp.mj (hc : IsCp p dn en il jl kl) : ∀ u ∈ jl.map ofL, Lin.Md p u := vecs_md (by have := hc.1.lo; omega) hc.2.2.2.2.1.2
theorem IsCp.mk' (hc : IsCp p dn en il jl kl) : ∀ u ∈ kl.map ofL, Lin.Md p u := vecs_md (by have := hc.1.lo; omega) hc.2.2.2.2.2.2
theorem IsCp.li (hc : IsCp p dn en il jl kl) : il.length = dn := by have := hc.2.2.2.1.1; omega
theorem IsCp.lj (hc : IsCp p dn en il jl kl) : jl.length = dn := by have := hc.2.2.2.2.1.1; omega
theorem IsCp.lk (hc : IsCp p dn en il jl kl) : kl.length = en := by have := hc.2.2.2.2.2.1; omega
theorem IsCp.d24 (hc : IsCp p dn en il jl kl) : dn ≤ 24 ∧ en ≤ 24 := by have h1 := hc.2.1; have h2 := hc.2.2.1; omega
theorem IsCp.ld (hc : IsCp p dn en il jl kl) : (cdT p en jl kl).length = en := by unfold cdT; rw [List.length_map]; exact hc.lk
theorem IsCp.rd (hc : IsCp p dn en il jl kl) : ∀ r ∈ cdT p en jl kl, RowOk p (en : Int) r := fun r hr => by
  obtain ⟨v, hv, rfl⟩ := List.mem_map.1 hr
  have hok := hc.ap hv
  have := hc.2.2.2.2.1
  have hl := apT_length' hok
  rw [Int.toNat_natCast] at hl hok
  have h1 := hc.2.2.2.2.2.2 v hv
  have h2 := dimg_apT (u := ofL v) (d := dn) (c := en) hc.1 hc.lj this.2 (ofL_md (by have := hc.1.lo; omega) h1)
  have e : toL dn (ofL v) = v := toL_ofL (by have := h1.1; omega)
  rw [e] at h2
  rw [Int.toNat_natCast, h2.2]
  have hm := dimg_md (p := p) (by have := hc.1.lo; omega) dn jl (ofL v)
  refine ⟨by simp [toL], fun x hx => ?_⟩
  obtain ⟨i, _, rfl⟩ := List.mem_map.1 (show x ∈ (List.range en).map (fun i => dimg p dn jl (ofL v) i) from hx)
  have := hm i
  omega
/-- The derived couple. -/
structure DcIs (p : Int) (dn en : Nat) (il jl kl : List (List Int)) (d' e' : Nat) (il' jl' kl' : List (List Int)) : Prop where
  of : ∃ R B Y C tt rs, Lin.Red p R ∧ Lin.Eqv p R (il.map ofL) ∧ Lin.Red p B ∧ Lin.Eqv p B ((cdT p en jl kl).map ofL) ∧ SpF p en (CycS p en en (cdT p en jl kl)) Y ∧ RestsOf p en B Y tt ∧ tt.length = Y.length ∧ Lin.Red p C ∧ Lin.Eqv p C tt ∧ DcJ p dn il jl R B rs ∧ d' = R.length ∧ e' = C.length ∧ il' = dcI p dn il R R ∧ jl' = rs.map (leadRow C) ∧ kl' = dcI p en kl C R
theorem rests_eqv (hp : 1 < p) {n : Nat} {B Y tt tt' : List Lin.V} (hB : Lin.Red p B) (h : RestsOf p n B Y tt) (hl : tt.length = Y.length) (h' : RestsOf p n B Y tt') (hl' : tt'.length = Y.length) : Lin.Eqv p tt tt' := fun v => (rests_sp hp hB h hl v).trans (rests_sp hp hB h' hl' v).symm
theorem DcIs.unique (hc : IsCp p dn en il jl kl) (hx : ExOk p dn en il jl kl) {d1 e1 d2 e2 : Nat} {i1 j1 k1 i2 j2 k2 : List (List Int)} (h : DcIs p dn en il jl kl d1 e1 i1 j1 k1) (h' : DcIs p dn en il jl kl d2 e2 i2 j2 k2) : d1 = d2 ∧ e1 = e2 ∧ i1 = i2 ∧ j1 = j2 ∧ k1 = k2 := by
  have hp : 1 < p := by have := hc.1.lo; omega
  obtain ⟨R, B, Y, C, tt, rs, a1, a2, a3, a4, a5, a6, a7, a8, a9, a10, rfl, rfl, rfl, rfl, rfl⟩ := h.of
  obtain ⟨R', B', Y', C', tt', rs', b1, b2, b3, b4, b5, b6, b7, b8, b9, b10, rfl, rfl, rfl, rfl, rfl⟩ := h'.of
  obtain rfl : R = R' := Lin.Red.unique hp a1 b1 (a2.trans b2.symm)
  obtain rfl : B = B' := Lin.Red.unique hp a3 b3 (a4.trans b4.symm)
  obtain rfl : Y = Y' := Lin.Red.unique hp a5.1 b5.1 (fun v => (a5.2.2 v).trans (b5.2.2 v).symm)
  obtain rfl : C = C' := Lin.Red.unique hp a8 b8 (a9.trans ((rests_eqv hp a3 a6 a7 b6 b7).trans b9.symm))
  obtain rfl : rs = rs' := a10.unique hc hx a3 a4 b10
  exact ⟨rfl, rfl, rfl, rfl, rfl⟩
/-- The couple and its bases as maps. -/
theorem drv_of (hc : IsCp p dn en il jl kl) (hx : ExOk p dn en il jl kl) {R B Y C tt rs : List Lin.V} (a1 : Lin.Red p R) (a2 : Lin.Eqv p R (il.map ofL)) (a3 : Lin.Red p B) (a4 : Lin.Eqv p B ((cdT p en jl kl).map ofL)) (a5 : SpF p en (CycS p en en (cdT p en jl kl)) Y) (a6 : RestsOf p en B Y tt) (a7 : tt.length = Y.length) (a8 : Lin.Red p C) (a9 : Lin.Eqv p C tt) (a10 : DcJ p dn il jl R B rs) :
    Lin.Drv p (dimg p dn il) (dimg p dn jl) (dimg p en kl) (fun v => Lin.Md p v ∧ Lin.Wd dn v) (fun v => Lin.Md p v ∧ Lin.Wd en v) R B C rs := by
  have hp : 1 < p := by have := hc.1.lo; omega
  have hp0 : 0 < p := by omega
  have hgd : ∀ v, Lin.Md p (dimg p dn jl v) ∧ Lin.Wd en (dimg p dn jl v) := fun v => ⟨dimg_md hp0 _ _ _, dimg_wd hc.lj hc.2.2.2.2.1.2 v⟩
  have hkd : ∀ v, Lin.Md p (dimg p en kl v) ∧ Lin.Wd dn (dimg p en kl v) := fun v => ⟨dimg_md hp0 _ _ _, dimg_wd hc.lk hc.2.2.2.2.2.2 v⟩
  have hfd : ∀ v, Lin.Md p (dimg p dn il v) ∧ Lin.Wd dn (dimg p dn il v) := fun v => ⟨dimg_md hp0 _ _ _, dimg_wd hc.li hc.2.2.2.1.2 v⟩
  have hB : ∀ v, Lin.Sp p B v ↔ ∃ e, (Lin.Md p e ∧ Lin.Wd en e) ∧ dimg p dn jl (dimg p en kl e) = v := fun v => by
    rw [a4 v, sp_pre hp hc.ld (vecs_md hp0 hc.rd)]
    constructor
    · rintro ⟨e, he, rfl⟩; exact ⟨e, he, (cd_comp hc e).symm⟩
    · rintro ⟨e, he, rfl⟩; exact ⟨e, he, cd_comp hc e⟩
  have hgk : ∀ v, Lin.Md p v ∧ Lin.Wd en v → (dimg p en kl v = Lin.zv ↔ ∃ s, (Lin.Md p s ∧ Lin.Wd dn s) ∧ dimg p dn jl s = v) := fun v hv => by
    rw [← sp_pre hp hc.lj hc.mj, hx.2.1 v, cyc_dimg (m := dn) hc.lk hc.2.2.2.2.2.2]
    exact ⟨fun h => ⟨hv.1, hv.2, h⟩, fun h => h.2.2⟩
  refine {
    hp := hp, lf := dimg_map p dn il, lg := dimg_map p dn jl, lk := dimg_map p en kl
    dmd := fun h => h.1, emd := fun h => h.1
    dadd := fun c hu hv => ⟨Lin.add_md hp0 _ _ _, Lin.add_wd c hu.2 hv.2⟩
    eadd := fun c hu hv => ⟨Lin.add_md hp0 _ _ _, Lin.add_wd c hu.2 hv.2⟩
    fd := fun _ => hfd _, ge := fun _ => hgd _, kd := fun _ => hkd _
    fg := fun v hv => ?_, gk := hgk, kf := fun v hv => ?_
    dz := ⟨Lin.zv_md hp0, Lin.zv_wd _⟩, ez := ⟨Lin.zv_md hp0, Lin.zv_wd _⟩
    rR := a1, rB := a3, rC := a8
    sR := fun v => (a2 v).trans (sp_pre hp hc.li hc.mi), sB := hB, sC := fun v => ?_
    len := a10.len, src := fun q h h' => ?_ }
  · rw [← sp_pre hp hc.li hc.mi, hx.1 v, cyc_dimg (m := en) hc.lj hc.2.2.2.2.1.2]
    exact ⟨fun h => ⟨hv.1, hv.2, h⟩, fun h => h.2.2⟩
  · rw [← sp_pre hp hc.lk hc.mk', hx.2.2 v, cyc_dimg (m := dn) hc.li hc.2.2.2.1.2]
    exact ⟨fun h => ⟨hv.1, hv.2, h⟩, fun h => h.2.2⟩
  · rw [a9 v, rests_sp hp a3 a6 a7 v]
    refine and_congr_left fun _ => ?_
    constructor
    · intro h
      obtain ⟨t, b, h1, h2, rfl⟩ := sp_parts hp0 h
      have ht := (cyc_dimg (m := en) hc.ld hc.rd).1 ((a5.2.2 t).1 h1)
      obtain ⟨e, he, rfl⟩ := (hB b).1 h2
      have hkb : dimg p en kl (dimg p dn jl (dimg p en kl e)) = Lin.zv := (hgk _ (hgd _)).2 ⟨_, hkd e, rfl⟩
      refine ⟨⟨Lin.add_md hp0 _ _ _, Lin.add_wd 1 ht.2.1 (hgd _).2⟩, ?_⟩
      rw [dimg_add, hkb, Lin.add_zv (hkd t).1, ← cd_comp hc, ht.2.2]
    · rintro ⟨h1, h2⟩
      refine Lin.Sp.mono (fun w hw => List.mem_append_left _ hw) ((a5.2.2 v).2 ((cyc_dimg (m := en) hc.ld hc.rd).2 ⟨h1.1, h1.2, ?_⟩))
      rw [cd_comp hc, h2]
  · obtain ⟨s, s1, s2, s3, s4⟩ := a10.at' q h h'
    exact ⟨s, ⟨s1, s2⟩, s3, s4⟩
theorem leadRow_row (W : List Lin.V) {v : Lin.V} (hv : Lin.Md p v) : RowOk p (W.length : Int) (leadRow W v) := by
  refine ⟨by simp [leadRow], fun x hx => ?_⟩
  obtain ⟨w, _, rfl⟩ := List.mem_map.1 hx
  have := hv (Lin.ld w)
  omega
theorem dcI_ofL (p : Int) (n : Nat) (t : List (List Int)) (W R : List Lin.V) : (dcI p n t W R).map ofL = W.map fun v => Lin.crd R (dimg p n t v) := by
  unfold dcI
  rw [List.map_map]
  exact List.map_congr_left fun v _ => ofL_leadRow R _
theorem DcIs.ok (hc : IsCp p dn en il jl kl) (hx : ExOk p dn en il jl kl) {d1 e1 : Nat} {i1 j1 k1 : List (List Int)} (h : DcIs p dn en il jl kl d1 e1 i1 j1 k1) : IsCp p d1 e1 i1 j1 k1 ∧ ExOk p d1 e1 i1 j1 k1 ∧ d1 ≤ dn ∧ e1 ≤ en := by
  have hp : 1 < p := by have := hc.1.lo; omega
  have hp0 : 0 < p := by omega
  obtain ⟨R, B, Y, C, tt, rs, a1, a2, a3, a4, a5, a6, a7, a8, a9, a10, rfl, rfl, rfl, rfl, rfl⟩ := h.of
  have hd := drv_of hc hx a1 a2 a3 a4 a5 a6 a7 a8 a9 a10
  have hRw : ∀ u ∈ R, Lin.Wd dn u := fun u hu => (hd.dR (Lin.Sp.mem hu (a1.md u hu))).2
  have hCw : ∀ u ∈ C, Lin.Wd en u := fun u hu => ((hd.sC u).1 (Lin.Sp.mem hu (a8.md u hu))).1.1.2
  have hRl : R.length ≤ dn := SpF.short (p := p) (n := dn) (S := Lin.Sp p R) ⟨a1, hRw, fun _ => Iff.rfl⟩
  have hCl : C.length ≤ en := SpF.short (p := p) (n := en) (S := Lin.Sp p C) ⟨a8, hCw, fun _ => Iff.rfl⟩
  have hrs : ∀ u ∈ rs, Lin.Md p u := fun u hu => by
    obtain ⟨q, hq, rfl⟩ := List.getElem_of_mem hu
    obtain ⟨s, _, _, _, s4⟩ := a10.at' q (by rw [← a10.len]; exact hq) hq
    exact s4.rest.md
  have h24 := hc.d24
  have hti : TabOk p R.length R.length (dcI p dn il R R) := ⟨by simp [dcI], fun r hr => by
    obtain ⟨v, _, rfl⟩ := List.mem_map.1 hr
    exact leadRow_row R (dimg_md hp0 _ _ _)⟩
  have htj : TabOk p R.length C.length (rs.map (leadRow C)) := ⟨by simp [a10.len], fun r hr => by
    obtain ⟨v, hv, rfl⟩ := List.mem_map.1 hr
    exact leadRow_row C (hrs v hv)⟩
  have htk : TabOk p C.length R.length (dcI p en kl C R) := ⟨by simp [dcI], fun r hr => by
    obtain ⟨v, _, rfl⟩ := List.mem_map.1 hr
    exact leadRow_row R (dimg_md hp0 _ _ _)⟩
  have ei : (dcI p dn il R R).map ofL = R.map fun v => Lin.crd R (dimg p dn il v) := dcI_ofL _ _ _ _ _
  have ek : (dcI p en kl C R).map ofL = C.map fun v => Lin.crd R (dimg p en kl v) := dcI_ofL _ _ _ _ _
  have ej : (rs.map (leadRow C)).map ofL = rs.map (Lin.crd C) := by
    rw [List.map_map]
    exact List.map_congr_left fun v _ => ofL_leadRow C _
  refine ⟨⟨hc.1, by omega, by omega, hti, htj, htk⟩, ⟨fun v => ?_, fun v => ?_, fun v => ?_⟩, hRl, hCl⟩
  · rw [ei, hd.ex1 v, cyc_dimg (m := C.length) (by have := htj.1; omega) htj.2]
    show _ ↔ _ ∧ _ ∧ img p R.length (rowsV ((rs.map (leadRow C)).map ofL)) v = _
    rw [ej]
  · rw [ej, hd.ex2 v, cyc_dimg (m := R.length) (by have := htk.1; omega) htk.2]
    show _ ↔ _ ∧ _ ∧ img p C.length (rowsV ((dcI p en kl C R).map ofL)) v = _
    rw [ek]
  · rw [ek, hd.ex3 (fun v hv => restE_ex hp0 a3 hv B.length (Nat.le_refl _)) v, cyc_dimg (m := R.length) (by have := hti.1; omega) hti.2]
    show _ ↔ _ ∧ _ ∧ img p R.length (rowsV ((dcI p dn il R R).map ofL)) v = _
    rw [ei]
end
end Go.Proofs.YtaojiojldljhlaaDoor


namespace Go.Proofs.YtaojiojldljhlaaDoor
open Go.RowKit

theorem hidxVo (b o : Nat) {k n : Nat} (cap : Nat) (hk : k < n) (w : World) : (Instr.indexAt 76 (.slice (some ⟨b, o, none⟩) n cap) (.int .i64 k)).run Tryd.prog w = .ok (.pointer (some ⟨b, o + k * 40, none⟩)) w := by
  have h2 : (0 : Int) ≤ (k : Int) := by omega
  have h3 : (k : Int) < (n : Int) := by omega
  go_simp
theorem hneq_run (u v : Lin.V) (w : World) : (binOp .neq 82 (.agg (vl u).toArray) (.agg (vl v).toArray)).run Tryd.prog w = .ok (.bool (!decide (toL 40 u = toL 40 v))) w :=
  run_neq_ints w (toL 40 u) (toL 40 v) Tryd.underlyingV Tryd.underlying2 Tryd.infoI1 (toL_length _ _) (toL_length _ _)
theorem hneq_yes {u v : Lin.V} (h : u = v) (w : World) : (binOp .neq 82 (.agg (vl u).toArray) (.agg (vl v).toArray)).run Tryd.prog w = .ok (.bool false) w := by
  subst h
  rw [hneq_run, decide_eq_true rfl]
  rfl
theorem hneq_no {u v : Lin.V} (hu : Lin.Wd 40 u) (hv : Lin.Wd 40 v) (h : ¬ u = v) (w : World) : (binOp .neq 82 (.agg (vl u).toArray) (.agg (vl v).toArray)).run Tryd.prog w = .ok (.bool true) w := by
  rw [hneq_run, decide_eq_false (fun e => h (by rw [← ofL_toL hu, ← ofL_toL hv, e]))]
  rfl

set_option maxHeartbeats 3200000 in
set_option maxRecDepth 100000 in
theorem equalV_any (sa sb : Value) (A B : List Lin.V) (w : World) (hA : Vs 0 w sa A) (hB : Vs 0 w sb B) (wA : ∀ u ∈ A, Lin.Wd 40 u) (wB : ∀ u ∈ B, Lin.Wd 40 u) (hl : A.length ≤ 1048576) :
    Calls Tryd.prog 66 #[sa, sb] w (BB (A = B) w) := by
  obtain ⟨aa, ca, rfl⟩ := Vs.shape hA
  obtain ⟨ab, cb, rfl⟩ := Vs.shape hB
  have HA := Lib.hid hA
  have HB0 := Lib.hid hB
  have HWA := Lib.hid wA
  have HWB := Lib.hid wB
  obtain ⟨n, hn⟩ : ∃ n, n = A.length := ⟨_, rfl⟩
  obtain ⟨m, hm⟩ : ∃ m, m = B.length := ⟨_, rfl⟩
  rw [← hn] at hl ⊢
  rw [← hm]
  have HN := Lib.hid hn
  have HM := Lib.hid hm
  clear hA hB wA wB hn hm
  go_enter Tryd.func66, Tryd.ntmps66
  by_cases hnm : n = m
  · subst hnm
    have hq : ((n : Int) != (n : Int)) = false := by simp
    go_wp2
    go_loopw [5, 13] (fun _ i wr => ∃ k : Nat, k ≤ n ∧ i = .int .i64 k ∧ Hid (Below w.heap.size w wr) ∧ Hid (A.take k = B.take k)) (fun _ i _ => n - (intOf i).toNat)
    case atStart => exact ⟨0, Nat.zero_le _, rfl, Lib.hid (Below.refl _ _), Lib.hid rfl⟩
    case round =>
      obtain ⟨k, hk, rfl, HB, HE⟩ := hrel
      obtain ⟨wx, hwx⟩ : ∃ wx : World, wx = wr := ⟨_, rfl⟩
      subst hwx
      by_cases hlt : k < n
      · have hlA : k < A.length := by rw [← HN.out]; exact hlt
        have hlB : k < B.length := by rw [← HM.out]; exact hlt
        refine Vs.cases (HA.out.below HB.out) (fun _ _ hx _ => absurd hlA (by simp [hx])) (fun b o cap hv _ _ hc => ?_)
        refine Vs.cases (HB0.out.below HB.out) (fun _ _ hx _ => absurd hlB (by simp [hx])) (fun b2 o2 cap2 hv2 _ _ hc2 => ?_)
        rw [← HN.out] at hv
        rw [← HM.out] at hv2
        obtain ⟨rfl, rfl⟩ : aa = some ⟨b, o, none⟩ ∧ ca = cap := by simpa using hv
        obtain ⟨rfl, rfl⟩ : ab = some ⟨b2, o2, none⟩ ∧ cb = cap2 := by simpa using hv2
        obtain ⟨u, hu⟩ : ∃ u, u = A[k] := ⟨_, rfl⟩
        obtain ⟨v, hv9⟩ : ∃ v, v = B[k] := ⟨_, rfl⟩
        have HVA : Hid (∀ W, Below wx.heap.size wx W → At W b (o + k * 40) u) := Lib.hid (fun W hb => by have h0 := hc k hlA; rw [← hu] at h0; exact h0.below hb h0.lt)
        have HVB : Hid (∀ W, Below wx.heap.size wx W → At W b2 (o2 + k * 40) v) := Lib.hid (fun W hb => by have h0 := hc2 k hlB; rw [← hv9] at h0; exact h0.below hb h0.lt)
        have HUW : Hid (Lin.Wd 40 u) := Lib.hid (by rw [hu]; exact HWA.out _ (List.getElem_mem hlA))
        have HVW : Hid (Lin.Wd 40 v) := Lib.hid (by rw [hv9]; exact HWB.out _ (List.getElem_mem hlB))
        have HU := Lib.hid hu
        have HV := Lib.hid hv9
        clear hv hv2 hc hc2 hu hv9
        have hlk : (k : Int) < (n : Int) := by omega
        by_cases he : u = v
        · have huv := Lib.hid he
          clear he
          go_upto_region 6 with fail
          refine wp_region_held (S := fun W => Below wx.heap.size wx W) (by kernel_rfl) ?_
          have S0 : Below wx.heap.size wx wx.drew := (Below.refl _ _).drew
          change wpAnyH _ _ _ _ _ _ _ _ wx.drew
          refine held_take (i := 0) (v := .slice (some ⟨b, o, none⟩) n ca) (some 16) rfl rfl (by kernel_rfl) (by kernel_rfl) (by kernel_rfl) (fun _ _ _ h => h) (yieldsIf_move (by kernel_rfl) rfl (by kernel_rfl)) S0 ?_
          refine held_take (i := 1) (v := .int .i64 (k : Int)) (some 17) rfl rfl (by kernel_rfl) (by kernel_rfl) (by kernel_rfl) (fun _ _ _ h => h) (yieldsIf_move (by kernel_rfl) rfl (by kernel_rfl)) S0 ?_
          refine held_take (i := 2) (v := .pointer (some ⟨b, o + k * 40, none⟩)) (some 18) rfl rfl (by kernel_rfl) (by kernel_rfl) (by kernel_rfl) (fun _ _ _ h => h) (yieldsIf_index (by kernel_rfl) rfl (by kernel_rfl) (by kernel_rfl) (hidxVo b o ca hlt)) S0 ?_
          refine held_take (i := 3) (v := .agg (vl u).toArray) (some 19) rfl rfl (by kernel_rfl) (by kernel_rfl) (by kernel_rfl) (fun _ _ _ h => h) (yieldsIf_load_mid (by kernel_rfl) 82 (.tmp 18) (by kernel_rfl) b (o + k * 40) (by kernel_rfl) (vl u) _ (fun W h => (HVA.out W h).range) Tryd.underlyingV rfl (Tryd.infoVl u)) S0 ?_
          refine held_take (i := 4) (v := .slice (some ⟨b2, o2, none⟩) n cb) (some 20) rfl rfl (by kernel_rfl) (by kernel_rfl) (by kernel_rfl) (fun _ _ _ h => h) (yieldsIf_move (by kernel_rfl) rfl (by kernel_rfl)) S0 ?_
          refine held_take (i := 5) (v := .int .i64 (k : Int)) (some 21) rfl rfl (by kernel_rfl) (by kernel_rfl) (by kernel_rfl) (fun _ _ _ h => h) (yieldsIf_move (by kernel_rfl) rfl (by kernel_rfl)) S0 ?_
          refine held_take (i := 6) (v := .pointer (some ⟨b2, o2 + k * 40, none⟩)) (some 22) rfl rfl (by kernel_rfl) (by kernel_rfl) (by kernel_rfl) (fun _ _ _ h => h) (yieldsIf_index (by kernel_rfl) rfl (by kernel_rfl) (by kernel_rfl) (hidxVo b2 o2 cb hlt)) S0 ?_
          refine held_take (i := 7) (v := .agg (vl v).toArray) (some 23) rfl rfl (by kernel_rfl) (by kernel_rfl) (by kernel_rfl) (fun _ _ _ h => h) (yieldsIf_load_mid (by kernel_rfl) 82 (.tmp 22) (by kernel_rfl) b2 (o2 + k * 40) (by kernel_rfl) (vl v) _ (fun W h => (HVB.out W h).range) Tryd.underlyingV rfl (Tryd.infoVl v)) S0 ?_
          refine held_take (i := 8) (v := .bool false) (some 24) rfl rfl (by kernel_rfl) (by kernel_rfl) (by kernel_rfl) (fun _ _ _ h => h) (yieldsIf_bin (by kernel_rfl) rfl (by kernel_rfl) (by kernel_rfl) (fun _ => rfl) (hneq_yes huv.out)) S0 ?_
          refine wpAnyH_done (by kernel_rfl) ?_ _
          simp only [Act.put, List.setIfInBounds_toArray, List.set_cons_zero, List.set_cons_succ]
          have HBD := Lib.hid (HB.out.trans (S0.mono HB.out.size))
          clear S0
          go_wp2
          go_roundw
          case rel => exact ⟨k + 1, by omega, by go_num, HBD, Lib.hid (by rw [List.take_succ_eq_append_getElem hlA, List.take_succ_eq_append_getElem hlB, HE.out, ← HU.out, ← HV.out, huv.out])⟩
          case measure => simp [intOf]; omega
        · have huv := Lib.hid he
          clear he
          go_upto_region 6 with fail
          refine wp_region_held (S := fun W => Below wx.heap.size wx W) (by kernel_rfl) ?_
          have S0 : Below wx.heap.size wx wx.drew := (Below.refl _ _).drew
          change wpAnyH _ _ _ _ _ _ _ _ wx.drew
          refine held_take (i := 0) (v := .slice (some ⟨b, o, none⟩) n ca) (some 16) rfl rfl (by kernel_rfl) (by kernel_rfl) (by kernel_rfl) (fun _ _ _ h => h) (yieldsIf_move (by kernel_rfl) rfl (by kernel_rfl)) S0 ?_
          refine held_take (i := 1) (v := .int .i64 (k : Int)) (some 17) rfl rfl (by kernel_rfl) (by kernel_rfl) (by kernel_rfl) (fun _ _ _ h => h) (yieldsIf_move (by kernel_rfl) rfl (by kernel_rfl)) S0 ?_
          refine held_take (i := 2) (v := .pointer (some ⟨b, o + k * 40, none⟩)) (some 18) rfl rfl (by kernel_rfl) (by kernel_rfl) (by kernel_rfl) (fun _ _ _ h => h) (yieldsIf_index (by kernel_rfl) rfl (by kernel_rfl) (by kernel_rfl) (hidxVo b o ca hlt)) S0 ?_
          refine held_take (i := 3) (v := .agg (vl u).toArray) (some 19) rfl rfl (by kernel_rfl) (by kernel_rfl) (by kernel_rfl) (fun _ _ _ h => h) (yieldsIf_load_mid (by kernel_rfl) 82 (.tmp 18) (by kernel_rfl) b (o + k * 40) (by kernel_rfl) (vl u) _ (fun W h => (HVA.out W h).range) Tryd.underlyingV rfl (Tryd.infoVl u)) S0 ?_
          refine held_take (i := 4) (v := .slice (some ⟨b2, o2, none⟩) n cb) (some 20) rfl rfl (by kernel_rfl) (by kernel_rfl) (by kernel_rfl) (fun _ _ _ h => h) (yieldsIf_move (by kernel_rfl) rfl (by kernel_rfl)) S0 ?_
          refine held_take (i := 5) (v := .int .i64 (k : Int)) (some 21) rfl rfl (by kernel_rfl) (by kernel_rfl) (by kernel_rfl) (fun _ _ _ h => h) (yieldsIf_move (by kernel_rfl) rfl (by kernel_rfl)) S0 ?_
          refine held_take (i := 6) (v := .pointer (some ⟨b2, o2 + k * 40, none⟩)) (some 22) rfl rfl (by kernel_rfl) (by kernel_rfl) (by kernel_rfl) (fun _ _ _ h => h) (yieldsIf_index (by kernel_rfl) rfl (by kernel_rfl) (by kernel_rfl) (hidxVo b2 o2 cb hlt)) S0 ?_
          refine held_take (i := 7) (v := .agg (vl v).toArray) (some 23) rfl rfl (by kernel_rfl) (by kernel_rfl) (by kernel_rfl) (fun _ _ _ h => h) (yieldsIf_load_mid (by kernel_rfl) 82 (.tmp 22) (by kernel_rfl) b2 (o2 + k * 40) (by kernel_rfl) (vl v) _ (fun W h => (HVB.out W h).range) Tryd.underlyingV rfl (Tryd.infoVl v)) S0 ?_
          refine held_take (i := 8) (v := .bool true) (some 24) rfl rfl (by kernel_rfl) (by kernel_rfl) (by kernel_rfl) (fun _ _ _ h => h) (yieldsIf_bin (by kernel_rfl) rfl (by kernel_rfl) (by kernel_rfl) (fun _ => rfl) (hneq_no HUW.out HVW.out huv.out)) S0 ?_
          refine wpAnyH_done (by kernel_rfl) ?_ _
          simp only [Act.put, List.setIfInBounds_toArray, List.set_cons_zero, List.set_cons_succ]
          have HBD := Lib.hid (HB.out.trans (S0.mono HB.out.size))
          clear S0
          go_wp2
          go_ret
          exact bb_false HBD.out (fun e => huv.out (by rw [HU.out, HV.out]; subst e; rfl))
      · have hlk : ¬ (k : Int) < (n : Int) := by omega
        have HK : Hid (k = n) := Lib.hid (by omega)
        go_wp2
        go_ret
        exact ⟨true, rfl, HB.out, fun _ => by have h0 := HE.out; rwa [List.take_of_length_le (by rw [← HN.out, HK.out]; exact Nat.le_refl _), List.take_of_length_le (by rw [← HM.out, HK.out]; exact Nat.le_refl _)] at h0, fun _ => rfl⟩
  · have hq : ((n : Int) != (m : Int)) = true := by simp; omega
    have HNE := Lib.hid hnm
    clear hnm
    go_wp2
    go_ret
    exact bb_false (Below.refl _ _) (fun e => HNE.out (by rw [HN.out, HM.out, e]))
end Go.Proofs.YtaojiojldljhlaaDoor


namespace Go.Proofs.YtaojiojldljhlaaDoor
open Go.RowKit

set_option maxRecDepth 100000 in
theorem mapsOfCouples_any (w : World) : Calls Tryd.prog 49 #[] w (BR (.agg #[.func (.func 41) #[] #[], .func (.func 63) #[] #[], .func (.func 64) #[] #[]]) w) := by
  have hres : Tryd.f49.results = #[.cell 0 63] := by kernel_rfl
  have HRES := Lib.hid hres
  have HH : Hid ((w.alloc (.cells #[.nilFunc, .nilFunc, .nilFunc] 63)).heap[w.heap.size]? = some (.cells #[.nilFunc, .nilFunc, .nilFunc] 63 (0, 0))) := Lib.hid (by simpa using heap_alloc_new w (.cells #[.nilFunc, .nilFunc, .nilFunc] 63))
  have HB : Hid (Below w.heap.size w (w.alloc (.cells #[.nilFunc, .nilFunc, .nilFunc] 63))) := Lib.hid (below_alloc1 _ _)
  clear hres
  go_enter Tryd.func49, Tryd.ntmps49
  go_wp2
  refine bodyPost_ret (v := .agg #[.func (.func 41) #[] #[], .func (.func 63) #[] #[], .func (.func 64) #[] #[]]) ?_ rfl ?_
  · simp only [results, HRES.out]
    go_simp
  · exact ⟨rfl, below_alloc1 _ _⟩


set_option maxHeartbeats 400000 in
theorem mapI_any (p d e : Int) (iv jv kv : Value) (il jl kl : List (List Int)) (w : World) (h : Cp 0 w iv jv kv il jl kl) : Calls Tryd.prog 41 #[.agg #[.int .i64 p, .int .i64 d, .int .i64 e, iv, jv, kv]] w (BR (.agg #[.int .i64 p, .int .i64 d, .int .i64 d, iv]) w) := by
  have hres : Tryd.f41.results = #[.cell 2 55] := by kernel_rfl
  have HRES := Lib.hid hres
  obtain ⟨⟨ai, ci, rfl⟩, ⟨aj, cj, rfl⟩, ⟨ak, ck, rfl⟩⟩ := h.shapes
  clear hres h
  go_enter Tryd.func41, Tryd.ntmps41
  go_wp2
  refine bodyPost_ret (v := .agg #[.int .i64 p, .int .i64 d, .int .i64 d, .slice ai il.length ci]) ?_ rfl ?_
  · simp only [results, HRES.out]
    go_simp
  · exact ⟨rfl, (((Below.refl _ _).alloc (Nat.le_refl _) _).alloc (by simp) _)⟩


set_option maxHeartbeats 400000 in
theorem mapJ_any (p d e : Int) (iv jv kv : Value) (il jl kl : List (List Int)) (w : World) (h : Cp 0 w iv jv kv il jl kl) : Calls Tryd.prog 63 #[.agg #[.int .i64 p, .int .i64 d, .int .i64 e, iv, jv, kv]] w (BR (.agg #[.int .i64 p, .int .i64 d, .int .i64 e, jv]) w) := by
  have hres : Tryd.f63.results = #[.cell 2 55] := by kernel_rfl
  have HRES := Lib.hid hres
  obtain ⟨⟨ai, ci, rfl⟩, ⟨aj, cj, rfl⟩, ⟨ak, ck, rfl⟩⟩ := h.shapes
  clear hres h
  go_enter Tryd.func63, Tryd.ntmps63
  go_wp2
  refine bodyPost_ret (v := .agg #[.int .i64 p, .int .i64 d, .int .i64 e, .slice aj jl.length cj]) ?_ rfl ?_
  · simp only [results, HRES.out]
    go_simp
  · exact ⟨rfl, (((Below.refl _ _).alloc (Nat.le_refl _) _).alloc (by simp) _)⟩


set_option maxHeartbeats 400000 in
theorem mapK_any (p d e : Int) (iv jv kv : Value) (il jl kl : List (List Int)) (w : World) (h : Cp 0 w iv jv kv il jl kl) : Calls Tryd.prog 64 #[.agg #[.int .i64 p, .int .i64 d, .int .i64 e, iv, jv, kv]] w (BR (.agg #[.int .i64 p, .int .i64 e, .int .i64 d, kv]) w) := by
  have hres : Tryd.f64.results = #[.cell 2 55] := by kernel_rfl
  have HRES := Lib.hid hres
  obtain ⟨⟨ai, ci, rfl⟩, ⟨aj, cj, rfl⟩, ⟨ak, ck, rfl⟩⟩ := h.shapes
  clear hres h
  go_enter Tryd.func64, Tryd.ntmps64
  go_wp2
  refine bodyPost_ret (v := .agg #[.int .i64 p, .int .i64 e, .int .i64 d, .slice ak kl.length ck]) ?_ rfl ?_
  · simp only [results, HRES.out]
    go_simp
  · exact ⟨rfl, (((Below.refl _ _).alloc (Nat.le_refl _) _).alloc (by simp) _)⟩


theorem idxM0 (W : World) : (Instr.index 63 (.agg #[.func (.func 41) #[] #[], .func (.func 63) #[] #[], .func (.func 64) #[] #[]]) (.int .i64 0)).run Tryd.prog W = .ok (.func (.func 41) #[] #[]) W := by kernel_rfl
theorem idxM1 (W : World) : (Instr.index 63 (.agg #[.func (.func 41) #[] #[], .func (.func 63) #[] #[], .func (.func 64) #[] #[]]) (.int .i64 1)).run Tryd.prog W = .ok (.func (.func 63) #[] #[]) W := by kernel_rfl
theorem idxM2 (W : World) : (Instr.index 63 (.agg #[.func (.func 41) #[] #[], .func (.func 63) #[] #[], .func (.func 64) #[] #[]]) (.int .i64 2)).run Tryd.prog W = .ok (.func (.func 64) #[] #[]) W := by kernel_rfl
set_option maxHeartbeats 6400000 in
set_option maxRecDepth 100000 in
theorem isCouple_any (p d e : Int) (iv jv kv : Value) (il jl kl : List (List Int)) (w : World) (h : Cp 0 w iv jv kv il jl kl) (hm : CpB 1048576 il jl kl) :
    Calls Tryd.prog 27 #[.agg #[.int .i64 p, .int .i64 d, .int .i64 e, iv, jv, kv]] w (VrB (fun b => b = true ↔ IsCp p d e il jl kl) w) := by
  have HM := Lib.hid hm
  obtain ⟨w1, hw1⟩ : ∃ w1, w1 = w.alloc (.cells #[.int .i64 p, .int .i64 d, .int .i64 e, iv, jv, kv] 28) := ⟨_, rfl⟩
  have hs1 : w1.heap.size = w.heap.size + 1 := by rw [hw1]; simp
  have HX : Hid (BxCp w w1 w.heap.size p d e iv jv kv il jl kl) := Lib.hid (by rw [hw1]; exact BxCp.start 28 h)
  clear h hm
  obtain ⟨⟨ai, ci, rfl⟩, ⟨aj, cj, rfl⟩, ⟨ak, ck, rfl⟩⟩ := HX.out.cx.shapes
  have hq0 := idxM0
  have hq1 := idxM1
  have hq2 := idxM2
  have c0 := HX.out.c0
  have c1 := HX.out.c1
  have c2 := HX.out.c2
  have c3 := HX.out.c3
  have c4 := HX.out.c4
  have c5 := HX.out.c5
  go_enter Tryd.func27, Tryd.ntmps27
  go_upto_region 1 with fail
  rw [← hw1]
  clear hw1
  by_cases hp : IsP p
  · have HP := Lib.hid hp
    clear hp
    go_wp2_with fail
    refine (prime_yes HP.out _).mono ?_
    rintro ee w' ⟨rfl, rfl⟩
    by_cases hd : 0 ≤ d ∧ d ≤ 24
    · have HD := Lib.hid hd
      clear hd
      go_wp2_with fail
      refine (in_yes HD.out _).mono ?_
      rintro ee w' ⟨rfl, rfl⟩
      by_cases he : 0 ≤ e ∧ e ≤ 24
      · have HE := Lib.hid he
        clear he
        go_wp2_with fail
        refine (in_yes HE.out _).mono ?_
        rintro ee w' ⟨rfl, rfl⟩
        go_wp2_with fail
        refine (mapsOfCouples_any _).mono ?_
        rintro ee w2 ⟨rfl, hb⟩
        have HX2 := Lib.hid (HX.out.next hb)
        clear hb c0 c1 c2 c3 c4 c5
        have c0 := HX2.out.c0
        have c1 := HX2.out.c1
        have c2 := HX2.out.c2
        have c3 := HX2.out.c3
        have c4 := HX2.out.c4
        have c5 := HX2.out.c5
        go_wp2
        refine wp_loop_rounds 4 ?_
        rw [rounds_succ]
        go_wp2_with fail
        refine (mapI_any p d e _ _ _ il jl kl _ HX2.out.cx).mono ?_
        rintro ee w3 ⟨rfl, hb⟩
        have HY := Lib.hid (HX2.out.next hb)
        have HZ := Lib.hid (HY.out.next (below_alloc1 w3 (.cells #[.int .i64 p, .int .i64 d, .int .i64 d, .slice ai il.length ci] 55)))
        clear hb c0 c1 c2 c3 c4 c5
        go_wp2_with fail
        refine (isTable_any p d d (.slice ai il.length ci) il _ HP.out HZ.out.cx.fi HM.out.bi).mono ?_
        rintro ee w' ⟨b0, rfl, rfl, hbb⟩
        by_cases ht : TabOk p d d il
        · obtain rfl : b0 = true := hbb.2 ht
          have HT0 := Lib.hid ht
          have HX3 := HZ
          clear hbb ht HY HZ HX2
          have c0 := HX3.out.c0
          have c1 := HX3.out.c1
          have c2 := HX3.out.c2
          have c3 := HX3.out.c3
          have c4 := HX3.out.c4
          have c5 := HX3.out.c5
          go_wp2
          rw [rounds_succ]
          go_wp2_with fail
          refine (mapJ_any p d e _ _ _ il jl kl _ HX3.out.cx).mono ?_
          rintro ee w4 ⟨rfl, hb⟩
          have HY := Lib.hid (HX3.out.next hb)
          have HZ := Lib.hid (HY.out.next (below_alloc1 w4 (.cells #[.int .i64 p, .int .i64 d, .int .i64 e, .slice aj jl.length cj] 55)))
          clear hb c0 c1 c2 c3 c4 c5
          go_wp2_with fail
          refine (isTable_any p d e (.slice aj jl.length cj) jl _ HP.out HZ.out.cx.fj HM.out.bj).mono ?_
          rintro ee w' ⟨b1, rfl, rfl, hbb⟩
          by_cases ht : TabOk p d e jl
          · obtain rfl : b1 = true := hbb.2 ht
            have HT1 := Lib.hid ht
            have HX4 := HZ
            clear hbb ht HY HZ HX3
            have c0 := HX4.out.c0
            have c1 := HX4.out.c1
            have c2 := HX4.out.c2
            have c3 := HX4.out.c3
            have c4 := HX4.out.c4
            have c5 := HX4.out.c5
            go_wp2
            rw [rounds_succ]
            go_wp2_with fail
            refine (mapK_any p d e _ _ _ il jl kl _ HX4.out.cx).mono ?_
            rintro ee w5 ⟨rfl, hb⟩
            have HY := Lib.hid (HX4.out.next hb)
            have HZ := Lib.hid (HY.out.next (below_alloc1 w5 (.cells #[.int .i64 p, .int .i64 e, .int .i64 d, .slice ak kl.length ck] 55)))
            clear hb c0 c1 c2 c3 c4 c5
            go_wp2_with fail
            refine (isTable_any p e d (.slice ak kl.length ck) kl _ HP.out HZ.out.cx.fk HM.out.bk).mono ?_
            rintro ee w' ⟨b2, rfl, rfl, hbb⟩
            by_cases ht : TabOk p e d kl
            · obtain rfl : b2 = true := hbb.2 ht
              have HT2 := Lib.hid ht
              have HX5 := HZ
              clear hbb ht HY HZ HX4
              have c0 := HX5.out.c0
              have c1 := HX5.out.c1
              have c2 := HX5.out.c2
              have c3 := HX5.out.c3
              have c4 := HX5.out.c4
              have c5 := HX5.out.c5
              go_wp2
              rw [rounds_succ]
              go_wp2
              go_ret
              exact ⟨true, rfl, HX5.out.below, yes_iff ⟨HP.out, HD.out, HE.out, HT0.out, HT1.out, HT2.out⟩⟩
            · obtain rfl : b2 = false := bb_no hbb ht
              have HT := Lib.hid ht
              clear hbb ht
              go_wp2
              go_ret
              exact ⟨false, rfl, HZ.out.below, no_iff fun h => HT.out h.2.2.2.2.2⟩
          · obtain rfl : b1 = false := bb_no hbb ht
            have HT := Lib.hid ht
            clear hbb ht
            go_wp2
            go_ret
            exact ⟨false, rfl, HZ.out.below, no_iff fun h => HT.out h.2.2.2.2.1⟩
        · obtain rfl : b0 = false := bb_no hbb ht
          have HT := Lib.hid ht
          clear hbb ht
          go_wp2
          go_ret
          exact ⟨false, rfl, HZ.out.below, no_iff fun h => HT.out h.2.2.2.1⟩
      · have HE := Lib.hid he
        clear he
        go_wp2_with fail
        refine (in_no HE.out _).mono ?_
        rintro ee w' ⟨rfl, rfl⟩
        go_wp2
        go_ret
        exact ⟨false, rfl, HX.out.below, no_iff fun h => HE.out h.2.2.1⟩
    · have HD := Lib.hid hd
      clear hd
      go_wp2_with fail
      refine (in_no HD.out _).mono ?_
      rintro ee w' ⟨rfl, rfl⟩
      go_wp2
      go_ret
      exact ⟨false, rfl, HX.out.below, no_iff fun h => HD.out h.2.1⟩
  · have HP := Lib.hid hp
    clear hp
    go_wp2_with fail
    refine (prime_no HP.out _).mono ?_
    rintro ee w' ⟨rfl, rfl⟩
    go_wp2
    go_ret
    exact ⟨false, rfl, HX.out.below, no_iff fun h => HP.out h.1⟩

end Go.Proofs.YtaojiojldljhlaaDoor


namespace Go.Proofs.YtaojiojldljhlaaDoor
open Go.RowKit

theorem Gb.put {base g n cap : Nat} {w : World} {xs : List Int} (h : Gb base w (.slice (some ⟨g, 0, none⟩) n cap) xs) {k : Nat} (_hk : k < xs.length) (x : Int) :
    Gb base (w.setCell ⟨g, k, none⟩ (.int .i64 x)) (.slice (some ⟨g, 0, none⟩) n cap) (xs.set k x) ∧ w.frozen? ⟨g, k, none⟩ = false ∧ base ≤ g := by
  obtain ⟨hl, h2⟩ := h
  rcases h2 with ⟨h0, _⟩ | ⟨g', c', cur, hv, hlo, hh, hnc, hcm, hcs, htk⟩
  · cases h0
  · injection hv with e1 e2 e3
    injection e1 with e1
    injection e1 with e1
    subst e1 e2 e3
    refine ⟨⟨by simp, Or.inr ⟨g, cap, cur.setIfInBounds k (.int .i64 x), by simp, hlo, block_setCell' hh _, by simpa using hnc, hcm, by simpa using hcs, ?_⟩⟩, by simp [World.frozen?, hh], hlo⟩
    simp only [List.length_set, Nat.mul_one] at htk ⊢
    rw [Array.toList_setIfInBounds, List.take_set, htk, List.map_set]
theorem Gb.cell {base g n cap : Nat} {w : World} {v : Lin.V} (h : Gb base w (.slice (some ⟨g, 0, none⟩) n cap) (toL n v)) {k : Nat} (hk : k < n) : w.cell? ⟨g, k, none⟩ = some (.int .i64 (v k)) := by
  obtain ⟨b, o, c, hv, hc⟩ := l1_toL h.l1 (show 0 < n by omega)
  injection hv with e1 _ _
  injection e1 with e1
  injection e1 with e1 e2
  subst e1 e2
  have := hc k hk
  rwa [Nat.zero_add] at this
theorem Gb.block {base n cap : Nat} {w : World} {xs : List Int} {ad : Option Addr} (h : Gb base w (.slice ad n cap) xs) (hx : 0 < xs.length) : ∃ g, ad = some ⟨g, 0, none⟩ ∧ base ≤ g := by
  obtain ⟨hl, h2⟩ := h
  rcases h2 with ⟨_, h0⟩ | ⟨g', c', cur, hv, hlo, _⟩
  · omega
  · injection hv with e1 _ _
    exact ⟨g', e1, hlo⟩

theorem add_zero {p : Int} {r t : Lin.V} (h : Lin.Md p r) : Lin.add p r (-0) t = r := funext fun i => by
  unfold Lin.add
  rw [Int.neg_zero, Int.zero_mul, Int.add_zero]
  exact Lin.md_mod (h i).1 (h i).2
section
variable {P : Program} {md : Region.Mode} {ops : Array Oper} {n : Nat} {Q : Exit → Act → World → Prop}
end

end Go.Proofs.YtaojiojldljhlaaDoor


namespace Go.Proofs.YtaojiojldljhlaaDoor
open Go.RowKit

/-- The dimension of the space of a table's rows. -/
def RkT (p : Int) (t : List (List Int)) (x : Int) : Prop := ∃ R, Lin.Red p R ∧ Lin.Eqv p R (t.map ofL) ∧ x = (R.length : Int)
theorem RkT.unique {p : Int} (hp : 1 < p) {t : List (List Int)} {x y : Int} (h : RkT p t x) (k : RkT p t y) : x = y := by
  obtain ⟨R, r1, r2, rfl⟩ := h
  obtain ⟨S, s1, s2, rfl⟩ := k
  rw [Lin.Red.unique hp r1 s1 (fun v => (r2 v).trans (s2 v).symm)]
theorem Gb.nil (base : Nat) (w : World) : Gb base w (.slice none 0 0) [] := ⟨rfl, Or.inl ⟨rfl, rfl⟩⟩
set_option maxHeartbeats 1600000 in
set_option maxRecDepth 100000 in
theorem images_any (p a b : Int) (v : Value) (t : List (List Int)) (c : Int) (w : World) (hp : IsP p) (h : L2 0 w v t) (hc : c ≤ 40) (ht : ∀ r ∈ t, RowOk p c r) (hl : t.length ≤ 1048575) :
    Calls Tryd.prog 61 #[.agg #[.int .i64 p, .int .i64 a, .int .i64 b, v]] w (VsR (fun R => RedOf p R (t.map ofL) ∧ R.length ≤ (t.map ofL).length) w) := by
  obtain ⟨av, cv, rfl⟩ := Sl.shape h
  obtain ⟨w1, hw1⟩ : ∃ w1, w1 = w.alloc (.cells #[.int .i64 p, .int .i64 a, .int .i64 b, .slice av t.length cv] 55) := ⟨_, rfl⟩
  have hb1 : Below w.heap.size w w1 := by rw [hw1]; exact below_alloc1 _ _
  have k0 : w1.cell? ⟨w.heap.size, 0, none⟩ = some (.int .i64 p) := by rw [hw1]; simp
  have k3 : w1.cell? ⟨w.heap.size, 3, none⟩ = some (.slice av t.length cv) := by rw [hw1]; simp
  have HC : Hid (∀ W, Below w1.heap.size w1 W → W.cell? ⟨w.heap.size, 0, none⟩ = some (.int .i64 p) ∧ W.cell? ⟨w.heap.size, 3, none⟩ = some (.slice av t.length cv)) := Lib.hid (fun W hb => ⟨later hb (Nat.le_refl _) k0, later hb (Nat.le_refl _) k3⟩)
  have HB1 := Lib.hid hb1
  have HL := Lib.hid (h.below hb1)
  have HR40 : Hid (∀ r ∈ t, r.length ≤ 40) := Lib.hid (fun r hr => by have := (ht r hr).1; omega)
  have HMD : Hid (∀ u ∈ t.map ofL, Lin.Md p u) := Lib.hid (vecs_md (by have := hp.lo; omega) ht)
  have HWD : Hid (∀ u ∈ t.map ofL, Lin.Wd 40 u) := Lib.hid (fun u hu => by
    obtain ⟨r, hr, rfl⟩ := List.mem_map.1 hu
    exact ofL_wd (HR40.out r hr))
  have HD : Hid (Below w1.heap.size w1 w1.drew) := Lib.hid (Below.refl _ _).drew
  have HP := Lib.hid hp
  have HSZ : Hid (w.heap.size ≤ w1.heap.size) := Lib.hid hb1.size
  clear h hb1 k0 k3 ht hp
  go_enter Tryd.func61, Tryd.ntmps61
  go_upto_region 1 with fail
  rw [← hw1]
  clear hw1
  have c0 := (HC.out _ (Below.refl _ _)).1
  have c3 := (HC.out _ (Below.refl _ _)).2
  go_wp2
  go_region_held3 (fun w' => w'.cell? ⟨w.heap.size, 0, none⟩ = some (.int .i64 p) ∧ w'.cell? ⟨w.heap.size, 3, none⟩ = some (.slice av t.length cv))
    (first | exact HC.out _ (Below.refl _ _) | exact HC.out _ HD.out | exact HC.out _ HB4.out | exact HC.out _ HB5.out | go_keep)
    (first
      | (go_at_call 79; (with_reducible refine (vectorsOf_any _ t _ (HL.out.below HD.out) (by omega) HR40.out).mono ?_); rintro ee w4 ⟨s4, M, rfl, hb4, ho4, rfl⟩; have HB4 : Hid (Below w1.heap.size w1 w4) := Lib.hid (HD.out.trans hb4); have HO4 := Lib.hid (ho4.vs.lower (Nat.zero_le _)); clear ho4 hb4)
      | (go_at_call 78; (with_reducible refine (reducedList_any p s4 _ _ HP.out HO4.out HMD.out HWD.out (by rw [List.length_map]; omega)).mono ?_); rintro ee w5 ⟨s5, R, rfl, hb5, ho5, hr5, hl5⟩; have HB5 : Hid (Below w1.heap.size w1 w5) := Lib.hid (HB4.out.trans (hb5.mono HB4.out.size)); have HO5 := Lib.hid (And.intro ho5 (HB4.out.size)); have HR5 := Lib.hid (And.intro hr5 hl5); clear hb5 ho5 hr5 hl5))
  clear c0 c3
  go_wp2
  go_ret
  refine ⟨s5, R, rfl, HB1.out.trans (HB5.out.mono HSZ.out), ⟨HO5.out.1.1, HO5.out.1.2.imp id (fun ⟨g, cap, cur, h1, h2, h3⟩ => ⟨g, cap, cur, h1, Nat.le_trans HSZ.out (Nat.le_trans HO5.out.2 h2), h3⟩)⟩, HR5.out⟩

/-- The ranks of the maps of a couple. -/
def RksOf (p : Int) (il jl kl : List (List Int)) (out : List Int) : Prop := ∃ a b c, out = [a, b, c] ∧ RkT p il a ∧ RkT p jl b ∧ RkT p kl c
theorem RksOf.unique {p : Int} (hp : 1 < p) {il jl kl : List (List Int)} {x y : List Int} (h : RksOf p il jl kl x) (k : RksOf p il jl kl y) : x = y := by
  obtain ⟨a, b, c, rfl, h1, h2, h3⟩ := h
  obtain ⟨a', b', c', rfl, k1, k2, k3⟩ := k
  rw [h1.unique hp k1, h2.unique hp k2, h3.unique hp k3]
theorem RksOf.len {p : Int} {il jl kl : List (List Int)} {x : List Int} (h : RksOf p il jl kl x) : x.length ≤ 1048576 := by
  obtain ⟨a, b, c, rfl, _⟩ := h
  simp


end Go.Proofs.YtaojiojldljhlaaDoor


namespace Go.Proofs.YtaojiojldljhlaaDoor
open Go.RowKit

/-- The list of dimensions, k of them laid. -/
def duD (ds : List Int) (k : Nat) : Nat → Value := fun j => .int .i64 (if j < k then ds.getD (ds.length - 1 - j) 0 else 0)
/-- A table at the block b: its row of rows there, row j at b + 1 + j. -/
structure TabAt (w : World) (b r c : Nat) (Z : Nat → Nat → Int) : Prop where
  top : w.rowIs b 35 r (fun j => .slice (some ⟨b + 1 + j, 0, none⟩) c c)
  rows : ∀ j, j < r → w.rowIs (b + 1 + j) 2 c (fun i => .int .i64 (Z j i))
theorem Mat.at {w w' : World} {r c : Nat} {Z : Nat → Nat → Int} (h : Mat w w' r c Z) : TabAt w' w.heap.size r c Z := ⟨h.top, h.rows⟩
theorem TabAt.below {w w' : World} {b r c : Nat} {Z : Nat → Nat → Int} (h : TabAt w b r c Z) (hb : Below w.heap.size w w') : TabAt w' b r c Z :=
  ⟨h.top.of_block (hb.block _ h.top.lt), fun j hj => (h.rows j hj).of_block (hb.block _ (h.rows j hj).lt)⟩
theorem TabAt.set {w : World} {b r c : Nat} {Z : Nat → Nat → Int} (h : TabAt w b r c Z) {a : Addr} (ha : a.block < b) (v : Value) : TabAt (w.setCell a v) b r c Z :=
  ⟨h.top.setOther (by omega) v, fun j hj => (h.rows j hj).setOther (by omega) v⟩
/-- The tables of the dual, k of them laid, one behind the other. -/
structure Ts (lo : Nat) (w : World) (bs r c : Nat → Nat) (Z : Nat → Nat → Nat → Int) (k : Nat) : Prop where
  at' : ∀ j, j < k → TabAt w (bs j) (r j) (c j) (Z j)
  lo' : ∀ j, j < k → lo ≤ bs j
  hi : ∀ j, j < k → bs j + 1 + r j ≤ w.heap.size
  inc : ∀ i j, i < j → j < k → bs i + 1 + r i ≤ bs j
def duR (ds : List Int) (m : Nat) (j : Nat) : Nat := (ds.getD (m - 1 - j) 0).toNat
def duC (ms : List (List (List Int))) (j : Nat) : Nat := (ms.getD (ms.length - 1 - j) []).length
def duZ (ms : List (List (List Int))) (j a b : Nat) : Int := ((ms.getD (ms.length - 1 - j) []).getD b []).getD a 0
def duM (bs r : Nat → Nat) (k : Nat) : Nat → Value := fun j => if j < k then .slice (some ⟨bs j, 0, none⟩) (r j) (r j) else .slice none 0 0
theorem Ts.step {lo k : Nat} {w w1 : World} {bs r c : Nat → Nat} {Z : Nat → Nat → Nat → Int} (h : Ts lo w bs r c Z k) (hm : Mat w w1 (r k) (c k) (Z k)) (hlo : lo ≤ w.heap.size) {a : Addr} (ha : a.block < lo) (v : Value) :
    Ts lo (w1.setCell a v) (fun j => if j = k then w.heap.size else bs j) r c Z (k + 1) := by
  refine ⟨fun j hj => ?_, fun j hj => ?_, fun j hj => ?_, fun i j hi hj => ?_⟩
  · by_cases e : j = k
    · subst e
      simp only [if_true]
      exact hm.at.set (by omega) v
    · simp only [if_neg e]
      have hj' : j < k := by omega
      have := h.lo' j hj'
      exact ((h.at' j hj').below hm.below).set (by omega) v
  · by_cases e : j = k
    · simp only [if_pos e]; exact hlo
    · simp only [if_neg e]; exact h.lo' j (by omega)
  · by_cases e : j = k
    · subst e
      simp [hm.size]
    · simp only [if_neg e]
      have := h.hi j (by omega)
      have := hm.below.size
      simp
      omega
  · by_cases e : j = k
    · subst e
      rw [if_neg (by omega), if_pos rfl]
      exact h.hi i hi
    · rw [if_neg (by omega), if_neg e]
      exact h.inc i j hi (by omega)
theorem Ts.drew {lo k : Nat} {w : World} {bs r c : Nat → Nat} {Z : Nat → Nat → Nat → Int} (h : Ts lo w bs r c Z k) : Ts lo w.drew bs r c Z k :=
  ⟨fun j hj => ⟨(h.at' j hj).top.drew, fun i hi => ((h.at' j hj).rows i hi).drew⟩, h.lo', h.hi, h.inc⟩
end Go.Proofs.YtaojiojldljhlaaDoor


namespace Go.Proofs.YtaojiojldljhlaaDoor
open Go.RowKit

theorem far {w : World} {b o b2 o2 : Nat} {u v : Value} (h : b ≠ b2) (hc : w.cell? ⟨b2, o2, none⟩ = some u) : (w.setCell ⟨b, o, none⟩ v).cell? ⟨b2, o2, none⟩ = some u := (World.cell?_setCell_far w _ _ v h).trans hc
theorem Ts.set {lo k : Nat} {w : World} {bs r c : Nat → Nat} {Z : Nat → Nat → Nat → Int} (h : Ts lo w bs r c Z k) {a : Addr} (ha : a.block < lo) (v : Value) : Ts lo (w.setCell a v) bs r c Z k :=
  ⟨fun j hj => (h.at' j hj).set (by have := h.lo' j hj; omega) v, h.lo', fun j hj => by have := h.hi j hj; simpa using this, h.inc⟩

/-- The dual as it lies behind the call: its dimensions, its tables' heads, its tables. -/
structure DuAt (w w' : World) (ds : List Int) (ms : List (List (List Int))) (bd bm : Nat) : Prop where
  below : Below w.heap.size w w'
  lo : w.heap.size ≤ bd ∧ w.heap.size ≤ bm ∧ bd ≠ bm
  dims : w'.rowIs bd 2 ds.length (duD ds ds.length)
  tabs : ∃ (lo : Nat) (bs : Nat → Nat), bd < lo ∧ bm < lo ∧ w'.rowIs bm 22 ms.length (duM bs (duR ds ms.length) ms.length) ∧ Ts lo w' bs (duR ds ms.length) (duC ms) (duZ ms) ms.length
theorem DuAt.set {w w' : World} {ds : List Int} {ms : List (List (List Int))} {bd bm : Nat} (h : DuAt w w' ds ms bd bm) {a : Addr} (h0 : w.heap.size ≤ a.block) (h1 : a.block < bd) (h2 : a.block < bm) (v : Value) : DuAt w (w'.setCell a v) ds ms bd bm := by
  obtain ⟨lo, bs, a1, a2, a3, a4⟩ := h.tabs
  exact ⟨h.below.setCell h0 _, h.lo, h.dims.setOther (by omega) _, lo, bs, a1, a2, a3.setOther (by omega) _, a4.set (by omega) _⟩

end Go.Proofs.YtaojiojldljhlaaDoor


namespace Go.Proofs.YtaojiojldljhlaaDoor
open Go.RowKit

section
variable {w w' : World} {base size n k : Nat} {e t : TypeId} {u v : Value} {xs : List Value} {g : Nat} {f : Nat → Value}
theorem owns_off (ho : w.ownsRow base e size u n xs) (hr : w.rowIs g t k f) (h : t ≠ e) (i : Nat) (x : Value) : (w.setCell ⟨g, i, none⟩ x).ownsRow base e size u n xs := by
  obtain ⟨c, hc, _⟩ := hr
  refine ⟨ho.1, ?_⟩
  rcases ho.2 with h2 | ⟨g2, cap, cur, hu, hb, hh, r⟩
  · exact Or.inl h2
  · refine Or.inr ⟨g2, cap, cur, hu, hb, ?_, r⟩
    rw [Below.heap_setCell w _ x g2 (by
      intro e2
      have e3 : g2 = g := e2
      subst e3
      rw [hc] at hh
      simp at hh
      exact h hh.2)]
    exact hh
end
theorem G1.off {w : World} {g k : Nat} {t : TypeId} {f : Nat → Value} {u : Value} {xs : List Int} (h : G1 w u xs) (hr : w.rowIs g t k f) (ht : t ≠ 2) (i : Nat) (x : Value) : G1 (w.setCell ⟨g, i, none⟩ x) u xs := owns_off h hr ht i x
theorem Gb.off {base : Nat} {w : World} {g k : Nat} {t : TypeId} {f : Nat → Value} {u : Value} {xs : List Int} (h : Gb base w u xs) (hr : w.rowIs g t k f) (ht : t ≠ 2) (i : Nat) (x : Value) : Gb base (w.setCell ⟨g, i, none⟩ x) u xs := owns_off h hr ht i x
theorem Gs.off {base : Nat} {w : World} {g k : Nat} {t : TypeId} {f : Nat → Value} {u : Value} {xs : List (List Int)} (h : Gs base w u xs) (hr : w.rowIs g t k f) (ht : t ≠ 2 ∧ t ≠ 35) (i : Nat) (x : Value) : Gs base (w.setCell ⟨g, i, none⟩ x) u xs := by
  obtain ⟨vs, ho, h1⟩ := h
  exact ⟨vs, owns_off ho hr ht.2 i x, fun k a b => (h1 k a b).off hr ht.1 i x⟩
theorem Gt.off {base : Nat} {w : World} {g k : Nat} {t : TypeId} {f : Nat → Value} {u : Value} {xs : List (List (List Int))} (h : Gt base w u xs) (hr : w.rowIs g t k f) (ht : t ≠ 2 ∧ t ≠ 35 ∧ t ≠ 22) (i : Nat) (x : Value) : Gt base (w.setCell ⟨g, i, none⟩ x) u xs := by
  obtain ⟨vs, ho, h1⟩ := h
  exact ⟨vs, owns_off ho hr ht.2.2 i x, fun k a b => (h1 k a b).off hr ⟨ht.1, ht.2.1⟩ i x⟩
section
variable {o : Oper} {a : Act} {w : World} {K : Act → World → Prop} {Q : Exit → Act → World → Prop}
end
section
variable {P : Program} {ops : Array Oper} {Q : Exit → Act → World → Prop} {md : Region.Mode} {S : World → Prop}
end

end Go.Proofs.YtaojiojldljhlaaDoor


namespace Go.Proofs.YtaojiojldljhlaaDoor
open Go.RowKit

section
variable {P : Program} {ops : Array Oper} {Q : Exit → Act → World → Prop} {md : Region.Mode} {S : World → Prop}
end
/-- A block of cells that may be written. -/
def Rz (W : World) (g : Nat) (t : TypeId) (cs : Array Value) : Prop := W.heap[g]? = some (.cells cs t (0, 0))
theorem Rz.lt {W : World} {g : Nat} {t : TypeId} {cs : Array Value} (h : Rz W g t cs) : g < W.heap.size := (Array.getElem?_eq_some_iff.1 h).1
theorem Rz.next {W W' : World} {g : Nat} {t : TypeId} {cs : Array Value} (h : Rz W g t cs) (hb : Below W.heap.size W W') : Rz W' g t cs := (hb.block g h.lt).trans h
theorem Rz.new (W : World) (t : TypeId) (cs : Array Value) : Rz (W.alloc (.cells cs t)) W.heap.size t cs := by simpa [Rz] using heap_alloc_new W (.cells cs t)
theorem Rz.set {W : World} {g : Nat} {t : TypeId} {cs : Array Value} (h : Rz W g t cs) (x : Array Value) : Rz (W.setRow g x) g t x := setRow_heap W g cs x t _ h
theorem Rz.off {W : World} {g g' : Nat} {t : TypeId} {cs : Array Value} (h : Rz W g t cs) (hne : g ≠ g') (x : Array Value) : Rz (W.setRow g' x) g t cs := (setRow_other W g' g x hne).trans h
theorem Rz.cell {W : World} {g : Nat} {t : TypeId} {cs : Array Value} (h : Rz W g t cs) {i : Nat} {v : Value} (hv : cs[i]? = some v) : W.cell? ⟨g, i, none⟩ = some v := by
  have h' : W.heap[g]? = some (.cells cs t (0, 0)) := h
  simp [World.cell?, h', hv]
end Go.Proofs.YtaojiojldljhlaaDoor


namespace Go.Proofs.YtaojiojldljhlaaDoor
open Go.RowKit

theorem rzx_frozen {w : World} {g : Nat} {t : TypeId} {cs : Array Value} (h : Rz w g t cs) (k : Nat) : w.frozen? ⟨g, k, none⟩ = false := by
  have h' : w.heap[g]? = some (.cells cs t (0, 0)) := h
  simp [World.frozen?, h']
theorem wds_le {n m : Nat} {L : List Lin.V} (h : ∀ u ∈ L, Lin.Wd n u) (hl : n ≤ m) : ∀ u ∈ L, Lin.Wd m u := fun u hu i hi => h u hu i (Nat.le_trans hl hi)

set_option maxHeartbeats 1600000 in
set_option maxRecDepth 100000 in
theorem kernel_any (p a : Int) (d c : Nat) (v : Value) (t : List (List Int)) (w : World) (hp : IsP p) (h : L2 0 w v t) (htl : t.length = d) (hrow : ∀ r ∈ t, RowOk p (c : Int) r) (hd : d ≤ 40) (hc : c ≤ 40) :
    Calls Tryd.prog 67 #[.agg #[.int .i64 p, .int .i64 a, .int .i64 (c : Int), v]] w (VsR (SpF p d (CycS p d c t)) w) := by
  obtain ⟨av, cv, rfl⟩ := Sl.shape h
  obtain ⟨w1, hw1⟩ : ∃ w1, w1 = w.alloc (.cells #[.int .i64 p, .int .i64 a, .int .i64 (c : Int), .slice av t.length cv] 55) := ⟨_, rfl⟩
  have hb1 : Below w.heap.size w w1 := by rw [hw1]; exact below_alloc1 _ _
  have k0 : w1.cell? ⟨w.heap.size, 0, none⟩ = some (.int .i64 p) := by rw [hw1]; simp
  have k2 : w1.cell? ⟨w.heap.size, 2, none⟩ = some (.int .i64 (c : Int)) := by rw [hw1]; simp
  have k3 : w1.cell? ⟨w.heap.size, 3, none⟩ = some (.slice av t.length cv) := by rw [hw1]; simp
  have HB1 := Lib.hid hb1
  have HK := Lib.hid (kernelSpace_any p d c _ t w1 hp (h.below hb1) htl hrow hd (by omega))
  clear h hb1 hrow htl hp
  go_enter Tryd.func67, Tryd.ntmps67
  go_upto_region 1 with fail
  rw [← hw1]
  clear hw1
  go_wp2_with fail
  refine HK.out.mono ?_
  rintro ee w5 ⟨s5, R, rfl, hb5, ho5, hr5⟩
  have HB5 := Lib.hid (HB1.out.trans (hb5.mono HB1.out.size))
  have HO5 := Lib.hid ho5
  have HR5 := Lib.hid hr5
  clear hb5 ho5 hr5 k0 k2 k3 HK
  go_wp2
  go_ret
  exact ⟨s5, R, rfl, HB5.out, ⟨HO5.out.1, HO5.out.2.imp id (fun ⟨g, cap, cur, h1, h2, h3⟩ => ⟨g, cap, cur, h1, Nat.le_trans HB1.out.size h2, h3⟩)⟩, HR5.out⟩

/-- It returns for an exact couple, and panics for another one. -/
def ReqX (p : Int) (dn en : Nat) (il jl kl : List (List Int)) (u : TypeId) (pv : Value) (w : World) (e : Ending) (w' : World) : Prop :=
  Below w.heap.size w w' ∧ ((ExOk p dn en il jl kl ∧ e = .returned (.tuple #[])) ∨ (¬ ExOk p dn en il jl kl ∧ e = .panicked [{ v := .iface u pv, recovered := false }]))

set_option maxHeartbeats 12800000 in
set_option maxRecDepth 100000 in
theorem requireExact_any (ut : TypeId) (pv : Value) (p : Int) (dn en : Nat) (iv jv kv : Value) (il jl kl : List (List Int)) (w : World) (h : Cp 0 w iv jv kv il jl kl) (hm : CpB 1048576 il jl kl) (hc : IsCp p dn en il jl kl) (hgl : w.cell? ⟨0, 0, none⟩ = some (.iface ut pv)) :
    Calls Tryd.prog 52 #[.agg #[.int .i64 p, .int .i64 (dn : Int), .int .i64 (en : Int), iv, jv, kv]] w (ReqX p dn en il jl kl ut pv w) := by
  obtain ⟨w0, hw0⟩ : ∃ w0, w0 = w.alloc (.cells #[.int .i64 p, .int .i64 (dn : Int), .int .i64 (en : Int), iv, jv, kv] 28) := ⟨_, rfl⟩
  have HX0 : Hid (BxCp w w0 w.heap.size p dn en iv jv kv il jl kl) := Lib.hid (by rw [hw0]; exact BxCp.start 28 h)
  have HGL := Lib.hid hgl
  have HC := Lib.hid hc
  have HM := Lib.hid hm
  have hd24 := hc.d24
  have HP := Lib.hid hc.1
  have HTi := Lib.hid hc.2.2.2.1.2
  have HTj := Lib.hid hc.2.2.2.2.1.2
  have HTk := Lib.hid hc.2.2.2.2.2.2
  have HLi := Lib.hid hc.li
  have HLj := Lib.hid hc.lj
  have HLk := Lib.hid hc.lk
  obtain ⟨⟨ai, ci, rfl⟩, ⟨aj, cj, rfl⟩, ⟨ak, ck, rfl⟩⟩ := HX0.out.cx.shapes
  clear h hm hc hgl
  have hq0 := idxM0
  have hq1 := idxM1
  have hq2 := idxM2
  have c0 := HX0.out.c0
  go_enter Tryd.func52, Tryd.ntmps52
  go_upto_region 1 with fail
  rw [← hw0]
  clear hw0
  go_wp2_with fail
  refine (mapsOfCouples_any _).mono ?_
  rintro ee wm ⟨rfl, hbm⟩
  have HXm := Lib.hid (HX0.out.next hbm)
  obtain ⟨w1, hw1⟩ : ∃ w1, w1 = wm.alloc (.cells #[.func (.func 41) #[] #[], .func (.func 63) #[] #[], .func (.func 64) #[] #[]] 63) := ⟨_, rfl⟩
  have HB1m : Hid (Below wm.heap.size wm w1) := Lib.hid (by rw [hw1]; exact below_alloc1 _ _)
  have HX1 := Lib.hid (HXm.out.next HB1m.out)
  have m0 : w1.cell? ⟨wm.heap.size, 0, none⟩ = some (.func (.func 41) #[] #[]) := by rw [hw1]; simp
  have m1 : w1.cell? ⟨wm.heap.size, 1, none⟩ = some (.func (.func 63) #[] #[]) := by rw [hw1]; simp
  have m2 : w1.cell? ⟨wm.heap.size, 2, none⟩ = some (.func (.func 64) #[] #[]) := by rw [hw1]; simp
  have HMS : Hid (∀ W, Below w1.heap.size w1 W → W.cell? ⟨wm.heap.size, 0, none⟩ = some (.func (.func 41) #[] #[]) ∧ W.cell? ⟨wm.heap.size, 1, none⟩ = some (.func (.func 63) #[] #[]) ∧ W.cell? ⟨wm.heap.size, 2, none⟩ = some (.func (.func 64) #[] #[])) := Lib.hid (fun W hb => ⟨later hb (Nat.le_refl _) m0, later hb (Nat.le_refl _) m1, later hb (Nat.le_refl _) m2⟩)
  have HNX : Hid (∀ W, Below w1.heap.size w1 W → BxCp w W w.heap.size p dn en (.slice ai il.length ci) (.slice aj jl.length cj) (.slice ak kl.length ck) il jl kl) := Lib.hid (fun W hb => HX1.out.next hb)
  have hlm : wm.heap.size < w1.heap.size := by rw [hw1]; simp
  have HLM : Hid (∀ W : World, W.cell? ⟨wm.heap.size, 0, none⟩ = some (.func (.func 41) #[] #[]) → W.cell? ⟨wm.heap.size, 1, none⟩ = some (.func (.func 63) #[] #[]) → W.cell? ⟨wm.heap.size, 2, none⟩ = some (.func (.func 64) #[] #[]) → (Instr.loadAt 63 (.pointer (some ⟨wm.heap.size, 0, none⟩))).run Tryd.prog W = .ok (.agg #[.func (.func 41) #[] #[], .func (.func 63) #[] #[], .func (.func 64) #[] #[]]) W) := Lib.hid (fun W h0 h1 h2 => by go_simp)
  clear hbm c0
  go_upto_region 2 with fail
  rw [← hw1]
  clear hw1
  have hlm0 := HLM.out w1 m0 m1 m2
  have HB0 : Hid (Below w1.heap.size w1 w1) := Lib.hid (Below.refl _ _)
  go_wp2
  refine wp_loop_rounds 4 ?_
  clear m0 m1 m2
  have m0 := (HMS.out _ HB0.out).1
  have m1 := (HMS.out _ HB0.out).2.1
  have m2 := (HMS.out _ HB0.out).2.2
  rw [rounds_succ]
  have HSP : Hid (∀ w', Below w1.heap.size w1 w' → (w'.cell? ⟨w.heap.size, 0, none⟩ = some (.int .i64 p) ∧ w'.cell? ⟨w.heap.size, 1, none⟩ = some (.int .i64 (dn : Int)) ∧ w'.cell? ⟨w.heap.size, 2, none⟩ = some (.int .i64 (en : Int)) ∧ w'.cell? ⟨w.heap.size, 3, none⟩ = some (.slice ai il.length ci) ∧ w'.cell? ⟨w.heap.size, 4, none⟩ = some (.slice aj jl.length cj) ∧ w'.cell? ⟨w.heap.size, 5, none⟩ = some (.slice ak kl.length ck) ∧ Hid (Below w1.heap.size w1 w'))) := Lib.hid (fun w' hb => ⟨(HNX.out _ hb).c0, (HNX.out _ hb).c1, (HNX.out _ hb).c2, (HNX.out _ hb).c3, (HNX.out _ hb).c4, (HNX.out _ hb).c5, Lib.hid hb⟩)
  have HD : Hid (Below w1.heap.size w1 w1.drew) := Lib.hid HB0.out.drew
  have c0 := (HNX.out _ HB0.out).c0
  have c1 := (HNX.out _ HB0.out).c1
  have c2 := (HNX.out _ HB0.out).c2
  have c3 := (HNX.out _ HB0.out).c3
  have c4 := (HNX.out _ HB0.out).c4
  have c5 := (HNX.out _ HB0.out).c5
  go_wp2
  go_region_held3 (fun w' => w'.cell? ⟨w.heap.size, 0, none⟩ = some (.int .i64 p) ∧ w'.cell? ⟨w.heap.size, 1, none⟩ = some (.int .i64 (dn : Int)) ∧ w'.cell? ⟨w.heap.size, 2, none⟩ = some (.int .i64 (en : Int)) ∧ w'.cell? ⟨w.heap.size, 3, none⟩ = some (.slice ai il.length ci) ∧ w'.cell? ⟨w.heap.size, 4, none⟩ = some (.slice aj jl.length cj) ∧ w'.cell? ⟨w.heap.size, 5, none⟩ = some (.slice ak kl.length ck) ∧ Hid (Below w1.heap.size w1 w'))
    (first | exact HSP.out _ HB0.out | exact HSP.out _ HD.out | exact HSP.out _ HBa.out | exact HSP.out _ HBb.out | exact HSP.out _ HBc.out | exact HSP.out _ HBd.out | exact HSP.out _ HBe.out | go_keep)
    (first
      | (go_at_call 41; (with_reducible refine (mapI_any p dn en _ _ _ il jl kl _ (HNX.out _ HD.out).cx).mono ?_); rintro ee wa ⟨rfl, hb⟩; have HBa := Lib.hid (HD.out.trans (hb.mono HD.out.size)); clear hb)
      | (go_at_call 61; (with_reducible refine (images_any p dn dn _ il dn _ HP.out (HNX.out _ HBa.out).cx.fi (by omega) HTi.out (by have := HLi.out; omega)).mono ?_); rintro ee wb ⟨s1, R1, rfl, hb, ho, hr, hl⟩; have HBb := Lib.hid (HBa.out.trans (hb.mono HBa.out.size)); have HO1 := Lib.hid (ho.vs.lower (Nat.zero_le _)); have HR1 := Lib.hid (And.intro hr hl); clear hb ho hr hl)
      | (go_at_call 63; (with_reducible refine (mapJ_any p dn en _ _ _ il jl kl _ (HNX.out _ HBb.out).cx).mono ?_); rintro ee wc ⟨rfl, hb⟩; have HBc := Lib.hid (HBb.out.trans (hb.mono HBb.out.size)); have HO2 := Lib.hid (HO1.out.below hb); clear hb)
      | (go_at_call 67; (with_reducible refine (kernel_any p dn dn en _ jl _ HP.out (HNX.out _ HBc.out).cx.fj HLj.out HTj.out (by omega) (by omega)).mono ?_); rintro ee wd ⟨s2, K1, rfl, hb, ho, hr⟩; have HBd := Lib.hid (HBc.out.trans (hb.mono HBc.out.size)); have HO3 := Lib.hid (And.intro (HO2.out.below hb) (ho.vs.lower (Nat.zero_le _))); have HK1 := Lib.hid hr; have HW1 := Lib.hid (wds_le hr.2.1 (show dn ≤ 40 by omega)); clear hb ho hr)
      | (go_at_call 66; (with_reducible refine (equalV_any _ _ R1 K1 _ HO3.out.1 HO3.out.2 HR1.out.1.wd HW1.out (by have := HR1.out.2; rw [List.length_map] at this; have := HLi.out; omega)).mono ?_); rintro ee we ⟨bb, rfl, hb, hbb⟩; have HBe := Lib.hid (HBd.out.trans (hb.mono HBd.out.size)); have HBB := Lib.hid hbb; clear hb hbb))
  have HEX0 := Lib.hid (HBB.out.trans (exAt_eq (by have := HP.out.lo; omega) HR1.out.1.red HR1.out.1.eqv HK1.out))
  clear c0 c1 c2 c3 c4 c5 HSP HD
  obtain ⟨wz0, hwz⟩ : ∃ wz : World, wz = we := ⟨_, rfl⟩
  subst hwz
  have HZ0 := Lib.hid HBe.out
  clear HBa HBb HBc HBd HBe HO1 HO2 HO3 HR1 HK1 HW1 HBB
  cases bb with
  | false =>
    have HN := Lib.hid (fun hh => absurd (HEX0.out.2 hh) (by simp) : ¬ _)
    have g0 := later (HNX.out _ HZ0.out).below (Nat.le_refl _) HGL.out
    go_wp2
    exact ⟨rfl, (HNX.out _ HZ0.out).below, Or.inr ⟨fun hh => HN.out hh.1, rfl⟩⟩
  | true =>
    have HY0 := Lib.hid (HEX0.out.1 rfl)
    clear HEX0
    clear m0 m1 m2
    have m0 := (HMS.out _ HZ0.out).1
    have m1 := (HMS.out _ HZ0.out).2.1
    have m2 := (HMS.out _ HZ0.out).2.2
    go_wp2
    rw [rounds_succ]
    have HSP : Hid (∀ w', Below w1.heap.size w1 w' → (w'.cell? ⟨w.heap.size, 0, none⟩ = some (.int .i64 p) ∧ w'.cell? ⟨w.heap.size, 1, none⟩ = some (.int .i64 (dn : Int)) ∧ w'.cell? ⟨w.heap.size, 2, none⟩ = some (.int .i64 (en : Int)) ∧ w'.cell? ⟨w.heap.size, 3, none⟩ = some (.slice ai il.length ci) ∧ w'.cell? ⟨w.heap.size, 4, none⟩ = some (.slice aj jl.length cj) ∧ w'.cell? ⟨w.heap.size, 5, none⟩ = some (.slice ak kl.length ck) ∧ Hid (Below w1.heap.size w1 w'))) := Lib.hid (fun w' hb => ⟨(HNX.out _ hb).c0, (HNX.out _ hb).c1, (HNX.out _ hb).c2, (HNX.out _ hb).c3, (HNX.out _ hb).c4, (HNX.out _ hb).c5, Lib.hid hb⟩)
    have HD : Hid (Below w1.heap.size w1 wz0.drew) := Lib.hid HZ0.out.drew
    have c0 := (HNX.out _ HZ0.out).c0
    have c1 := (HNX.out _ HZ0.out).c1
    have c2 := (HNX.out _ HZ0.out).c2
    have c3 := (HNX.out _ HZ0.out).c3
    have c4 := (HNX.out _ HZ0.out).c4
    have c5 := (HNX.out _ HZ0.out).c5
    go_wp2
    go_region_held3 (fun w' => w'.cell? ⟨w.heap.size, 0, none⟩ = some (.int .i64 p) ∧ w'.cell? ⟨w.heap.size, 1, none⟩ = some (.int .i64 (dn : Int)) ∧ w'.cell? ⟨w.heap.size, 2, none⟩ = some (.int .i64 (en : Int)) ∧ w'.cell? ⟨w.heap.size, 3, none⟩ = some (.slice ai il.length ci) ∧ w'.cell? ⟨w.heap.size, 4, none⟩ = some (.slice aj jl.length cj) ∧ w'.cell? ⟨w.heap.size, 5, none⟩ = some (.slice ak kl.length ck) ∧ Hid (Below w1.heap.size w1 w'))
      (first | exact HSP.out _ HZ0.out | exact HSP.out _ HD.out | exact HSP.out _ HBa.out | exact HSP.out _ HBb.out | exact HSP.out _ HBc.out | exact HSP.out _ HBd.out | exact HSP.out _ HBe.out | go_keep)
      (first
        | (go_at_call 63; (with_reducible refine (mapJ_any p dn en _ _ _ il jl kl _ (HNX.out _ HD.out).cx).mono ?_); rintro ee wa ⟨rfl, hb⟩; have HBa := Lib.hid (HD.out.trans (hb.mono HD.out.size)); clear hb)
        | (go_at_call 61; (with_reducible refine (images_any p dn en _ jl en _ HP.out (HNX.out _ HBa.out).cx.fj (by omega) HTj.out (by have := HLj.out; omega)).mono ?_); rintro ee wb ⟨s1, R1, rfl, hb, ho, hr, hl⟩; have HBb := Lib.hid (HBa.out.trans (hb.mono HBa.out.size)); have HO1 := Lib.hid (ho.vs.lower (Nat.zero_le _)); have HR1 := Lib.hid (And.intro hr hl); clear hb ho hr hl)
        | (go_at_call 64; (with_reducible refine (mapK_any p dn en _ _ _ il jl kl _ (HNX.out _ HBb.out).cx).mono ?_); rintro ee wc ⟨rfl, hb⟩; have HBc := Lib.hid (HBb.out.trans (hb.mono HBb.out.size)); have HO2 := Lib.hid (HO1.out.below hb); clear hb)
        | (go_at_call 67; (with_reducible refine (kernel_any p en en dn _ kl _ HP.out (HNX.out _ HBc.out).cx.fk HLk.out HTk.out (by omega) (by omega)).mono ?_); rintro ee wd ⟨s2, K1, rfl, hb, ho, hr⟩; have HBd := Lib.hid (HBc.out.trans (hb.mono HBc.out.size)); have HO3 := Lib.hid (And.intro (HO2.out.below hb) (ho.vs.lower (Nat.zero_le _))); have HK1 := Lib.hid hr; have HW1 := Lib.hid (wds_le hr.2.1 (show en ≤ 40 by omega)); clear hb ho hr)
        | (go_at_call 66; (with_reducible refine (equalV_any _ _ R1 K1 _ HO3.out.1 HO3.out.2 HR1.out.1.wd HW1.out (by have := HR1.out.2; rw [List.length_map] at this; have := HLj.out; omega)).mono ?_); rintro ee we ⟨bb, rfl, hb, hbb⟩; have HBe := Lib.hid (HBd.out.trans (hb.mono HBd.out.size)); have HBB := Lib.hid hbb; clear hb hbb))
    have HEX1 := Lib.hid (HBB.out.trans (exAt_eq (by have := HP.out.lo; omega) HR1.out.1.red HR1.out.1.eqv HK1.out))
    clear c0 c1 c2 c3 c4 c5 HSP HD
    obtain ⟨wz1, hwz⟩ : ∃ wz : World, wz = we := ⟨_, rfl⟩
    subst hwz
    have HZ1 := Lib.hid HBe.out
    clear HBa HBb HBc HBd HBe HO1 HO2 HO3 HR1 HK1 HW1 HBB
    cases bb with
    | false =>
      have HN := Lib.hid (fun hh => absurd (HEX1.out.2 hh) (by simp) : ¬ _)
      have g0 := later (HNX.out _ HZ1.out).below (Nat.le_refl _) HGL.out
      go_wp2
      exact ⟨rfl, (HNX.out _ HZ1.out).below, Or.inr ⟨fun hh => HN.out hh.2.1, rfl⟩⟩
    | true =>
      have HY1 := Lib.hid (HEX1.out.1 rfl)
      clear HEX1
      clear m0 m1 m2
      have m0 := (HMS.out _ HZ1.out).1
      have m1 := (HMS.out _ HZ1.out).2.1
      have m2 := (HMS.out _ HZ1.out).2.2
      go_wp2
      rw [rounds_succ]
      have HSP : Hid (∀ w', Below w1.heap.size w1 w' → (w'.cell? ⟨w.heap.size, 0, none⟩ = some (.int .i64 p) ∧ w'.cell? ⟨w.heap.size, 1, none⟩ = some (.int .i64 (dn : Int)) ∧ w'.cell? ⟨w.heap.size, 2, none⟩ = some (.int .i64 (en : Int)) ∧ w'.cell? ⟨w.heap.size, 3, none⟩ = some (.slice ai il.length ci) ∧ w'.cell? ⟨w.heap.size, 4, none⟩ = some (.slice aj jl.length cj) ∧ w'.cell? ⟨w.heap.size, 5, none⟩ = some (.slice ak kl.length ck) ∧ Hid (Below w1.heap.size w1 w'))) := Lib.hid (fun w' hb => ⟨(HNX.out _ hb).c0, (HNX.out _ hb).c1, (HNX.out _ hb).c2, (HNX.out _ hb).c3, (HNX.out _ hb).c4, (HNX.out _ hb).c5, Lib.hid hb⟩)
      have HD : Hid (Below w1.heap.size w1 wz1.drew) := Lib.hid HZ1.out.drew
      have c0 := (HNX.out _ HZ1.out).c0
      have c1 := (HNX.out _ HZ1.out).c1
      have c2 := (HNX.out _ HZ1.out).c2
      have c3 := (HNX.out _ HZ1.out).c3
      have c4 := (HNX.out _ HZ1.out).c4
      have c5 := (HNX.out _ HZ1.out).c5
      go_wp2
      go_region_held3 (fun w' => w'.cell? ⟨w.heap.size, 0, none⟩ = some (.int .i64 p) ∧ w'.cell? ⟨w.heap.size, 1, none⟩ = some (.int .i64 (dn : Int)) ∧ w'.cell? ⟨w.heap.size, 2, none⟩ = some (.int .i64 (en : Int)) ∧ w'.cell? ⟨w.heap.size, 3, none⟩ = some (.slice ai il.length ci) ∧ w'.cell? ⟨w.heap.size, 4, none⟩ = some (.slice aj jl.length cj) ∧ w'.cell? ⟨w.heap.size, 5, none⟩ = some (.slice ak kl.length ck) ∧ Hid (Below w1.heap.size w1 w'))
        (first | exact HSP.out _ HZ1.out | exact HSP.out _ HD.out | exact HSP.out _ HBa.out | exact HSP.out _ HBb.out | exact HSP.out _ HBc.out | exact HSP.out _ HBd.out | exact HSP.out _ HBe.out | go_keep)
        (first
          | (go_at_call 64; (with_reducible refine (mapK_any p dn en _ _ _ il jl kl _ (HNX.out _ HD.out).cx).mono ?_); rintro ee wa ⟨rfl, hb⟩; have HBa := Lib.hid (HD.out.trans (hb.mono HD.out.size)); clear hb)
          | (go_at_call 61; (with_reducible refine (images_any p en dn _ kl dn _ HP.out (HNX.out _ HBa.out).cx.fk (by omega) HTk.out (by have := HLk.out; omega)).mono ?_); rintro ee wb ⟨s1, R1, rfl, hb, ho, hr, hl⟩; have HBb := Lib.hid (HBa.out.trans (hb.mono HBa.out.size)); have HO1 := Lib.hid (ho.vs.lower (Nat.zero_le _)); have HR1 := Lib.hid (And.intro hr hl); clear hb ho hr hl)
          | (go_at_call 41; (with_reducible refine (mapI_any p dn en _ _ _ il jl kl _ (HNX.out _ HBb.out).cx).mono ?_); rintro ee wc ⟨rfl, hb⟩; have HBc := Lib.hid (HBb.out.trans (hb.mono HBb.out.size)); have HO2 := Lib.hid (HO1.out.below hb); clear hb)
          | (go_at_call 67; (with_reducible refine (kernel_any p dn dn dn _ il _ HP.out (HNX.out _ HBc.out).cx.fi HLi.out HTi.out (by omega) (by omega)).mono ?_); rintro ee wd ⟨s2, K1, rfl, hb, ho, hr⟩; have HBd := Lib.hid (HBc.out.trans (hb.mono HBc.out.size)); have HO3 := Lib.hid (And.intro (HO2.out.below hb) (ho.vs.lower (Nat.zero_le _))); have HK1 := Lib.hid hr; have HW1 := Lib.hid (wds_le hr.2.1 (show dn ≤ 40 by omega)); clear hb ho hr)
          | (go_at_call 66; (with_reducible refine (equalV_any _ _ R1 K1 _ HO3.out.1 HO3.out.2 HR1.out.1.wd HW1.out (by have := HR1.out.2; rw [List.length_map] at this; have := HLk.out; omega)).mono ?_); rintro ee we ⟨bb, rfl, hb, hbb⟩; have HBe := Lib.hid (HBd.out.trans (hb.mono HBd.out.size)); have HBB := Lib.hid hbb; clear hb hbb))
      have HEX2 := Lib.hid (HBB.out.trans (exAt_eq (by have := HP.out.lo; omega) HR1.out.1.red HR1.out.1.eqv HK1.out))
      clear c0 c1 c2 c3 c4 c5 HSP HD
      obtain ⟨wz2, hwz⟩ : ∃ wz : World, wz = we := ⟨_, rfl⟩
      subst hwz
      have HZ2 := Lib.hid HBe.out
      clear HBa HBb HBc HBd HBe HO1 HO2 HO3 HR1 HK1 HW1 HBB
      cases bb with
      | false =>
        have HN := Lib.hid (fun hh => absurd (HEX2.out.2 hh) (by simp) : ¬ _)
        have g0 := later (HNX.out _ HZ2.out).below (Nat.le_refl _) HGL.out
        go_wp2
        exact ⟨rfl, (HNX.out _ HZ2.out).below, Or.inr ⟨fun hh => HN.out hh.2.2, rfl⟩⟩
      | true =>
        have HY2 := Lib.hid (HEX2.out.1 rfl)
        clear HEX2
        go_wp2
        rw [rounds_succ]
        go_wp2
        go_end0
        exact ⟨(HNX.out _ HZ2.out).below, Or.inl ⟨⟨HY0.out, HY1.out, HY2.out⟩, rfl⟩⟩

theorem hassertsX (pv : Value) (W : World) : (Instr.typeAssert (.iface 111 pv) 20 66 true).run Tryd.prog W = .ok (.tuple #[.iface 111 pv, .bool true]) W := by kernel_rfl
theorem hassertnX (W : World) : (Instr.typeAssert .nilIface 20 66 true).run Tryd.prog W = .ok (.tuple #[.nilIface, .bool false]) W := by kernel_rfl

set_option maxRecDepth 100000 in
theorem catchX_yes (a : Addr) (x : Int) (pv : Value) (older : List PanicEntry) (w : World) (hc : w.cell? a = some (.int .i64 x)) (hz : w.frozen? a = false) :
    CallsD Tryd.prog 51 #[.pointer (some a)] (.panicking ({ v := .iface 111 pv, recovered := false } :: older)) w fun e u' w' =>
      e = .returned (.tuple #[]) ∧ u' = .panicking ({ v := .iface 111 pv, recovered := true } :: older) ∧ w' = w.setCell a (.int .i64 5) := by
  refine callsD_of_wpS Tryd.func51 rfl fun c₀ cs hu => ?_
  apply wpS_seq
  apply wpS_region
  simp [wpOpsS, go_sem, recoverD, hu, Tryd.ntmps51, Exit.thenS, hassertsX]
  apply wpS_seq
  apply wpS_region
  simp [wpOpsS, go_sem, Exit.thenS, Array.replicate]
  refine wpS_cond (t := true) (by simp [Act.eval]) ?_
  simp only [if_true]
  apply wpS_region
  simp [wpOpsS, go_sem, hc, hz, bodyPostS, results, Tryd.results51]
theorem catchX_no (a : Addr) (w : World) :
    CallsD Tryd.prog 51 #[.pointer (some a)] .returning w fun e u' w' => e = .returned (.tuple #[]) ∧ u' = .returning ∧ w' = w := by
  refine callsD_of_wpS Tryd.func51 rfl fun c₀ cs hu => ?_
  apply wpS_seq
  apply wpS_region
  simp [wpOpsS, go_sem, recoverD, hu, Tryd.ntmps51, Exit.thenS, hassertnX]
  apply wpS_seq
  apply wpS_region
  simp [wpOpsS, go_sem, Exit.thenS, Array.replicate]
  refine wpS_cond (t := false) (by simp [Act.eval]) ?_
  simp only [Bool.false_eq_true, if_false]
  refine wpS_of_wp (wp_skip ?_)
  cases c₀
  simp_all [bodyPostS, results, Tryd.results51]

/-- The code of the door. -/
def StX (p : Int) (dn en : Nat) (il jl kl : List (List Int)) (w : World) (e : Ending) (w' : World) : Prop :=
  ∃ c : Int, e = .returned (.int .i64 c) ∧ Below w.heap.size w w' ∧ ((c = 0 ∧ ExOk p dn en il jl kl) ∨ (c = 5 ∧ ¬ ExOk p dn en il jl kl))

set_option maxHeartbeats 6400000 in
set_option maxRecDepth 100000 in
theorem checkExact_any (pv : Value) (p : Int) (dn en : Nat) (iv jv kv : Value) (il jl kl : List (List Int)) (w : World) (h : Cp 0 w iv jv kv il jl kl) (hm : CpB 1048576 il jl kl) (hc : IsCp p dn en il jl kl) (hgl : w.cell? ⟨0, 0, none⟩ = some (.iface 111 pv)) :
    Calls Tryd.prog 28 #[.agg #[.int .i64 p, .int .i64 (dn : Int), .int .i64 (en : Int), iv, jv, kv]] w (StX p dn en il jl kl w) := by
  have hmf : ∀ (fn : Fn) (first cap : Array Value) (w : World), (Instr.makeFunc fn first cap).run Tryd.prog w = .ok (.func fn first cap) w := fun _ _ _ _ => rfl
  obtain ⟨wb, hwb⟩ : ∃ wb, wb = w.alloc (.cells #[.int .i64 p, .int .i64 (dn : Int), .int .i64 (en : Int), iv, jv, kv] 28) := ⟨_, rfl⟩
  have k1 : BxCp w wb w.heap.size p dn en iv jv kv il jl kl := by rw [hwb]; exact BxCp.start 28 h
  have hsb : wb.heap.size = w.heap.size + 1 := by rw [hwb]; simp
  obtain ⟨w1, hw1⟩ : ∃ w1, w1 = wb.alloc (.cells #[.int .i64 0] 2) := ⟨_, rfl⟩
  have hb1 : Below wb.heap.size wb w1 := by rw [hw1]; exact below_alloc1 _ _
  have HX0 := Lib.hid (k1.next hb1)
  have HZ0 : Hid (Rz w1 (w.heap.size + 1) 2 #[.int .i64 0]) := Lib.hid (by rw [hw1, ← hsb]; exact Rz.new _ _ _)
  have HB01 := Lib.hid HX0.out.below
  have HRQ := Lib.hid (requireExact_any 111 pv p dn en iv jv kv il jl kl w1 HX0.out.cx hm hc (later HB01.out (Nat.le_refl _) hgl))
  have HRES : Hid (Tryd.f28.results = #[.cell 2 2]) := Lib.hid (by kernel_rfl)
  obtain ⟨⟨ai, ci, rfl⟩, ⟨aj, cj, rfl⟩, ⟨ak, ck, rfl⟩⟩ := HX0.out.cx.shapes
  have HNX : Hid (∀ W, Below w1.heap.size w1 W → Rz W (w.heap.size + 1) 2 #[.int .i64 0] ∧ Below w.heap.size w W) := Lib.hid (fun W hb => ⟨HZ0.out.next hb, HB01.out.trans (hb.mono HB01.out.size)⟩)
  rw [hwb] at hw1
  have c0 := HX0.out.c0
  have c1 := HX0.out.c1
  have c2 := HX0.out.c2
  have c3 := HX0.out.c3
  have c4 := HX0.out.c4
  have c5 := HX0.out.c5
  clear h hm hc hgl k1 hb1 hwb hsb
  go_enter_defers Tryd.func28, Tryd.ntmps28
  go_upto_region 1 with fail
  rw [← hw1]
  clear hw1
  go_wp2_with fail
  refine HRQ.out.mono ?_
  rintro e w2 ⟨hb2, hh⟩
  have HN2 := Lib.hid (HNX.out w2 hb2)
  clear HRQ hb2 c0 c1 c2 c3 c4 c5
  have q0 : w2.cell? ⟨w.heap.size + 1, 0, none⟩ = some (.int .i64 0) := HN2.out.1.cell (i := 0) rfl
  have z0 := rzx_frozen HN2.out.1 0
  rcases hh with ⟨hc, rfl⟩ | ⟨hc, rfl⟩
  · have HC2 := Lib.hid hc
    clear hc
    have q5 : (w2.setCell ⟨w.heap.size + 1, 0, none⟩ (.int .i64 0)).cell? ⟨w.heap.size + 1, 0, none⟩ = some (.int .i64 0) := World.cell?_setCell_same _ _ _ q0
    go_wp2
    refine leaves_cons (f := 51) (args := #[.pointer (some ⟨w.heap.size + 1, 0, none⟩)]) (by simp) (by simp [go_sem]) ?_
    refine (catchX_no ⟨w.heap.size + 1, 0, none⟩ _).mono ?_
    rintro e u' w'' ⟨rfl, rfl, rfl⟩
    refine ⟨.int .i64 0, ?_, 0, rfl, HN2.out.2.setCell (by show w.heap.size ≤ w.heap.size + 1; omega) _, Or.inl ⟨rfl, HC2.out⟩⟩
    simp only [results, HRES.out]
    go_simp
  · have HC2 := Lib.hid hc
    clear hc
    go_wp2
    refine leaves_cons (f := 51) (args := #[.pointer (some ⟨w.heap.size + 1, 0, none⟩)]) (by simp) (by simp [go_sem]) ?_
    refine (catchX_yes ⟨w.heap.size + 1, 0, none⟩ 0 pv [] w2 q0 z0).mono ?_
    rintro e u' w'' ⟨rfl, rfl, rfl⟩
    have q5 : (w2.setCell ⟨w.heap.size + 1, 0, none⟩ (.int .i64 5)).cell? ⟨w.heap.size + 1, 0, none⟩ = some (.int .i64 5) := World.cell?_setCell_same _ _ _ q0
    refine ⟨.int .i64 5, ?_, 5, rfl, HN2.out.2.setCell (by show w.heap.size ≤ w.heap.size + 1; omega) _, Or.inr ⟨rfl, HC2.out⟩⟩
    simp only [results, HRES.out]
    go_simp

/-- What IsExact answers. -/
def ExS (p d e : Int) (il jl kl : List (List Int)) (b : Bool) (c : Int) : Prop := c = cpCode p d e il jl kl ∧ (b = true ↔ IsCp p d e il jl kl ∧ ExOk p d.toNat e.toNat il jl kl)
theorem ExS.unique {p d e : Int} {il jl kl : List (List Int)} {b b2 : Bool} {c c2 : Int} (h : ExS p d e il jl kl b c) (k : ExS p d e il jl kl b2 c2) : b = b2 ∧ c = c2 := ⟨Bool.eq_iff_iff.2 (h.2.trans k.2.symm), h.1.trans k.1.symm⟩

set_option maxHeartbeats 3200000 in
set_option maxRecDepth 100000 in
theorem isExact_any {pv : Value} (p d e : Int) (iv jv kv : Value) (il jl kl : List (List Int)) (w : World) (h : Cp 0 w iv jv kv il jl kl) (hm : CpB 1048576 il jl kl) (hgl : w.cell? ⟨0, 0, none⟩ = some (.iface 111 pv)) :
    Calls Tryd.prog 10 #[.agg #[.int .i64 p, .int .i64 d, .int .i64 e, iv, jv, kv]] w (VrBC (ExS p d e il jl kl) w) := by
  obtain ⟨w1, hw1⟩ : ∃ w1, w1 = w.alloc (.cells #[.int .i64 p, .int .i64 d, .int .i64 e, iv, jv, kv] 28) := ⟨_, rfl⟩
  have HX : Hid (BxCp w w1 w.heap.size p d e iv jv kv il jl kl) := Lib.hid (by rw [hw1]; exact BxCp.start 28 h)
  have HM := Lib.hid hm
  have HGL := Lib.hid (later HX.out.below (Nat.le_refl _) hgl)
  obtain ⟨⟨ai, ci, rfl⟩, ⟨aj, cj, rfl⟩, ⟨ak, ck, rfl⟩⟩ := HX.out.cx.shapes
  clear h hm hgl
  have c0 := HX.out.c0
  have c1 := HX.out.c1
  have c2 := HX.out.c2
  have c3 := HX.out.c3
  have c4 := HX.out.c4
  have c5 := HX.out.c5
  go_enter Tryd.func10, Tryd.ntmps10
  go_upto_region 1 with fail
  rw [← hw1]
  clear hw1
  go_wp2_with fail
  refine (isCouple_any p d e _ _ _ il jl kl w1 HX.out.cx HM.out).mono ?_
  rintro ee w2 ⟨b, rfl, hb, hbb⟩
  have HX2 := Lib.hid (HX.out.next hb)
  have HG2 := Lib.hid (later hb (Nat.le_refl _) HGL.out)
  clear hb c0 c1 c2 c3 c4 c5
  by_cases hc : IsCp p d e il jl kl
  · obtain rfl : b = true := hbb.2 hc
    have HC := Lib.hid hc
    obtain ⟨dn, hdn⟩ := Int.eq_ofNat_of_zero_le hc.2.1.1
    obtain ⟨en, hen⟩ := Int.eq_ofNat_of_zero_le hc.2.2.1.1
    clear hbb hc
    subst hdn hen
    have HK := Lib.hid (checkExact_any pv p dn en _ _ _ il jl kl w2 HX2.out.cx HM.out HC.out HG2.out)
    have c0 := HX2.out.c0
    have c1 := HX2.out.c1
    have c2 := HX2.out.c2
    have c3 := HX2.out.c3
    have c4 := HX2.out.c4
    have c5 := HX2.out.c5
    go_wp2_with fail
    refine HK.out.mono ?_
    rintro ee w3 ⟨c, rfl, hb3, hcc⟩
    have HX3 := Lib.hid (HX2.out.next hb3)
    clear HK hb3 c0 c1 c2 c3 c4 c5
    rcases hcc with ⟨rfl, hx⟩ | ⟨rfl, hx⟩
    · have HXE := Lib.hid hx
      clear hx
      go_wp2
      go_ret2
      exact ⟨true, 0, rfl, HX3.out.below, (cpCode_yes HC.out).symm, fun _ => ⟨HC.out, HXE.out⟩, fun _ => rfl⟩
    · have HXE := Lib.hid hx
      clear hx
      go_wp2
      go_ret2
      exact ⟨false, 0, rfl, HX3.out.below, (cpCode_yes HC.out).symm, (fun h => absurd h (by decide)), fun h => absurd h.2 HXE.out⟩
  · obtain rfl : b = false := bb_no hbb hc
    have HC := Lib.hid hc
    clear hbb hc
    go_wp2
    go_ret2
    exact ⟨false, 1, rfl, HX2.out.below, (cpCode_no HC.out).symm, (fun h => absurd h (by decide)), fun h => absurd h.1 HC.out⟩
end Go.Proofs.YtaojiojldljhlaaDoor


namespace Go.Proofs.YtaojiojldljhlaaDoor
open Go.RowKit

set_option maxHeartbeats 1600000 in
set_option maxRecDepth 100000 in
theorem l01Inside_any (p : Int) (n : Nat) (vl vr : Value) (A : List Lin.V) (v : Lin.V) (w : World) (hp : IsP p) (hL : L2 0 w vl (A.map (toL n))) (hv : L1 0 w vr (toL n v)) (hA : Lin.Red p A) (hw : ∀ u ∈ A, Lin.Wd n u) (hm : Lin.Md p v) (hvw : Lin.Wd n v) (hn : n ≤ 1048576) (hl : A.length ≤ 1048576) :
    Calls Tryd.prog 62 #[.int .i64 p, vl, vr] w (BB (Lin.Sp p A v) w) := by
  have HR := Lib.hid (l01Rest_any p n vl vr A v w hp hL hv hA hw hm hvw hn hl)
  have HP := Lib.hid hp
  have HA := Lib.hid hA
  clear hL hv hA hw hm hvw hp
  go_enter Tryd.func62, Tryd.ntmps62
  go_wp2_with fail
  refine HR.out.mono ?_
  rintro ee w1 ⟨u, r, rfl, hg, hb, hr, hrw⟩
  have HB := Lib.hid hb
  have HRS := Lib.hid hr
  have HRW := Lib.hid hrw
  have HK := Lib.hid (l01Lead_any u (toL n r) w1 hg.l1 (by rw [toL_length]; exact hn))
  obtain ⟨x, hx⟩ : ∃ x, x = leadOf (toL n r) := ⟨_, rfl⟩
  rw [← hx] at HK
  have HX := Lib.hid hx
  clear hb hr hrw hg hx HR
  go_wp2_with fail
  refine HK.out.mono ?_
  rintro ee w2 ⟨rfl, rfl⟩
  by_cases h0 : x < 0
  · have hz : r = Lin.zv := leadOf_of_toL HRW.out (by rw [← HX.out]; exact h0)
    have HZ : Hid (Lin.Sp p A v) := Lib.hid (by have h1 := HRS.out; rw [hz] at h1; exact h1.inside (by have := HP.out.lo; omega) HA.out)
    clear hz
    go_wp2
    go_ret
    exact ⟨true, rfl, HB.out, fun _ => HZ.out, fun _ => rfl⟩
  · have HZ : Hid (¬ Lin.Sp p A v) := Lib.hid (fun hs => h0 (by
      have hp0 : 0 < p := by have := HP.out.lo; omega
      have hz : r = Lin.zv := HA.out.zero_of hp0 (Lin.Sp.trans hp0 (fun y hy => by
        rcases List.mem_cons.1 hy with rfl | hy
        · exact hs
        · exact Lin.Sp.mem hy (HA.out.md y hy)) HRS.out.to) (fun y hy => HRS.out.off y (by rw [List.take_length]; exact hy))
      rw [HX.out, hz, leadOf_zv]
      decide))
    go_wp2
    go_ret
    exact ⟨decide (x < 0), rfl, HB.out, by rw [decide_eq_false (show ¬ x < 0 by omega)]; simp [HZ.out]⟩

set_option maxHeartbeats 3200000 in
set_option maxRecDepth 100000 in
theorem l05Meet_any (p : Int) (n m : Nat) (va vb : Value) (t u : List (List Int)) (w : World) (hp : IsP p) (ha : L2 0 w va t) (hb : L2 0 w vb u) (ht : ∀ r ∈ t, RowOk p (n : Int) r) (hu : ∀ r ∈ u, RowOk p (m : Int) r) (hul : u.length = n) (hn : n ≤ 40) (hm : m ≤ 40) (htl : t.length ≤ 40) :
    Calls Tryd.prog 46 #[.int .i64 p, va, .int .i64 (n : Int), vb] w (BB (ExAt p n m t u) w) := by
  have hlen : ∀ r ∈ t, r.length = n := fun r hr => by have := (ht r hr).1; omega
  have HE := Lib.hid (l01Echelon_any p n va (t.map ofL) w hp (by rw [rows_toL' hlen]; exact ha) (vecs_md (by have := hp.lo; omega) ht) (vecs_wd hlen) (by omega) (by rw [List.length_map]; omega))
  have HK : Hid (∀ W, Below w.heap.size w W → Calls Tryd.prog 55 #[.int .i64 p, .int .i64 (n : Int), vb] W (KerR p n m u W)) := Lib.hid (fun W h => l01Kernel_any p n m vb u W hp (hb.below h) hul hu (by omega) (by omega))
  have HP := Lib.hid hp
  clear ha hb ht hu hlen hp
  go_enter Tryd.func46, Tryd.ntmps46
  go_wp2_with fail
  refine HE.out.mono ?_
  rintro ee w1 ⟨v1, R, rfl, hg1, hb1, hr1, hl1⟩
  have HB1 := Lib.hid hb1
  have HR1 := Lib.hid hr1
  rw [List.length_map] at hl1
  have HG1 := Lib.hid (hg1.l2.lower (Nat.zero_le _))
  obtain ⟨a1, c1, e1⟩ := Sl.shape HG1.out
  obtain ⟨rl, hrl⟩ : ∃ x, x = R.length := ⟨_, rfl⟩
  rw [List.length_map, ← hrl] at e1
  rw [← hrl] at hl1
  have HRL := Lib.hid hrl
  clear hb1 hr1 hg1 HE hrl
  subst e1
  go_wp2_with fail
  refine (HK.out w1 HB1.out).mono ?_
  rintro ee w2 ⟨v2, K, rfl, hg2, hb2, hk⟩
  have HB2 := Lib.hid (HB1.out.trans (hb2.mono HB1.out.size))
  have HG1b := Lib.hid (HG1.out.below hb2)
  have HG2 := Lib.hid (hg2.l2.lower (Nat.zero_le _))
  have HKS := Lib.hid hk
  have hkl : K.length ≤ n := hk.short
  obtain ⟨a2, c2, e2⟩ := Sl.shape HG2.out
  obtain ⟨kl, hkk⟩ : ∃ x, x = K.length := ⟨_, rfl⟩
  rw [List.length_map, ← hkk] at e2
  rw [← hkk] at hkl
  have HKL := Lib.hid hkk
  clear hb2 hg2 hk HK HG1 hkk
  subst e2
  have HIFF := Lib.hid (exAt_len (by have := HP.out.lo; omega) HR1.out.red HR1.out.eqv HKS.out : _ ↔ ExAt p n m t u)
  by_cases hq : rl = kl
  · have HQ := Lib.hid hq
    have hne : ((rl : Int) != (kl : Int)) = false := by simp; omega
    clear hq
    go_wp2
    clear hne
    go_loopw [11] (fun i wr => ∃ k : Nat, k ≤ rl ∧ i = .int .i64 k ∧ Hid (Below w2.heap.size w2 wr) ∧ Hid (∀ j (hj : j < R.length), j < k → Lin.Sp p K R[j])) (fun i _ => rl - (intOf i).toNat)
    case atStart => exact ⟨0, Nat.zero_le _, rfl, Lib.hid (Below.refl _ _), Lib.hid (fun _ _ h => absurd h (Nat.not_lt_zero _))⟩
    case round =>
      obtain ⟨k, hk, rfl, HB, HS⟩ := hrel
      obtain ⟨wx, hwx⟩ : ∃ wx : World, wx = wr := ⟨_, rfl⟩
      subst hwx
      by_cases hlt : k < rl
      · have hkR : k < R.length := by rw [← HRL.out]; exact hlt
        have hlk : (k : Int) < (rl : Int) := by omega
        have hk0 : (0 : Int) ≤ (k : Int) := by omega
        refine Sl.cases (HG1b.out.below HB.out) (fun _ _ hx _ => absurd hkR (by have := congrArg List.length hx; simp at this; simp [this])) (fun bd od capd hvd _ _ hcl => ?_)
        injection hvd with e1 e2 e3
        clear e2
        subst e1 e3
        obtain ⟨ux, hux, hrx⟩ := hcl k (by rw [List.length_map]; exact hkR)
        rw [List.getElem_map] at hrx
        obtain ⟨r, hr⟩ : ∃ r, r = R[k] := ⟨_, rfl⟩
        rw [← hr] at hrx
        have HRM : Hid (Lin.Md p r ∧ Lin.Wd n r) := Lib.hid ⟨by rw [hr]; exact HR1.out.red.md _ (List.getElem_mem hkR), by rw [hr]; exact HR1.out.wd _ (List.getElem_mem hkR)⟩
        have HIN := Lib.hid (l01Inside_any p n _ ux K r wx HP.out (HG2.out.below HB.out) hrx HKS.out.1 HKS.out.2.1 HRM.out.1 HRM.out.2 (by omega) (by have := HKL.out; omega))
        have HRE := Lib.hid hr
        clear hcl hrx hr
        go_wp2_with fail
        refine HIN.out.mono ?_
        rintro ee w3 ⟨bb, rfl, hb3, hbb⟩
        have HB3 := Lib.hid (HB.out.trans (hb3.mono HB.out.size))
        have HBB := Lib.hid hbb
        clear hb3 hbb HIN hux
        cases bb with
        | true =>
          go_wp2
          go_roundw
          case rel => exact ⟨k + 1, by omega, by go_num, HB3, Lib.hid (fun j hj hjk => by
            by_cases e : j = k
            · subst e; rw [← HRE.out]; exact HBB.out.1 (by simp)
            · exact HS.out j hj (by omega))⟩
          case measure => simp [intOf]; omega
        | false =>
          go_wp2
          go_ret
          exact bb_false (HB2.out.trans (HB3.out.mono HB2.out.size)) (fun h => absurd (HBB.out.2 (by rw [HRE.out]; exact (HIFF.out.2 h).2 _ (List.getElem_mem hkR))) (by simp))
      · have hlk : ¬ (k : Int) < (rl : Int) := by omega
        have HKE : Hid (k = rl) := Lib.hid (by omega)
        go_wp2
        go_ret
        exact ⟨true, rfl, HB2.out.trans (HB.out.mono HB2.out.size), fun _ => HIFF.out.1 ⟨by rw [← HRL.out, ← HKL.out]; exact HQ.out, fun y hy => by
          obtain ⟨j, hj, rfl⟩ := List.getElem_of_mem hy
          exact HS.out j hj (by rw [HKE.out, HRL.out]; exact hj)⟩, fun _ => rfl⟩
  · have hne : ((rl : Int) != (kl : Int)) = true := by simp; omega
    have HQ := Lib.hid hq
    clear hq
    go_wp2
    go_ret
    exact bb_false HB2.out (fun h => HQ.out (by rw [HRL.out, HKL.out]; exact (HIFF.out.2 h).1))

set_option maxHeartbeats 3200000 in
set_option maxRecDepth 100000 in
theorem l05Exact_any (p : Int) (dn en : Nat) (iv jv kv : Value) (il jl kl : List (List Int)) (w : World) (h : Cp 0 w iv jv kv il jl kl) (hc : IsCp p dn en il jl kl) :
    Calls Tryd.prog 25 #[.agg #[.int .i64 p, .int .i64 (dn : Int), .int .i64 (en : Int), iv, jv, kv]] w (BB (ExOk p dn en il jl kl) w) := by
  obtain ⟨w1, hw1⟩ : ∃ w1, w1 = w.alloc (.cells #[.int .i64 p, .int .i64 (dn : Int), .int .i64 (en : Int), iv, jv, kv] 28) := ⟨_, rfl⟩
  have HX : Hid (BxCp w w1 w.heap.size p dn en iv jv kv il jl kl) := Lib.hid (by rw [hw1]; exact BxCp.start 28 h)
  have HNX : Hid (∀ W, Below w1.heap.size w1 W → BxCp w W w.heap.size p dn en iv jv kv il jl kl) := Lib.hid (fun W hb => HX.out.next hb)
  have hd24 := hc.d24
  have HI : Hid (∀ W, Below w1.heap.size w1 W → Calls Tryd.prog 46 #[.int .i64 p, iv, .int .i64 (dn : Int), jv] W (BB (ExAt p dn en il jl) W)) := Lib.hid (fun W hb => l05Meet_any p dn en iv jv il jl W hc.1 (HNX.out W hb).cx.fi (HNX.out W hb).cx.fj hc.2.2.2.1.2 hc.2.2.2.2.1.2 hc.lj (by omega) (by omega) (by have := hc.li; omega))
  have HJ : Hid (∀ W, Below w1.heap.size w1 W → Calls Tryd.prog 46 #[.int .i64 p, jv, .int .i64 (en : Int), kv] W (BB (ExAt p en dn jl kl) W)) := Lib.hid (fun W hb => l05Meet_any p en dn jv kv jl kl W hc.1 (HNX.out W hb).cx.fj (HNX.out W hb).cx.fk hc.2.2.2.2.1.2 hc.2.2.2.2.2.2 hc.lk (by omega) (by omega) (by have := hc.lj; omega))
  have HK : Hid (∀ W, Below w1.heap.size w1 W → Calls Tryd.prog 46 #[.int .i64 p, kv, .int .i64 (dn : Int), iv] W (BB (ExAt p dn dn kl il) W)) := Lib.hid (fun W hb => l05Meet_any p dn dn kv iv kl il W hc.1 (HNX.out W hb).cx.fk (HNX.out W hb).cx.fi hc.2.2.2.2.2.2 hc.2.2.2.1.2 hc.li (by omega) (by omega) (by have := hc.lk; omega))
  obtain ⟨⟨ai, ci, rfl⟩, ⟨aj, cj, rfl⟩, ⟨ak, ck, rfl⟩⟩ := HX.out.cx.shapes
  clear h hc
  have c0 := HX.out.c0
  have c1 := HX.out.c1
  have c2 := HX.out.c2
  have c3 := HX.out.c3
  have c4 := HX.out.c4
  have c5 := HX.out.c5
  go_enter Tryd.func25, Tryd.ntmps25
  go_upto_region 1 with fail
  rw [← hw1]
  clear hw1
  go_wp2_with fail
  refine (HI.out w1 (Below.refl _ _)).mono ?_
  rintro ee w2 ⟨b0, rfl, hb, hbb⟩
  have HB2 := Lib.hid hb
  have H0 := Lib.hid hbb
  clear hb hbb c0 c1 c2 c3 c4 c5
  have c0 := (HNX.out _ HB2.out).c0
  have c1 := (HNX.out _ HB2.out).c1
  have c2 := (HNX.out _ HB2.out).c2
  have c3 := (HNX.out _ HB2.out).c3
  have c4 := (HNX.out _ HB2.out).c4
  have c5 := (HNX.out _ HB2.out).c5
  cases b0 with
  | false =>
    go_wp2
    go_ret
    exact bb_false (HNX.out _ HB2.out).below (fun h => absurd (H0.out.2 h.1) (by simp))
  | true =>
    go_wp2_with fail
    refine (HJ.out w2 HB2.out).mono ?_
    rintro ee w3 ⟨b1, rfl, hb, hbb⟩
    have HB3 := Lib.hid (HB2.out.trans (hb.mono HB2.out.size))
    have H1 := Lib.hid hbb
    clear hb hbb c0 c1 c2 c3 c4 c5
    have c0 := (HNX.out _ HB3.out).c0
    have c1 := (HNX.out _ HB3.out).c1
    have c2 := (HNX.out _ HB3.out).c2
    have c3 := (HNX.out _ HB3.out).c3
    have c4 := (HNX.out _ HB3.out).c4
    have c5 := (HNX.out _ HB3.out).c5
    cases b1 with
    | false =>
      go_wp2
      go_ret
      exact bb_false (HNX.out _ HB3.out).below (fun h => absurd (H1.out.2 h.2.1) (by simp))
    | true =>
      go_wp2_with fail
      refine (HK.out w3 HB3.out).mono ?_
      rintro ee w4 ⟨b2, rfl, hb, hbb⟩
      have HB4 := Lib.hid (HB3.out.trans (hb.mono HB3.out.size))
      have H2 := Lib.hid hbb
      clear hb hbb c0 c1 c2 c3 c4 c5
      go_wp2
      go_ret
      exact ⟨b2, rfl, (HNX.out _ HB4.out).below, fun h => ⟨H0.out.1 (by simp), H1.out.1 (by simp), H2.out.1 h⟩, fun h => H2.out.2 h.2.2⟩

set_option maxHeartbeats 3200000 in
set_option maxRecDepth 100000 in
theorem spIsExact_any (p d e : Int) (iv jv kv : Value) (il jl kl : List (List Int)) (w : World) (h : Cp 0 w iv jv kv il jl kl) (hm : CpB 1048576 il jl kl) :
    Calls Tryd.prog 8 #[.agg #[.int .i64 p, .int .i64 d, .int .i64 e, iv, jv, kv]] w (VrBC (ExS p d e il jl kl) w) := by
  obtain ⟨w1, hw1⟩ : ∃ w1, w1 = w.alloc (.cells #[.int .i64 p, .int .i64 d, .int .i64 e, iv, jv, kv] 28) := ⟨_, rfl⟩
  have HX : Hid (BxCp w w1 w.heap.size p d e iv jv kv il jl kl) := Lib.hid (by rw [hw1]; exact BxCp.start 28 h)
  have HM := Lib.hid hm
  obtain ⟨⟨ai, ci, rfl⟩, ⟨aj, cj, rfl⟩, ⟨ak, ck, rfl⟩⟩ := HX.out.cx.shapes
  clear h hm
  have c0 := HX.out.c0
  have c1 := HX.out.c1
  have c2 := HX.out.c2
  have c3 := HX.out.c3
  have c4 := HX.out.c4
  have c5 := HX.out.c5
  go_enter Tryd.func8, Tryd.ntmps8
  go_upto_region 1 with fail
  rw [← hw1]
  clear hw1
  go_wp2_with fail
  refine (l05Is_any p d e _ _ _ il jl kl w1 HX.out.cx HM.out).mono ?_
  rintro ee w2 ⟨b, rfl, hb, hbb⟩
  have HX2 := Lib.hid (HX.out.next hb)
  clear hb c0 c1 c2 c3 c4 c5
  by_cases hc : IsCp p d e il jl kl
  · obtain rfl : b = true := hbb.2 hc
    have HC := Lib.hid hc
    obtain ⟨dn, hdn⟩ := Int.eq_ofNat_of_zero_le hc.2.1.1
    obtain ⟨en, hen⟩ := Int.eq_ofNat_of_zero_le hc.2.2.1.1
    clear hbb hc
    subst hdn hen
    have HK := Lib.hid (l05Exact_any p dn en _ _ _ il jl kl w2 HX2.out.cx HC.out)
    have c0 := HX2.out.c0
    have c1 := HX2.out.c1
    have c2 := HX2.out.c2
    have c3 := HX2.out.c3
    have c4 := HX2.out.c4
    have c5 := HX2.out.c5
    go_wp2_with fail
    refine HK.out.mono ?_
    rintro ee w3 ⟨bb, rfl, hb3, hbb⟩
    have HX3 := Lib.hid (HX2.out.next hb3)
    have HBB := Lib.hid hbb
    clear HK hb3 hbb c0 c1 c2 c3 c4 c5
    cases bb with
    | true =>
      go_wp2
      go_ret2
      exact ⟨true, 0, rfl, HX3.out.below, (cpCode_yes HC.out).symm, fun _ => ⟨HC.out, HBB.out.1 (by simp)⟩, fun _ => rfl⟩
    | false =>
      go_wp2
      go_ret2
      exact ⟨false, 0, rfl, HX3.out.below, (cpCode_yes HC.out).symm, (fun h => absurd h (by decide)), fun h => HBB.out.2 h.2⟩
  · obtain rfl : b = false := bb_no hbb hc
    have HC := Lib.hid hc
    clear hbb hc
    go_wp2
    go_ret2
    exact ⟨false, 1, rfl, HX2.out.below, (cpCode_no HC.out).symm, (fun h => absurd h (by decide)), fun h => absurd h.1 HC.out⟩

end Go.Proofs.YtaojiojldljhlaaDoor


namespace Go.Proofs.YtaojiojldljhlaaDoor
open Go.RowKit

set_option maxHeartbeats 12800000 in
set_option maxRecDepth 100000 in
theorem lawIxl_any (p0 d0 e0 : Int) (iv0 jv0 kv0 : Value) (il0 : List (List Int)) (jl0 : List (List Int)) (kl0 : List (List Int)) (w : World) (h0 : Cp 0 w iv0 jv0 kv0 il0 jl0 kl0) (hml0 : CpB 9223372036854775807 il0 jl0 kl0) {pvg : Value} (hgl : w.cell? ⟨0, 0, none⟩ = some (.iface 111 pvg)) :
    Calls Tryd.prog 3 #[.agg #[.int .i64 p0, .int .i64 d0, .int .i64 e0, iv0, jv0, kv0]] w (BR (.bool true) w) := by
  obtain ⟨W0, hW0⟩ : ∃ W0, W0 = (w.alloc (.cells #[.int .i64 p0, .int .i64 d0, .int .i64 e0, iv0, jv0, kv0] 24)) := ⟨_, rfl⟩
  have HS0 : Hid (W0.heap.size = w.heap.size + 1) := Lib.hid (by rw [hW0]; simp)
  have HZ0 : Hid (Below w.heap.size w W0) := Lib.hid (by rw [hW0]; exact below_alloc1 _ _)
  have HK0 : Hid (BxCp w W0 (w.heap.size) p0 d0 e0 iv0 jv0 kv0 il0 jl0 kl0) := Lib.hid (by rw [hW0]; exact BxCp.start _ h0)
  have HN0 : Hid (∀ W, Below (w.heap.size + 1) W0 W → BxCp w W (w.heap.size) p0 d0 e0 iv0 jv0 kv0 il0 jl0 kl0) := Lib.hid (fun W hb => HK0.out.next (by rw [HS0.out]; exact hb))
  have HNW : Hid (∀ W, Below (w.heap.size + 1) W0 W → Below w.heap.size w W) := Lib.hid (fun W hb => HZ0.out.trans (hb.mono (by omega)))
  have HB : Hid (Below (w.heap.size + 1) W0 W0) := Lib.hid (Below.refl _ _)
  have hs0 : w.heap.size + 1 ≤ W0.heap.size := by have := HS0.out; omega
  have HGL : Hid (∀ W, Below (w.heap.size + 1) W0 W → W.cell? ⟨0, 0, none⟩ = some (.iface 111 pvg)) := Lib.hid (fun W hb => later (HNW.out W hb) (Nat.le_refl _) hgl)
  clear hgl
  have HML0 := Lib.hid hml0
  clear h0 hml0 HK0
  go_enter Tryd.func3, Tryd.ntmps3
  go_upto_region 1 with fail
  rw [← hW0]
  clear hW0
  have c00 := (HN0.out _ HB.out).c0
  have c01 := (HN0.out _ HB.out).c1
  have c02 := (HN0.out _ HB.out).c2
  have c03 := (HN0.out _ HB.out).c3
  have c04 := (HN0.out _ HB.out).c4
  have c05 := (HN0.out _ HB.out).c5
  go_wp2_with fail
  refine (szCouple_any p0 d0 e0 iv0 jv0 kv0 il0 jl0 kl0 1048576 _ (HN0.out _ HB.out).cx (by omega) (by omega) HML0.out).mono ?_
  rintro ee wz0 ⟨sz0, rfl, hb, hpost⟩
  have hsz0 : W0.heap.size ≤ wz0.heap.size := hb.size
  have HB' := Lib.hid (HB.out.trans (hb.mono (by omega)))
  clear c00 c01 c02 c03 c04 c05
  clear hb HB
  have HB := HB'
  clear HB'
  rcases hpost with rfl | ⟨hp00, hp01, hpm0⟩
  · go_wp2
    go_ret
    exact ⟨rfl, HNW.out _ HB.out⟩
  have HMS0 := Lib.hid hpm0
  clear hpm0
  have c00 := (HN0.out _ HB.out).c0
  have c01 := (HN0.out _ HB.out).c1
  have c02 := (HN0.out _ HB.out).c2
  have c03 := (HN0.out _ HB.out).c3
  have c04 := (HN0.out _ HB.out).c4
  have c05 := (HN0.out _ HB.out).c5
  have HQd : Hid (Below wz0.heap.size wz0 wz0) := Lib.hid (Below.refl _ _)
  go_wp2_with fail
  refine (toCouple_any p0 d0 e0 iv0 jv0 kv0 il0 jl0 kl0 _ (HN0.out _ HB.out).cx HMS0.out).mono ?_
  rintro ee wS0 ⟨xiv0_S, xjv0_S, xkv0_S, rfl, hc, hb⟩
  have hsS0 : wz0.heap.size ≤ wS0.heap.size := hb.size
  have HBS0 := Lib.hid (HB.out.trans (hb.mono (by omega)))
  have HQ0 := Lib.hid (HQd.out.trans (hb.mono (by omega)))
  have HXS00 := Lib.hid (hc.zero)
  clear hb hc
  clear c00 c01 c02 c03 c04 c05
  go_wp2_with fail
  refine (spIsExact_any p0 d0 e0 xiv0_S xjv0_S xkv0_S il0 jl0 kl0 _ (HXS00.out) HMS0.out).mono ?_
  rintro ee wSr ⟨gS0, gS1, rfl, hb, hoS⟩
  have hsSr : wS0.heap.size ≤ wSr.heap.size := hb.size
  have HBSr := Lib.hid (HBS0.out.trans (hb.mono (by omega)))
  have HQr := Lib.hid (HQ0.out.trans (hb.mono (by omega)))
  have HOS := Lib.hid hoS
  clear hb hoS
  have hb := HQr.out
  clear HQd HQr HQ0 HXS00 HBS0 HBSr
  have HB' := Lib.hid (HB.out.trans (hb.mono (by omega)))
  clear hb HB
  have HB := HB'
  clear HB'
  have c00 := (HN0.out _ HB.out).c0
  have c01 := (HN0.out _ HB.out).c1
  have c02 := (HN0.out _ HB.out).c2
  have c03 := (HN0.out _ HB.out).c3
  have c04 := (HN0.out _ HB.out).c4
  have c05 := (HN0.out _ HB.out).c5
  go_wp2_with fail
  refine (toCouplew_any p0 d0 e0 iv0 jv0 kv0 il0 jl0 kl0 _ (HN0.out _ HB.out).cx HMS0.out).mono ?_
  rintro ee wc0 ⟨yiv0, yjv0, ykv0, rfl, hc, hb⟩
  have hsc0 : wSr.heap.size ≤ wc0.heap.size := hb.size
  clear c00 c01 c02 c03 c04 c05
  have HB' := Lib.hid (HB.out.trans (hb.mono (by omega)))
  clear hb HB
  have HB := HB'
  clear HB'
  have HC0 := Lib.hid hc
  obtain ⟨⟨ya0i, yc0i, rfl⟩, ⟨ya0j, yc0j, rfl⟩, ⟨ya0k, yc0k, rfl⟩⟩ := hc.cx.shapes
  clear hc
  obtain ⟨wb0, hwb⟩ : ∃ wb0, wb0 = wc0.alloc (.cells #[.int .i64 p0, .int .i64 d0, .int .i64 e0, .slice ya0i il0.length yc0i, .slice ya0j jl0.length yc0j, .slice ya0k kl0.length yc0k] 28) := ⟨_, rfl⟩
  have hb : Below wc0.heap.size wc0 wb0 := by rw [hwb]; exact below_alloc1 _ _
  have hsb0 : wc0.heap.size + 1 = wb0.heap.size := by rw [hwb]; simp
  have hsB0 : wc0.heap.size ≤ wb0.heap.size := by omega
  have HY0 : Hid (BqCp wb0 wc0.heap.size p0 d0 e0 (.slice ya0i il0.length yc0i) (.slice ya0j jl0.length yc0j) (.slice ya0k kl0.length yc0k) il0 jl0 kl0) := Lib.hid (by rw [hwb]; exact (BxCp.start _ HC0.out.cx.zero).bq)
  have HB' := Lib.hid (HB.out.trans (hb.mono (by omega)))
  have HC0' := Lib.hid (HC0.out.same (Same.of_below hb (by omega)))
  clear hb HB HC0
  have HB := HB'
  have HC0 := HC0'
  clear HB' HC0'
  go_upto_region 7 with fail
  rw [← hwb]
  clear hwb
  have d00 := HY0.out.c0
  have d01 := HY0.out.c1
  have d02 := HY0.out.c2
  have d03 := HY0.out.c3
  have d04 := HY0.out.c4
  have d05 := HY0.out.c5
  go_wp2_with fail
  refine (isExact_any p0 d0 e0 _ _ _ il0 jl0 kl0 _ (HC0.out.cx.zero) HMS0.out (HGL.out _ HB.out)).mono ?_
  rintro ee w7 ⟨gI0, gI1, rfl, hb, hoI⟩
  obtain ⟨rfl, rfl⟩ := ExS.unique HOS.out hoI
  have hs7 : wb0.heap.size ≤ w7.heap.size := hb.size
  clear d00 d01 d02 d03 d04 d05
  have HB' := Lib.hid (HB.out.trans (hb.mono (by omega)))
  have HC0' := Lib.hid (HC0.out.same (Same.of_below hb (by omega)))
  have HY0' := Lib.hid (HY0.out.next hb)
  clear hb HB HC0 HY0
  have HB := HB'
  have HC0 := HC0'
  have HY0 := HY0'
  clear HB' HC0' HY0'
  clear hoI HOS
  have hcode0 : (gS0 != gS0) = false := by simp
  have hcode1 : (gS1 != gS1) = false := by simp
  have hcodf0 : (gS0 == gS0) = true := by simp
  have hcodf1 : (gS1 == gS1) = true := by simp
  have c00 := (HN0.out _ HB.out).c0
  have c01 := (HN0.out _ HB.out).c1
  have c02 := (HN0.out _ HB.out).c2
  have c03 := (HN0.out _ HB.out).c3
  have c04 := (HN0.out _ HB.out).c4
  have c05 := (HN0.out _ HB.out).c5
  have d00 := HY0.out.c0
  have d01 := HY0.out.c1
  have d02 := HY0.out.c2
  have d03 := HY0.out.c3
  have d04 := HY0.out.c4
  have d05 := HY0.out.c5
  have HCX := Lib.hid (((HN0.out _ HB.out).cx).drew)
  have HCC := Lib.hid ((HY0.out.cx).drew)
  go_wp2_with fail
  go_region_held3 (fun w' => w'.cell? ⟨w.heap.size, 0, none⟩ = some (.int .i64 p0) ∧ w'.cell? ⟨w.heap.size, 1, none⟩ = some (.int .i64 d0) ∧ w'.cell? ⟨w.heap.size, 2, none⟩ = some (.int .i64 e0) ∧ w'.cell? ⟨w.heap.size, 3, none⟩ = some (iv0) ∧ w'.cell? ⟨w.heap.size, 4, none⟩ = some (jv0) ∧ w'.cell? ⟨w.heap.size, 5, none⟩ = some (kv0) ∧ w'.cell? ⟨wc0.heap.size, 0, none⟩ = some (.int .i64 p0) ∧ w'.cell? ⟨wc0.heap.size, 1, none⟩ = some (.int .i64 d0) ∧ w'.cell? ⟨wc0.heap.size, 2, none⟩ = some (.int .i64 e0) ∧ w'.cell? ⟨wc0.heap.size, 3, none⟩ = some (.slice ya0i il0.length yc0i) ∧ w'.cell? ⟨wc0.heap.size, 4, none⟩ = some (.slice ya0j jl0.length yc0j) ∧ w'.cell? ⟨wc0.heap.size, 5, none⟩ = some (.slice ya0k kl0.length yc0k))
    (first | exact ⟨c00, c01, c02, c03, c04, c05, d00, d01, d02, d03, d04, d05⟩ | exact HS9.out | exact HSA.out | go_keep)
    (first
      | (go_at_call 9; refine (toCouple_any p0 d0 e0 iv0 jv0 kv0 il0 jl0 kl0 _ HCX.out HMS0.out).mono ?_; rintro ee w9 ⟨ziv09, zjv09, zkv09, rfl, hcx9, hb9⟩; have HS9 := Lib.hid (And.intro (later hb9 (Nat.le_refl _) c00) (And.intro (later hb9 (Nat.le_refl _) c01) (And.intro (later hb9 (Nat.le_refl _) c02) (And.intro (later hb9 (Nat.le_refl _) c03) (And.intro (later hb9 (Nat.le_refl _) c04) (And.intro (later hb9 (Nat.le_refl _) c05) (And.intro (later hb9 (Nat.le_refl _) d00) (And.intro (later hb9 (Nat.le_refl _) d01) (And.intro (later hb9 (Nat.le_refl _) d02) (And.intro (later hb9 (Nat.le_refl _) d03) (And.intro (later hb9 (Nat.le_refl _) d04) (later hb9 (Nat.le_refl _) d05)))))))))))); have HX9 := Lib.hid (And.intro hcx9 (And.intro (HCC.out.below hb9) (Below.trans ((Below.refl w7.heap.size w7).drew) hb9))); clear hcx9 hb9)
      | (go_at_call 11; refine (eqCouple_true p0 d0 e0 _ _ _ ziv09 zjv09 zkv09 il0 jl0 kl0 _ HX9.out.2.1 HX9.out.1.zero HMS0.out).mono ?_; rintro ee wA0 ⟨rfl, hbA⟩; have HSA := Lib.hid (And.intro (later hbA (Nat.le_refl _) (HS9.out.1)) (And.intro (later hbA (Nat.le_refl _) (HS9.out.2.1)) (And.intro (later hbA (Nat.le_refl _) (HS9.out.2.2.1)) (And.intro (later hbA (Nat.le_refl _) (HS9.out.2.2.2.1)) (And.intro (later hbA (Nat.le_refl _) (HS9.out.2.2.2.2.1)) (And.intro (later hbA (Nat.le_refl _) (HS9.out.2.2.2.2.2.1)) (And.intro (later hbA (Nat.le_refl _) (HS9.out.2.2.2.2.2.2.1)) (And.intro (later hbA (Nat.le_refl _) (HS9.out.2.2.2.2.2.2.2.1)) (And.intro (later hbA (Nat.le_refl _) (HS9.out.2.2.2.2.2.2.2.2.1)) (And.intro (later hbA (Nat.le_refl _) (HS9.out.2.2.2.2.2.2.2.2.2.1)) (And.intro (later hbA (Nat.le_refl _) (HS9.out.2.2.2.2.2.2.2.2.2.2.1)) (later hbA (Nat.le_refl _) (HS9.out.2.2.2.2.2.2.2.2.2.2.2))))))))))))); have HXA := Lib.hid (Below.trans HX9.out.2.2 (hbA.mono HX9.out.2.2.size)); clear hbA))
  have hsa0 : w7.heap.size ≤ wA0.heap.size := HXA.out.size
  have hb := HXA.out
  clear c00 c01 c02 c03 c04 c05
  clear d00 d01 d02 d03 d04 d05
  clear HXA HSA HS9 HX9 HCX HCC
  have HB' := Lib.hid (HB.out.trans (hb.mono (by omega)))
  have HC0' := Lib.hid (HC0.out.same (Same.of_below hb (by omega)))
  have HY0' := Lib.hid (HY0.out.next hb)
  clear hb HB HC0 HY0
  have HB := HB'
  have HC0 := HC0'
  have HY0 := HY0'
  clear HB' HC0' HY0'
  go_wp2
  go_ret
  exact ⟨rfl, HNW.out _ HB.out⟩
end Go.Proofs.YtaojiojldljhlaaDoor


namespace Go.Proofs.YtaojiojldljhlaaDoor
open Go.ChangeShapes Go.WideShapes Go.ChangeAt Go.RowKit

theorem dor_g : Tryd.prog.globalNamed "loop.example/g01273/impl.errNotExact" = some 0 := by kernel_rfl
theorem dor_gt : (Tryd.prog.globals[0]?).map (·.type) = some 66 := by kernel_rfl
theorem dor_star : "*" ++ "errors.errorString" = "*errors.errorString" := by decide
theorem dor_row (u : TypeId) (h : Tryd.prog.typeName? 3 u = some "*errors.errorString") : u = 111 :=
  typeName_ptr_named (nm := "errors.errorString") (by rw [dor_star]; kernel_rfl) (by kernel_rfl) (by decide) u (by rw [dor_star]; exact h)
theorem dor_ce : Tryd.prog.cellsOf 129 = 1 := by kernel_rfl
theorem dor_cs : Tryd.prog.cellsOf 9 = 1 := by kernel_rfl
abbrev dorLaid : List (String × DataW Unit) := [("loop.example/g01273/impl.errNotExact", .iface "*errors.errorString" (.ptr (.agg [.lit (.string [97, 32, 99, 111, 117, 112, 108, 101, 32, 105, 115, 32, 110, 111, 116, 32, 101, 120, 97, 99, 116])])))]
theorem dor_open {W : World} (h : laidMet Tryd.prog dorLaid W) : ∃ a : Addr, W.var? Tryd.prog "loop.example/g01273/impl.errNotExact" = some #[.iface 111 (.pointer (some a))] := by
  obtain ⟨a, s, hv, _⟩ := laid_sentinel h dor_g dor_gt Tryd.underlying66 dor_row Tryd.underlying111 Tryd.underlying129 rfl rfl Tryd.underlying9 dor_ce dor_cs
  exact ⟨a, hv⟩
theorem dor_cell {W : World} {x : Value} (h : W.var? Tryd.prog "loop.example/g01273/impl.errNotExact" = some #[x]) : W.cell? ⟨0, 0, none⟩ = some x := by simpa using World.var?_cell dor_g h 0
theorem dor_below {W W' : World} {n : String} {cs : Array Value} (hb : Below W.heap.size W W') (h : W.var? Tryd.prog n = some cs) : W'.var? Tryd.prog n = some cs := by
  unfold World.var? at h ⊢
  cases hg : Tryd.prog.globalNamed n with
  | none => simp [hg] at h
  | some g =>
    simp only [hg, Option.bind_some] at h ⊢
    have hlt : g < W.heap.size := by
      rcases Nat.lt_or_ge g W.heap.size with h' | h'
      · exact h'
      · simp [Array.getElem?_eq_none h'] at h
    rw [hb.block g hlt]
    exact h
theorem dor_vars {H : Type} (enc : TypeId × Value → H) {W : World} {x : Value} (h : W.var? Tryd.prog "loop.example/g01273/impl.errNotExact" = some #[x]) (ix : IsIface x) (sp : Nat → Bool) :
    DataW.TrodVars enc Tryd.prog W sp ["loop.example/g01273/impl.errNotExact"] [tok enc x] [.cell 0 0] :=
  vars_read1 enc dor_g dor_gt Tryd.underlying66 h ix sp

abbrev dorText : ByteArray := { data := #[97, 32, 99, 111, 117, 112, 108, 101, 32, 105, 115, 32, 110, 111, 116, 32, 101, 120, 97, 99, 116] }
noncomputable def dorLow : Nat := (World.holding Tryd.prog default ⟨#[], #[], []⟩).heap.size
noncomputable def dorWorld (os : Os) : World :=
  let w0 := World.holding Tryd.prog os ⟨#[.cells #[.string dorText] 129], #[], []⟩
  { w0 with heap := w0.heap.modify 0 fun
      | .cells _ t frozen => .cells #[.iface 111 (.pointer (some ⟨dorLow, 0, none⟩))] t frozen
      | o => o }
theorem dor_met (os : Os) (args : Array Value) : laidMet Tryd.prog dorLaid ((dorWorld os).forCall (fun _ _ => 0) ⟨#[], args, []⟩).memory :=
  laidMet_of_run (ps := [.cell 0 0, .cell dorLow 0]) 8 (by kernel_rfl) (by kernel_rfl) (by kernel_rfl)
end Go.Proofs.YtaojiojldljhlaaDoor

