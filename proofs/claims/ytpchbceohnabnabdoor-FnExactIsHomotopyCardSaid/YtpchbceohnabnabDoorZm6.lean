/-
  Texts that ProofHml needs, part 6.
-/
import Derived.Test.YtpchbceohnabnabDoorZm5
import Derived.Test.YtpchbceohnabnabDoorRows
import Derived.ProofKit
import Derived.OpenShut
import Derived.ChangeOld
import Derived.Deep.Slices
import Derived.Lib.SmallJoins
import Derived.KernelRfl
import Derived.Carry
import Derived.Deep.RegionWith
import Derived.Deep.RegionHeld3
import Derived.BigRegion
import Derived.BigQuiet
import Derived.Deep.QuietTactic
import Derived.Test.YtpchbceohnabnabDoorCards
import Derived.Test.YtpchbceohnabnabDoorTie
import Derived.WalkKit
import Derived.Deep.DeepHandedRow
import Derived.Stop.LaidErr
import Derived.RowKitTokens
namespace Go.Proofs.YtpchbceohnabnabDoor
open Go.ChangeShapes Go.WideShapes Go.ChangeAt Go.RowKit Go.Deep

theorem Tryd.own : ownKnob Tryd.prog.godebug = none := by kernel_rfl
theorem Tryd.laidOut : laidOutB Tryd.prog = true := by kernel_rfl
theorem Tryd.cellsI : Tryd.prog.cellsOf 2 = 1 := by kernel_rfl
theorem Tryd.cellsS : Tryd.prog.cellsOf 22 = 1 := by kernel_rfl
theorem Tryd.cellsSS : Tryd.prog.cellsOf 48 = 1 := by kernel_rfl
theorem Tryd.cellsC : Tryd.prog.cellsOf 25 = 3 := by kernel_rfl

section
variable {H : Type} {enc : TypeId × Value → H} {P : Program} {w : World} {base : Nat} {held : Bool}

theorem sl_of_trod {α : Type} [Inhabited α] {t e : TypeId} (ht : P.underlying t = some (.slice e)) (hc : P.cellsOf e = 1) {R : World → Value → α → Prop} {B : α → Prop}
    (hR : ∀ fuel v x, DataW.trod enc P w base (fun _ => true) held fuel e [v] = some x → ∃ a, R w v a ∧ B a) {fuel : Nat} {v : Value} {x : DataW H × List MemPlace}
    (h : DataW.trod enc P w base (fun _ => true) held fuel t [v] = some x) : ∃ xs : List α, Sl 0 R w v xs ∧ xs.length ≤ 9223372036854775807 ∧ ∀ a ∈ xs, B a := by
  rcases open_slice1 ht hc h with ⟨hcs, _⟩ | ⟨a, len, cap, m, n, V, D, Pl, hcs, _, hl, hm, hmm, _, hx⟩
  · obtain rfl : v = .slice none 0 0 := by simpa using hcs
    exact ⟨[], Or.inl ⟨rfl, _, _, rfl⟩, by simp, by simp⟩
  · obtain rfl : v = .slice (some a) len cap := by simpa using hcs
    simp only [if_true] at hmm
    have each : ∀ i, i < len → ∃ y : α, R w (V i) y ∧ B y := fun i hi => hR n _ _ (hx i (by omega)).2
    obtain ⟨f, hf⟩ := choose_lt each
    refine ⟨(List.range len).map f, ?_, by simpa [maxLen] using Nat.le_trans hl hm, fun y hy => ?_⟩
    · by_cases h0 : len = 0
      · subst h0
        exact Or.inl ⟨rfl, _, _, rfl⟩
      · obtain ⟨b, off, spot⟩ := a
        have hspot : spot = none := by simpa [Addr.add] using World.cell?_spot (hx 0 (by omega)).1
        subst hspot
        refine Or.inr ⟨b, off, cap, by simp, Nat.zero_le _, by simp; omega, fun k hk => ?_⟩
        have hk' : k < len := by simpa using hk
        refine ⟨V k, by rw [← Go.WideShapes.add_plain]; exact (hx k (by omega)).1, ?_⟩
        simp only [List.getElem_map, List.getElem_range]
        exact (hf k hk').1
    · obtain ⟨i, hi, rfl⟩ := List.mem_map.1 hy
      exact (hf i (by simpa using hi)).2
end

section
variable {H : Type} {enc : TypeId × Value → H} {w : World} {base : Nat} {held : Bool}
theorem l1_of_trod {fuel : Nat} {v : Value} {x : DataW H × List MemPlace} (h : DataW.trod enc Tryd.prog w base (fun _ => true) held fuel 22 [v] = some x) : ∃ xs, L1 0 w v xs ∧ Bd1 9223372036854775807 xs := by
  obtain ⟨xs, h1, h2, _⟩ := sl_of_trod (R := IsI) (B := fun _ => True) Tryd.underlying22 Tryd.cellsI (fun fuel v x hh => by
    obtain ⟨a, e0, _, _⟩ := DataW.trod_int Tryd.underlying2 hh
    exact ⟨a, by simpa [IsI] using e0, trivial⟩) h
  exact ⟨xs, h1, h2⟩
theorem l2_of_trod {fuel : Nat} {v : Value} {x : DataW H × List MemPlace} (h : DataW.trod enc Tryd.prog w base (fun _ => true) held fuel 48 [v] = some x) : ∃ xs, L2 0 w v xs ∧ Bd2 9223372036854775807 xs := by
  obtain ⟨xs, h1, h2, h3⟩ := sl_of_trod (R := L1 0) (B := Bd1 9223372036854775807) Tryd.underlying48 Tryd.cellsS (fun fuel v x hh => l1_of_trod hh) h
  exact ⟨xs, h1, h2, h3⟩
theorem l3_of_trod {fuel : Nat} {v : Value} {x : DataW H × List MemPlace} (h : DataW.trod enc Tryd.prog w base (fun _ => true) held fuel 23 [v] = some x) : ∃ xs, L3 0 w v xs ∧ Bd3 9223372036854775807 xs := by
  obtain ⟨xs, h1, h2, h3⟩ := sl_of_trod (R := L2 0) (B := Bd2 9223372036854775807) Tryd.underlying23 Tryd.cellsSS (fun fuel v x hh => l2_of_trod hh) h
  exact ⟨xs, h1, h2, h3⟩

set_option maxRecDepth 100000 in
theorem complex_of_trod {r : Reach} {b0 : Nat} {v : Value} {d : DataW H} {p : List MemPlace} (hv : Value.okWide Tryd.prog w r b0 25 v) (h : DataW.Trod enc Tryd.prog w base (fun _ => true) held 25 v d p) :
    ∃ (q : Int) (dv mv : Value) (ds : List Int) (ms : List (List (List Int))), v = .agg #[.int .i64 q, dv, mv] ∧ Cx 0 w dv mv ds ms ∧ ds.length ≤ 9223372036854775807 ∧ Bd3 9223372036854775807 ms := by
  obtain ⟨v0, v1, v2, y0, y1, y2, m, rfl, rfl, rfl, h0, h1, h2⟩ := Go.Joins.open_agg3 Tryd.underlying25 (by kernel_rfl) Tryd.cellsC hv h
  obtain ⟨q, e0, _, _⟩ := DataW.trod_int Tryd.underlying2 h0
  obtain ⟨ds, hd1, hd2⟩ := l1_of_trod h1
  obtain ⟨ms, hm1, hm2⟩ := l3_of_trod h2
  obtain rfl : v0 = .int .i64 q := by simpa using e0
  unfold Bd1 at hd2
  refine ⟨q, v1, v2, ds, ms, rfl, ⟨hd1, hm1⟩, ?_, ?_⟩
  · exact hd2
  · exact hm2
end
end Go.Proofs.YtpchbceohnabnabDoor

namespace Go.Proofs.YtpchbceohnabnabDoor

section
variable {P : Program} {rk : Nat → Nat}
theorem closureVia_le {B : Nat} (h : ∀ g, ∀ x ∈ ((P.funcs[g]?).elim [] P.leadsTo), rk x ≤ rk g) : ∀ (fuel : Nat) (todo seen : List FuncId), (∀ x ∈ todo, rk x ≤ B) → (∀ x ∈ seen, rk x ≤ B) → ∀ x ∈ P.closureVia fuel todo seen, rk x ≤ B := by
  intro fuel
  induction fuel with
  | zero => intro todo seen _ h2 x hx; exact h2 x (by simpa [Program.closureVia] using hx)
  | succ n ih =>
    intro todo seen h1 h2 x hx
    cases todo with
    | nil => exact h2 x (by simpa [Program.closureVia] using hx)
    | cons f todo =>
      rw [Program.closureVia] at hx
      have hf := h1 f (List.mem_cons_self ..)
      split at hx
      · exact ih todo seen (fun y hy => h1 y (List.mem_cons_of_mem _ hy)) h2 x hx
      · refine ih _ _ (fun y hy => ?_) (fun y hy => ?_) x hx
        · rcases List.mem_append.1 hy with hy | hy
          · exact Nat.le_trans (h f y hy) hf
          · exact h1 y (List.mem_cons_of_mem _ hy)
        · rcases List.mem_cons.1 hy with rfl | hy
          · exact hf
          · exact h2 y hy
theorem recurses_false {B : Nat} (hle : ∀ g, ∀ x ∈ ((P.funcs[g]?).elim [] P.leadsTo), rk x ≤ rk g) (hlt : ∀ g, rk g < B → ∀ x ∈ ((P.funcs[g]?).elim [] P.leadsTo), rk x < rk g) {f : FuncId} (hf : rk f < B) (hu : P.unfollowed f = false) : P.recurses f = false := by
  unfold Program.recurses
  rw [hu, Bool.false_or, List.any_eq_false]
  intro g hg
  have h0 := closureVia_le (P := P) (rk := rk) (B := rk f) hle _ [f] [] (by simp) (by simp) g hg
  rw [List.any_eq_true]
  rintro ⟨x, hx, hc⟩
  have h1 := closureVia_le (P := P) (rk := rk) (B := rk x) hle _ [x] [] (by simp) (by simp) g (by
    have := List.contains_iff_mem.1 hc
    exact this)
  have h2 := hlt g (by omega) x hx
  omega
/-- The order told by a list. -/
def ranksOk (P : Program) (l : List Nat) : Bool := (List.range P.funcs.size).all fun g => ((P.funcs[g]?).elim [] P.leadsTo).all fun x => decide (l.getD x 0 < l.getD g 0) || (decide (99999 ≤ l.getD g 0) && decide (l.getD x 0 ≤ l.getD g 0))
theorem ranks_le {l : List Nat} (h : ranksOk P l = true) : ∀ g, ∀ x ∈ ((P.funcs[g]?).elim [] P.leadsTo), l.getD x 0 ≤ l.getD g 0 ∧ (l.getD g 0 < 99999 → l.getD x 0 < l.getD g 0) := by
  intro g x hx
  by_cases hg : g < P.funcs.size
  · have h1 := List.all_eq_true.1 h g (List.mem_range.2 hg)
    have h2 := List.all_eq_true.1 h1 x hx
    rcases Bool.or_eq_true_iff.1 h2 with h3 | h3
    · have := of_decide_eq_true h3
      exact ⟨by omega, fun _ => this⟩
    · obtain ⟨h4, h5⟩ := Bool.and_eq_true_iff.1 h3
      have := of_decide_eq_true h4
      exact ⟨of_decide_eq_true h5, fun _ => by omega⟩
  · rw [Array.getElem?_eq_none (by omega)] at hx
    cases hx
end
def Tryd.ranks : List Nat := [0, 0, 1, 9, 10, 11, 11, 9, 11, 3, 2, 5, 3, 2, 8, 3, 2, 6, 9, 3, 2, 3, 7, 10, 7, 10, 6, 8, 7, 10, 0, 1, 4, 4, 0, 1, 7, 5, 0, 1, 5, 4, 8, 3, 1, 0, 1, 0, 2, 0, 6, 0, 0, 9, 6, 9, 2, 1, 1, 3, 2, 0, 0, 4, 3, 0, 2, 2, 1, 4, 3, 6, 0, 4, 0, 0, 1, 2, 0, 1, 5, 4, 3, 8, 0, 6, 6, 0, 2, 3, 2, 1, 0, 0, 1, 2, 5, 1, 0, 1, 4, 2, 0, 1, 1, 7, 5, 1, 1, 2, 0, 0, 1, 4, 6, 1, 2, 0, 0, 4, 1, 0, 1, 0, 3, 1, 3, 0, 0, 2, 1, 0, 0, 0, 0, 0, 0, 0, 0, 0, 0, 0, 0, 0, 0, 0, 0, 0, 0, 0, 0, 0, 0, 1]
set_option maxRecDepth 100000 in
theorem Tryd.ranked : ranksOk Tryd.checked.prog Tryd.ranks = true := by kernel_rfl
theorem Tryd.recurses {f : FuncId} (hu : Tryd.checked.prog.unfollowed f = false) (hf : Tryd.ranks.getD f 0 < 99999 := by decide) : Tryd.checked.prog.recurses f = false :=
  recurses_false (fun g x hx => (ranks_le Tryd.ranked g x hx).1) (fun g hg x hx => (ranks_le Tryd.ranked g x hx).2 hg) hf hu

/-! The program's head, a line of words: parted once. -/
def sp32 : Char := Char.ofNat 32
theorem ws_sp (r : List Char) : wordsSigns (sp32 :: r) = [] :: wordsSigns r := rfl
theorem ws_cons {c : Char} (h : c ≠ sp32) {r w : List Char} {ws : List (List Char)} (e : wordsSigns r = w :: ws) : wordsSigns (c :: r) = (c :: w) :: ws := by
  rw [wordsSigns.eq_def]
  split
  · rename_i h1; cases h1
  · rename_i h1; injection h1 with h1 _; exact absurd h1 h
  · rename_i h1; injection h1 with h1 h2; subst h1 h2; rw [e]
theorem ws_word (r : List Char) : ∀ w : List Char, (∀ c ∈ w, c ≠ sp32) → wordsSigns (w ++ sp32 :: r) = w :: wordsSigns r := by
  intro w
  induction w with
  | nil => intro _; exact ws_sp r
  | cons c w ih => intro h; exact ws_cons (h c (List.mem_cons_self ..)) (ih fun x hx => h x (List.mem_cons_of_mem _ hx))
theorem ws_last : ∀ w : List Char, (∀ c ∈ w, c ≠ sp32) → wordsSigns w = [w] := by
  intro w
  induction w with
  | nil => intro _; rfl
  | cons c w ih => intro h; exact ws_cons (h c (List.mem_cons_self ..)) (ih fun x hx => h x (List.mem_cons_of_mem _ hx))
def joinWords : List Char → List (List Char) → List Char
  | w, [] => w
  | w, v :: ws => w ++ sp32 :: joinWords v ws
theorem ws_join : ∀ (ws : List (List Char)) (w : List Char), (∀ v ∈ w :: ws, ∀ c ∈ v, c ≠ sp32) → wordsSigns (joinWords w ws) = w :: ws := by
  intro ws
  induction ws with
  | nil => intro w h; exact ws_last w (h w (List.mem_cons_self ..))
  | cons v ws ih => intro w h; rw [joinWords, ws_word _ _ (h w (List.mem_cons_self ..)), ih v (fun x hx => h x (List.mem_cons_of_mem _ hx))]
def Tryd.doorRows : List (List UInt8) := ([[41, 111, 111, 116, 32, 115, 101, 108, 105, 102, 32, 116, 115, 101, 116, 32, 44, 49, 49, 32, 107, 111, 111, 108, 40, 32, 100, 114, 111, 119, 115, 114, 97, 118, 116, 117, 99, 32, 119, 111, 114, 32, 115, 39, 116, 115, 101, 102, 105, 110, 97, 109, 32, 101, 104, 116, 32, 101, 101, 115, 32, 59, 101, 110, 111, 108, 97, 32, 115, 114, 101, 115, 105, 108, 97, 105, 116, 105, 110, 105, 32, 115, 100, 108, 111, 104, 32, 115, 114, 97, 118, 46, 116, 117, 99, 46, 109, 101, 115, 111, 103, 32, 58, 114, 111, 111, 100, 32, 115, 39, 114, 97, 118], [41, 49, 49, 32, 107, 111, 111, 108, 40, 32, 108, 97, 114, 101, 116, 105, 108, 32, 101, 110, 111, 32, 110, 111, 32, 119, 101, 78, 46, 115, 114, 111, 114, 114, 101, 32, 102, 111, 32, 108, 108, 97, 99, 32, 110, 119, 111, 32, 115, 116, 105, 32, 121, 98, 32, 100, 105, 97, 108, 32, 115, 105, 32, 112, 97, 77, 110, 105, 97, 104, 67, 111, 78, 114, 114, 101, 46, 108, 112, 109, 105, 47, 51, 55, 50, 49, 48, 103, 47, 101, 108, 112, 109, 97, 120, 101, 46, 112, 111, 111, 108, 32, 58, 114, 111, 111, 100, 32, 115, 39, 114, 97, 118], [41, 49, 49, 32, 107, 111, 111, 108, 40, 32, 116, 111, 111, 114, 32, 115, 39, 121, 114, 111, 116, 105, 115, 111, 112, 101, 114, 32, 101, 104, 116, 32, 115, 97, 32, 100, 101, 109, 97, 110, 32, 114, 101, 108, 108, 97, 99, 32, 101, 104, 116, 32, 116, 97, 104, 116, 32, 114, 101, 100, 108, 111, 102, 32, 101, 104, 116, 32, 114, 101, 118, 111, 32, 116, 110, 101, 119, 32, 115, 114, 97, 118, 46, 116, 117, 99, 46, 109, 101, 115, 111, 103, 32, 102, 111, 32, 107, 111, 111, 108, 32, 101, 104, 116, 32, 58, 114, 111, 111, 100, 32, 115, 39, 114, 97, 118]] : List (List Nat)).map fun w => w.map UInt8.ofNat
def Tryd.headWords : List (List Char) := ([[99, 55, 101, 53, 48, 101, 54, 100, 55, 97, 53, 57, 54, 97, 57, 52, 48, 102, 57, 97, 49, 100, 57, 101, 55, 100, 52, 97, 51, 101, 51, 49, 50, 52, 52, 49, 48, 50, 97, 53, 49, 55, 54, 48, 54, 99, 55, 49, 48, 52, 48, 48, 53, 100, 52, 100, 97, 97, 53, 48, 99, 97, 56, 50], [99, 117, 116], [97, 116], [108, 111, 111, 112, 46, 101, 120, 97, 109, 112, 108, 101, 47, 103, 48, 49, 50, 55, 51, 47, 108, 97, 119, 115, 46, 70, 110, 69, 120, 97, 99, 116, 73, 115, 67, 104, 97, 105, 110, 77, 97, 112], [108, 111, 111, 112, 46, 101, 120, 97, 109, 112, 108, 101, 47, 103, 48, 49, 50, 55, 51, 47, 108, 97, 119, 115, 46, 70, 110, 69, 120, 97, 99, 116, 67, 111, 110, 101, 79, 102], [108, 111, 111, 112, 46, 101, 120, 97, 109, 112, 108, 101, 47, 103, 48, 49, 50, 55, 51, 47, 108, 97, 119, 115, 46, 70, 110, 69, 120, 97, 99, 116, 73, 110, 100, 117, 99, 101, 100, 82, 97, 110, 107], [108, 111, 111, 112, 46, 101, 120, 97, 109, 112, 108, 101, 47, 103, 48, 49, 50, 55, 51, 47, 108, 97, 119, 115, 46, 70, 110, 69, 120, 97, 99, 116, 73, 115, 81, 117, 97, 115, 105], [108, 111, 111, 112, 46, 101, 120, 97, 109, 112, 108, 101, 47, 103, 48, 49, 50, 55, 51, 47, 108, 97, 119, 115, 46, 70, 110, 69, 120, 97, 99, 116, 73, 115, 72, 111, 109, 111, 116, 111, 112, 121], [108, 111, 111, 112, 46, 101, 120, 97, 109, 112, 108, 101, 47, 103, 48, 49, 50, 55, 51, 47, 108, 97, 119, 115, 46, 70, 110, 69, 120, 97, 99, 116, 65, 114, 101, 72, 111, 109, 111, 116, 111, 112, 105, 99]] : List (List Nat)).map fun w => w.map Char.ofNat
def Tryd.headWord : List Char := ([104, 97, 114, 110, 101, 115, 115] : List Nat).map Char.ofNat
set_option maxRecDepth 100000 in
theorem Tryd.head_eq : Tryd.checked.prog.initOrder = String.ofList (joinWords Tryd.headWord Tryd.headWords) := by kernel_rfl
set_option maxRecDepth 100000 in
theorem Tryd.head_ok : ((Tryd.headWord :: Tryd.headWords).all fun w => w.all fun c => decide (c ≠ sp32)) = true := by kernel_rfl
theorem Tryd.head_words : wordsSigns Tryd.checked.prog.initOrder.toList = Tryd.headWord :: Tryd.headWords := by
  rw [Tryd.head_eq, String.toList_ofList, ws_join]
  intro v hv c hc
  exact of_decide_eq_true (List.all_eq_true.1 (List.all_eq_true.1 Tryd.head_ok v hv) c hc)
/-! For whatever program with such a head: so the kernel does not run this one's. -/
section
variable {Q : Program} (h : wordsSigns Q.initOrder.toList = Tryd.headWord :: Tryd.headWords)
include h
set_option maxRecDepth 100000 in
theorem Tryd.headLifts_of : Q.headLifts = [] := by
  unfold Program.headLifts
  rw [h]
  kernel_rfl
set_option maxRecDepth 100000 in
theorem Tryd.liftsFinal_of : Q.liftsFinal = false := by
  unfold Program.liftsFinal
  rw [h, Tryd.headLifts_of h]
  kernel_rfl
set_option maxRecDepth 100000 in
theorem Tryd.make_of : Q.make = some .cut := by
  unfold Program.make
  rw [h, Tryd.headLifts_of h]
  show _ = some Make.cut
  kernel_rfl
set_option maxRecDepth 100000 in
theorem Tryd.mayEnter_of (h1 : Q.laysLater = false) (h2 : Q.bearsReflect = false) (h3 : Q.doorRows = Tryd.doorRows) : Q.mayEnter = true := by
  unfold Program.mayEnter
  simp only [h, h1, h2, Program.doorFits, h3]
  show _ = true
  kernel_rfl
end
theorem Tryd.mayEnter : Tryd.checked.prog.mayEnter = true := Tryd.mayEnter_of Tryd.head_words (by kernel_rfl) (by kernel_rfl) (by kernel_rfl)
theorem Tryd.liftsFinal : Tryd.checked.prog.liftsFinal = false := Tryd.liftsFinal_of Tryd.head_words
theorem Tryd.make : Tryd.checked.prog.make = some .cut := Tryd.make_of Tryd.head_words
end Go.Proofs.YtpchbceohnabnabDoor


namespace Go.Proofs.YtpchbceohnabnabDoor
open Go.RowKit
section
open Go.ChangeShapes
variable {H : Type} {enc : TypeId × Value → H} {P : Program} {w : World} {base : Nat} {spare : Nat → Bool} {held : Bool}
theorem trodAll_five {t0 t1 t2 t3 t4 : TypeId} {args : Array Value} {ds : List (DataW H)} {ps : List MemPlace} (h : DataW.TrodAll enc P w base spare held [t0, t1, t2, t3, t4] args.toList ds ps) :
    ∃ v0 v1 v2 v3 v4 d0 d1 d2 d3 d4 p0 p1 p2 p3 p4, args = #[v0, v1, v2, v3, v4] ∧ ds = [d0, d1, d2, d3, d4] ∧ ps = p0 ++ p1 ++ p2 ++ p3 ++ p4 ∧ DataW.Trod enc P w base spare held t0 v0 d0 p0 ∧ DataW.Trod enc P w base spare held t1 v1 d1 p1 ∧ DataW.Trod enc P w base spare held t2 v2 d2 p2 ∧ DataW.Trod enc P w base spare held t3 v3 d3 p3 ∧ DataW.Trod enc P w base spare held t4 v4 d4 p4 := by
  obtain ⟨v0, vs, d0, es, p0, q, hargs, rfl, rfl, h0, hr⟩ := trodAll_cons h
  obtain ⟨v1, v2, v3, v4, d1, d2, d3, d4, p1, p2, p3, p4, hv, rfl, rfl, h1, h2, h3, h4⟩ := trodAll_four (args := vs.toArray) (by simpa using hr)
  have hv' : vs = [v1, v2, v3, v4] := by simpa using congrArg Array.toList hv
  subst hv'
  exact ⟨v0, v1, v2, v3, v4, d0, d1, d2, d3, d4, p0, p1, p2, p3, p4, by cases args; simp_all, rfl, by simp, h0, h1, h2, h3, h4⟩
theorem trodAll_mk5 {t0 t1 t2 t3 t4 : TypeId} {v0 v1 v2 v3 v4 : Value} {d0 d1 d2 d3 d4 : DataW H} {p0 p1 p2 p3 p4 : List MemPlace} (h0 : DataW.Trod enc P w base spare held t0 v0 d0 p0) (h1 : DataW.Trod enc P w base spare held t1 v1 d1 p1) (h2 : DataW.Trod enc P w base spare held t2 v2 d2 p2) (h3 : DataW.Trod enc P w base spare held t3 v3 d3 p3) (h4 : DataW.Trod enc P w base spare held t4 v4 d4 p4) :
    DataW.TrodAll enc P w base spare held [t0, t1, t2, t3, t4] [v0, v1, v2, v3, v4] [d0, d1, d2, d3, d4] (p0 ++ (p1 ++ (p2 ++ (p3 ++ p4)))) := ⟨p0, p1 ++ (p2 ++ (p3 ++ p4)), h0, trodAll_mk4 h1 h2 h3 h4, rfl⟩
end
end Go.Proofs.YtpchbceohnabnabDoor


namespace Go.Proofs.YtpchbceohnabnabDoor
open Go.RowKit

set_option maxHeartbeats 12800000 in
set_option maxRecDepth 100000 in
theorem lawHml_any (p0 : Int) (dv0 mv0 : Value) (ds0 : List Int) (ms0 : List (List (List Int))) (p1 : Int) (dv1 mv1 : Value) (ds1 : List Int) (ms1 : List (List (List Int))) (fv2 : Value) (fs2 : List (List (List Int))) (fv3 : Value) (fs3 : List (List (List Int))) (fv4 : Value) (fs4 : List (List (List Int))) (w : World) (h0 : Cx 0 w dv0 mv0 ds0 ms0) (hdl0 : ds0.length ≤ 9223372036854775807) (hml0 : Bd3 9223372036854775807 ms0) (h1 : Cx 0 w dv1 mv1 ds1 ms1) (hdl1 : ds1.length ≤ 9223372036854775807) (hml1 : Bd3 9223372036854775807 ms1) (h2 : L3 0 w fv2 fs2) (hml2 : Bd3 9223372036854775807 fs2) (h3 : L3 0 w fv3 fs3) (hml3 : Bd3 9223372036854775807 fs3) (h4 : L3 0 w fv4 fs4) (hml4 : Bd3 9223372036854775807 fs4) {pvg : Value} (hgl : w.cell? ⟨0, 0, none⟩ = some (.iface 135 pvg)) :
    Calls Tryd.prog 7 #[.agg #[.int .i64 p0, dv0, mv0], .agg #[.int .i64 p1, dv1, mv1], fv2, fv3, fv4] w (BR (.bool true) w) := by
  obtain ⟨W0, hW0⟩ : ∃ W0, W0 = ((w.alloc (.cells #[.int .i64 p0, dv0, mv0] 25)).alloc (.cells #[.int .i64 p1, dv1, mv1] 25)) := ⟨_, rfl⟩
  have HS0 : Hid (W0.heap.size = w.heap.size + 2) := Lib.hid (by rw [hW0]; simp)
  have HZ0 : Hid (Below w.heap.size w W0) := Lib.hid (by rw [hW0]; exact (below_alloc1 _ _).trans ((below_alloc1 _ _).mono (by simp)))
  have HK0 : Hid (Bx w W0 (w.heap.size) p0 dv0 mv0 ds0 ms0) := Lib.hid (by rw [hW0]; exact (bx_two _ h0 h1).1)
  have HK1 : Hid (Bx w W0 (w.heap.size + 1) p1 dv1 mv1 ds1 ms1) := Lib.hid (by rw [hW0]; exact (bx_two _ h0 h1).2)
  have HN0 : Hid (∀ W, Below (w.heap.size + 2) W0 W → Bx w W (w.heap.size) p0 dv0 mv0 ds0 ms0) := Lib.hid (fun W hb => HK0.out.next (by rw [HS0.out]; exact hb))
  have HN1 : Hid (∀ W, Below (w.heap.size + 2) W0 W → Bx w W (w.heap.size + 1) p1 dv1 mv1 ds1 ms1) := Lib.hid (fun W hb => HK1.out.next (by rw [HS0.out]; exact hb))
  have HN2 : Hid (∀ W, Below (w.heap.size + 2) W0 W → L3 0 W fv2 fs2) := Lib.hid (fun W hb => (h2.below HZ0.out).below (by rw [HS0.out]; exact hb))
  have HN3 : Hid (∀ W, Below (w.heap.size + 2) W0 W → L3 0 W fv3 fs3) := Lib.hid (fun W hb => (h3.below HZ0.out).below (by rw [HS0.out]; exact hb))
  have HN4 : Hid (∀ W, Below (w.heap.size + 2) W0 W → L3 0 W fv4 fs4) := Lib.hid (fun W hb => (h4.below HZ0.out).below (by rw [HS0.out]; exact hb))
  have HNW : Hid (∀ W, Below (w.heap.size + 2) W0 W → Below w.heap.size w W) := Lib.hid (fun W hb => HZ0.out.trans (hb.mono (by omega)))
  have HB : Hid (Below (w.heap.size + 2) W0 W0) := Lib.hid (Below.refl _ _)
  have hs0 : w.heap.size + 2 ≤ W0.heap.size := by have := HS0.out; omega
  have HGL : Hid (∀ W, Below (w.heap.size + 2) W0 W → W.cell? ⟨0, 0, none⟩ = some (.iface 135 pvg)) := Lib.hid (fun W hb => later (HNW.out W hb) (Nat.le_refl _) hgl)
  clear hgl
  have HML0 := Lib.hid hml0
  have HML1 := Lib.hid hml1
  have HML2 := Lib.hid hml2
  obtain ⟨af2, cf2, ef2⟩ := Sl.shape h2
  subst ef2
  have HML3 := Lib.hid hml3
  obtain ⟨af3, cf3, ef3⟩ := Sl.shape h3
  subst ef3
  have HML4 := Lib.hid hml4
  obtain ⟨af4, cf4, ef4⟩ := Sl.shape h4
  subst ef4
  clear h0 h1 h2 h3 h4 hml0 hml1 hml2 hml3 hml4 HK0 HK1
  go_enter Tryd.func7, Tryd.ntmps7
  go_upto_region 1 with fail
  rw [← hW0]
  clear hW0
  have c00 := (HN0.out _ HB.out).c0
  have c01 := (HN0.out _ HB.out).c1
  have c02 := (HN0.out _ HB.out).c2
  go_wp2_with fail
  refine (szComplex_any p0 dv0 mv0 ds0 ms0 1048576 _ (HN0.out _ HB.out).cx.dims (HN0.out _ HB.out).cx.maps (by omega) (by omega) hdl0 HML0.out).mono ?_
  rintro ee wz0 ⟨sz0, rfl, hb, hpost⟩
  have hsz0 : W0.heap.size ≤ wz0.heap.size := hb.size
  have HB' := Lib.hid (HB.out.trans (hb.mono (by omega)))
  clear c00 c01 c02
  clear hb HB
  have HB := HB'
  clear HB'
  rcases hpost with rfl | ⟨hp00, hp01, hds0, hpm0⟩
  · go_wp2
    go_ret
    exact ⟨rfl, HNW.out _ HB.out⟩
  have hds0 : ds0.length ≤ 1048576 := hds0
  have HMS0 := Lib.hid hpm0
  clear hpm0
  have c10 := (HN1.out _ HB.out).c0
  have c11 := (HN1.out _ HB.out).c1
  have c12 := (HN1.out _ HB.out).c2
  go_wp2_with fail
  refine (szComplex_any p1 dv1 mv1 ds1 ms1 sz0 _ (HN1.out _ HB.out).cx.dims (HN1.out _ HB.out).cx.maps (by omega) (by omega) hdl1 HML1.out).mono ?_
  rintro ee wz1 ⟨sz1, rfl, hb, hpost⟩
  have hsz1 : wz0.heap.size ≤ wz1.heap.size := hb.size
  have HB' := Lib.hid (HB.out.trans (hb.mono (by omega)))
  clear c10 c11 c12
  clear hb HB
  have HB := HB'
  clear HB'
  rcases hpost with rfl | ⟨hp10, hp11, hds1, hpm1⟩
  · go_wp2
    go_ret
    exact ⟨rfl, HNW.out _ HB.out⟩
  have hds1 : ds1.length ≤ 1048576 := hds1
  have HMS1 := Lib.hid hpm1
  clear hpm1
  go_wp2_with fail
  refine (sz3_any _ fs2 sz1 _ (HN2.out _ HB.out) (by omega) (by omega) HML2.out).mono ?_
  rintro ee w' ⟨sz2, rfl, rfl, hpost⟩
  rcases hpost with rfl | ⟨hp20, hp21, hpm2⟩
  · go_wp2
    go_ret
    exact ⟨rfl, HNW.out _ HB.out⟩
  have HMS2 := Lib.hid hpm2
  clear hpm2
  go_wp2_with fail
  refine (sz3_any _ fs3 sz2 _ (HN3.out _ HB.out) (by omega) (by omega) HML3.out).mono ?_
  rintro ee w' ⟨sz3, rfl, rfl, hpost⟩
  rcases hpost with rfl | ⟨hp30, hp31, hpm3⟩
  · go_wp2
    go_ret
    exact ⟨rfl, HNW.out _ HB.out⟩
  have HMS3 := Lib.hid hpm3
  clear hpm3
  go_wp2_with fail
  refine (sz3_any _ fs4 sz3 _ (HN4.out _ HB.out) (by omega) (by omega) HML4.out).mono ?_
  rintro ee w' ⟨sz4, rfl, rfl, hpost⟩
  rcases hpost with rfl | ⟨hp40, hp41, hpm4⟩
  · go_wp2
    go_ret
    exact ⟨rfl, HNW.out _ HB.out⟩
  have HMS4 := Lib.hid hpm4
  clear hpm4
  have c00 := (HN0.out _ HB.out).c0
  have c01 := (HN0.out _ HB.out).c1
  have c02 := (HN0.out _ HB.out).c2
  have c10 := (HN1.out _ HB.out).c0
  have c11 := (HN1.out _ HB.out).c1
  have c12 := (HN1.out _ HB.out).c2
  have hsSd : wz1.heap.size ≤ wz1.drew.heap.size := Nat.le_refl _
  have HDS : Hid (Below (w.heap.size + 2) W0 wz1.drew) := Lib.hid (HB.out.trans ((Below.refl wz1.heap.size wz1).drew.mono (by omega)))
  have HQd : Hid (Below wz1.heap.size wz1 wz1.drew) := Lib.hid (Below.refl wz1.heap.size wz1).drew
  skip
  have HSP : Hid (∀ w', Below (w.heap.size + 2) W0 w' → w'.cell? ⟨w.heap.size, 0, none⟩ = some (.int .i64 p0) ∧ w'.cell? ⟨w.heap.size, 1, none⟩ = some (dv0) ∧ w'.cell? ⟨w.heap.size, 2, none⟩ = some (mv0) ∧ w'.cell? ⟨w.heap.size + 1, 0, none⟩ = some (.int .i64 p1) ∧ w'.cell? ⟨w.heap.size + 1, 1, none⟩ = some (dv1) ∧ w'.cell? ⟨w.heap.size + 1, 2, none⟩ = some (mv1) ∧ Hid (Below (w.heap.size + 2) W0 w')) := Lib.hid (fun w' hb => ⟨(HN0.out _ hb).c0, (HN0.out _ hb).c1, (HN0.out _ hb).c2, (HN1.out _ hb).c0, (HN1.out _ hb).c1, (HN1.out _ hb).c2, Lib.hid hb⟩)
  go_wp2
  go_region_held3 (fun w' => w'.cell? ⟨w.heap.size, 0, none⟩ = some (.int .i64 p0) ∧ w'.cell? ⟨w.heap.size, 1, none⟩ = some (dv0) ∧ w'.cell? ⟨w.heap.size, 2, none⟩ = some (mv0) ∧ w'.cell? ⟨w.heap.size + 1, 0, none⟩ = some (.int .i64 p1) ∧ w'.cell? ⟨w.heap.size + 1, 1, none⟩ = some (dv1) ∧ w'.cell? ⟨w.heap.size + 1, 2, none⟩ = some (mv1) ∧ Hid (Below (w.heap.size + 2) W0 w'))
    (first | exact HSP.out _ HB.out | exact HSP.out _ HDS.out | exact HSP.out _ HBS0.out | exact HSP.out _ HBS1.out | exact HSP.out _ HBS2.out | exact HSP.out _ HBS3.out | exact HSP.out _ HBS4.out | exact HSP.out _ HBSr.out | go_keep)
    (first
      | (go_at_call 12; (with_reducible refine (toComplex_any p0 dv0 mv0 ds0 ms0 _ (HN0.out _ HDS.out).cx hds0 HMS0.out).mono ?_); rintro ee wS0 ⟨xdv0_S, xmv0_S, rfl, hc, hb⟩; have hsS0 : wz1.drew.heap.size ≤ wS0.heap.size := hb.size; have HBS0 := Lib.hid (HDS.out.trans (hb.mono (by omega))); have HQ0 := Lib.hid (HQd.out.trans (hb.mono (by omega))); have HXS00 := Lib.hid (hc.zero); clear hb hc)
      | (go_at_call 12; (with_reducible refine (toComplex_any p1 dv1 mv1 ds1 ms1 _ (HN1.out _ HBS0.out).cx hds1 HMS1.out).mono ?_); rintro ee wS1 ⟨xdv1_S, xmv1_S, rfl, hc, hb⟩; have hsS1 : wS0.heap.size ≤ wS1.heap.size := hb.size; have HBS1 := Lib.hid (HBS0.out.trans (hb.mono (by omega))); have HQ1 := Lib.hid (HQ0.out.trans (hb.mono (by omega))); have HXS01 := Lib.hid (HXS00.out.below hb); have HXS11 := Lib.hid (hc.zero); clear hb hc)
      | (go_at_call 13; (with_reducible refine (to3_any _ fs2 _ (HN2.out _ HBS1.out) HMS2.out).mono ?_); rintro ee wS2 ⟨xvS2, rfl, hc, hb⟩; have hsS2 : wS1.heap.size ≤ wS2.heap.size := hb.size; have HBS2 := Lib.hid (HBS1.out.trans (hb.mono (by omega))); have HQ2 := Lib.hid (HQ1.out.trans (hb.mono (by omega))); have HXS02 := Lib.hid (HXS01.out.below hb); have HXS12 := Lib.hid (HXS11.out.below hb); have HXS22 := Lib.hid (hc.lower (Nat.zero_le _)); clear hb hc)
      | (go_at_call 13; (with_reducible refine (to3_any _ fs3 _ (HN3.out _ HBS2.out) HMS3.out).mono ?_); rintro ee wS3 ⟨xvS3, rfl, hc, hb⟩; have hsS3 : wS2.heap.size ≤ wS3.heap.size := hb.size; have HBS3 := Lib.hid (HBS2.out.trans (hb.mono (by omega))); have HQ3 := Lib.hid (HQ2.out.trans (hb.mono (by omega))); have HXS03 := Lib.hid (HXS02.out.below hb); have HXS13 := Lib.hid (HXS12.out.below hb); have HXS23 := Lib.hid (HXS22.out.below hb); have HXS33 := Lib.hid (hc.lower (Nat.zero_le _)); clear hb hc)
      | (go_at_call 13; (with_reducible refine (to3_any _ fs4 _ (HN4.out _ HBS3.out) HMS4.out).mono ?_); rintro ee wS4 ⟨xvS4, rfl, hc, hb⟩; have hsS4 : wS3.heap.size ≤ wS4.heap.size := hb.size; have HBS4 := Lib.hid (HBS3.out.trans (hb.mono (by omega))); have HQ4 := Lib.hid (HQ3.out.trans (hb.mono (by omega))); have HXS04 := Lib.hid (HXS03.out.below hb); have HXS14 := Lib.hid (HXS13.out.below hb); have HXS24 := Lib.hid (HXS23.out.below hb); have HXS34 := Lib.hid (HXS33.out.below hb); have HXS44 := Lib.hid (hc.lower (Nat.zero_le _)); clear hb hc)
      | (go_at_call 26; (with_reducible refine (spIsHomotopy_any p0 p1 xdv0_S xmv0_S xdv1_S xmv1_S xvS2 xvS3 xvS4 ds0 ms0 ds1 ms1 fs2 fs3 fs4 _ (HXS04.out) (HXS14.out) (HXS24.out) (HXS34.out) (HXS44.out) hds0 HMS0.out hds1 HMS1.out HMS2.out HMS3.out HMS4.out).mono ?_); rintro ee wSr ⟨gS0, gS1, rfl, hb, hoS⟩; have hsSr : wS4.heap.size ≤ wSr.heap.size := hb.size; have HBSr := Lib.hid (HBS4.out.trans (hb.mono (by omega))); have HQr := Lib.hid (HQ4.out.trans (hb.mono (by omega))); have HOS := Lib.hid hoS; clear hb hoS))
  clear c00 c01 c02 c10 c11 c12
  have hb := HQr.out
  clear HQd HQr HQ0 HQ1 HQ2 HQ3 HQ4 HXS00 HXS01 HXS02 HXS03 HXS04 HXS11 HXS12 HXS13 HXS14 HXS22 HXS23 HXS24 HXS33 HXS34 HXS44 HBS0 HBS1 HBS2 HBS3 HBS4 HBSr HDS HSP
  have HB' := Lib.hid (HB.out.trans (hb.mono (by omega)))
  clear hb HB
  have HB := HB'
  clear HB'
  have c00 := (HN0.out _ HB.out).c0
  have c01 := (HN0.out _ HB.out).c1
  have c02 := (HN0.out _ HB.out).c2
  go_wp2_with fail
  refine (toComplexw_any p0 dv0 mv0 ds0 ms0 _ (HN0.out _ HB.out).cx hds0 HMS0.out).mono ?_
  rintro ee wc0 ⟨ydv0, ymv0, rfl, hc, hb⟩
  have hsc0 : wSr.heap.size ≤ wc0.heap.size := hb.size
  clear c00 c01 c02
  have HB' := Lib.hid (HB.out.trans (hb.mono (by omega)))
  clear hb HB
  have HB := HB'
  clear HB'
  have HC0 := Lib.hid hc
  obtain ⟨⟨ya0, yc0, rfl⟩, ⟨yb0, ye0, rfl⟩⟩ := hc.cx.shapes
  clear hc
  obtain ⟨wb0, hwb⟩ : ∃ wb0, wb0 = wc0.alloc (.cells #[.int .i64 p0, .slice ya0 ds0.length yc0, .slice yb0 ms0.length ye0] 30) := ⟨_, rfl⟩
  have hb : Below wc0.heap.size wc0 wb0 := by rw [hwb]; exact below_alloc1 _ _
  have hsb0 : wc0.heap.size + 1 = wb0.heap.size := by rw [hwb]; simp
  have hsB0 : wc0.heap.size ≤ wb0.heap.size := by omega
  have HY0 : Hid (Bq wb0 wc0.heap.size p0 (.slice ya0 ds0.length yc0) (.slice yb0 ms0.length ye0) ds0 ms0) := Lib.hid (by rw [hwb]; exact (Bx.start _ HC0.out.cx.zero).bq)
  have HB' := Lib.hid (HB.out.trans (hb.mono (by omega)))
  have HC0' := Lib.hid (HC0.out.same (Same.of_below hb (by omega)))
  clear hb HB HC0
  have HB := HB'
  have HC0 := HC0'
  clear HB' HC0'
  go_upto_region 19 with fail
  rw [← hwb]
  clear hwb
  have c10 := (HN1.out _ HB.out).c0
  have c11 := (HN1.out _ HB.out).c1
  have c12 := (HN1.out _ HB.out).c2
  go_wp2_with fail
  refine (toComplexw_any p1 dv1 mv1 ds1 ms1 _ (HN1.out _ HB.out).cx hds1 HMS1.out).mono ?_
  rintro ee wc1 ⟨ydv1, ymv1, rfl, hc, hb⟩
  have hsc1 : wb0.heap.size ≤ wc1.heap.size := hb.size
  clear c10 c11 c12
  have HB' := Lib.hid (HB.out.trans (hb.mono (by omega)))
  have HC0' := Lib.hid (HC0.out.same (Same.of_below hb (by omega)))
  have HY0' := Lib.hid (HY0.out.next hb)
  clear hb HB HC0 HY0
  have HB := HB'
  have HC0 := HC0'
  have HY0 := HY0'
  clear HB' HC0' HY0'
  have HC1 := Lib.hid hc
  obtain ⟨⟨ya1, yc1, rfl⟩, ⟨yb1, ye1, rfl⟩⟩ := hc.cx.shapes
  clear hc
  obtain ⟨wb1, hwb⟩ : ∃ wb1, wb1 = wc1.alloc (.cells #[.int .i64 p1, .slice ya1 ds1.length yc1, .slice yb1 ms1.length ye1] 30) := ⟨_, rfl⟩
  have hb : Below wc1.heap.size wc1 wb1 := by rw [hwb]; exact below_alloc1 _ _
  have hsb1 : wc1.heap.size + 1 = wb1.heap.size := by rw [hwb]; simp
  have hsB1 : wc1.heap.size ≤ wb1.heap.size := by omega
  have HY1 : Hid (Bq wb1 wc1.heap.size p1 (.slice ya1 ds1.length yc1) (.slice yb1 ms1.length ye1) ds1 ms1) := Lib.hid (by rw [hwb]; exact (Bx.start _ HC1.out.cx.zero).bq)
  have HB' := Lib.hid (HB.out.trans (hb.mono (by omega)))
  have HC0' := Lib.hid (HC0.out.same (Same.of_below hb (by omega)))
  have HY0' := Lib.hid (HY0.out.next hb)
  have HC1' := Lib.hid (HC1.out.same (Same.of_below hb (by omega)))
  clear hb HB HC0 HY0 HC1
  have HB := HB'
  have HC0 := HC0'
  have HY0 := HY0'
  have HC1 := HC1'
  clear HB' HC0' HY0' HC1'
  go_upto_region 20 with fail
  rw [← hwb]
  clear hwb
  go_wp2_with fail
  refine (to3w_any _ fs2 _ (HN2.out _ HB.out) HMS2.out).mono ?_
  rintro ee wc2 ⟨yv2, rfl, hc, hb⟩
  have hsc2 : wb1.heap.size ≤ wc2.heap.size := hb.size
  have HB' := Lib.hid (HB.out.trans (hb.mono (by omega)))
  have HC0' := Lib.hid (HC0.out.same (Same.of_below hb (by omega)))
  have HY0' := Lib.hid (HY0.out.next hb)
  have HC1' := Lib.hid (HC1.out.same (Same.of_below hb (by omega)))
  have HY1' := Lib.hid (HY1.out.next hb)
  clear hb HB HC0 HY0 HC1 HY1
  have HB := HB'
  have HC0 := HC0'
  have HY0 := HY0'
  have HC1 := HC1'
  have HY1 := HY1'
  clear HB' HC0' HY0' HC1' HY1'
  have HC2 := Lib.hid hc
  obtain ⟨ya2, yc2, rfl⟩ := Sw.shape hc
  clear hc
  go_wp2_with fail
  refine (to3w_any _ fs3 _ (HN3.out _ HB.out) HMS3.out).mono ?_
  rintro ee wc3 ⟨yv3, rfl, hc, hb⟩
  have hsc3 : wc2.heap.size ≤ wc3.heap.size := hb.size
  have HB' := Lib.hid (HB.out.trans (hb.mono (by omega)))
  have HC0' := Lib.hid (HC0.out.same (Same.of_below hb (by omega)))
  have HY0' := Lib.hid (HY0.out.next hb)
  have HC1' := Lib.hid (HC1.out.same (Same.of_below hb (by omega)))
  have HY1' := Lib.hid (HY1.out.next hb)
  have HC2' := Lib.hid (HC2.out.same (Same.of_below hb (by omega)))
  clear hb HB HC0 HY0 HC1 HY1 HC2
  have HB := HB'
  have HC0 := HC0'
  have HY0 := HY0'
  have HC1 := HC1'
  have HY1 := HY1'
  have HC2 := HC2'
  clear HB' HC0' HY0' HC1' HY1' HC2'
  have HC3 := Lib.hid hc
  obtain ⟨ya3, yc3, rfl⟩ := Sw.shape hc
  clear hc
  go_wp2_with fail
  refine (to3w_any _ fs4 _ (HN4.out _ HB.out) HMS4.out).mono ?_
  rintro ee wc4 ⟨yv4, rfl, hc, hb⟩
  have hsc4 : wc3.heap.size ≤ wc4.heap.size := hb.size
  have HB' := Lib.hid (HB.out.trans (hb.mono (by omega)))
  have HC0' := Lib.hid (HC0.out.same (Same.of_below hb (by omega)))
  have HY0' := Lib.hid (HY0.out.next hb)
  have HC1' := Lib.hid (HC1.out.same (Same.of_below hb (by omega)))
  have HY1' := Lib.hid (HY1.out.next hb)
  have HC2' := Lib.hid (HC2.out.same (Same.of_below hb (by omega)))
  have HC3' := Lib.hid (HC3.out.same (Same.of_below hb (by omega)))
  clear hb HB HC0 HY0 HC1 HY1 HC2 HC3
  have HB := HB'
  have HC0 := HC0'
  have HY0 := HY0'
  have HC1 := HC1'
  have HY1 := HY1'
  have HC2 := HC2'
  have HC3 := HC3'
  clear HB' HC0' HY0' HC1' HY1' HC2' HC3'
  have HC4 := Lib.hid hc
  obtain ⟨ya4, yc4, rfl⟩ := Sw.shape hc
  clear hc
  have d00 := HY0.out.c0
  have d01 := HY0.out.c1
  have d02 := HY0.out.c2
  have d10 := HY1.out.c0
  have d11 := HY1.out.c1
  have d12 := HY1.out.c2
  go_wp2_with fail
  refine (isHomotopy_any p0 p1 _ _ _ _ _ _ _ ds0 ms0 ds1 ms1 fs2 fs3 fs4 _ (HC0.out.cx.zero) (HC1.out.cx.zero) (HC2.out.l3.lower (Nat.zero_le _)) (HC3.out.l3.lower (Nat.zero_le _)) (HC4.out.l3.lower (Nat.zero_le _)) hds0 HMS0.out hds1 HMS1.out HMS2.out HMS3.out HMS4.out (HGL.out _ HB.out)).mono ?_
  rintro ee w7 ⟨gI0, gI1, rfl, hb, hoI⟩
  obtain ⟨rfl, rfl⟩ := HmS.unique HOS.out hoI
  have hs7 : wc4.heap.size ≤ w7.heap.size := hb.size
  clear d00 d01 d02 d10 d11 d12
  have HB' := Lib.hid (HB.out.trans (hb.mono (by omega)))
  have HC0' := Lib.hid (HC0.out.same (Same.of_below hb (by omega)))
  have HY0' := Lib.hid (HY0.out.next hb)
  have HC1' := Lib.hid (HC1.out.same (Same.of_below hb (by omega)))
  have HY1' := Lib.hid (HY1.out.next hb)
  have HC2' := Lib.hid (HC2.out.same (Same.of_below hb (by omega)))
  have HC3' := Lib.hid (HC3.out.same (Same.of_below hb (by omega)))
  have HC4' := Lib.hid (HC4.out.same (Same.of_below hb (by omega)))
  clear hb HB HC0 HY0 HC1 HY1 HC2 HC3 HC4
  have HB := HB'
  have HC0 := HC0'
  have HY0 := HY0'
  have HC1 := HC1'
  have HY1 := HY1'
  have HC2 := HC2'
  have HC3 := HC3'
  have HC4 := HC4'
  clear HB' HC0' HY0' HC1' HY1' HC2' HC3' HC4'
  clear hoI HOS
  have hcode0 : (gS0 != gS0) = false := by simp
  have hcode1 : (gS1 != gS1) = false := by simp
  have hcodf0 : (gS0 == gS0) = true := by simp
  have hcodf1 : (gS1 == gS1) = true := by simp
  have c00 := (HN0.out _ HB.out).c0
  have c01 := (HN0.out _ HB.out).c1
  have c02 := (HN0.out _ HB.out).c2
  have d00 := HY0.out.c0
  have d01 := HY0.out.c1
  have d02 := HY0.out.c2
  have HCX := Lib.hid (cx_drew (HN0.out _ HB.out).cx)
  have HCC := Lib.hid (cx_drew HY0.out.cx)
  go_wp2_with fail
  go_region_held3 (fun w' => w'.cell? ⟨w.heap.size, 0, none⟩ = some (.int .i64 p0) ∧ w'.cell? ⟨w.heap.size, 1, none⟩ = some (dv0) ∧ w'.cell? ⟨w.heap.size, 2, none⟩ = some (mv0) ∧ w'.cell? ⟨wc0.heap.size, 0, none⟩ = some (.int .i64 p0) ∧ w'.cell? ⟨wc0.heap.size, 1, none⟩ = some (.slice ya0 ds0.length yc0) ∧ w'.cell? ⟨wc0.heap.size, 2, none⟩ = some (.slice yb0 ms0.length ye0))
    (first | exact ⟨c00, c01, c02, d00, d01, d02⟩ | exact HS9.out | exact HSA.out | go_keep)
    (first
      | (go_at_call 12; refine (toComplex_any p0 dv0 mv0 ds0 ms0 _ HCX.out hds0 HMS0.out).mono ?_; rintro ee w9 ⟨zdv09, zmv09, rfl, hcx9, hb9⟩; have HS9 := Lib.hid (And.intro (later hb9 (Nat.le_refl _) c00) (And.intro (later hb9 (Nat.le_refl _) c01) (And.intro (later hb9 (Nat.le_refl _) c02) (And.intro (later hb9 (Nat.le_refl _) d00) (And.intro (later hb9 (Nat.le_refl _) d01) (later hb9 (Nat.le_refl _) d02)))))); have HX9 := Lib.hid (And.intro hcx9 (And.intro (HCC.out.below hb9) (Below.trans ((Below.refl w7.heap.size w7).drew) hb9))); clear hcx9 hb9)
      | (go_at_call 15; refine (eqComplex_true p0 _ _ zdv09 zmv09 ds0 ms0 _ HX9.out.2.1 HX9.out.1.zero hds0 HMS0.out).mono ?_; rintro ee wA0 ⟨rfl, hbA⟩; have HSA := Lib.hid (And.intro (later hbA (Nat.le_refl _) (HS9.out.1)) (And.intro (later hbA (Nat.le_refl _) (HS9.out.2.1)) (And.intro (later hbA (Nat.le_refl _) (HS9.out.2.2.1)) (And.intro (later hbA (Nat.le_refl _) (HS9.out.2.2.2.1)) (And.intro (later hbA (Nat.le_refl _) (HS9.out.2.2.2.2.1)) (later hbA (Nat.le_refl _) (HS9.out.2.2.2.2.2))))))); have HXA := Lib.hid (Below.trans HX9.out.2.2 (hbA.mono HX9.out.2.2.size)); clear hbA))
  have hsa0 : w7.heap.size ≤ wA0.heap.size := HXA.out.size
  have hb := HXA.out
  clear c00 c01 c02
  clear d00 d01 d02
  clear HXA HSA HS9 HX9 HCX HCC
  have HB' := Lib.hid (HB.out.trans (hb.mono (by omega)))
  have HC0' := Lib.hid (HC0.out.same (Same.of_below hb (by omega)))
  have HY0' := Lib.hid (HY0.out.next hb)
  have HC1' := Lib.hid (HC1.out.same (Same.of_below hb (by omega)))
  have HY1' := Lib.hid (HY1.out.next hb)
  have HC2' := Lib.hid (HC2.out.same (Same.of_below hb (by omega)))
  have HC3' := Lib.hid (HC3.out.same (Same.of_below hb (by omega)))
  have HC4' := Lib.hid (HC4.out.same (Same.of_below hb (by omega)))
  clear hb HB HC0 HY0 HC1 HY1 HC2 HC3 HC4
  have HB := HB'
  have HC0 := HC0'
  have HY0 := HY0'
  have HC1 := HC1'
  have HY1 := HY1'
  have HC2 := HC2'
  have HC3 := HC3'
  have HC4 := HC4'
  clear HB' HC0' HY0' HC1' HY1' HC2' HC3' HC4'
  have c10 := (HN1.out _ HB.out).c0
  have c11 := (HN1.out _ HB.out).c1
  have c12 := (HN1.out _ HB.out).c2
  have d10 := HY1.out.c0
  have d11 := HY1.out.c1
  have d12 := HY1.out.c2
  have HCX := Lib.hid (cx_drew (HN1.out _ HB.out).cx)
  have HCC := Lib.hid (cx_drew HY1.out.cx)
  go_wp2_with fail
  go_region_held3 (fun w' => w'.cell? ⟨w.heap.size + 1, 0, none⟩ = some (.int .i64 p1) ∧ w'.cell? ⟨w.heap.size + 1, 1, none⟩ = some (dv1) ∧ w'.cell? ⟨w.heap.size + 1, 2, none⟩ = some (mv1) ∧ w'.cell? ⟨wc1.heap.size, 0, none⟩ = some (.int .i64 p1) ∧ w'.cell? ⟨wc1.heap.size, 1, none⟩ = some (.slice ya1 ds1.length yc1) ∧ w'.cell? ⟨wc1.heap.size, 2, none⟩ = some (.slice yb1 ms1.length ye1))
    (first | exact ⟨c10, c11, c12, d10, d11, d12⟩ | exact HS9.out | exact HSA.out | go_keep)
    (first
      | (go_at_call 12; refine (toComplex_any p1 dv1 mv1 ds1 ms1 _ HCX.out hds1 HMS1.out).mono ?_; rintro ee w9 ⟨zdv19, zmv19, rfl, hcx9, hb9⟩; have HS9 := Lib.hid (And.intro (later hb9 (Nat.le_refl _) c10) (And.intro (later hb9 (Nat.le_refl _) c11) (And.intro (later hb9 (Nat.le_refl _) c12) (And.intro (later hb9 (Nat.le_refl _) d10) (And.intro (later hb9 (Nat.le_refl _) d11) (later hb9 (Nat.le_refl _) d12)))))); have HX9 := Lib.hid (And.intro hcx9 (And.intro (HCC.out.below hb9) (Below.trans ((Below.refl wA0.heap.size wA0).drew) hb9))); clear hcx9 hb9)
      | (go_at_call 15; refine (eqComplex_true p1 _ _ zdv19 zmv19 ds1 ms1 _ HX9.out.2.1 HX9.out.1.zero hds1 HMS1.out).mono ?_; rintro ee wA1 ⟨rfl, hbA⟩; have HSA := Lib.hid (And.intro (later hbA (Nat.le_refl _) (HS9.out.1)) (And.intro (later hbA (Nat.le_refl _) (HS9.out.2.1)) (And.intro (later hbA (Nat.le_refl _) (HS9.out.2.2.1)) (And.intro (later hbA (Nat.le_refl _) (HS9.out.2.2.2.1)) (And.intro (later hbA (Nat.le_refl _) (HS9.out.2.2.2.2.1)) (later hbA (Nat.le_refl _) (HS9.out.2.2.2.2.2))))))); have HXA := Lib.hid (Below.trans HX9.out.2.2 (hbA.mono HX9.out.2.2.size)); clear hbA))
  have hsa1 : wA0.heap.size ≤ wA1.heap.size := HXA.out.size
  have hb := HXA.out
  clear c10 c11 c12
  clear d10 d11 d12
  clear HXA HSA HS9 HX9 HCX HCC
  have HB' := Lib.hid (HB.out.trans (hb.mono (by omega)))
  have HC0' := Lib.hid (HC0.out.same (Same.of_below hb (by omega)))
  have HY0' := Lib.hid (HY0.out.next hb)
  have HC1' := Lib.hid (HC1.out.same (Same.of_below hb (by omega)))
  have HY1' := Lib.hid (HY1.out.next hb)
  have HC2' := Lib.hid (HC2.out.same (Same.of_below hb (by omega)))
  have HC3' := Lib.hid (HC3.out.same (Same.of_below hb (by omega)))
  have HC4' := Lib.hid (HC4.out.same (Same.of_below hb (by omega)))
  clear hb HB HC0 HY0 HC1 HY1 HC2 HC3 HC4
  have HB := HB'
  have HC0 := HC0'
  have HY0 := HY0'
  have HC1 := HC1'
  have HY1 := HY1'
  have HC2 := HC2'
  have HC3 := HC3'
  have HC4 := HC4'
  clear HB' HC0' HY0' HC1' HY1' HC2' HC3' HC4'
  go_wp2_with fail
  refine (to3_any _ fs2 _ (HN2.out _ HB.out) HMS2.out).mono ?_
  rintro ee w9 ⟨v9, rfl, hc, hb⟩
  have hs92 : wA1.heap.size ≤ w9.heap.size := hb.size
  have HB' := Lib.hid (HB.out.trans (hb.mono (by omega)))
  have HC0' := Lib.hid (HC0.out.same (Same.of_below hb (by omega)))
  have HY0' := Lib.hid (HY0.out.next hb)
  have HC1' := Lib.hid (HC1.out.same (Same.of_below hb (by omega)))
  have HY1' := Lib.hid (HY1.out.next hb)
  have HC2' := Lib.hid (HC2.out.same (Same.of_below hb (by omega)))
  have HC3' := Lib.hid (HC3.out.same (Same.of_below hb (by omega)))
  have HC4' := Lib.hid (HC4.out.same (Same.of_below hb (by omega)))
  clear hb HB HC0 HY0 HC1 HY1 HC2 HC3 HC4
  have HB := HB'
  have HC0 := HC0'
  have HY0 := HY0'
  have HC1 := HC1'
  have HY1 := HY1'
  have HC2 := HC2'
  have HC3 := HC3'
  have HC4 := HC4'
  clear HB' HC0' HY0' HC1' HY1' HC2' HC3' HC4'
  have HV9 := Lib.hid (hc.lower (Nat.zero_le _))
  clear hc
  obtain ⟨a9, c9, e9⟩ := Sl.shape HV9.out
  subst e9
  go_wp2_with fail
  refine (eq3_true _ _ fs2 _ (HC2.out.l3.lower (Nat.zero_le _)) HV9.out HMS2.out).mono ?_
  rintro ee wA2 ⟨rfl, hb⟩
  have hsa2 : w9.heap.size ≤ wA2.heap.size := hb.size
  clear HV9
  have HB' := Lib.hid (HB.out.trans (hb.mono (by omega)))
  have HC0' := Lib.hid (HC0.out.same (Same.of_below hb (by omega)))
  have HY0' := Lib.hid (HY0.out.next hb)
  have HC1' := Lib.hid (HC1.out.same (Same.of_below hb (by omega)))
  have HY1' := Lib.hid (HY1.out.next hb)
  have HC2' := Lib.hid (HC2.out.same (Same.of_below hb (by omega)))
  have HC3' := Lib.hid (HC3.out.same (Same.of_below hb (by omega)))
  have HC4' := Lib.hid (HC4.out.same (Same.of_below hb (by omega)))
  clear hb HB HC0 HY0 HC1 HY1 HC2 HC3 HC4
  have HB := HB'
  have HC0 := HC0'
  have HY0 := HY0'
  have HC1 := HC1'
  have HY1 := HY1'
  have HC2 := HC2'
  have HC3 := HC3'
  have HC4 := HC4'
  clear HB' HC0' HY0' HC1' HY1' HC2' HC3' HC4'
  have hsq2 : wA1.heap.size ≤ wA2.heap.size := by omega
  obtain ⟨w9k, hw9k⟩ : ∃ w9k, w9k = w9 := ⟨_, rfl⟩
  clear hw9k w9k
  go_wp2_with fail
  refine (to3_any _ fs3 _ (HN3.out _ HB.out) HMS3.out).mono ?_
  rintro ee w9 ⟨v9, rfl, hc, hb⟩
  have hs93 : wA2.heap.size ≤ w9.heap.size := hb.size
  have HB' := Lib.hid (HB.out.trans (hb.mono (by omega)))
  have HC0' := Lib.hid (HC0.out.same (Same.of_below hb (by omega)))
  have HY0' := Lib.hid (HY0.out.next hb)
  have HC1' := Lib.hid (HC1.out.same (Same.of_below hb (by omega)))
  have HY1' := Lib.hid (HY1.out.next hb)
  have HC2' := Lib.hid (HC2.out.same (Same.of_below hb (by omega)))
  have HC3' := Lib.hid (HC3.out.same (Same.of_below hb (by omega)))
  have HC4' := Lib.hid (HC4.out.same (Same.of_below hb (by omega)))
  clear hb HB HC0 HY0 HC1 HY1 HC2 HC3 HC4
  have HB := HB'
  have HC0 := HC0'
  have HY0 := HY0'
  have HC1 := HC1'
  have HY1 := HY1'
  have HC2 := HC2'
  have HC3 := HC3'
  have HC4 := HC4'
  clear HB' HC0' HY0' HC1' HY1' HC2' HC3' HC4'
  have HV9 := Lib.hid (hc.lower (Nat.zero_le _))
  clear hc
  obtain ⟨a9, c9, e9⟩ := Sl.shape HV9.out
  subst e9
  go_wp2_with fail
  refine (eq3_true _ _ fs3 _ (HC3.out.l3.lower (Nat.zero_le _)) HV9.out HMS3.out).mono ?_
  rintro ee wA3 ⟨rfl, hb⟩
  have hsa3 : w9.heap.size ≤ wA3.heap.size := hb.size
  clear HV9
  have HB' := Lib.hid (HB.out.trans (hb.mono (by omega)))
  have HC0' := Lib.hid (HC0.out.same (Same.of_below hb (by omega)))
  have HY0' := Lib.hid (HY0.out.next hb)
  have HC1' := Lib.hid (HC1.out.same (Same.of_below hb (by omega)))
  have HY1' := Lib.hid (HY1.out.next hb)
  have HC2' := Lib.hid (HC2.out.same (Same.of_below hb (by omega)))
  have HC3' := Lib.hid (HC3.out.same (Same.of_below hb (by omega)))
  have HC4' := Lib.hid (HC4.out.same (Same.of_below hb (by omega)))
  clear hb HB HC0 HY0 HC1 HY1 HC2 HC3 HC4
  have HB := HB'
  have HC0 := HC0'
  have HY0 := HY0'
  have HC1 := HC1'
  have HY1 := HY1'
  have HC2 := HC2'
  have HC3 := HC3'
  have HC4 := HC4'
  clear HB' HC0' HY0' HC1' HY1' HC2' HC3' HC4'
  have hsq3 : wA2.heap.size ≤ wA3.heap.size := by omega
  obtain ⟨w9k, hw9k⟩ : ∃ w9k, w9k = w9 := ⟨_, rfl⟩
  clear hw9k w9k
  go_wp2_with fail
  refine (to3_any _ fs4 _ (HN4.out _ HB.out) HMS4.out).mono ?_
  rintro ee w9 ⟨v9, rfl, hc, hb⟩
  have hs94 : wA3.heap.size ≤ w9.heap.size := hb.size
  have HB' := Lib.hid (HB.out.trans (hb.mono (by omega)))
  have HC0' := Lib.hid (HC0.out.same (Same.of_below hb (by omega)))
  have HY0' := Lib.hid (HY0.out.next hb)
  have HC1' := Lib.hid (HC1.out.same (Same.of_below hb (by omega)))
  have HY1' := Lib.hid (HY1.out.next hb)
  have HC2' := Lib.hid (HC2.out.same (Same.of_below hb (by omega)))
  have HC3' := Lib.hid (HC3.out.same (Same.of_below hb (by omega)))
  have HC4' := Lib.hid (HC4.out.same (Same.of_below hb (by omega)))
  clear hb HB HC0 HY0 HC1 HY1 HC2 HC3 HC4
  have HB := HB'
  have HC0 := HC0'
  have HY0 := HY0'
  have HC1 := HC1'
  have HY1 := HY1'
  have HC2 := HC2'
  have HC3 := HC3'
  have HC4 := HC4'
  clear HB' HC0' HY0' HC1' HY1' HC2' HC3' HC4'
  have HV9 := Lib.hid (hc.lower (Nat.zero_le _))
  clear hc
  obtain ⟨a9, c9, e9⟩ := Sl.shape HV9.out
  subst e9
  go_wp2_with fail
  refine (eq3_true _ _ fs4 _ (HC4.out.l3.lower (Nat.zero_le _)) HV9.out HMS4.out).mono ?_
  rintro ee wA4 ⟨rfl, hb⟩
  have hsa4 : w9.heap.size ≤ wA4.heap.size := hb.size
  clear HV9
  have HB' := Lib.hid (HB.out.trans (hb.mono (by omega)))
  have HC0' := Lib.hid (HC0.out.same (Same.of_below hb (by omega)))
  have HY0' := Lib.hid (HY0.out.next hb)
  have HC1' := Lib.hid (HC1.out.same (Same.of_below hb (by omega)))
  have HY1' := Lib.hid (HY1.out.next hb)
  have HC2' := Lib.hid (HC2.out.same (Same.of_below hb (by omega)))
  have HC3' := Lib.hid (HC3.out.same (Same.of_below hb (by omega)))
  have HC4' := Lib.hid (HC4.out.same (Same.of_below hb (by omega)))
  clear hb HB HC0 HY0 HC1 HY1 HC2 HC3 HC4
  have HB := HB'
  have HC0 := HC0'
  have HY0 := HY0'
  have HC1 := HC1'
  have HY1 := HY1'
  have HC2 := HC2'
  have HC3 := HC3'
  have HC4 := HC4'
  clear HB' HC0' HY0' HC1' HY1' HC2' HC3' HC4'
  have hsq4 : wA3.heap.size ≤ wA4.heap.size := by omega
  obtain ⟨w9k, hw9k⟩ : ∃ w9k, w9k = w9 := ⟨_, rfl⟩
  clear hw9k w9k
  go_wp2
  go_ret
  exact ⟨rfl, HNW.out _ HB.out⟩
end Go.Proofs.YtpchbceohnabnabDoor


namespace Go.Proofs.YtpchbceohnabnabDoor
open Go.ChangeShapes Go.WideShapes Go.ChangeAt Go.RowKit

theorem dor_g : Tryd.prog.globalNamed "loop.example/g01273/impl.errNoChainMap" = some 0 := by kernel_rfl
theorem dor_gt : (Tryd.prog.globals[0]?).map (·.type) = some 83 := by kernel_rfl
theorem dor_star : "*" ++ "errors.errorString" = "*errors.errorString" := by decide
theorem dor_row (u : TypeId) (h : Tryd.prog.typeName? 3 u = some "*errors.errorString") : u = 135 :=
  typeName_ptr_named (nm := "errors.errorString") (by rw [dor_star]; kernel_rfl) (by kernel_rfl) (by decide) u (by rw [dor_star]; exact h)
theorem dor_ce : Tryd.prog.cellsOf 153 = 1 := by kernel_rfl
theorem dor_cs : Tryd.prog.cellsOf 9 = 1 := by kernel_rfl
abbrev dorLaid : List (String × DataW Unit) := [("loop.example/g01273/impl.errNoChainMap", .iface "*errors.errorString" (.ptr (.agg [.lit (.string [97, 32, 102, 97, 109, 105, 108, 121, 32, 105, 115, 32, 110, 111, 32, 99, 104, 97, 105, 110, 32, 109, 97, 112])])))]
theorem dor_open {W : World} (h : laidMet Tryd.prog dorLaid W) : ∃ a : Addr, W.var? Tryd.prog "loop.example/g01273/impl.errNoChainMap" = some #[.iface 135 (.pointer (some a))] := by
  obtain ⟨a, s, hv, _⟩ := laid_sentinel h dor_g dor_gt Tryd.underlying83 dor_row Tryd.underlying135 Tryd.underlying153 rfl rfl Tryd.underlying9 dor_ce dor_cs
  exact ⟨a, hv⟩
theorem dor_cell {W : World} {x : Value} (h : W.var? Tryd.prog "loop.example/g01273/impl.errNoChainMap" = some #[x]) : W.cell? ⟨0, 0, none⟩ = some x := by simpa using World.var?_cell dor_g h 0
theorem dor_below {W W' : World} {n : String} {cs : Array Value} (hb : Below W.heap.size W W') (h : W.var? Tryd.prog n = some cs) : W'.var? Tryd.prog n = some cs := by
  unfold World.var? at h ⊢
  cases hg : Tryd.prog.globalNamed n with
  | none => simp [hg] at h
  | some g =>
    simp only [hg, Option.bind_some] at h ⊢
    have hlt : g < W.heap.size := by
      rcases Nat.lt_or_ge g W.heap.size with h' | h'
      · exact h'
      · simp [Array.getElem?_eq_none h'] at h
    rw [hb.block g hlt]
    exact h
theorem dor_vars {H : Type} (enc : TypeId × Value → H) {W : World} {x : Value} (h : W.var? Tryd.prog "loop.example/g01273/impl.errNoChainMap" = some #[x]) (ix : IsIface x) (sp : Nat → Bool) :
    DataW.TrodVars enc Tryd.prog W sp ["loop.example/g01273/impl.errNoChainMap"] [tok enc x] [.cell 0 0] :=
  vars_read1 enc dor_g dor_gt Tryd.underlying83 h ix sp

abbrev dorText : ByteArray := { data := #[97, 32, 102, 97, 109, 105, 108, 121, 32, 105, 115, 32, 110, 111, 32, 99, 104, 97, 105, 110, 32, 109, 97, 112] }
noncomputable def dorLow : Nat := (World.holding Tryd.prog default ⟨#[], #[], []⟩).heap.size
noncomputable def dorWorld (os : Os) : World :=
  let w0 := World.holding Tryd.prog os ⟨#[.cells #[.string dorText] 153], #[], []⟩
  { w0 with heap := w0.heap.modify 0 fun
      | .cells _ t frozen => .cells #[.iface 135 (.pointer (some ⟨dorLow, 0, none⟩))] t frozen
      | o => o }
theorem dor_met (os : Os) (args : Array Value) : laidMet Tryd.prog dorLaid ((dorWorld os).forCall (fun _ _ => 0) ⟨#[], args, []⟩).memory :=
  laidMet_of_run (ps := [.cell 0 0, .cell dorLow 0]) 8 (by kernel_rfl) (by kernel_rfl) (by kernel_rfl)
end Go.Proofs.YtpchbceohnabnabDoor

