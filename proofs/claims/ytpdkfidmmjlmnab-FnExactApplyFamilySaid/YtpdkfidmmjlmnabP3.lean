/-
  Spaces of rows: what ReduceRows and its like answer; impl.ReduceRows by its contract.
  Spaces of rows in the reference model: l01Spaces, spec.ReduceRows by their contracts.
  slices.Concat of two lists of vectors, impl.sumSpace by their contracts.
  Sums of spaces: impl.SumOfSpaces, spec.l01Plus, spec.SumOfSpaces by their contracts.
-/
import Derived.Test.YtpdkfidmmjlmnabP1
import Derived.Test.YtpdkfidmmjlmnabP2
import Derived.Test.YtpdkfidmmjlmnabQc
import Derived.Lib.AppendZeros
import Derived.Laws.AppendOwn
namespace Go.Proofs.Ytpdkfidmmjlmnab
open Go.RowKit

/-- What the functions on spaces take. -/
def SpOk (p n : Int) (rows : List (List Int)) : Prop := IsP p ∧ (0 ≤ n ∧ n ≤ 40) ∧ rows.length ≤ 40 ∧ TabOk p (rows.length : Int) n rows
theorem SpOk.row {p n : Int} {rows : List (List Int)} (h : SpOk p n rows) {r : List Int} (hr : r ∈ rows) : RowOk p n r := h.2.2.2.2 r hr
theorem SpOk.md {p n : Int} {rows : List (List Int)} (h : SpOk p n rows) : ∀ u ∈ rows.map ofL, Lin.Md p u := fun u hu => by
  obtain ⟨r, hr, rfl⟩ := List.mem_map.1 hu
  exact ofL_md (by have := h.1.lo; omega) (h.row hr)
theorem SpOk.wd {p n : Int} {rows : List (List Int)} (h : SpOk p n rows) : ∀ u ∈ rows.map ofL, Lin.Wd n.toNat u := fun u hu => by
  obtain ⟨r, hr, rfl⟩ := List.mem_map.1 hu
  exact ofL_wd (by have := (h.row hr).1; omega)
theorem SpOk.short {p n : Int} {rows : List (List Int)} (h : SpOk p n rows) : ∀ r ∈ rows, r.length ≤ 40 := fun r hr => by
  have := (h.row hr).1
  have := h.2.1
  omega
theorem wd_wider {n m : Nat} {u : Lin.V} (h : Lin.Wd n u) (hm : n ≤ m) : Lin.Wd m u := fun i hi => h i (by omega)

theorem led_length {n : Nat} : ∀ (L : List Lin.V) (k : Nat), L.Pairwise (fun v w => Lin.ld v < Lin.ld w) → (∀ u ∈ L, k ≤ Lin.ld u ∧ Lin.ld u < n) → L.length ≤ n - k
  | [], _, _, _ => by simp
  | v :: L, k, hp, h => by
    have h1 := List.pairwise_cons.1 hp
    have h0 := h v (by simp)
    have := led_length L (Lin.ld v + 1) h1.2 (fun u hu => ⟨h1.1 u hu, (h u (by simp [hu])).2⟩)
    simp only [List.length_cons]
    omega
theorem red_length {p : Int} {n : Nat} {R : List Lin.V} (h : Lin.Red p R) (hw : ∀ u ∈ R, Lin.Wd n u) : R.length ≤ n := by
  have := led_length (n := n) R 0 h.inc (fun u hu => ⟨Nat.zero_le _, (ld_ltn (hw u hu) (h.ne hu)).1⟩)
  omega

/-- What such a function answers: the reduced list of a space, or a code. -/
structure SpOut (p : Int) (n : Nat) (S : Lin.V → Prop) (c0 : Int) (out : List (List Int)) (c : Int) : Prop where
  good : c0 = 0 → ∃ R, Lin.Red p R ∧ (∀ u ∈ R, Lin.Wd n u) ∧ (∀ v, Lin.Sp p R v ↔ S v) ∧ out = R.map (toL n)
  bad : c0 ≠ 0 → out = []
  code : c = c0
theorem SpOut.unique {p : Int} {n : Nat} {S : Lin.V → Prop} {c0 : Int} {o1 o2 : List (List Int)} {c1 c2 : Int} (hp : c0 = 0 → 1 < p) (h1 : SpOut p n S c0 o1 c1) (h2 : SpOut p n S c0 o2 c2) : o1 = o2 ∧ c1 = c2 := by
  refine ⟨?_, h1.code.trans h2.code.symm⟩
  by_cases h0 : c0 = 0
  · obtain ⟨R1, a1, _, b1, rfl⟩ := h1.good h0
    obtain ⟨R2, a2, _, b2, rfl⟩ := h2.good h0
    rw [Lin.Red.unique (hp h0) a1 a2 (fun v => (b1 v).trans (b2 v).symm)]
  · rw [h1.bad h0, h2.bad h0]
theorem SpOut.bd {p : Int} {n : Nat} {S : Lin.V → Prop} {c0 : Int} {o : List (List Int)} {c : Int} (h : SpOut p n S c0 o c) (hn : c0 = 0 → n ≤ 1048576) : Bd2 1048576 o := by
  by_cases h0 : c0 = 0
  · obtain ⟨R, a, b, _, rfl⟩ := h.good h0
    have := red_length a b
    have hn := hn h0
    refine ⟨by rw [List.length_map]; omega, fun r hr => ?_⟩
    obtain ⟨u, _, rfl⟩ := List.mem_map.1 hr
    unfold Bd1
    rw [toL_length]
    exact hn
  · rw [h.bad h0]
    exact ⟨by simp, by simp⟩
theorem SpOut.of_no {p : Int} {n : Nat} {S : Lin.V → Prop} {c0 : Int} (h : c0 ≠ 0) : SpOut p n S c0 [] c0 := ⟨fun h0 => absurd h0 h, fun _ => rfl, rfl⟩
theorem SpOut.of_red {p : Int} {n : Nat} {T R : List Lin.V} (h : RedOf p R T) (hT : ∀ u ∈ T, Lin.Wd n u) (hm : ∀ u ∈ R, Lin.Md p u) : SpOut p n (Lin.Sp p T) 0 (R.map (toL n)) 0 :=
  ⟨fun _ => ⟨R, h.red, fun u hu => Lin.Sp.wd hT ((h.eqv u).1 (Lin.Sp.mem hu (hm u hu))), h.eqv, rfl⟩, fun hh => absurd rfl hh, rfl⟩
theorem SpOut.of_redN {p : Int} {n : Nat} {T R : List Lin.V} (h : RedN p n R T) : SpOut p n (Lin.Sp p T) 0 (R.map (toL n)) 0 :=
  ⟨fun _ => ⟨R, h.red, h.wd, h.eqv, rfl⟩, fun hh => absurd rfl hh, rfl⟩

theorem TW.wider {lo lo' hi : Nat} {W : World} {u : Value} {R : List (List Int)} (h : TW lo hi W u R) (hl : lo' ≤ lo) : TW lo' hi W u R := by
  rcases h with h | ⟨g, r, c, Z, h1, h2, h3, h4, h5, h6, h7⟩
  · exact Or.inl h
  · exact Or.inr ⟨g, r, c, Z, by omega, h2, h3, h4, h5, h6, h7⟩
/-- What the program answers: a table of its own, and a code. -/
def SpW (p : Int) (n : Nat) (S : Lin.V → Prop) (c0 : Int) (w : World) (e : Ending) (w' : World) : Prop :=
  ∃ (u : Value) (out : List (List Int)) (c : Int), e = .returned (.tuple #[u, .int .i64 c]) ∧ TW w.heap.size w'.heap.size w' u out ∧ Below w.heap.size w w' ∧ SpOut p n S c0 out c

open Classical in
noncomputable def spCode (p n : Int) (rows : List (List Int)) : Int := if SpOk p n rows then 0 else 2
theorem spCode_ok {p n : Int} {rows : List (List Int)} (h : SpOk p n rows) : spCode p n rows = 0 := if_pos h
theorem spCode_no {p n : Int} {rows : List (List Int)} (h : ¬ SpOk p n rows) : spCode p n rows = 2 := if_neg h
theorem spCode_zero {p n : Int} {rows : List (List Int)} (h : spCode p n rows = 0) : SpOk p n rows := Classical.byContradiction fun hn => by
  rw [spCode_no hn] at h
  cases h

end Go.Proofs.Ytpdkfidmmjlmnab

namespace Go.Proofs.Ytpdkfidmmjlmnab
open Go.RowKit

/-- The limits that hold for all lists alike. -/
def SpTop (p n : Int) : Prop := IsP p ∧ (0 ≤ n ∧ n ≤ 40)
def SpOne (p n : Int) (rows : List (List Int)) : Prop := rows.length ≤ 40 ∧ TabOk p (rows.length : Int) n rows
def SpsOk (p n : Int) (ls : List (List (List Int))) : Prop := SpTop p n ∧ ∀ r ∈ ls, SpOne p n r
open Classical in
noncomputable def spsCode (p n : Int) (ls : List (List (List Int))) : Int := if SpsOk p n ls then 0 else 2
theorem spsCode_ok {p n : Int} {ls : List (List (List Int))} (h : SpsOk p n ls) : spsCode p n ls = 0 := if_pos h
theorem spsCode_no {p n : Int} {ls : List (List (List Int))} (h : ¬ SpsOk p n ls) : spsCode p n ls = 2 := if_neg h
def SpsR (p n : Int) (ls : List (List (List Int))) (w : World) (e : Ending) (w' : World) : Prop := e = .returned (.int .i64 (spsCode p n ls)) ∧ Below w.heap.size w w'
theorem spsR_ok {p n : Int} {ls : List (List (List Int))} {w w' : World} (h : SpsOk p n ls) (hb : Below w.heap.size w w') : SpsR p n ls w (.returned (.int .i64 0)) w' := ⟨by rw [spsCode_ok h], hb⟩
theorem spsR_no {p n : Int} {ls : List (List (List Int))} {w w' : World} (h : ¬ SpsOk p n ls) (hb : Below w.heap.size w w') : SpsR p n ls w (.returned (.int .i64 2)) w' := ⟨by rw [spsCode_no h], hb⟩

/-- What the model answers: a table somewhere, and a code. -/
def SpS (p : Int) (n : Nat) (S : Lin.V → Prop) (c0 : Int) (w : World) (e : Ending) (w' : World) : Prop :=
  ∃ (u : Value) (out : List (List Int)) (c : Int), e = .returned (.tuple #[u, .int .i64 c]) ∧ L2 0 w' u out ∧ Below w.heap.size w w' ∧ SpOut p n S c0 out c
theorem rows_toL {p : Int} {n : Nat} {rows : List (List Int)} (h : ∀ r ∈ rows, RowOk p n r) : (rows.map ofL).map (toL n) = rows := by
  rw [List.map_map]
  have : ∀ r ∈ rows, (toL n ∘ ofL) r = id r := fun r hr => toL_ofL (by have := (h r hr).1; omega)
  rw [List.map_congr_left this, List.map_id]
theorem spsOne {p n : Int} {rows : List (List Int)} : SpsOk p n [rows] ↔ SpOk p n rows :=
  ⟨fun h => ⟨h.1.1, h.1.2, (h.2 rows (by simp)).1, (h.2 rows (by simp)).2⟩, fun h => ⟨⟨h.1, h.2.1⟩, fun r hr => by rw [List.mem_singleton.1 hr]; exact h.2.2⟩⟩
theorem spsOne_code {p n : Int} {rows : List (List Int)} : spsCode p n [rows] = spCode p n rows := by
  by_cases h : SpOk p n rows
  · rw [spCode_ok h, spsCode_ok (spsOne.2 h)]
  · rw [spCode_no h, spsCode_no (fun hh => h (spsOne.1 hh))]
theorem nil2 (w : World) : L2 0 w (.slice none 0 0) [] := Or.inl ⟨rfl, _, _, rfl⟩

/-- Two equal tables compare as equal. -/
theorem eq2_true (va vb : Value) (xs : List (List Int)) (w : World) (ha : L2 0 w va xs) (hb : L2 0 w vb xs) (hm : Bd2 1048576 xs) : Calls Try.prog 28 #[va, vb] w (BR (.bool true) w) := by
  have h := eq2_any va vb xs xs w ha hb hm hm
  rw [decide_eq_true rfl] at h
  exact h.mono fun _ _ hh => qr_below hh
end Go.Proofs.Ytpdkfidmmjlmnab

namespace Go.Proofs.Ytpdkfidmmjlmnab
open Go.RowKit

/-- append of no elements. -/
theorem run_append_none' {P : Program} (w : World) (t ty e : TypeId) (i : TypeInfo) (ht : P.underlying t = some (.slice e)) (hi : P.info? e = some i) {base size n : Nat} {v : Value} {xs : List Value} (hown : w.ownsRow base e size v n xs) (ad : Option Addr) (cap : Nat) :
    (Builtin.append_ #[t, t] ty #[v, .slice ad 0 cap]).run P w = .ok v w := by
  cases ad with
  | none =>
    rcases hown.2 with ⟨rfl, rfl⟩ | ⟨g, cap, cur, rfl, _, _, hnc, _⟩
    · simp [Builtin.append_, run_underlying ht, sizeOf, typeInfo, hi, Builtin.lenOf, Builtin.firstCells]
    · simp [Builtin.append_, run_underlying ht, sizeOf, typeInfo, hi, Builtin.lenOf, Builtin.firstCells, hnc, storeCells]
  | some a =>
    have hl := run_loadCells_list (P := P) w a [] (by simp)
    simp at hl
    rcases hown.2 with ⟨rfl, rfl⟩ | ⟨g, cap, cur, rfl, _, _, hnc, _⟩
    · simp [Builtin.append_, run_underlying ht, sizeOf, typeInfo, hi, Builtin.lenOf, Builtin.firstCells, hl]
    · simp [Builtin.append_, run_underlying ht, sizeOf, typeInfo, hi, Builtin.lenOf, Builtin.firstCells, hnc, storeCells, hl]

/-- append of a list of vectors to one that the call owns. -/
theorem wpList_appendVs {ops : Array Oper} {rest : List Oper} {o : Oper} {a : Act} {w : World} {Q : Exit → Act → World → Prop} (hgd : o.guard = none) (dst : Option Tmp) (hdst : o.dst = dst) (s x : Operand)
    (ho : o.op = .call { callee := .builtin .append, args := #[s, x], argTypes := #[108, 108] }) (base : Nat) (v u : Value) (A B : List Lin.V) (hs : a.eval s = v) (hx : a.eval x = u) (hown : Ow base w v A) (hB : Vs 0 w u B)
    (hl : A.length + B.length ≤ 2097152) (hb : base ≤ w.heap.size)
    (h : ∀ v' w', Ow base w' v' (A ++ B) → w.grownBy w' v.ownBlock → wpList Try.prog ops Q rest (a.put dst v') w') : wpList Try.prog ops Q (o :: rest) a w := by
  obtain ⟨i, hi, hz, hs1, hb1⟩ := info_parts Try.infoVz
  subst hdst
  refine Vs.cases hB (fun ad cap hB0 hu => ?_) (fun b o' cap hu _ hpos hc => ?_)
  · subst hB0 hu
    refine Lib.wpList_append_run _ hgd s x _ _ ho _ _ hs hx _ _ (run_append_none' w _ _ _ i Try.underlyingSV hi hown ad cap) ?_
    rw [List.append_nil] at h
    exact h v w hown ⟨rfl, rfl, rfl, Nat.le_refl _, fun _ _ _ => rfl⟩
  · subst hu
    refine wpList_append_own w hgd s x 108 ho base 161 i _ 40 320 Try.underlyingSV hi hz hs1 hb1 (by simp [Value.cells, zl_length]) (by decide) v A.length (cellsOf A) hs hown ⟨b, o', none⟩ B.length cap (cellsOf B) hx (cellsOf_length _) ?_ ?_ (by unfold maxLen; omega) (by omega) hb (fun v' w' h1 h2 _ => h v' w' ?_ h2)
    · intro j y hj
      rw [Addr.add_mid]
      have hjl : j < B.length * 40 := by rw [← cellsOf_length]; exact (List.getElem?_eq_some_iff.1 hj).1
      have hq : j / 40 < B.length := Nat.div_lt_of_lt_mul (by omega)
      have hm : j % 40 < 40 := Nat.mod_lt _ (by decide)
      have := (hc (j / 40) hq).cell hm
      rw [show o' + j / 40 * 40 + j % 40 = o' + j by omega] at this
      rw [this]
      have e := cellsOf_at (L := B) hq hm
      rw [show j / 40 * 40 + j % 40 = j by omega] at e
      rw [← hj, e]
    · exact cellsOf_one' B
    · unfold Ow
      rw [List.length_append, cellsOf_append]
      exact h1

set_option maxHeartbeats 800000 in
set_option maxRecDepth 100000 in
theorem grow_any (n : Nat) (w : World) (hn : n ≤ 2097152) : Calls Try.prog 203 #[.slice none 0 0, .int .i64 n] w (VsR (fun M => M = []) w) := by
  obtain ⟨i, hi, hz, hs1, hb1⟩ := info_parts Try.infoVz
  by_cases h0 : n = 0
  · subst h0
    go_enter Try.func203, Try.ntmps203
    go_wp2
    go_ret
    exact ⟨_, [], rfl, Below.refl _ _, Ow.nil _ _, rfl⟩
  · have hpos : 0 < n := by omega
    have hpos2 : (0 : Int) < (n : Int) := by omega
    have hrun := fun ty => Lib.run_append_nil_zeros w 108 3 ty 161 i _ .i64 .i64 Try.underlyingSV Try.underlying3 hi hz n hpos (by rw [hs1]; decide) (by omega) (by rw [hb1]; omega)
    obtain ⟨G, hG⟩ : ∃ G, G = grownCap w n 0 161 := ⟨_, rfl⟩
    rw [← hG] at hrun
    have hGn : n ≤ G := by rw [hG]; exact grownCap_ge w _ _ _
    have hGm : G ≤ maxLen := by rw [hG]; exact grownCap_le_maxLen w n 0 _ (by unfold maxLen; omega)
    obtain ⟨ROW, hROW⟩ : ∃ ROW : Array Value, ROW = Builtin.zeroCells (Value.agg zl.toArray).cells n ++ Builtin.zeroCells (Value.agg zl.toArray).cells (G - n) := ⟨_, rfl⟩
    rw [← hROW] at hrun
    have hsz : ROW.size = G * 40 := by
      rw [hROW]
      simp [Builtin.zeroCells, Value.cells, zl_length]
      omega
    have HOW : Hid (Ow w.heap.size (w.drew.alloc (.cells ROW 161)) (.slice (some ⟨w.heap.size, 0, none⟩) 0 G) []) := Lib.hid (World.ownsRow_made (base := w.heap.size) (e := 161) (size := 40) w.drew ROW G (Nat.le_refl _) hGm hsz)
    have HBE : Hid (Below w.heap.size w (w.drew.alloc (.cells ROW 161))) := Lib.hid ((Below.refl _ _).drew.alloc (Nat.le_refl _) _)
    clear hROW hsz hG
    go_enter Try.func203, Try.ntmps203
    go_wp2_with (at_builtin; refine Lib.wpList_append_run _ rfl (.tmp 20) (.tmp 21) 108 3 rfl _ _ rfl rfl _ _ (hrun _) ?_)
    go_wp2
    go_ret
    exact ⟨_, [], rfl, HBE.out, HOW.out, rfl⟩

set_option maxHeartbeats 1600000 in
set_option maxRecDepth 100000 in
theorem concat_any (g : Nat) (sa sb : Value) (A B : List Lin.V) (w : World) (h0 : w.cell? ⟨g, 0, none⟩ = some sa) (h1 : w.cell? ⟨g, 1, none⟩ = some sb) (hA : Vs 0 w sa A) (hB : Vs 0 w sb B) (hl : A.length + B.length ≤ 2097152) :
    Calls Try.prog 198 #[.slice (some ⟨g, 0, none⟩) 2 2] w (VsR (fun M => M = A ++ B) w) := by
  have HA := Lib.hid hA
  have HB := Lib.hid hB
  obtain ⟨aa, ca, rfl⟩ := Vs.shape hA
  obtain ⟨ab, cb, rfl⟩ := Vs.shape hB
  have hgl : g < w.heap.size := cell_lt h0
  have hgr := grow_any (A.length + B.length) w hl
  rw [Int.natCast_add] at hgr
  have HG := Lib.hid hgr
  have n0 : ¬ ((A.length : Int) < 0) := by omega
  have n1 : ¬ ((A.length : Int) + (B.length : Int) < 0) := by omega
  clear hgr
  clear hA hB
  go_enter Try.func198, Try.ntmps198
  go_wp2
  refine wp_loop_rounds 3 ?_
  rw [rounds_succ]
  go_wp2
  rw [rounds_succ]
  go_wp2
  rw [rounds_succ]
  go_wp2_with fail
  refine HG.out.mono ?_
  rintro e w1 ⟨s6, M, rfl, hb1, ho1, rfl⟩
  have HB1 := Lib.hid hb1
  have HO1 := Lib.hid ho1
  have h0' := later hb1 (Nat.le_refl _) h0
  have h1' := later hb1 (Nat.le_refl _) h1
  have HA1 := Lib.hid (HA.out.below hb1)
  clear hb1 ho1 HG h0 h1 n0 n1
  go_wp2
  refine wp_loop_rounds 3 ?_
  rw [rounds_succ]
  go_wp2_with (at_builtin; refine wpList_appendVs rfl (some 33) rfl (.tmp 31) (.tmp 32) rfl w.heap.size _ _ [] A rfl rfl HO1.out HA1.out ?c1 ?c2 ?_)
  case c1 => simp; omega
  case c2 => exact HB1.out.size
  rw [List.nil_append]
  intro v2 w2 ho2 hg2
  have HB2 : Hid (Below w.heap.size w w2) := Lib.hid (HB1.out.grown hg2 HB1.out.size (fun g hg => ((World.ownsRow.lt HO1.out) g hg).1))
  have HO2 := Lib.hid ho2
  have h1'' : w2.cell? ⟨g, 1, none⟩ = some (.slice ab B.length cb) := by rw [World.grownBy.cell hg2 h1' (fun e => by have := ((World.ownsRow.lt HO1.out) g e.symm).1; omega)]
  have HB2b := Lib.hid (HB.out.below HB2.out)
  clear ho2 hg2 h0' h1' HA1 HO1 HB1
  go_wp2
  rw [rounds_succ]
  go_wp2_with (at_builtin; refine wpList_appendVs rfl (some 33) rfl (.tmp 31) (.tmp 32) rfl w.heap.size _ _ A B rfl rfl HO2.out HB2b.out ?c1 ?c2 ?_)
  case c1 => exact hl
  case c2 => exact HB2.out.size
  intro v3 w3 ho3 hg3
  have HB3 : Hid (Below w.heap.size w w3) := Lib.hid (HB2.out.grown hg3 HB2.out.size (fun g hg => ((World.ownsRow.lt HO2.out) g hg).1))
  have HO3 := Lib.hid ho3
  clear ho3 hg3 h1''
  go_wp2
  rw [rounds_succ]
  go_wp2
  go_ret
  exact ⟨_, A ++ B, rfl, HB3.out, HO3.out, rfl⟩

set_option maxHeartbeats 1600000 in
set_option maxRecDepth 100000 in
theorem sumSpace_any (p : Int) (sa sb : Value) (A B : List Lin.V) (w : World) (hp : IsP p) (hA : Vs 0 w sa A) (hB : Vs 0 w sb B) (hm : ∀ u ∈ A ++ B, Lin.Md p u) (hw : ∀ u ∈ A ++ B, Lin.Wd 40 u) (hl : (A ++ B).length ≤ 1048575) :
    Calls Try.prog 162 #[.int .i64 p, sa, sb] w (VsR (fun R => RedOf p R (A ++ B) ∧ R.length ≤ (A ++ B).length) w) := by
  have HP := Lib.hid hp
  have HM := Lib.hid hm
  have HW := Lib.hid hw
  obtain ⟨aa, ca, rfl⟩ := Vs.shape hA
  obtain ⟨ab, cb, rfl⟩ := Vs.shape hB
  have hba : Below w.heap.size w (w.alloc (.cells #[.slice aa A.length ca, .slice ab B.length cb] 108)) := below_alloc1 _ _
  have HBA := Lib.hid hba
  have h0 : (w.alloc (.cells #[.slice aa A.length ca, .slice ab B.length cb] 108)).cell? ⟨w.heap.size, 0, none⟩ = some (.slice aa A.length ca) := by
    unfold World.cell?
    rw [heap_alloc_new w _]
    rfl
  have h1 : (w.alloc (.cells #[.slice aa A.length ca, .slice ab B.length cb] 108)).cell? ⟨w.heap.size, 1, none⟩ = some (.slice ab B.length cb) := by
    unfold World.cell?
    rw [heap_alloc_new w _]
    rfl
  have HC := Lib.hid (concat_any w.heap.size _ _ A B _ h0 h1 (hA.below hba) (hB.below hba) (by rw [List.length_append] at hl; omega))
  clear hp hA hB hm hw hba h0 h1
  go_enter Try.func162, Try.ntmps162
  go_wp2_with fail
  refine HC.out.mono ?_
  rintro e w1 ⟨s1, M, rfl, hb1, ho1, rfl⟩
  have HB1 := Lib.hid (HBA.out.trans (hb1.mono HBA.out.size))
  have HO1 := Lib.hid (ho1.vs.lower (Nat.zero_le _))
  clear hb1 ho1 HC
  go_wp2_with fail
  refine (reducedList_any p s1 (A ++ B) _ HP.out HO1.out HM.out HW.out hl).mono ?_
  rintro e w2 ⟨s2, R, rfl, hb2, ho2, hr⟩
  have HB2 := Lib.hid (HB1.out.trans (hb2.mono HB1.out.size))
  have HO2 : Hid (Ow w.heap.size w2 s2 R) := Lib.hid ⟨ho2.1, ho2.2.imp id (fun ⟨g, cap, cur, h1, h2, h3⟩ => ⟨g, cap, cur, h1, Nat.le_trans HB1.out.size h2, h3⟩)⟩
  have HR := Lib.hid hr
  clear hb2 ho2 hr
  go_wp2
  go_ret
  exact ⟨_, R, rfl, HB2.out, HO2.out, HR.out⟩
end Go.Proofs.Ytpdkfidmmjlmnab

namespace Go.Proofs.Ytpdkfidmmjlmnab
open Go.RowKit

theorem spsTwo {p n : Int} {a b : List (List Int)} : SpsOk p n [a, b] ↔ SpOk p n a ∧ SpOk p n b :=
  ⟨fun h => ⟨⟨h.1.1, h.1.2, h.2 a (by simp)⟩, ⟨h.1.1, h.1.2, h.2 b (by simp)⟩⟩, fun h => ⟨⟨h.1.1, h.1.2.1⟩, fun r hr => by
    rcases List.mem_cons.1 hr with rfl | hr
    · exact h.1.2.2
    · rw [List.mem_singleton.1 hr]; exact h.2.2.2⟩⟩
theorem sum_md {p n : Int} {a b : List (List Int)} (ha : SpOk p n a) (hb : SpOk p n b) : ∀ u ∈ a.map ofL ++ b.map ofL, Lin.Md p u := fun u hu => by
  rcases List.mem_append.1 hu with h | h
  · exact ha.md u h
  · exact hb.md u h
theorem sum_wd {p n : Int} {a b : List (List Int)} (ha : SpOk p n a) (hb : SpOk p n b) : ∀ u ∈ a.map ofL ++ b.map ofL, Lin.Wd n.toNat u := fun u hu => by
  rcases List.mem_append.1 hu with h | h
  · exact ha.wd u h
  · exact hb.wd u h
theorem spsCode_zero {p n : Int} {ls : List (List (List Int))} (h : spsCode p n ls = 0) : SpsOk p n ls := Classical.byContradiction fun hn => by
  rw [spsCode_no hn] at h
  cases h

/-- The rows' values of a table. -/
structure RowsAt (w : World) (v : Value) (tb : List (List Int)) (vs : List Value) : Prop where
  len : vs.length = tb.length
  row : ∀ k (h1 : k < vs.length) (h2 : k < tb.length), L1 0 w vs[k] tb[k]
  one : ∀ u ∈ vs, u.oneCell' = true
  at' : ∃ ad cap, v = .slice ad tb.length cap ∧ (0 < tb.length → ∃ a, ad = some a ∧ ∀ j u, vs[j]? = some u → w.cell? (a.add j) = some u)
theorem rowsAt {w : World} {v : Value} {tb : List (List Int)} (h : L2 0 w v tb) : ∃ vs, RowsAt w v tb vs := by
  refine Sl.cases h (fun ad cap hx hv => ?_) (fun b o cap hv _ hpos hc => ?_)
  · subst hx hv
    exact ⟨[], rfl, fun k h1 _ => absurd h1 (Nat.not_lt_zero _), by simp, ad, cap, rfl, fun h0 => absurd h0 (Nat.lt_irrefl 0)⟩
  · have hval : ∀ k (hk : k < tb.length), w.cell? ⟨b, o + k, none⟩ = some ((w.cell? ⟨b, o + k, none⟩).getD undef) ∧ L1 0 w ((w.cell? ⟨b, o + k, none⟩).getD undef) tb[k] := fun k hk => by
      obtain ⟨u, hu, hr⟩ := hc k hk
      rw [hu]
      exact ⟨rfl, hr⟩
    refine ⟨(List.range tb.length).map (fun k => (w.cell? ⟨b, o + k, none⟩).getD undef), by simp, fun k h1 h2 => ?_, fun u hu => ?_, _, cap, hv, fun _ => ⟨_, rfl, fun j u hj => ?_⟩⟩
    · simp only [List.getElem_map, List.getElem_range]
      exact (hval k h2).2
    · obtain ⟨k, hk, rfl⟩ := List.mem_map.1 hu
      obtain ⟨ad, cp, e⟩ := Sl.shape (hval k (List.mem_range.1 hk)).2
      rw [e]
      rfl
    · have hjl : j < tb.length := by have := (List.getElem?_eq_some_iff.1 hj).1; simpa using this
      rw [Addr.add_lit, (hval j hjl).1]
      simpa [hjl] using hj
theorem RowsAt.below {w w' : World} {v : Value} {tb : List (List Int)} {vs : List Value} (h : RowsAt w v tb vs) (hb : Below w.heap.size w w') : RowsAt w' v tb vs := by
  obtain ⟨ad, cap, hv, hc⟩ := h.at'
  refine ⟨h.len, fun k h1 h2 => (h.row k h1 h2).below hb, h.one, ad, cap, hv, fun h0 => ?_⟩
  obtain ⟨a, ha, hc⟩ := hc h0
  exact ⟨a, ha, fun j u hj => by rw [hb.cell (World.block_lt_of_cell? _ _ (hc j u hj)), hc j u hj]⟩
theorem wpList_appendT {ops : Array Oper} {rest : List Oper} {o : Oper} {a : Act} {w : World} {Q : Exit → Act → World → Prop} (hgd : o.guard = none) (dst : Option Tmp) (hdst : o.dst = dst) (s x : Operand)
    (ho : o.op = .call { callee := .builtin .append, args := #[s, x], argTypes := #[26, 26] }) (base n : Nat) (v u : Value) (xs : List Value) (tb : List (List Int)) (vs : List Value) (hs : a.eval s = v) (hx : a.eval x = u) (hown : w.ownsRow base 22 1 v n xs) (hT : RowsAt w u tb vs)
    (hl : n + tb.length ≤ 2097152) (hb : base ≤ w.heap.size)
    (h : ∀ v' w', w'.ownsRow base 22 1 v' (n + tb.length) (xs ++ vs) → w.grownBy w' v.ownBlock → wpList Try.prog ops Q rest (a.put dst v') w') : wpList Try.prog ops Q (o :: rest) a w := by
  obtain ⟨i, hi, hz, hs1, hb1⟩ := info_parts Try.infoS
  subst hdst
  obtain ⟨ad, cap, hv, hc⟩ := hT.at'
  subst hv
  by_cases h0 : tb.length = 0
  · have hvs : vs = [] := List.eq_nil_of_length_eq_zero (by rw [hT.len, h0])
    subst hvs
    rw [h0] at hx h
    refine Lib.wpList_append_run _ hgd s x _ _ ho _ _ hs hx _ _ (run_append_none' w _ _ _ i Try.underlying26 hi hown ad cap) ?_
    rw [List.append_nil] at h
    exact h v w hown ⟨rfl, rfl, rfl, Nat.le_refl _, fun _ _ _ => rfl⟩
  · obtain ⟨a0, rfl, hcell⟩ := hc (by omega)
    exact wpList_append_own w hgd s x 26 ho base 22 i _ 1 24 Try.underlying26 hi hz hs1 hb1 rfl (by decide) v n xs hs hown a0 tb.length cap vs hx (by rw [hT.len]; omega) hcell hT.one (by unfold maxLen; omega) (by omega) hb (fun v' w' h1 h2 _ => h v' w' h1 h2)

end Go.Proofs.Ytpdkfidmmjlmnab
