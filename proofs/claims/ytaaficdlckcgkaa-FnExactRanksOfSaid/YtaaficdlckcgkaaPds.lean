/-
  PageDifferential of the model by its contract.
-/
import Derived.Test.YtaaficdlckcgkaaPbs
import Derived.Test.YtaaficdlckcgkaaPdm
namespace Go.Proofs.Ytaaficdlckcgkaa
open Go.RowKit

theorem leadRow_take {Wl : List Lin.V} {y : Lin.V} {k : Nat} (h : k < Wl.length) : leadRow (Wl.take (k + 1)) y = leadRow (Wl.take k) y ++ [y (Lin.ld Wl[k])] := by
  unfold leadRow
  rw [List.take_succ_eq_append_getElem h, List.map_append]
  rfl
theorem leadRow_length (Wl : List Lin.V) (y : Lin.V) : (leadRow Wl y).length = Wl.length := by simp [leadRow]
theorem rep_succ (k : Nat) : List.replicate (k + 1) ([] : List Int) = List.replicate k [] ++ [[]] := by
  rw [← List.replicate_append_replicate]
  rfl

theorem gb_at {base n cap : Nat} {w : World} {ad : Option Addr} {y : Lin.V} (h : Gb base w (.slice ad n cap) (toL n y)) (hn : 0 < n) : ∀ b o, ad = some ⟨b, o, none⟩ → base ≤ b ∧ b < w.heap.size := by
  obtain ⟨g, hg, hb⟩ := h.block (by rw [toL_length]; exact hn)
  subst hg
  intro b o e
  injection e with e
  injection e with e1 e2
  subst e1
  exact ⟨hb, cell_lt (h.cell hn)⟩
theorem l1_grown {w w' : World} {ad : Option Addr} {n cap : Nat} {xs : List Int} {row : Option Nat} (h : L1 0 w (.slice ad n cap) xs) (hg : w.grownBy w' row) (hne : ∀ b o, ad = some ⟨b, o, none⟩ → some b ≠ row) : L1 0 w' (.slice ad n cap) xs := by
  rcases h with h | ⟨b, o, c, hv, hlo, hpos, hc⟩
  · exact Or.inl h
  · refine Or.inr ⟨b, o, c, hv, hlo, hpos, fun k hk => ?_⟩
    obtain ⟨u, hu, hr⟩ := hc k hk
    injection hv with e1
    exact ⟨u, (World.cell?_of_block (w := w) (a := ⟨b, o + k, none⟩) (hg.block b (cell_lt hu) (hne b o e1))).trans hu, hr⟩
section
variable {ops : Array Oper} {rest : List Oper} {Q : Exit → Act → World → Prop}
/-- append of one number to a row that the call gathers; where the row lies then. -/
theorem wpList_appendB {o : Oper} {a : Act} {w : World} (hgd : o.guard = none) (dst : Option Tmp) (hdst : o.dst = dst) (s x : Operand)
    (ho : o.op = .call { callee := .builtin .append, args := #[s, x], argTypes := #[22, 22] }) (base : Nat) (v : Value) (xs : List Int) (hs : a.eval s = v) (b cap : Nat) (z : Int) (hx : a.eval x = .slice (some ⟨b, 0, none⟩) 1 cap) (hown : Gb base w v xs) (hc : w.cell? ⟨b, 0, none⟩ = some (.int .i64 z))
    (hl : xs.length ≤ 2097152) (hb : base ≤ w.heap.size)
    (h : ∀ v' w', Gb base w' v' (xs ++ [z]) → w.grownBy w' v.ownBlock → (v'.ownBlock = v.ownBlock ∨ v'.ownBlock = some w.heap.size) → wpList Try.prog ops Q rest (a.put dst v') w') : wpList Try.prog ops Q (o :: rest) a w := by
  obtain ⟨i, hi, hz, hs1, hb1⟩ := info_parts Try.infoI
  subst hdst
  refine wpList_append_own_at w hgd s x 22 ho base 2 i _ 1 8 Try.underlying22 hi hz hs1 hb1 rfl (by decide) v xs.length (xs.map (Value.int .i64)) hs hown ⟨b, 0, none⟩ 1 cap [.int .i64 z] hx (by simp) ?_ ?_ (by unfold maxLen; omega) (by omega) hb (fun v' w' h1 h2 _ h4 => h v' w' ?_ h2 h4)
  · intro j y hj
    have hj' : j = 0 := by have := (List.getElem?_eq_some_iff.1 hj).1; simpa using this
    subst hj'
    simp only [List.getElem?_cons_zero, Option.some.injEq] at hj
    rw [← hj]
    exact hc
  · intro u hu
    simp only [List.mem_singleton] at hu
    rw [hu]
    rfl
  · unfold Gb
    simpa using h1
/-- append of one row to a table that the call gathers, or has not begun to gather. -/
theorem wpList_appendE {o : Oper} {a : Act} {w : World} (hgd : o.guard = none) (dst : Option Tmp) (hdst : o.dst = dst) (s x : Operand)
    (ho : o.op = .call { callee := .builtin .append, args := #[s, x], argTypes := #[34, 34] }) (base g : Nat) (v : Value) (tb : List (List Int)) (hs : a.eval s = v) (hst : GsE base g w v tb)
    (b : Nat) (hx : a.eval x = .slice (some ⟨b, 0, none⟩) 1 1) (ad : Option Addr) (m c : Nat) (hc : w.cell? ⟨b, 0, none⟩ = some (.slice ad m c)) (y : List Int) (hy : G1 w (.slice ad m c) y) (hn : tb.length ≤ 1048576) (hb : base ≤ w.heap.size)
    (h : ∀ v' w', Gs base w' v' (tb ++ [y]) → Below base w w' → wpList Try.prog ops Q rest (a.put dst v') w') : wpList Try.prog ops Q (o :: rest) a w := by
  rcases hst with ⟨rfl, rfl⟩ | hG
  · obtain ⟨ie, hie, hz, h1, h2⟩ := info_parts Try.infoS
    subst hdst
    have hrun := fun ty => run_append_grow (P := Try.prog) w 34 ty 22 ie _ Try.underlying34 hie hz ⟨g, 0, none⟩ 0 0 [] (by simp) (by simp) ⟨b, 0, none⟩ 1 1 [.slice ad m c] (by rw [h1]; rfl) (fun j u hj => by
      match j, hj with
      | 0, hj =>
        simp at hj
        subst hj
        exact hc) (by omega) (by omega) (by rw [h2]; exact growslice_fits (by omega) (by omega))
    obtain ⟨G, hG⟩ : ∃ G, G = grownCap w (0 + 1) 0 22 := ⟨_, rfl⟩
    rw [← hG] at hrun
    have hGn : 1 ≤ G := by rw [hG]; exact grownCap_ge w _ _ _
    have hGm : G ≤ maxLen := by rw [hG]; exact grownCap_le_maxLen w 1 0 _ (by unfold maxLen; omega)
    obtain ⟨ROW, hROW⟩ : ∃ ROW : Array Value, ROW = ([] : List Value).toArray ++ [Value.slice ad m c].toArray ++ Builtin.zeroCells (Value.slice none 0 0).cells (G - (0 + 1)) := ⟨_, rfl⟩
    rw [← hROW] at hrun
    have hsz : ROW.size = G := by
      rw [hROW]
      simp [Builtin.zeroCells, Value.cells]
      omega
    have hown : (w.drew.alloc (.cells ROW 22)).ownsRow base 22 1 (.slice (some ⟨w.heap.size, 0, none⟩) 1 G) 1 [.slice ad m c] :=
      ⟨rfl, Or.inr ⟨w.heap.size, G, ROW, rfl, hb, heap_alloc_new w.drew _, hGn, hGm, by rw [hsz]; omega, by rw [hROW]; simp⟩⟩
    have hbel : Below w.heap.size w (w.drew.alloc (.cells ROW 22)) := (Below.refl _ _).drew.alloc (Nat.le_refl _) _
    have hgs : Gs base (w.drew.alloc (.cells ROW 22)) (.slice (some ⟨w.heap.size, 0, none⟩) 1 G) ([] ++ [y]) := ⟨[.slice ad m c], hown, fun k h1 h2 => by
      have hk : k = 0 := by simpa using h1
      subst hk
      exact hy.below hbel⟩
    exact Lib.wpList_append_run w hgd s x 34 34 ho _ _ hs hx _ _ (hrun _) (h _ _ hgs (hbel.mono hb))
  · exact wpList_appendG hgd dst hdst s x ho base v tb hs hG b hx ad m c hc y hy (by omega) hb (fun v' w' h1 h2 => h v' w' h1 ((Below.refl _ _).grown h2 hb (fun g hg => (hG.lt g hg).1)))
end

end Go.Proofs.Ytaaficdlckcgkaa
