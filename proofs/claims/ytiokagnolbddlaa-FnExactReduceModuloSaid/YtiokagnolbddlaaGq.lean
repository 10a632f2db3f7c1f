/-
  Tables of the model whose rows lie apart from each other.
-/
import Derived.Test.YtiokagnolbddlaaLnm
import Derived.Test.YtiokagnolbddlaaRws
import Derived.Test.YtiokagnolbddlaaLes
namespace Go.Proofs.Ytiokagnolbddlaa
open Go.RowKit

/-- A table in blocks of the call's own, its rows' slices vs apart from each other. -/
structure Gqv (lo : Nat) (w : World) (u : Value) (vs : List Value) (t : List (List Int)) : Prop where
  own : w.ownsRow lo 22 1 u t.length vs
  rows : ∀ k (h1 : k < vs.length) (h2 : k < t.length), Gb lo w vs[k] t[k]
  ap : ∀ i j (hi : i < vs.length) (hj : j < vs.length), i ≠ j → ∀ g, vs[i].ownBlock = some g → vs[j].ownBlock ≠ some g
def Gq (lo : Nat) (w : World) (u : Value) (t : List (List Int)) : Prop := ∃ vs, Gqv lo w u vs t
theorem Gqv.len {lo : Nat} {w : World} {u : Value} {vs : List Value} {t : List (List Int)} (h : Gqv lo w u vs t) : vs.length = t.length := owns_len h.own
theorem Gqv.below {lo : Nat} {w w' : World} {u : Value} {vs : List Value} {t : List (List Int)} (h : Gqv lo w u vs t) (hb : Below w.heap.size w w') : Gqv lo w' u vs t := ⟨owns_below h.own hb, fun k h1 h2 => (h.rows k h1 h2).below hb, h.ap⟩
theorem Gqv.gs {lo : Nat} {w : World} {u : Value} {vs : List Value} {t : List (List Int)} (h : Gqv lo w u vs t) : Gs lo w u t := ⟨vs, h.own, fun k h1 h2 => (h.rows k h1 h2).g1⟩
theorem Gq.gs {lo : Nat} {w : World} {u : Value} {t : List (List Int)} (h : Gq lo w u t) : Gs lo w u t := by obtain ⟨vs, h⟩ := h; exact h.gs
theorem Gq.l2 {lo : Nat} {w : World} {u : Value} {t : List (List Int)} (h : Gq lo w u t) : L2 0 w u t := h.gs.l2
theorem Gq.below {lo : Nat} {w w' : World} {u : Value} {t : List (List Int)} (h : Gq lo w u t) (hb : Below w.heap.size w w') : Gq lo w' u t := by obtain ⟨vs, h⟩ := h; exact ⟨vs, h.below hb⟩
theorem Gq.nil {lo : Nat} {w : World} {u : Value} (h : Gs lo w u []) : Gq lo w u [] := by
  obtain ⟨vs, ho, hr⟩ := h
  have hl := owns_len ho
  exact ⟨vs, ho, fun k _ h2 => absurd h2 (Nat.not_lt_zero _), fun i j hi => absurd hi (by rw [hl]; simp)⟩
theorem Gqv.push {lo : Nat} {w w' : World} {u u' row : Value} {vs : List Value} {t : List (List Int)} {y : List Int} (h : Gqv lo w u vs t) (hn : w'.ownsRow lo 22 1 u' (t.length + 1) (vs ++ [row])) (hg : w.grownBy w' u.ownBlock) (hr : Gb lo w row y)
    (hap : ∀ i (hi : i < vs.length) g, vs[i].ownBlock = some g → row.ownBlock ≠ some g) : Gqv lo w' u' (vs ++ [row]) (t ++ [y]) := by
  have hl := h.len
  have hrow : ∀ {v : Value} {x : List Int}, Gb lo w v x → Gb lo w' v x := fun hx => owns_grown hx h.own (by decide) hg
  refine ⟨by simpa using hn, fun k h1 h2 => ?_, fun i j hi hj hij g e => ?_⟩
  · by_cases e : k < t.length
    · rw [List.getElem_append_left (by omega), List.getElem_append_left e]
      exact hrow (h.rows k (by omega) e)
    · have e2 : k = t.length := by simp at h2; omega
      subst e2
      rw [List.getElem_append_right (by omega), List.getElem_append_right (by omega)]
      simp only [hl, Nat.sub_self, List.getElem_singleton]
      exact hrow hr
  · by_cases e1 : i < vs.length
    · rw [List.getElem_append_left e1] at e
      by_cases e2 : j < vs.length
      · rw [List.getElem_append_left e2]
        exact h.ap i j e1 e2 hij g e
      · have e3 : j = vs.length := by simp at hj; omega
        subst e3
        rw [List.getElem_append_right (Nat.le_refl _)]
        simp only [Nat.sub_self, List.getElem_singleton]
        exact hap i e1 g e
    · have e3 : i = vs.length := by simp at hi; omega
      subst e3
      rw [List.getElem_append_right (Nat.le_refl _)] at e
      simp only [Nat.sub_self, List.getElem_singleton] at e
      have e2 : j < vs.length := by simp at hj; omega
      rw [List.getElem_append_left e2]
      exact fun h2 => hap j e2 g h2 e
/-- A number put into a row. -/
theorem Gqv.put {lo : Nat} {w : World} {u : Value} {vs : List Value} {t : List (List Int)} (h : Gqv lo w u vs t) {i : Nat} (hi : i < t.length) {g n c : Nat} (hv : vs[i]'(by rw [h.len]; exact hi) = .slice (some ⟨g, 0, none⟩) n c) {q : Nat} (hq : q < (t[i]).length) (x : Int) :
    Gqv lo (w.setCell ⟨g, q, none⟩ (.int .i64 x)) u vs (t.set i ((t[i]).set q x)) ∧ w.frozen? ⟨g, q, none⟩ = false ∧ lo ≤ g := by
  have hl := h.len
  have hrow := h.rows i (by omega) hi
  rw [hv] at hrow
  obtain ⟨hp, hf, hlo⟩ := hrow.put hq x
  have hob : (Value.slice (some ⟨g, 0, none⟩) n c).ownBlock = some g := rfl
  have hrr : ∃ k f, w.rowIs g 2 k f := by
    rcases hrow.2 with ⟨h0, _⟩ | ⟨g', c', cur, hv2, _, hh, _⟩
    · cases h0
    · injection hv2 with e1
      injection e1 with e1
      injection e1 with e1
      subst e1
      exact ⟨cur.size, fun i => cur.getD i undef, cur, hh, rfl, fun i hi => by simp [hi]⟩
  obtain ⟨k0, f0, hrr⟩ := hrr
  refine ⟨⟨by rw [List.length_set]; exact owns_off h.own hrr (by decide) _ _, fun k h1 h2 => ?_, h.ap⟩, hf, hlo⟩
  rw [List.getElem_set]
  by_cases e : i = k
  · subst e
    rw [if_pos rfl]
    rw [hv]
    exact hp
  · rw [if_neg e]
    have hk : k < t.length := by simpa using h2
    exact ownsRow_setCell_other (h.rows k h1 hk) (fun e2 => h.ap k i h1 (by omega) (Ne.symm e) g e2 (by rw [hv]; rfl)) _
def GqR (t : List (List Int)) (w : World) (e : Ending) (w' : World) : Prop := ∃ u, e = .returned u ∧ Gq w.heap.size w' u t ∧ Below w.heap.size w w'
section
variable {ops : Array Oper} {rest : List Oper} {o : Oper} {a : Act} {w : World} {Q : Exit → Act → World → Prop}
/-- append of one row, its own row of rows. -/
theorem wpList_appendLr (hgd : o.guard = none) (dst : Option Tmp) (hdst : o.dst = dst) (s x : Operand) (ho : o.op = .call { callee := .builtin .append, args := #[s, x], argTypes := #[44, 44] }) (base : Nat) (v : Value) (n : Nat) (vs : List Value) (hs : a.eval s = v) (hown : w.ownsRow base 22 1 v n vs)
    (b : Nat) (hx : a.eval x = .slice (some ⟨b, 0, none⟩) 1 1) (ar : Option Addr) (nr cr : Nat) (hc : w.cell? ⟨b, 0, none⟩ = some (.slice ar nr cr)) (hl : n ≤ 2097151) (hb : base ≤ w.heap.size)
    (h : ∀ g cap w', w'.ownsRow base 22 1 (.slice (some ⟨g, 0, none⟩) (n + 1) cap) (n + 1) (vs ++ [.slice ar nr cr]) → w.grownBy w' v.ownBlock → wpList Try.prog ops Q rest (a.put dst (.slice (some ⟨g, 0, none⟩) (n + 1) cap)) w') : wpList Try.prog ops Q (o :: rest) a w := by
  obtain ⟨i, hi, hz, hs1, hb1⟩ := info_parts Try.infoS
  subst hdst
  refine wpList_append_lies w hgd s x 44 ho base 22 i _ 1 24 Try.underlying44 hi hz hs1 hb1 rfl (by decide) v n vs hs hown ⟨b, 0, none⟩ 1 1 [.slice ar nr cr] hx rfl ?_ ?_ (by omega) (by unfold maxLen; omega) (by omega) hb _ rfl (fun g cap w' h1 h2 _ _ => h g cap w' h1 h2)
  · intro j u hj
    match j, hj with
    | 0, hj =>
      simp at hj
      subst hj
      exact hc
  · intro u hu
    simp at hu
    subst hu
    rfl
/-- append of one table, in a plain region. -/
theorem wpList_appendT1 (hgd : o.guard = none) (dst : Option Tmp) (hdst : o.dst = dst) (s x : Operand) (ho : o.op = .call { callee := .builtin .append, args := #[s, x], argTypes := #[23, 23] }) (base : Nat) (v : Value) (ts : List (List (List Int))) (hs : a.eval s = v) (hown : Gt base w v ts)
    (b : Nat) (hx : a.eval x = .slice (some ⟨b, 0, none⟩) 1 1) (ar : Option Addr) (nr cr : Nat) (hc : w.cell? ⟨b, 0, none⟩ = some (.slice ar nr cr)) (y : List (List Int)) (hy : Gs 0 w (.slice ar nr cr) y) (hl : ts.length ≤ 2097151) (hb : base ≤ w.heap.size)
    (h : ∀ g cap w', Gt base w' (.slice (some ⟨g, 0, none⟩) (ts.length + 1) cap) (ts ++ [y]) → w.grownBy w' v.ownBlock → wpList Try.prog ops Q rest (a.put dst (.slice (some ⟨g, 0, none⟩) (ts.length + 1) cap)) w') : wpList Try.prog ops Q (o :: rest) a w :=
  wpList_plain hgd fun _ hK => wp_appendT1 dst hdst s x ho base v ts hs hown b hx ar nr cr hc y hy hl hb fun g cap w' h1 h2 => by subst hdst; exact hK _ _ (h g cap w' h1 h2)
end

set_option maxHeartbeats 1600000 in
set_option maxRecDepth 100000 in
theorem l01Rows_q (vt : Value) (t : List (List Int)) (w : World) (ht : L2 0 w vt t) (hr : t.length ≤ 1048576) (hl : ∀ x ∈ t, x.length ≤ 1048576) :
    Calls Try.prog 79 #[vt] w (GqR t w) := by
  obtain ⟨at', ct, rfl⟩ := Sl.shape ht
  have HT := Lib.hid ht
  have HL := Lib.hid hl
  have HT0 : Hid (Gq w.heap.size (w.alloc (.cells #[] 22)) (.slice (some ⟨w.heap.size, 0, none⟩) 0 0) []) := Lib.hid (Gq.nil (Gs.new (base := w.heap.size) w (Nat.le_refl _)))
  clear ht hl
  go_enter Try.func79, Try.ntmps79
  go_wp2
  go_loopw [3, 4] (fun ov i wr => ∃ (k : Nat), k ≤ t.length ∧ i = .int .i64 k ∧ Hid (Below w.heap.size w wr) ∧ Hid (Gq w.heap.size wr ov (t.take k))) (fun _ i _ => t.length - (intOf i).toNat)
  case atStart => exact ⟨0, Nat.zero_le _, rfl, Lib.hid (below_alloc1 _ _), Lib.hid (by rw [List.take_zero]; exact HT0.out)⟩
  case round =>
    clear HT0
    obtain ⟨k, hk, rfl, HB, HG⟩ := hrel
    obtain ⟨wx, hwx⟩ : ∃ wx : World, wx = wr := ⟨_, rfl⟩
    subst hwx
    have hgl : (t.take k).length = k := by rw [List.length_take]; omega
    obtain ⟨ao, co, hov⟩ := Sl.shape HG.out.l2
    rw [hgl] at hov
    subst hov
    have HGN := Lib.hid hgl
    clear hgl
    have hsx : w.heap.size ≤ wx.heap.size := HB.out.size
    by_cases hlt : k < t.length
    · have hkl : (k : Int) < (t.length : Int) := by omega
      refine Sl.cases HT.out (fun _ _ hx _ => absurd hlt (by simp [hx])) (fun bt ot ct2 hvt _ _ hcl => ?_)
      injection hvt with e1 e2 e3
      clear e2
      subst e1 e3
      obtain ⟨ur, hur0, hrr⟩ := hcl k hlt
      have hur : wx.cell? ⟨bt, ot + k, none⟩ = some ur := later HB.out (Nat.le_refl _) hur0
      obtain ⟨y, hy⟩ : ∃ y, y = t[k] := ⟨_, rfl⟩
      rw [← hy] at hrr
      have hyl := HL.out y (by rw [hy]; exact List.getElem_mem hlt)
      have HTK : Hid (t.take (k + 1) = t.take k ++ [y]) := Lib.hid (by rw [List.take_succ_eq_append_getElem hlt, hy])
      obtain ⟨n, hn⟩ : ∃ n, n = y.length := ⟨_, rfl⟩
      obtain ⟨ar, cr, hus⟩ := Sl.shape hrr
      have HOW := Lib.hid (l01Own_any ur y wx (hrr.below HB.out) hyl)
      subst hus
      rw [← hn] at hur HOW
      have HN := Lib.hid hn
      clear hcl hrr hur0 hyl hn hy
      go_wp2_with fail
      refine HOW.out.mono ?_
      rintro e w2 ⟨u2, rfl, hg2, hb2⟩
      obtain ⟨a2, n2, hv2⟩ := Sl.shape hg2.l1
      rw [← HN.out] at hv2
      subst hv2
      have hs2 : wx.heap.size ≤ w2.heap.size := hb2.size
      have hba : Below w2.heap.size w2 (w2.alloc (.cells #[.slice a2 n n2] 22)) := below_alloc1 _ _
      have HGU := Lib.hid ((hg2.below hba).mono hsx)
      have HGO : Hid (∀ g, (Value.slice a2 n n2).ownBlock = some g → wx.heap.size ≤ g) := Lib.hid (fun g hg => (hg2.lt g hg).1)
      obtain ⟨vs, hvs⟩ := HG.out
      have HVS := Lib.hid ((hvs.below hb2).below hba)
      have HVL : Hid (∀ i (h : i < vs.length) g, vs[i].ownBlock = some g → g < wx.heap.size) := Lib.hid (fun i h g hg => ((hvs.rows i h (by have := hvs.len; omega)).lt g hg).2)
      have HVO := Lib.hid HVS.out.own
      rw [HGN.out] at HVO
      clear hvs
      have HBZ := Lib.hid ((HB.out.trans (hb2.mono hsx)).trans (hba.mono (by omega)))
      have hcell := cell_alloc1 w2 (.slice a2 n n2) 22
      clear hb2 hg2 hba hur HOW
      go_wp2_with (at_builtin; refine wpList_appendLr rfl (some 19) rfl (.tmp 12) (.tmp 18) rfl w.heap.size _ k vs rfl HVO.out w2.heap.size rfl a2 n n2 hcell ?c1 ?c2 ?_)
      case c1 => omega
      case c2 => first | (simp; omega) | omega
      intro g7 c7 W7 hg7 hgr7
      have HS7 : Hid (Gq w.heap.size W7 (.slice (some ⟨g7, 0, none⟩) (k + 1) c7) (t.take (k + 1))) := Lib.hid (by rw [HTK.out]; exact ⟨_, HVS.out.push (by rw [HGN.out]; exact hg7) hgr7 HGU.out (fun i h g hg hg2 => by have := HVL.out i h g hg; have := HGO.out g hg2; omega)⟩)
      have HB7 : Hid (Below w.heap.size w W7) := Lib.hid (HBZ.out.grown hgr7 (by simp; omega) (fun g hg => (HVS.out.own.lt g hg).1))
      clear hg7 hgr7 hcell
      go_wp2
      go_roundw
      case rel => first | exact ⟨k + 1, by omega, by go_num, HB7, HS7⟩ | ((repeat apply Exists.intro); exact ⟨⟨k + 1, by omega, by go_num, HB7, HS7⟩, rfl⟩)
      case measure => simp [intOf]; omega
    · have hkn : ¬ (k : Int) < (t.length : Int) := by omega
      have HKE : Hid (k = t.length) := Lib.hid (by omega)
      go_wp2
      go_ret
      exact ⟨_, rfl, by have := HG.out; rwa [HKE.out, List.take_length, ← HKE.out] at this, HB.out⟩
end Go.Proofs.Ytiokagnolbddlaa
