/-
  Texts that ProofRhl needs, part 7.
-/
import Derived.Test.YtlopenephgabhaaGreatZf6
namespace Go.Proofs.YtlopenephgabhaaGreat
open Go.RowKit

/-- A table in blocks of the call's own, its rows' slices vs apart from each other. -/
structure Gqv (lo : Nat) (w : World) (u : Value) (vs : List Value) (t : List (List Int)) : Prop where
  own : w.ownsRow lo 47 1 u t.length vs
  rows : ∀ k (h1 : k < vs.length) (h2 : k < t.length), Gb lo w vs[k] t[k]
  ap : ∀ i j (hi : i < vs.length) (hj : j < vs.length), i ≠ j → ∀ g, vs[i].ownBlock = some g → vs[j].ownBlock ≠ some g
def Gq (lo : Nat) (w : World) (u : Value) (t : List (List Int)) : Prop := ∃ vs, Gqv lo w u vs t
theorem Gqv.len {lo : Nat} {w : World} {u : Value} {vs : List Value} {t : List (List Int)} (h : Gqv lo w u vs t) : vs.length = t.length := owns_len h.own
theorem Gqv.below {lo : Nat} {w w' : World} {u : Value} {vs : List Value} {t : List (List Int)} (h : Gqv lo w u vs t) (hb : Below w.heap.size w w') : Gqv lo w' u vs t := ⟨owns_below h.own hb, fun k h1 h2 => (h.rows k h1 h2).below hb, h.ap⟩
theorem Gqv.gs {lo : Nat} {w : World} {u : Value} {vs : List Value} {t : List (List Int)} (h : Gqv lo w u vs t) : Gs lo w u t := ⟨vs, h.own, fun k h1 h2 => (h.rows k h1 h2).g1⟩
theorem Gq.gs {lo : Nat} {w : World} {u : Value} {t : List (List Int)} (h : Gq lo w u t) : Gs lo w u t := by obtain ⟨vs, h⟩ := h; exact h.gs
theorem Gq.l2 {lo : Nat} {w : World} {u : Value} {t : List (List Int)} (h : Gq lo w u t) : L2 0 w u t := h.gs.l2
theorem Gq.nil {lo : Nat} {w : World} {u : Value} (h : Gs lo w u []) : Gq lo w u [] := by
  obtain ⟨vs, ho, hr⟩ := h
  have hl := owns_len ho
  exact ⟨vs, ho, fun k _ h2 => absurd h2 (Nat.not_lt_zero _), fun i j hi => absurd hi (by rw [hl]; simp)⟩
theorem Gqv.push {lo : Nat} {w w' : World} {u u' row : Value} {vs : List Value} {t : List (List Int)} {y : List Int} (h : Gqv lo w u vs t) (hn : w'.ownsRow lo 47 1 u' (t.length + 1) (vs ++ [row])) (hg : w.grownBy w' u.ownBlock) (hr : Gb lo w row y)
    (hap : ∀ i (hi : i < vs.length) g, vs[i].ownBlock = some g → row.ownBlock ≠ some g) : Gqv lo w' u' (vs ++ [row]) (t ++ [y]) := by
  have hl := h.len
  have hrow : ∀ {v : Value} {x : List Int}, Gb lo w v x → Gb lo w' v x := fun hx => owns_grown hx h.own (by decide) hg
  refine ⟨by simpa using hn, fun k h1 h2 => ?_, fun i j hi hj hij g e => ?_⟩
  · by_cases e : k < t.length
    · rw [List.getElem_append_left (by omega), List.getElem_append_left e]
      exact hrow (h.rows k (by omega) e)
    · have e2 : k = t.length := by simp at h2; omega
      subst e2
      rw [List.getElem_append_right (by omega), List.getElem_append_right (by omega)]
      simp only [hl, Nat.sub_self, List.getElem_singleton]
      exact hrow hr
  · by_cases e1 : i < vs.length
    · rw [List.getElem_append_left e1] at e
      by_cases e2 : j < vs.length
      · rw [List.getElem_append_left e2]
        exact h.ap i j e1 e2 hij g e
      · have e3 : j = vs.length := by simp at hj; omega
        subst e3
        rw [List.getElem_append_right (Nat.le_refl _)]
        simp only [Nat.sub_self, List.getElem_singleton]
        exact hap i e1 g e
    · have e3 : i = vs.length := by simp at hi; omega
      subst e3
      rw [List.getElem_append_right (Nat.le_refl _)] at e
      simp only [Nat.sub_self, List.getElem_singleton] at e
      have e2 : j < vs.length := by simp at hj; omega
      rw [List.getElem_append_left e2]
      exact fun h2 => hap j e2 g h2 e
def GqR (t : List (List Int)) (w : World) (e : Ending) (w' : World) : Prop := ∃ u, e = .returned u ∧ Gq w.heap.size w' u t ∧ Below w.heap.size w w'
section
variable {ops : Array Oper} {rest : List Oper} {o : Oper} {a : Act} {w : World} {Q : Exit → Act → World → Prop}
/-- append of one row, its own row of rows. -/
theorem wpList_appendLr (hgd : o.guard = none) (dst : Option Tmp) (hdst : o.dst = dst) (s x : Operand) (ho : o.op = .call { callee := .builtin .append, args := #[s, x], argTypes := #[22, 22] }) (base : Nat) (v : Value) (n : Nat) (vs : List Value) (hs : a.eval s = v) (hown : w.ownsRow base 47 1 v n vs)
    (b : Nat) (hx : a.eval x = .slice (some ⟨b, 0, none⟩) 1 1) (ar : Option Addr) (nr cr : Nat) (hc : w.cell? ⟨b, 0, none⟩ = some (.slice ar nr cr)) (hl : n ≤ 2097151) (hb : base ≤ w.heap.size)
    (h : ∀ g cap w', w'.ownsRow base 47 1 (.slice (some ⟨g, 0, none⟩) (n + 1) cap) (n + 1) (vs ++ [.slice ar nr cr]) → w.grownBy w' v.ownBlock → wpList Tryz.prog ops Q rest (a.put dst (.slice (some ⟨g, 0, none⟩) (n + 1) cap)) w') : wpList Tryz.prog ops Q (o :: rest) a w := by
  obtain ⟨i, hi, hz, hs1, hb1⟩ := info_parts Tryz.infoS
  subst hdst
  refine wpList_append_lies w hgd s x 22 ho base 47 i _ 1 24 Tryz.underlying22 hi hz hs1 hb1 rfl (by decide) v n vs hs hown ⟨b, 0, none⟩ 1 1 [.slice ar nr cr] hx rfl ?_ ?_ (by omega) (by unfold maxLen; omega) (by omega) hb _ rfl (fun g cap w' h1 h2 _ _ => h g cap w' h1 h2)
  · intro j u hj
    match j, hj with
    | 0, hj =>
      simp at hj
      subst hj
      exact hc
  · intro u hu
    simp at hu
    subst hu
    rfl
end

set_option maxHeartbeats 1600000 in
set_option maxRecDepth 100000 in
theorem l01Rows_q (vt : Value) (t : List (List Int)) (w : World) (ht : L2 0 w vt t) (hr : t.length ≤ 1048576) (hl : ∀ x ∈ t, x.length ≤ 1048576) :
    Calls Tryz.prog 42 #[vt] w (GqR t w) := by
  obtain ⟨at', ct, rfl⟩ := Sl.shape ht
  have HT := Lib.hid ht
  have HL := Lib.hid hl
  have HT0 : Hid (Gq w.heap.size (w.alloc (.cells #[] 47)) (.slice (some ⟨w.heap.size, 0, none⟩) 0 0) []) := Lib.hid (Gq.nil (Gs.new (base := w.heap.size) w (Nat.le_refl _)))
  clear ht hl
  go_enter Tryz.func42, Tryz.ntmps42
  go_wp2
  go_loopw [3, 4] (fun ov i wr => ∃ (k : Nat), k ≤ t.length ∧ i = .int .i64 k ∧ Hid (Below w.heap.size w wr) ∧ Hid (Gq w.heap.size wr ov (t.take k))) (fun _ i _ => t.length - (intOf i).toNat)
  case atStart => exact ⟨0, Nat.zero_le _, rfl, Lib.hid (below_alloc1 _ _), Lib.hid (by rw [List.take_zero]; exact HT0.out)⟩
  case round =>
    clear HT0
    obtain ⟨k, hk, rfl, HB, HG⟩ := hrel
    obtain ⟨wx, hwx⟩ : ∃ wx : World, wx = wr := ⟨_, rfl⟩
    subst hwx
    have hgl : (t.take k).length = k := by rw [List.length_take]; omega
    obtain ⟨ao, co, hov⟩ := Sl.shape HG.out.l2
    rw [hgl] at hov
    subst hov
    have HGN := Lib.hid hgl
    clear hgl
    have hsx : w.heap.size ≤ wx.heap.size := HB.out.size
    by_cases hlt : k < t.length
    · have hkl : (k : Int) < (t.length : Int) := by omega
      refine Sl.cases HT.out (fun _ _ hx _ => absurd hlt (by simp [hx])) (fun bt ot ct2 hvt _ _ hcl => ?_)
      injection hvt with e1 e2 e3
      clear e2
      subst e1 e3
      obtain ⟨ur, hur0, hrr⟩ := hcl k hlt
      have hur : wx.cell? ⟨bt, ot + k, none⟩ = some ur := later HB.out (Nat.le_refl _) hur0
      obtain ⟨y, hy⟩ : ∃ y, y = t[k] := ⟨_, rfl⟩
      rw [← hy] at hrr
      have hyl := HL.out y (by rw [hy]; exact List.getElem_mem hlt)
      have HTK : Hid (t.take (k + 1) = t.take k ++ [y]) := Lib.hid (by rw [List.take_succ_eq_append_getElem hlt, hy])
      obtain ⟨n, hn⟩ : ∃ n, n = y.length := ⟨_, rfl⟩
      obtain ⟨ar, cr, hus⟩ := Sl.shape hrr
      have HOW := Lib.hid (l01Own_any ur y wx (hrr.below HB.out) hyl)
      subst hus
      rw [← hn] at hur HOW
      have HN := Lib.hid hn
      clear hcl hrr hur0 hyl hn hy
      go_wp2_with fail
      refine HOW.out.mono ?_
      rintro e w2 ⟨u2, rfl, hg2, hb2⟩
      obtain ⟨a2, n2, hv2⟩ := Sl.shape hg2.l1
      rw [← HN.out] at hv2
      subst hv2
      have hs2 : wx.heap.size ≤ w2.heap.size := hb2.size
      have hba : Below w2.heap.size w2 (w2.alloc (.cells #[.slice a2 n n2] 47)) := below_alloc1 _ _
      have HGU := Lib.hid ((hg2.below hba).mono hsx)
      have HGO : Hid (∀ g, (Value.slice a2 n n2).ownBlock = some g → wx.heap.size ≤ g) := Lib.hid (fun g hg => (hg2.lt g hg).1)
      obtain ⟨vs, hvs⟩ := HG.out
      have HVS := Lib.hid ((hvs.below hb2).below hba)
      have HVL : Hid (∀ i (h : i < vs.length) g, vs[i].ownBlock = some g → g < wx.heap.size) := Lib.hid (fun i h g hg => ((hvs.rows i h (by have := hvs.len; omega)).lt g hg).2)
      have HVO := Lib.hid HVS.out.own
      rw [HGN.out] at HVO
      clear hvs
      have HBZ := Lib.hid ((HB.out.trans (hb2.mono hsx)).trans (hba.mono (by omega)))
      have hcell := cell_alloc1 w2 (.slice a2 n n2) 47
      clear hb2 hg2 hba hur HOW
      go_wp2_with (at_builtin; refine wpList_appendLr rfl (some 19) rfl (.tmp 12) (.tmp 18) rfl w.heap.size _ k vs rfl HVO.out w2.heap.size rfl a2 n n2 hcell ?c1 ?c2 ?_)
      case c1 => omega
      case c2 => first | (simp; omega) | omega
      intro g7 c7 W7 hg7 hgr7
      have HS7 : Hid (Gq w.heap.size W7 (.slice (some ⟨g7, 0, none⟩) (k + 1) c7) (t.take (k + 1))) := Lib.hid (by rw [HTK.out]; exact ⟨_, HVS.out.push (by rw [HGN.out]; exact hg7) hgr7 HGU.out (fun i h g hg hg2 => by have := HVL.out i h g hg; have := HGO.out g hg2; omega)⟩)
      have HB7 : Hid (Below w.heap.size w W7) := Lib.hid (HBZ.out.grown hgr7 (by simp; omega) (fun g hg => (HVS.out.own.lt g hg).1))
      clear hg7 hgr7 hcell
      go_wp2
      go_roundw
      case rel => first | exact ⟨k + 1, by omega, by go_num, HB7, HS7⟩ | ((repeat apply Exists.intro); exact ⟨⟨k + 1, by omega, by go_num, HB7, HS7⟩, rfl⟩)
      case measure => simp [intOf]; omega
    · have hkn : ¬ (k : Int) < (t.length : Int) := by omega
      have HKE : Hid (k = t.length) := Lib.hid (by omega)
      go_wp2
      go_ret
      exact ⟨_, rfl, by have := HG.out; rwa [HKE.out, List.take_length, ← HKE.out] at this, HB.out⟩
end Go.Proofs.YtlopenephgabhaaGreat


namespace Go.Proofs.YtlopenephgabhaaGreat
open Go.RowKit

/-- The table as it is made: no row has numbers. -/
theorem gqv_made {lo : Nat} {w : World} (n : Nat) (hb : lo ≤ w.heap.size) (hn : n ≤ maxLen) (cs : Array Value) (hcs : cs.toList = List.replicate n (.slice none 0 0)) : Gqv lo (w.alloc (.cells cs 47)) (.slice (some ⟨w.heap.size, 0, none⟩) n n) (List.replicate n (.slice none 0 0)) (List.replicate n []) := by
  have hsz : cs.size = n := by rw [← Array.length_toList, hcs, List.length_replicate]
  refine ⟨⟨by simp, .inr ⟨w.heap.size, n, cs, by simp, hb, heap_alloc_new w _, by simp, hn, by rw [hsz, Nat.mul_one], ?_⟩⟩, fun k h1 h2 => ?_, fun i j hi hj _ g hg => ?_⟩
  · rw [hcs, List.length_replicate, Nat.mul_one, List.take_replicate, Nat.min_self]
  · rw [List.getElem_replicate, List.getElem_replicate]
    exact ⟨rfl, Or.inl ⟨rfl, rfl⟩⟩
  · rw [List.getElem_replicate] at hg
    simp [Value.ownBlock] at hg
/-- A row grows and is put in its place. -/
theorem Gqv.turn {lo g n cap : Nat} {w w' : World} {vs : List Value} {t : List (List Int)} {y : List Int} {row : Value} (h : Gqv lo w (.slice (some ⟨g, 0, none⟩) n cap) vs t) {i : Nat} (hi : i < t.length) (hi' : i < vs.length)
    (hg : w.grownBy w' (vs[i]).ownBlock) (hr : Gb lo w' row y) (hnew : ∀ b, row.ownBlock = some b → (vs[i]).ownBlock = some b ∨ w.heap.size ≤ b) :
    Gqv lo (w'.setCell ⟨g, i, none⟩ row) (.slice (some ⟨g, 0, none⟩) n cap) (vs.set i row) (t.set i y) ∧ w'.frozen? ⟨g, i, none⟩ = false ∧ (∃ v0, w'.cell? ⟨g, i, none⟩ = some v0) := by
  have hl := h.len
  have hri := h.rows i hi' hi
  have hown := owns_grown h.own hri (by decide) hg
  have hrow : ∀ k (h1 : k < vs.length) (h2 : k < t.length), k ≠ i → Gb lo w' vs[k] t[k] := fun k h1 h2 hk => owns_grown_off (h.rows k h1 h2) (fun b hb e => h.ap k i h1 hi' hk b hb e) hg
  obtain ⟨hl2, h2⟩ := hown
  rcases h2 with ⟨h0, _⟩ | ⟨g', c', cur, hv, hlo, hh, hnc, hcm, hcs, htk⟩
  · cases h0
  injection hv with e1 e2 e3
  injection e1 with e1
  injection e1 with e1
  subst e1 e3
  have hrr : w'.rowIs g 47 cur.size (fun i => cur.getD i undef) := ⟨cur, hh, rfl, fun i hi => by simp [hi]⟩
  have hkc : i < cur.size := by omega
  refine ⟨⟨⟨by simpa using hl2, Or.inr ⟨g, cap, cur.setIfInBounds i row, by rw [List.length_set, e2], hlo, block_setCell' hh _, by simpa using hnc, hcm, by simpa using hcs, ?_⟩⟩, fun k h1 h2 => ?_, fun a b ha hb hab q e => ?_⟩, by simp [World.frozen?, hh], ⟨_, hrr.cell hkc⟩⟩
  · simp only [List.length_set, Nat.mul_one] at htk ⊢
    rw [Array.toList_setIfInBounds, List.take_set, htk]
  · rw [List.getElem_set, List.getElem_set]
    by_cases e : i = k
    · rw [if_pos e, if_pos e]
      exact hr.off hrr (by decide) _ _
    · rw [if_neg e, if_neg e]
      exact (hrow k (by simpa using h1) (by simpa using h2) (fun x => e x.symm)).off hrr (by decide) _ _
  · have hlt : ∀ k (h1 : k < vs.length) b, (vs[k]).ownBlock = some b → b < w.heap.size := fun k h1 b hb => owns_lt (h.rows k h1 (by omega)) hb
    rw [List.getElem_set] at e ⊢
    have ha' : a < vs.length := by simpa using ha
    have hb' : b < vs.length := by simpa using hb
    by_cases ea : i = a
    · rw [if_pos ea] at e
      have eb : ¬ i = b := fun x => hab (ea.symm.trans x)
      rw [if_neg eb]
      intro h3
      rcases hnew q e with h4 | h4
      · exact h.ap i b hi' hb' eb q h4 h3
      · have := hlt b hb' q h3; omega
    · rw [if_neg ea] at e
      by_cases eb : i = b
      · rw [if_pos eb]
        intro h3
        rcases hnew q h3 with h4 | h4
        · exact h.ap i a hi' ha' ea q h4 e
        · have := hlt a ha' q e; omega
      · rw [if_neg eb]
        exact h.ap a b ha' hb' hab q e
end Go.Proofs.YtlopenephgabhaaGreat


namespace Go.Proofs.YtlopenephgabhaaGreat
open Go.RowKit

theorem disj_flat {J : Nat → List Iv} : ∀ {n : Nat}, (∀ j, j < n → Disj (J j)) → (∀ i j, i < n → j < n → i ≠ j → ∀ x ∈ J i, ∀ y ∈ J j, x.1 ≠ y.1) → Disj (flat J n)
  | 0, _, _ => by simp [flat, Disj]
  | n + 1, h1, h2 => by
    rw [flat_succ]
    refine List.pairwise_append.2 ⟨disj_flat (fun j hj => h1 j (by omega)) (fun i j hi hj => h2 i j (by omega) (by omega)), h1 n (by omega), fun x hx y hy => .inl ?_⟩
    obtain ⟨j, hj, hx⟩ := List.mem_flatMap.1 hx
    have hj := List.mem_range.1 hj
    exact h2 j n (by omega) (by omega) (by omega) x hx y hy
/-- A row as an interval, and as owned. -/
theorem gb_iv {lo : Nat} {w : World} {v : Value} {xs : List Int} (h : Gb lo w v xs) (hl : xs.length ≤ 1048576) : W1 lo w.heap.size w v xs ∧ ∃ I, S1 lo w.heap.size w v I ∧ Nums lo w.heap.size w I ∧ Disj I ∧ ivSize I ≤ 1048576 ∧ ∀ x ∈ I, v.ownBlock = some x.1 := by
  obtain ⟨ad, cap, rfl⟩ := Sl.shape h.l1
  by_cases h0 : xs.length = 0
  · have e := List.eq_nil_of_length_eq_zero h0
    subst e
    exact ⟨.inl ⟨rfl, _, _, rfl⟩, [], .inl ⟨rfl, _, _, rfl⟩, fun x hx => absurd hx (by simp), by simp [Disj], by simp [ivSize], fun x hx => absurd hx (by simp)⟩
  · obtain ⟨b, rfl, hb1, hb2, hc⟩ := h.parts (by omega)
    refine ⟨.inr ⟨b, 0, cap, rfl, hb1, hb2, by omega, fun k hk => ⟨_, by rw [Nat.zero_add]; exact (hc k hk).1, rfl⟩, fun k hk => by rw [Nat.zero_add]; exact (hc k hk).2⟩, [(b, 0, xs.length)], .inr ⟨b, 0, _, cap, rfl, by omega, hl, hb1, hb2, rfl⟩, fun x hx => ?_, by simp [Disj], by simp [ivSize]; omega, fun x hx => ?_⟩
    · rw [List.mem_singleton.1 hx]
      refine ⟨hb1, hb2, fun i hi => ?_⟩
      have hi' : i < xs.length := hi
      exact ⟨⟨_, by show w.cell? ⟨b, 0 + i, none⟩ = _; rw [Nat.zero_add]; exact (hc i hi').1⟩, by show w.frozen? ⟨b, 0 + i, none⟩ = _; rw [Nat.zero_add]; exact (hc i hi').2⟩
    · rw [List.mem_singleton.1 hx]; rfl
theorem Gqv.rw2 {lo g n cap : Nat} {w : World} {vs : List Value} {t : List (List Int)} (h : Gqv lo w (.slice (some ⟨g, 0, none⟩) n cap) vs t) (hn : t.length ≤ 1048576) (hr : ∀ x ∈ t, x.length ≤ 1048576) : Rw2 lo w.heap.size w (.slice (some ⟨g, 0, none⟩) n cap) t := by
  have hl := h.len
  rcases h.own with ⟨hl2, h2⟩
  rcases h2 with ⟨h0, _⟩ | ⟨g', c', cur, hv, hlo, hh, hnc, hcm, hcs, htk⟩
  · cases h0
  injection hv with e1 e2 e3
  injection e1 with e1
  injection e1 with e1
  subst e1 e3
  subst e2
  have hgl : g < w.heap.size := (Array.getElem?_eq_some_iff.1 hh).1
  have hcell : ∀ j (hj : j < vs.length), w.cell? ⟨g, j, none⟩ = some vs[j] := fun j hj => by
    have h5 : (cur.toList.take (t.length * 1))[j]? = vs[j]? := by rw [htk]
    rw [List.getElem?_take, if_pos (by omega), List.getElem?_eq_getElem hj] at h5
    simp [World.cell?, hh]
    simpa using h5
  have hiv : ∀ j (hj : j < t.length), _ := fun j hj => gb_iv (h.rows j (by omega) hj) (hr _ (List.getElem_mem hj))
  have hex : ∀ j, j < t.length → ∃ I, S1 lo w.heap.size w (vs.getD j undef) I ∧ Nums lo w.heap.size w I ∧ Disj I ∧ ivSize I ≤ 1048576 ∧ ∀ x ∈ I, (vs.getD j undef).ownBlock = some x.1 := fun j hj => by
    rw [getD_of_lt _ (by omega : j < vs.length)]
    exact (hiv j hj).2
  obtain ⟨J, hJ⟩ := choose2 hex
  refine ⟨?_, flat J t.length, ⟨some ⟨g, 0, none⟩, t.length, cap, fun j => vs.getD j undef, J, rfl, hn, rfl, fun j hj => (hJ j hj).1, fun _ => ⟨g, 0, rfl, hlo, hgl, fun j hj => by show w.cell? ⟨g, 0 + j, none⟩ = some (vs.getD j undef); rw [Nat.zero_add, getD_of_lt _ (by omega : j < vs.length)]; exact hcell j (by omega)⟩⟩, nums_flat (fun j hj => (hJ j hj).2.1), disj_flat (fun j hj => (hJ j hj).2.2.1) (fun i j hi hj hij x hx y hy e => ?_), ?_⟩
  · by_cases h0 : t.length = 0
    · exact .inl ⟨List.eq_nil_of_length_eq_zero h0, _, _, by rw [h0]⟩
    · refine .inr ⟨g, 0, cap, rfl, hlo, hgl, by omega, fun k hk => ⟨vs[k], by rw [Nat.zero_add]; exact hcell k (by omega), (hiv k hk).1⟩, fun k hk => by simp [World.frozen?, hh]⟩
  · have a1 := (hJ i hi).2.2.2.2 x hx
    have a2 := (hJ j hj).2.2.2.2 y hy
    rw [getD_of_lt _ (by omega : i < vs.length)] at a1
    rw [getD_of_lt _ (by omega : j < vs.length), ← e] at a2
    exact h.ap i j (by omega) (by omega) hij _ a1 a2
  · have h2 := size_spans (J := J) (n := t.length) (B := 1048576) (fun j hj => (hJ j hj).2.2.2.1)
    have h3 : 1048576 * t.length ≤ 1048576 * 1048576 := Nat.mul_le_mul (Nat.le_refl _) hn
    omega
theorem Gqv.kept {lo : Nat} {w w' : World} {u : Value} {vs : List Value} {t : List (List Int)} {row : Option Nat} (h : Gqv lo w u vs t) (hg : w.grownBy w' row) (hr : ∀ r, row = some r → ∃ o : Obj, w.heap[r]? = some o ∧ o.isCells = false) : Gqv lo w' u vs t := by
  have hk : ∀ {e : TypeId} {v : Value} {n : Nat} {xs : List Value}, w.ownsRow lo e 1 v n xs → w'.ownsRow lo e 1 v n xs := fun {e v n xs} ho => by
    refine ho.kept hg ?_
    cases hv : v.ownBlock with
    | none => exact .inl rfl
    | some g =>
      refine .inr (fun e => ?_)
      obtain ⟨o, hoo, hc⟩ := hr g e.symm
      rcases ho.2 with ⟨h0, _⟩ | ⟨g', c', cur, hu, _, hh, _⟩
      · rw [h0] at hv; simp [Value.ownBlock] at hv
      · rw [hu] at hv
        simp [Value.ownBlock] at hv
        subst hv
        rw [hh] at hoo
        cases hoo
        cases hc
  exact ⟨hk h.own, fun k h1 h2 => hk (h.rows k h1 h2), h.ap⟩
end Go.Proofs.YtlopenephgabhaaGreat


namespace Go.Proofs.YtlopenephgabhaaGreat
open Go.RowKit Go.Shelf
attribute [local go_sem] Oper.semAt_some

/-- The numbers of some cells of a column. -/
def ClN (p : Int) (ds : List (List Int)) (dn : List (List (List (List Int)))) (i : Nat) (cs : List (Nat × Nat)) (xs : List Int) : Prop := xs.length = cs.length ∧ ∀ k, k < cs.length → HNum p (clD ds i) (clM dn i) (cs.getD k (0, 0)).2 (xs.getD k 0)
theorem ClN.snoc {p : Int} {ds : List (List Int)} {dn : List (List (List (List Int)))} {i : Nat} {cs : List (Nat × Nat)} {xs : List Int} (h : ClN p ds dn i cs xs) {c : Nat × Nat} {x : Int} (hx : HNum p (clD ds i) (clM dn i) c.2 x) : ClN p ds dn i (cs ++ [c]) (xs ++ [x]) := by
  have hl := h.1
  refine ⟨by simp [hl], fun k hk => ?_⟩
  by_cases e : k < cs.length
  · have h1 : (cs ++ [c]).getD k (0, 0) = cs.getD k (0, 0) := by simp [List.getD_eq_getElem?_getD, List.getElem?_append_left e]
    have h2 : (xs ++ [x]).getD k 0 = xs.getD k 0 := by simp [List.getD_eq_getElem?_getD, List.getElem?_append_left (show k < xs.length by omega)]
    rw [h1, h2]
    exact h.2 k e
  · have e2 : k = cs.length := by simp at hk; omega
    subst e2
    have h1 : (cs ++ [c]).getD cs.length (0, 0) = c := by simp [List.getD_eq_getElem?_getD]
    have h2 : (xs ++ [x]).getD cs.length 0 = x := by rw [← hl]; simp [List.getD_eq_getElem?_getD]
    rw [h1, h2]
    exact hx
def onC (i : Nat) (c : Nat × Nat) : Bool := c.1 == i
/-- The table while the cells come in. -/
def TcP (p : Int) (ds : List (List Int)) (dn : List (List (List (List Int)))) (cs : List (Nat × Nat)) (t : List (List Int)) : Prop := t.length = ds.length ∧ ∀ i, i < ds.length → ClN p ds dn i (cs.filter (onC i)) (t.getD i [])
theorem TcP.snoc {p : Int} {ds : List (List Int)} {dn : List (List (List (List Int)))} {cs : List (Nat × Nat)} {t : List (List Int)} (h : TcP p ds dn cs t) {i j : Nat} (hi : i < t.length) {x : Int} (hx : HNum p (clD ds i) (clM dn i) j x) : TcP p ds dn (cs ++ [(i, j)]) (t.set i (t[i] ++ [x])) := by
  refine ⟨by rw [List.length_set]; exact h.1, fun k hk => ?_⟩
  have hk' : k < t.length := by rw [h.1]; exact hk
  have h1 := h.2 k hk
  rw [List.filter_append, getD_of_lt _ (by rw [List.length_set]; exact hk'), List.getElem_set]
  rw [getD_of_lt _ hk'] at h1
  by_cases e : i = k
  · subst e
    rw [if_pos rfl, show List.filter (onC i) [(i, j)] = [(i, j)] by simp [onC]]
    exact h1.snoc hx
  · rw [if_neg e, show List.filter (onC k) [(i, j)] = [] by simp [onC, e], List.append_nil]
    exact h1
theorem cells_onC {ds : List (List Int)} (i : Nat) : ∀ m, (cellsTo ds m).filter (onC i) = if i < m then rowCells ds i else []
  | 0 => by simp [cellsTo]
  | m + 1 => by
    rw [cellsTo_succ, List.filter_append, cells_onC i m]
    by_cases e : m = i
    · subst e
      rw [if_neg (Nat.lt_irrefl _), if_pos (Nat.lt_succ_self _), List.nil_append]
      exact List.filter_eq_self.2 (fun c hc => by
        obtain ⟨j, _, rfl⟩ := List.mem_map.1 hc
        simp [onC])
    · have hz : (rowCells ds m).filter (onC i) = [] := List.filter_eq_nil_iff.2 (fun c hc => by
        obtain ⟨j, _, rfl⟩ := List.mem_map.1 hc
        simp [onC, e])
      rw [hz, List.append_nil]
      by_cases e2 : i < m
      · rw [if_pos e2, if_pos (by omega)]
      · rw [if_neg e2, if_neg (by omega)]
/-- The table of the column homology numbers. -/
def TcOk (p : Int) (ds : List (List Int)) (dn : List (List (List (List Int)))) (t : List (List Int)) : Prop := t.length = ds.length ∧ ∀ i, i < ds.length → (t.getD i []).length = (ds.getD i []).length ∧ ∀ j, j < (ds.getD i []).length → HNum p (clD ds i) (clM dn i) j ((t.getD i []).getD j 0)
theorem TcP.ok {p : Int} {ds : List (List Int)} {dn : List (List (List (List Int)))} {t : List (List Int)} (h : TcP p ds dn (cellsTo ds ds.length) t) : TcOk p ds dn t := by
  refine ⟨h.1, fun i hi => ?_⟩
  have h1 := h.2 i hi
  rw [cells_onC, if_pos hi] at h1
  have hl : (rowCells ds i).length = (ds.getD i []).length := by simp [rowCells]
  refine ⟨by rw [h1.1, hl], fun j hj => ?_⟩
  have h2 := h1.2 j (by rw [hl]; exact hj)
  have e : (rowCells ds i).getD j (0, 0) = (i, j) := by
    rw [getD_of_lt _ (by rw [hl]; exact hj)]
    simp [rowCells]
  rw [e] at h2
  exact h2
theorem TcOk.unique {p : Int} {ds : List (List Int)} {dn : List (List (List (List Int)))} {t t' : List (List Int)} (hp : 1 < p) (h : TcOk p ds dn t) (k : TcOk p ds dn t') : t = t' := by
  refine List.ext_getElem (by rw [h.1, k.1]) (fun i h1 h2 => ?_)
  obtain ⟨a1, a2⟩ := h.2 i (by rw [← h.1]; exact h1)
  obtain ⟨b1, b2⟩ := k.2 i (by rw [← h.1]; exact h1)
  rw [getD_of_lt _ h1] at a1 a2
  rw [getD_of_lt _ h2] at b1 b2
  refine List.ext_getElem (by rw [a1, b1]) (fun j h3 h4 => ?_)
  have a3 := a2 j (by rw [← a1]; exact h3)
  have b3 := b2 j (by rw [← a1]; exact h3)
  rw [getD_of_lt _ h3] at a3
  rw [getD_of_lt _ h4] at b3
  exact a3.unique hp b3
end Go.Proofs.YtlopenephgabhaaGreat


namespace Go.Proofs.YtlopenephgabhaaGreat
open Go.RowKit Go.Shelf
attribute [local go_sem] Oper.semAt_some

theorem made_list (m : Nat) (z : Value) : (madeCells #[z] m).toList = List.replicate m z :=
  List.ext_getElem (by simp [size_madeCells]) (fun i h1 h2 => by simp [madeCells, Nat.mod_one])
theorem Gqv.cell {lo g n cap : Nat} {w : World} {vs : List Value} {t : List (List Int)} (h : Gqv lo w (.slice (some ⟨g, 0, none⟩) n cap) vs t) {j : Nat} (hj : j < vs.length) : w.cell? ⟨g, j, none⟩ = some vs[j] ∧ ∃ cs, w.heap[g]? = some (.cells cs 47 (0, 0)) := by
  have hl := h.len
  rcases h.own with ⟨hl2, h2⟩
  rcases h2 with ⟨h0, _⟩ | ⟨g', c', cur, hv, hlo, hh, hnc, hcm, hcs, htk⟩
  · cases h0
  injection hv with e1 e2 e3
  injection e1 with e1
  injection e1 with e1
  subst e1
  refine ⟨?_, _, hh⟩
  have h5 : (cur.toList.take (t.length * 1))[j]? = vs[j]? := by rw [htk]
  rw [List.getElem?_take, if_pos (by omega), List.getElem?_eq_getElem hj] at h5
  simp [World.cell?, hh]
  simpa using h5
theorem grown_off {A X : World} {lo : Nat} {v : Value} {xs : List Int} (hr : Gb lo A v xs) (hg : A.grownBy X v.ownBlock) {k : Nat} {cs : Array Value} {ty : TypeId} (hk : A.heap[k]? = some (.cells cs ty (0, 0))) (ht : ty ≠ 2) : X.heap[k]? = A.heap[k]? := by
  refine hg.block k (Array.getElem?_eq_some_iff.1 hk).1 (fun e => ?_)
  rcases hr.2 with ⟨h0, _⟩ | ⟨g, c', cur, hu, _, hh, _⟩
  · rw [h0] at e; simp [Value.ownBlock] at e
  · rw [hu] at e
    simp [Value.ownBlock] at e
    subst e
    rw [hh] at hk
    injection hk with hk
    injection hk with _ h2
    exact ht h2.symm

theorem hloadFn (w : World) {b o : Nat} {x : Value} (h : w.cell? ⟨b, o, none⟩ = some x) : (Instr.loadAt 45 (.pointer (some ⟨b, o, none⟩))).run Tryz.prog w = .ok x w := by go_simp
theorem hloadDk (w : World) {b : Nat} {p : Int} {dv av vv : Value} (h : w.heap[b]? = some (.cells #[.int .i64 p, dv, av, vv] 29 (0, 0))) : (Instr.loadAt 29 (.pointer (some ⟨b, 0, none⟩))).run Tryz.prog w = .ok (.agg #[.int .i64 p, dv, av, vv]) w := by
  have c0 : w.cell? ⟨b, 0, none⟩ = some (.int .i64 p) := by simp [World.cell?, h]
  have c1 : w.cell? ⟨b, 1, none⟩ = some dv := by simp [World.cell?, h]
  have c2 : w.cell? ⟨b, 2, none⟩ = some av := by simp [World.cell?, h]
  have c3 : w.cell? ⟨b, 3, none⟩ = some vv := by simp [World.cell?, h]
  go_simp

set_option maxRecDepth 100000 in
set_option maxHeartbeats 8000000 in
theorem tableOfCells_any (p : Int) (dv av vv : Value) (ds : List (List Int)) (ac dn : List (List (List (List Int)))) (w : World) (h : Dx 0 w dv av vv ds ac dn) (hc : L5 0 w vv dn) (hdb : IsDb p ds ac dn) :
    Calls Tryz.prog 47 #[.agg #[.int .i64 p, dv, av, vv], .func (.func 25) #[] #[]] w fun e w' => ∃ u t, e = .returned u ∧ Rw2 w.heap.size w'.heap.size w' u t ∧ Below w.heap.size w w' ∧ TcOk p ds dn t := by
  have HX := Lib.hid h
  have HL := Lib.hid hc
  have HDB := Lib.hid hdb
  have HOK := Lib.hid hdb.cel
  have hl4 := hdb.cel.len1
  obtain ⟨m, hm⟩ : ∃ m, m = ds.length := ⟨_, rfl⟩
  have HM := Lib.hid hm
  obtain ⟨ad9, cd9, hdv⟩ := Sl.shape h.dims
  rw [← hm] at hdv hl4
  subst hdv
  have hx0 := (DBx.start (p := p) 29 h).next (w' := (w.alloc (.cells #[.int .i64 p, .slice ad9 m cd9, av, vv] 29)).alloc (.cells #[.func (.func 25) #[] #[]] 45)) ((Below.refl _ _).alloc (Nat.le_refl _) _)
  clear h hc hdb hm
  have hmk := run_make_row' (P := Tryz.prog) 22 47 (.slice none 0 0) 24 Tryz.underlying22 Tryz.infoS rfl .i64 .i64 m (by omega) (by omega)
  refine (callsIn_wide (n := 8)).1 ?_
  refine callsIn_of_wp_marks Tryz.func47 rfl trivial ?_
  simp only [Tryz.ntmps47, List.size_toArray, List.length_cons, List.length_nil, Nat.reduceAdd, Nat.reduceSub, Array.replicate_succ, Array.replicate_zero, List.push_toArray, List.append_toArray, List.nil_append, List.cons_append]
  gi_wp2_with fail
  refine ⟨trivial, (callsIn_wide.2 (cellsOf_any p _ av vv _)).mono ?_⟩
  rintro e w9 ⟨rfl, rfl⟩
  dsimp only
  gi_wp2
  obtain ⟨W2, hW2⟩ : ∃ W2, W2 = (w.alloc (.cells #[.int .i64 p, .slice ad9 m cd9, av, vv] 29)).alloc (.cells #[.func (.func 25) #[] #[]] 45) := ⟨_, rfl⟩
  have hs2 : W2.heap.size = w.heap.size + 1 + 1 := by rw [hW2]; simp
  have hd2 : W2.heap[w.heap.size]? = some (.cells #[.int .i64 p, .slice ad9 m cd9, av, vv] 29 (0, 0)) := by rw [hW2]; exact ((below_alloc1 _ _).block w.heap.size (by simp)).trans (heap_alloc_new w _)
  have hf2 : W2.heap[w.heap.size + 1]? = some (.cells #[.func (.func 25) #[] #[]] 45 (0, 0)) := by rw [hW2]; have := heap_alloc_new (w.alloc (.cells #[.int .i64 p, .slice ad9 m cd9, av, vv] 29)) (.cells #[.func (.func 25) #[] #[]] 45); simpa using this
  rw [← hW2] at hx0 ⊢
  have hq3 := gqv_made (lo := W2.heap.size) (w := W2) m (Nat.le_refl _) (by unfold maxLen; omega) _ (made_list m (.slice none 0 0))
  have hb3 : Below W2.heap.size W2 (W2.alloc (.cells (madeCells #[.slice none 0 0] m) 47)) := below_alloc1 _ _
  have hs3 : (W2.alloc (.cells (madeCells #[.slice none 0 0] m) 47)).heap.size = W2.heap.size + 1 := by simp
  obtain ⟨W3, hW3⟩ : ∃ W3, W3 = W2.alloc (.cells (madeCells #[.slice none 0 0] m) 47) := ⟨_, rfl⟩
  rw [← hW3] at hq3 hb3 hs3 ⊢
  rw [show (Value.slice (some ⟨W2.heap.size, 0, none⟩) m m) = .slice (some ⟨w.heap.size + 1 + 1, 0, none⟩) m m by rw [hs2]] at hq3
  have hz4 := Go.Boxed.new W3 22 (.slice (some ⟨w.heap.size + 1 + 1, 0, none⟩) m m)
  rw [show W3.heap.size = w.heap.size + 1 + 1 + 1 by omega] at hz4
  have hb4 : Below W3.heap.size W3 (W3.alloc (.cells #[.slice (some ⟨w.heap.size + 1 + 1, 0, none⟩) m m] 22)) := below_alloc1 _ _
  have hs4 : (W3.alloc (.cells #[.slice (some ⟨w.heap.size + 1 + 1, 0, none⟩) m m] 22)).heap.size = W3.heap.size + 1 := by simp
  obtain ⟨W4, hW4⟩ : ∃ W4, W4 = W3.alloc (.cells #[.slice (some ⟨w.heap.size + 1 + 1, 0, none⟩) m m] 22) := ⟨_, rfl⟩
  rw [← hW4] at hz4 hb4 hs4 ⊢
  have hb0 : Below W4.heap.size W4 (W4.alloc (.cells #[.int .i64 p, .slice ad9 m cd9, av, vv] 29)) := below_alloc1 _ _
  have hd0 := new_c1 W4 p (.slice ad9 m cd9) av vv
  have hs0 : (W4.alloc (.cells #[.int .i64 p, .slice ad9 m cd9, av, vv] 29)).heap.size = W4.heap.size + 1 := by simp
  obtain ⟨W0, hW0⟩ : ∃ W0, W0 = W4.alloc (.cells #[.int .i64 p, .slice ad9 m cd9, av, vv] 29) := ⟨_, rfl⟩
  rw [← hW0] at hb0 hd0 hs0 ⊢
  have hq0 := (hq3.below hb4).below hb0
  have hz0 : Go.Boxed W0 (w.heap.size + 1 + 1 + 1) 22 (.slice (some ⟨w.heap.size + 1 + 1, 0, none⟩) m m) := (hb0.block _ hz4.lt).trans hz4
  have hb20 : Below W2.heap.size W2 W0 := (hb3.trans (hb4.mono (by omega))).trans (hb0.mono (by omega))
  have hBw : Below w.heap.size w W0 := hx0.below.trans (hb20.mono (by omega))
  have HX2 := Lib.hid hx0
  have HL2 := Lib.hid (HL.out.below hx0.below)
  have HD2 := Lib.hid hd2
  have HF2 := Lib.hid hf2
  clear hW2 hW3 hW4 hW0 hq3 hb3 hz4 hb4 hb0 hd2 hf2 hx0 hmk
  have hst := cells_stops Fence.wide 7 trivial rfl (by decide) W4.heap.size (.slice ad9 m cd9) ds (by have := HM.out; omega) (fun r hr => by have := (HOK.out.col r hr).1; have := HOK.out.h1; omega) w W0 (by omega) hd0 HX.out.dims hBw
  have hT0 : TcP p ds dn [] (List.replicate m []) := ⟨by simp [HM.out], fun i hi => by
    rw [getD_of_lt _ (by simp [HM.out, hi])]
    exact ⟨by simp, fun k hk => absurd hk (by simp)⟩⟩
  have hi2 : w.heap.size + 2 ≤ W2.heap.size ∧ W2.heap.size ≤ w.heap.size + 2 := by omega
  have hi0 : w.heap.size + 5 ≤ W0.heap.size ∧ W0.heap.size ≤ w.heap.size + 5 := by omega
  clear hd0 hs2 hs3 hs4 hs0
  refine wpIn_rangeFunc_cell rfl (by decide : 1 ≤ 8) (gf := 93) (lb := #[.pointer (some ⟨W4.heap.size, 0, none⟩)]) rfl trivial (enters_of Tryz.func93 (by kernel_rfl) rfl)
    hst belowK_t (belowK_b (by omega)) (Below.refl _ _) (fun _ => rfl)
    (fun pre W => (∃ vs t, Gqv W2.heap.size W (.slice (some ⟨w.heap.size + 1 + 1, 0, none⟩) m m) vs t ∧ TcP p ds dn (pre.map (·.1)) t) ∧ Go.Boxed W (w.heap.size + 1 + 1 + 1) 22 (.slice (some ⟨w.heap.size + 1 + 1, 0, none⟩) m m) ∧ Below W2.heap.size W2 W) (fun _ _ _ => False)
    (OwnFrom.and (fun s X Y row ⟨vs, t, h1, h2⟩ hg hr => ⟨vs, t, h1.kept hg (fun r e => (hr r e).2), h2⟩) (OwnFrom.and (Own.from (boxed_own (β := List (CellIn ds)) _ _ (fun _ => Value.slice (some ⟨w.heap.size + 1 + 1, 0, none⟩) m m)) _) (ownFrom_below (Nat.le_refl _) (by omega)))) (fun _ _ _ _ _ h _ _ => h)
    ⟨⟨_, _, hq0, hT0⟩, hz0, hb20⟩ (fun x => #[.int .i64 (x.1.1 : Int), .int .i64 (x.1.2 : Int)]) 6 63 W2.heap.size
    ?assign ?body ?done ?stop
  case assign =>
    rintro l pre x A K ⟨⟨vs, t, hq, ht⟩, hz, hb⟩ hKK
    simp only [cellV] at hKK ⊢
    have hsz := hb.size
    gi_wp2
    have hk := hKK A.heap.size _ (by omega) (World.alloc_heap_new A _) ((KeepsOthers.alloc _ _).from _) ((Below.refl _ A).alloc (by omega) _) ⟨⟨vs, t, hq.below ((Below.refl _ A).alloc (Nat.le_refl _) _), ht⟩, (((Below.refl _ A).alloc (Nat.le_refl _) _).block _ hz.lt).trans hz, hb.trans (((Below.refl _ A).alloc (Nat.le_refl _) _).mono (by omega))⟩
    simp at hk
    refine Eq.mp ?_ hk
    congr 1
    all_goals (try congr 1)
  case body =>
    rintro l pre x Bx A hl ⟨r, hr⟩ ⟨⟨vs, t, hq, ht⟩, hz, hb⟩ hBx hX hlt
    obtain ⟨⟨i, j⟩, hxm⟩ := x
    dsimp only at hX
    have hmf := mem_cells.1 hxm
    dsimp only at hmf
    have htl : t.length = m := by rw [ht.1]; exact HM.out.symm
    have hvl := hq.len
    have him : i < m := by have := HM.out; omega
    have hiv : i < vs.length := by omega
    have hit : i < t.length := by omega
    have hrow := hq.rows i hiv hit
    obtain ⟨hcell, cs, htab⟩ := hq.cell hiv
    have hsz := hb.size
    have hjd : j < (clD ds i).length := hmf.2
    have hrl : (t[i]).length ≤ 1000 := by
      have h1 := (ht.2 i hmf.1).1
      rw [getD_of_lt _ hit] at h1
      have h2 : (List.filter (onC i) (pre.map (·.1))).length ≤ pre.length := Nat.le_trans (List.length_filter_le _ _) (by simp)
      have h3 := cells_le HOK.out
      omega
    obtain ⟨rv, hrv⟩ : ∃ rv, rv = vs[i] := ⟨_, rfl⟩
    obtain ⟨ar, cr, hsh⟩ := Sl.shape hrow.l1
    rw [← hrv] at hrow hcell hsh
    have HQ := Lib.hid hq
    have HT := Lib.hid ht
    have HROW := Lib.hid hrow
    have HRV := Lib.hid hrv
    have HB := Lib.hid hb
    have HGO : Hid (∀ X, A.grownBy X rv.ownBlock → X.cell? ⟨w.heap.size + 1 + 1 + 1, 0, none⟩ = some (.slice (some ⟨w.heap.size + 1 + 1, 0, none⟩) m m) ∧ X.cell? ⟨Bx, 0, none⟩ = some (.int .i64 (i : Int)) ∧ X.cell? ⟨Bx, 1, none⟩ = some (.int .i64 (j : Int)) ∧ X.cell? ⟨w.heap.size + 1 + 1, i, none⟩ = some rv ∧ X.cell? ⟨w.heap.size + 1, 0, none⟩ = some (.func (.func 25) #[] #[]) ∧ X.heap[w.heap.size]? = some (.cells #[.int .i64 p, .slice ad9 m cd9, av, vv] 29 (0, 0)) ∧ X.frozen? ⟨w.heap.size + 1 + 1, i, none⟩ = false ∧ Go.Boxed X (w.heap.size + 1 + 1 + 1) 22 (.slice (some ⟨w.heap.size + 1 + 1, 0, none⟩) m m)) := Lib.hid (fun X hg => by
      have g1 := grown_off hrow hg (show A.heap[w.heap.size + 1 + 1 + 1]? = _ from hz) (by decide)
      have g2 := grown_off hrow hg hX (by decide)
      have g3 := grown_off hrow hg htab (by decide)
      have hfa : A.heap[w.heap.size + 1]? = _ := (hb.block (w.heap.size + 1) (by omega)).trans HF2.out
      have hda : A.heap[w.heap.size]? = _ := (hb.block w.heap.size (by omega)).trans HD2.out
      have g4 := grown_off hrow hg hfa (by decide)
      have g5 := grown_off hrow hg hda (by decide)
      have z1 : X.heap[w.heap.size + 1 + 1 + 1]? = some (.cells #[.slice (some ⟨w.heap.size + 1 + 1, 0, none⟩) m m] 22 (0, 0)) := g1.trans hz
      exact ⟨by simp [World.cell?, z1], by simp [World.cell?, g2.trans hX], by simp [World.cell?, g2.trans hX], (World.cell?_of_block g3).trans hcell, by simp [World.cell?, g4.trans hfa], g5.trans hda, by simp [World.frozen?, g3.trans htab], z1⟩)
    have HCALL : Hid (∀ X, Below A.heap.size A X → Calls Tryz.prog 25 #[.agg #[.int .i64 p, .slice ad9 m cd9, av, vv], .agg #[.int .i64 (i : Int), .int .i64 (j : Int)]] X (NumR p (clD ds i) (clM dn i) j X)) := Lib.hid (fun X hx => columnNumber_any p i j _ _ _ ds ac dn X (HX2.out.dx.below (hb.trans (hx.mono (by omega)))) (HL2.out.below (hb.trans (hx.mono (by omega)))) HDB.out hmf.1 hjd)
    clear hq ht hrow hb hr hX hmf hcell htab hz hrv hlt
    subst hsh
    gi_wp2_with fail
    refine wpIn_region_last (fun X => A.grownBy X (Value.slice ar (t[i]).length cr).ownBlock) 15 (by kernel_rfl) (by kernel_rfl) (fun ⟨_, _, h⟩ => h) rfl (by kernel_rfl) ?_
    have S0 : A.grownBy A.drew (Value.slice ar (t[i]).length cr).ownBlock := ⟨rfl, rfl, rfl, Nat.le_refl _, fun _ _ _ => rfl⟩
    have hbd : Below A.heap.size A A.drew := (Below.refl _ _).drew
    change wpAnyH _ _ _ _ _ _ _ _ A.drew
    generalize A.drew = wd at *
    refine held_take (i := 0) (v := .slice (some ⟨w.heap.size + 1 + 1, 0, none⟩) m m) (some 14) rfl rfl (by kernel_rfl) (by kernel_rfl) (by kernel_rfl) (fun _ _ _ h => h) (yieldsIf_cell (by kernel_rfl) rfl (by kernel_rfl) (fun W h => hload2s W (HGO.out W h).1)) S0 ?_
    refine held_take (i := 1) (v := .pointer (some ⟨Bx, 0, none⟩)) (some 15) rfl rfl (by kernel_rfl) (by kernel_rfl) (by kernel_rfl) (fun _ _ _ h => h) (yieldsIf_run (by kernel_rfl) (fun W _ => by kernel_rfl)) S0 ?_
    refine held_take (i := 2) (v := .int .i64 (i : Int)) (some 16) rfl rfl (by kernel_rfl) (by kernel_rfl) (by kernel_rfl) (fun _ _ _ h => h) (yieldsIf_cell (by kernel_rfl) rfl (by kernel_rfl) (fun W h => hloadIn W (HGO.out W h).2.1)) S0 ?_
    refine held_take (i := 3) (v := .slice (some ⟨w.heap.size + 1 + 1, 0, none⟩) m m) (some 17) rfl rfl (by kernel_rfl) (by kernel_rfl) (by kernel_rfl) (fun _ _ _ h => h) (yieldsIf_cell (by kernel_rfl) rfl (by kernel_rfl) (fun W h => hload2s W (HGO.out W h).1)) S0 ?_
    refine held_take (i := 4) (v := .pointer (some ⟨Bx, 0, none⟩)) (some 18) rfl rfl (by kernel_rfl) (by kernel_rfl) (by kernel_rfl) (fun _ _ _ h => h) (yieldsIf_run (by kernel_rfl) (fun W _ => by kernel_rfl)) S0 ?_
    refine held_take (i := 5) (v := .int .i64 (i : Int)) (some 19) rfl rfl (by kernel_rfl) (by kernel_rfl) (by kernel_rfl) (fun _ _ _ h => h) (yieldsIf_cell (by kernel_rfl) rfl (by kernel_rfl) (fun W h => hloadIn W (HGO.out W h).2.1)) S0 ?_
    refine held_take (i := 6) (v := .pointer (some ⟨w.heap.size + 1 + 1, 0 + i, none⟩)) (some 20) rfl rfl (by kernel_rfl) (by kernel_rfl) (by kernel_rfl) (fun _ _ _ h => h) (yieldsIf_index (by kernel_rfl) rfl (by kernel_rfl) (by kernel_rfl) (hidx2s (w.heap.size + 1 + 1) 0 m him)) S0 ?_
    refine held_take (i := 7) (v := .slice ar (t[i]).length cr) (some 21) rfl rfl (by kernel_rfl) (by kernel_rfl) (by kernel_rfl) (fun _ _ _ h => h) (yieldsIf_cell (by kernel_rfl) rfl (by kernel_rfl) (fun W h => hload1s (b := w.heap.size + 1 + 1) (o := 0 + i) W (by rw [Nat.zero_add]; exact (HGO.out W h).2.2.2.1))) S0 ?_
    refine held_take (i := 8) (v := .func (.func 25) #[] #[]) (some 22) rfl rfl (by kernel_rfl) (by kernel_rfl) (by kernel_rfl) (fun _ _ _ h => h) (yieldsIf_cell (by kernel_rfl) rfl (by kernel_rfl) (fun W h => hloadFn W (HGO.out W h).2.2.2.2.1)) S0 ?_
    refine held_take (i := 9) (v := .agg #[.int .i64 p, .slice ad9 m cd9, av, vv]) (some 23) rfl rfl (by kernel_rfl) (by kernel_rfl) (by kernel_rfl) (fun _ _ _ h => h) (yieldsIf_cell (by kernel_rfl) rfl (by kernel_rfl) (fun W h => hloadDk W (HGO.out W h).2.2.2.2.2.1)) S0 ?_
    refine held_take (i := 10) (v := .agg #[.int .i64 (i : Int), .int .i64 (j : Int)]) (some 24) rfl rfl (by kernel_rfl) (by kernel_rfl) (by kernel_rfl) (fun _ _ _ h => h) (yieldsIf_cell (by kernel_rfl) rfl (by kernel_rfl) (fun W h => hloadCe W (HGO.out W h).2.1 (HGO.out W h).2.2.1)) S0 ?_
    refine held_enter (i := 11) (some 25) (f := 25) (args := #[.agg #[.int .i64 p, .slice ad9 m cd9, av, vv], .agg #[.int .i64 (i : Int), .int .i64 (j : Int)]]) (by kernel_rfl) rfl rfl rfl (by kernel_rfl) (HCALL.out wd hbd) ?_ (fun c w' h => by obtain ⟨_, h, _⟩ := h; cases h) (fun w' h => by obtain ⟨_, h, _⟩ := h; cases h)
    rintro u6 w6 ⟨x, hu, hb6, hxn⟩
    injection hu with hu
    subst hu
    have hbB : Below A.heap.size A w6 := hbd.trans (hb6.mono hbd.size)
    have S6 : A.grownBy w6 (Value.slice ar (t[i]).length cr).ownBlock := ⟨hbB.os, hbB.tape, hbB.output, hbB.size, fun k hk _ => hbB.block k hk⟩
    refine ⟨S6, ?_⟩
    obtain ⟨w7, hw7⟩ : ∃ w7, w7 = w6.alloc (.cells #[.int .i64 x] 2) := ⟨_, rfl⟩
    have hb7 : Below A.heap.size A w7 := hbB.trans ((by rw [hw7]; exact below_alloc1 _ _ : Below w6.heap.size w6 w7).mono hbB.size)
    have hl7 : L1 0 w7 (.slice (some ⟨w6.heap.size, 0, none⟩) 1 1) [x] := .inr ⟨w6.heap.size, 0, 1, rfl, Nat.zero_le _, by simp, fun k hk => by
      have hk0 : k = 0 := by simpa using hk
      subst hk0
      exact ⟨.int .i64 x, by rw [hw7]; simp, rfl⟩⟩
    have S7 : A.grownBy w7 (Value.slice ar (t[i]).length cr).ownBlock := ⟨hb7.os, hb7.tape, hb7.output, hb7.size, fun k hk _ => hb7.block k hk⟩
    refine held_mem (i := 12) (v := .slice (some ⟨w6.heap.size, 0, none⟩) 1 1) (w' := w7) (some 26) (by kernel_rfl) rfl rfl rfl (by rw [hw7]; go_simp) S7 ?_
    have hq7 := HQ.out.below hb7
    have hr7 := HROW.out.below hb7
    obtain ⟨v8, W8, hrun, hg8, hgr8, hown8⟩ := run_append_at w7 47 (.slice ar (t[i]).length cr) (t[i]) hr7 (.slice (some ⟨w6.heap.size, 0, none⟩) 1 1) [x] hl7 (by simp; omega) (by have := hb7.size; omega)
    have S8 : A.grownBy W8 (Value.slice ar (t[i]).length cr).ownBlock := ⟨hgr8.os.trans S7.os, hgr8.tape.trans S7.tape, hgr8.output.trans S7.output, Nat.le_trans S7.size hgr8.size, fun k hk hne => (hgr8.block k (Nat.lt_of_lt_of_le hk S7.size) hne).trans (S7.block k hk hne)⟩
    refine held_app (i := 13) (v := v8) (w' := W8) (x := .slice ar (t[i]).length cr) (y := .slice (some ⟨w6.heap.size, 0, none⟩) 1 1) (some 27) #[47, 47] (.tmp 21) (.tmp 26) (by kernel_rfl) rfl rfl rfl rfl (by kernel_rfl) (by kernel_rfl) (fun _ => hrun) S8 ?_
    obtain ⟨hq9, hfz9, u9, hc9⟩ := hq7.turn (row := v8) (y := t[i] ++ [x]) hit hiv (by rw [← HRV.out]; exact hgr8) hg8 (fun b hbk => by
      rw [← HRV.out]
      rcases hown8 with h1 | h1
      · exact .inl (h1.symm.trans hbk)
      · rw [h1] at hbk; injection hbk with hbk; exact .inr (by omega))
    have hT9 := HT.out.snoc hit (i := i) (j := j) hxn
    refine held_take (i := 14) (v := .pointer (some ⟨w.heap.size + 1 + 1, 0 + i, none⟩)) (some 28) rfl rfl (by kernel_rfl) (by kernel_rfl) (by kernel_rfl) (fun _ _ _ h => h) (yieldsIf_index (by kernel_rfl) rfl (by kernel_rfl) (by kernel_rfl) (hidx2s (w.heap.size + 1 + 1) 0 m him)) S8 ?_
    have hkeep : KeepsFrom W0.heap.size A (W8.setCell ⟨w.heap.size + 1 + 1, i, none⟩ v8) := KeepsFrom.trans ⟨S8.size, fun k o _ hk hc => (S8.block k (Array.getElem?_eq_some_iff.1 hk).1 (fun e => by
      rcases HROW.out.2 with ⟨h0, _⟩ | ⟨g, c', cur, hu, _, hh, _⟩
      · rw [h0] at e; simp [Value.ownBlock] at e
      · rw [hu] at e
        simp [Value.ownBlock] at e
        subst e
        rw [hh] at hk
        cases hk
        cases hc)).trans hk⟩ ((KeepsOthers.setCell _ _ _).from _)
    have hbel : ∀ n0 w0, n0 ≤ w.heap.size + 2 → n0 ≤ A.heap.size → Below n0 w0 A → (∀ g, (Value.slice ar (t[i]).length cr).ownBlock = some g → n0 ≤ g) → Below n0 w0 (W8.setCell ⟨w.heap.size + 1 + 1, i, none⟩ v8) := fun n0 w0 h1 h2 h3 h4 => (h3.grown S8 h2 h4).setCell (p := ⟨w.heap.size + 1 + 1, i, none⟩) (by show n0 ≤ w.heap.size + 1 + 1; omega) _
    have hown : ∀ g, (Value.slice ar (t[i]).length cr).ownBlock = some g → W2.heap.size ≤ g := fun g hg => (HROW.out.lt g hg).1
    have hF1 := hbel w.heap.size A (by omega) (by omega) (Below.refl _ _) (fun g hg => by have := hown g hg; omega)
    have hF2 := hbel W2.heap.size W2 (by omega) (by omega) HB.out hown
    have hbz : Go.Boxed (W8.setCell ⟨w.heap.size + 1 + 1, i, none⟩ v8) (w.heap.size + 1 + 1 + 1) 22 (.slice (some ⟨w.heap.size + 1 + 1, 0, none⟩) m m) := (Below.heap_setCell W8 ⟨w.heap.size + 1 + 1, i, none⟩ v8 _ (by show w.heap.size + 1 + 1 + 1 ≠ w.heap.size + 1 + 1; omega)).trans (HGO.out W8 S8).2.2.2.2.2.2.2
    have e9 : (pre ++ ([⟨(i, j), hxm⟩] : List (CellIn ds))).map (·.1) = pre.map (·.1) ++ [(i, j)] := by rw [List.map_append]; rfl
    rw [← e9] at hT9
    obtain ⟨a8, c8, hv8⟩ := Sl.shape hg8.l1
    generalize hn8 : (t[i] ++ [x]).length = n8 at hv8
    subst hv8
    refine held_none (i := 15) (v := .bool false) rfl rfl (by kernel_rfl) (by kernel_rfl) (by kernel_rfl) (fun _ _ _ h => h) (yieldsIf_move (by kernel_rfl) rfl (by kernel_rfl)) S8 ?_
    refine wpAnyH_done (by kernel_rfl) (lastQ_storeN rfl (by kernel_rfl) (by kernel_rfl) (.tmp 28) (.tmp 27) (by kernel_rfl) (w.heap.size + 1 + 1) (0 + i) a8 n8 c8 u9 (by kernel_rfl) (by kernel_rfl) (by rw [Nat.zero_add]; exact hc9) (by rw [Nat.zero_add]; exact hfz9) ?_) _
    rw [Nat.zero_add]
    exact ⟨hkeep, hF1, ⟨⟨_, _, hq9, hT9⟩, hbz, hF2⟩⟩
  case done =>
    rintro D zs A hD hS ⟨⟨vs, t, hq, ht⟩, hz, hb⟩ hKD
    rw [hS] at ht
    have zc := hz.cell
    have HKD := Lib.hid hKD
    have HQ := Lib.hid hq
    have HT := Lib.hid ht.ok
    have HB := Lib.hid hb
    have hsz := hb.size
    clear hz hq ht hb hKD hS
    gi_wp2
    refine ⟨by simp, .inl ⟨_, _, rfl, run_takeDeferred HKD.out, ?_⟩⟩
    have hqf := (HQ.out.kept (grownBy_putObj' A D (.deferred none)) (fun r e => by cases e; exact ⟨_, HKD.out, rfl⟩)).rw2 (by have := HT.out.1; have := HM.out; omega) (fun y hy => by
      obtain ⟨k, hk, rfl⟩ := List.getElem_of_mem hy
      have h1 := HT.out.1
      have h2 := (HT.out.2 k (by omega)).1
      rw [getD_of_lt _ hk] at h2
      have h3 := (cl_len HOK.out (show k < ds.length by omega)).2
      unfold clD at h3
      omega)
    refine ⟨_, results_tmp rfl _ _ _, ?_⟩
    exact ⟨.slice (some ⟨w.heap.size + 1 + 1, 0, none⟩) m m, rfl, t, hqf.wider (by omega) (Nat.le_refl _), (HX2.out.below.trans (HB.out.mono (by omega))).trans (belowK_b (w := w) (Nat.le_refl _) _ D _ _ (by omega) HKD.out rfl rfl), HT.out⟩
  case stop =>
    rintro D c pre A hD _ hf hKD
    exact hf.elim
end Go.Proofs.YtlopenephgabhaaGreat


namespace Go.Proofs.YtlopenephgabhaaGreat
open Go.RowKit

open Classical in
noncomputable def chCode (p : Int) (ds : List (List Int)) (ac dn : List (List (List (List Int)))) : Int := if IsDb p ds ac dn then 0 else 1
theorem chCode_1 {p : Int} {ds : List (List Int)} {ac dn : List (List (List (List Int)))} (h : ¬ IsDb p ds ac dn) : chCode p ds ac dn = 1 := if_neg h
theorem chCode_0 {p : Int} {ds : List (List Int)} {ac dn : List (List (List (List Int)))} (h : IsDb p ds ac dn) : chCode p ds ac dn = 0 := if_pos h

end Go.Proofs.YtlopenephgabhaaGreat


namespace Go.Proofs.YtlopenephgabhaaGreat
open Go.RowKit

theorem row_at {w : World} {u : Value} {t : List (List Int)} {r : Nat} (h : L2 0 w u t) (hr : r < t.length) : ∃ b o c ur, u = .slice (some ⟨b, o, none⟩) t.length c ∧ w.cell? ⟨b, o + r, none⟩ = some ur ∧ L1 0 w ur t[r] := by
  rcases h with ⟨hx, _⟩ | ⟨b, o, c, rfl, _, _, hcl⟩
  · exact absurd (hx ▸ hr) (Nat.not_lt_zero _)
  obtain ⟨u1, hu1, hr1⟩ := hcl r hr
  exact ⟨b, o, c, u1, rfl, hu1, hr1⟩

set_option maxRecDepth 100000 in
set_option maxHeartbeats 12800000 in
theorem l03Square_any (p : Int) (hp : IsP p) (dv av vv : Value) (ds : List (List Int)) (ac dn : List (List (List (List Int)))) (w : World) (h : Dx 0 w dv av vv ds ac dn) (hok : DclOk ds) (htb : TbsOk p ds ac dn) :
    Calls Tryz.prog 38 #[.agg #[.int .i64 p, dv, av, vv]] w (BB (∀ c ∈ cellsTo ds ds.length, SqCell p ds ac dn c) w) := by
  obtain ⟨PP, hPP⟩ : ∃ P : Prop, P = (∀ c ∈ cellsTo ds ds.length, SqCell p ds ac dn c) := ⟨_, rfl⟩
  rw [← hPP]
  have HPI : Hid (PP ↔ (∀ c ∈ cellsTo ds ds.length, SqCell p ds ac dn c)) := Lib.hid (by rw [hPP])
  clear hPP
  have HP := Lib.hid hp
  have HOK := Lib.hid hok
  have HTB := Lib.hid htb
  have HX := Lib.hid h
  have hm4 := hok.len1
  have hm1 := hok.len0
  have hq1 := hok.h0
  have hq4 := hok.h1
  rcases h.dims with ⟨hx, _⟩ | ⟨bb, o, cd, rfl, _, hpos, hcl⟩
  · subst hx; simp at hm1
  have HCL := Lib.hid hcl
  obtain ⟨u0, hu0, hr0⟩ := hcl 0 hpos
  rw [Nat.add_zero] at hu0
  obtain ⟨a0, z0, rfl⟩ := Sl.shape hr0
  rw [← getD_of_lt [] hpos] at hu0
  clear hcl hr0 h hp hok htb
  obtain ⟨aa, ca', rfl⟩ := Sl.shape HX.out.across
  obtain ⟨ae, ce', rfl⟩ := Sl.shape HX.out.down
  obtain ⟨m, hm⟩ : ∃ m, m = ds.length := ⟨_, rfl⟩
  obtain ⟨q, hq⟩ : ∃ q, q = (ds.getD 0 []).length := ⟨_, rfl⟩
  obtain ⟨n1, hn1⟩ : ∃ n, n = ac.length := ⟨_, rfl⟩
  obtain ⟨n4, hn4⟩ : ∃ n, n = dn.length := ⟨_, rfl⟩
  have hn1m : m ≤ n1 := by rw [hn1, hm]; exact Nat.le_of_eq HTB.out.la.symm
  have hn4m : m ≤ n4 := by rw [hn4, hm]; exact Nat.le_of_eq HTB.out.ld.symm
  rw [← hm, ← hn1, ← hn4] at HX ⊢
  rw [← hm] at hm4 hm1 hpos
  rw [← hq] at hq1 hq4 hu0
  have HN1 := Lib.hid hn1
  have HN4 := Lib.hid hn4
  have HM := Lib.hid hm
  have HQ := Lib.hid hq
  clear hn1 hn4 hm hq
  have hx0 := DBx.start (p := p) 29 HX.out
  have hBa : Below w.heap.size w (w.alloc (.cells #[.int .i64 p, .slice (some ⟨bb, o, none⟩) m cd, .slice aa n1 ca', .slice ae n4 ce'] 29)) := (Below.refl _ _).alloc (Nat.le_refl _) _
  have hu1 := later hBa (Nat.le_refl _) hu0
  clear hBa hu0
  obtain ⟨w1, hw1⟩ : ∃ w1, w1 = w.alloc (.cells #[.int .i64 p, .slice (some ⟨bb, o, none⟩) m cd, .slice aa n1 ca', .slice ae n4 ce'] 29) := ⟨_, rfl⟩
  rw [← hw1] at hx0 hu1
  have HX1 := Lib.hid hx0
  have HU1 := Lib.hid hu1
  have HNX : Hid (∀ W, Below w1.heap.size w1 W → DBx w W w.heap.size p (.slice (some ⟨bb, o, none⟩) m cd) (.slice aa n1 ca') (.slice ae n4 ce') ds ac dn ∧ W.cell? ⟨bb, o, none⟩ = some (.slice a0 q z0)) := Lib.hid (fun W hb => ⟨HX1.out.next hb, later hb (Nat.le_refl _) HU1.out⟩)
  have HSTEP : Hid (∀ W, Below w1.heap.size w1 W → ∀ (b : Bool) (i j : Int) (va : Value) (v : List Int), L1 0 W va v → v.length ≤ 40 → -1 ≤ i ∧ i ≤ 4 → -1 ≤ j ∧ j ≤ 4 → StOk p ds ac dn i j v b → Calls Tryz.prog 58 #[.agg #[.int .i64 p, .slice (some ⟨bb, o, none⟩) m cd, .slice aa n1 ca', .slice ae n4 ce'], .int .i64 i, .int .i64 j, va, .bool b] W fun e w' => ∃ u, e = .returned u ∧ L1 0 w' u (stp p ds ac dn i j v b) ∧ Below W.heap.size W w') := Lib.hid (fun W hb b i j va v hv hl hi hj hs => l03Step_any b p i j _ _ _ va ds ac dn v W (HNX.out W hb).1.dx HOK.out HTB.out hv hl hi hj hs)
  have c0 := hx0.c0
  have c1 := hx0.c1
  clear hx0 hu1
  go_enter Tryz.func38, Tryz.ntmps38
  go_wp2
  rw [← hw1]
  clear hw1 c0 c1
  go_loopw [4, 5, 6, 7, 8, 9, 10] (fun i _ _ _ _ _ _ wr => ∃ a : Nat, a ≤ m ∧ i = .int .i64 a ∧ Hid (Below w1.heap.size w1 wr) ∧ Hid (∀ c ∈ cellsTo ds ds.length, c.1 < a → SqCell p ds ac dn c)) (fun i _ _ _ _ _ _ _ => m - (intOf i).toNat)
  case atStart => exact ⟨0, Nat.zero_le _, rfl, Lib.hid (Below.refl _ _), Lib.hid (fun _ _ h => absurd h (Nat.not_lt_zero _))⟩
  case round =>
    obtain ⟨a, ha, rfl, HBwx, HA⟩ := hrel
    obtain ⟨wx, hwx⟩ : ∃ wx : World, wx = wr := ⟨_, rfl⟩
    subst hwx
    have hnx := HNX.out wx HBwx.out
    have c0 := hnx.1.c0
    have c1 := hnx.1.c1
    have c2 := hnx.1.c2
    have c3 := hnx.1.c3
    have hu0 := hnx.2
    clear hnx
    by_cases hlt : a < m
    · have hlti : (a : Int) < (m : Int) := by omega
      go_wp2
      clear c0 c1 c2 c3 hu0
      go_loopw [5, 6, 7, 8, 9, 10] (fun j _ _ _ _ _ wr => ∃ b : Nat, b ≤ q ∧ j = .int .i64 b ∧ Hid (Below w1.heap.size w1 wr) ∧ Hid (∀ b', b' < b → SqCell p ds ac dn (a, b'))) (fun j _ _ _ _ _ _ => q - (intOf j).toNat)
      case atStart => exact ⟨0, Nat.zero_le _, rfl, HBwx, Lib.hid (fun _ h => absurd h (Nat.not_lt_zero _))⟩
      case round =>
        clear HBwx
        obtain ⟨b, hb, rfl, HBwy, HBC⟩ := hrel
        obtain ⟨wy, hwy⟩ : ∃ wy : World, wy = wr := ⟨_, rfl⟩
        subst hwy
        have hnx := HNX.out wy HBwy.out
        have c0 := hnx.1.c0
        have c1 := hnx.1.c1
        have c2 := hnx.1.c2
        have c3 := hnx.1.c3
        have hu0 := hnx.2
        clear hnx
        by_cases hltb : b < q
        · have hltj : (b : Int) < (q : Int) := by omega
          have hal : a < ds.length := by rw [← HM.out]; exact hlt
          have hc : (a, b) ∈ cellsTo ds ds.length := mem_cells.2 ⟨hal, by dsimp only; rw [getD_of_lt _ hal, (HOK.out.col _ (List.getElem_mem hal)).1, ← HQ.out]; exact hltb⟩
          have HC := Lib.hid hc
          obtain ⟨d, hd⟩ : ∃ d, d = cdim ds (a, b) := ⟨_, rfl⟩
          have hd4 : d ≤ 4 := by rw [hd]; exact (cdim_cast HOK.out hc).2
          have HD := Lib.hid hd
          have hdv : (d : Int) = (ds.getD a []).getD b 0 := by rw [hd, (cdim_cast HOK.out hc).1, dcl_nat]
          obtain ⟨ui, hui, hri⟩ := HCL.out a hal
          have hbl : b < (ds[a]).length := by rw [(HOK.out.col _ (List.getElem_mem hal)).1, ← HQ.out]; exact hltb
          rcases hri with ⟨hx, _⟩ | ⟨bi, oi, ci, rfl, hpa, hpb, hci⟩
          · rw [hx] at hbl; exact absurd hbl (Nat.not_lt_zero _)
          obtain ⟨ue, hue, hre⟩ := hci b hbl
          have hre' : ue = .int .i64 (d : Int) := by rw [hdv, getD_of_lt _ hal, getD_of_lt _ hbl]; exact hre
          subst hre'
          rw [(HOK.out.col _ (List.getElem_mem hal)).1, ← HQ.out] at hui
          have HUI : Hid (∀ W, Below w1.heap.size w1 W → W.cell? ⟨bb, o + a, none⟩ = some (.slice (some ⟨bi, oi, none⟩) q ci) ∧ W.cell? ⟨bi, oi + b, none⟩ = some (.int .i64 (d : Int))) := Lib.hid (fun W hb => ⟨later (HX1.out.below.trans (hb.mono HX1.out.below.size)) (Nat.le_refl _) hui, later (HX1.out.below.trans (hb.mono HX1.out.below.size)) (Nat.le_refl _) hue⟩)
          clear hui hue hci hre hdv hd hc hpa hpb hbl hal
          go_wp2
          clear c0 c1 c2 c3 hu0
          go_loopw [6, 7, 8, 9, 10] (fun k _ _ _ _ wr => ∃ r : Nat, r ≤ d ∧ k = .int .i64 r ∧ Hid (Below w1.heap.size w1 wr) ∧ Hid (∀ r', r' < r → SqRow p ds ac dn (a, b) r')) (fun k _ _ _ _ _ => d - (intOf k).toNat)
          case atStart => exact ⟨0, Nat.zero_le _, rfl, HBwy, Lib.hid (fun _ h => absurd h (Nat.not_lt_zero _))⟩
          case round =>
            clear HBwy
            obtain ⟨r, hr, rfl, HBwz, HRC⟩ := hrel
            obtain ⟨wz, hwz⟩ : ∃ wz : World, wz = wr := ⟨_, rfl⟩
            subst hwz
            have hnx := HNX.out wz HBwz.out
            have c0 := hnx.1.c0
            have c1 := hnx.1.c1
            have c2 := hnx.1.c2
            have c3 := hnx.1.c3
            have hu0 := hnx.2
            clear hnx
            have hui := (HUI.out wz HBwz.out).1
            have hue := (HUI.out wz HBwz.out).2
            by_cases hltr : r < d
            · have hltk : (r : Int) < (d : Int) := by omega
              have hrd : r < cdim ds (a, b) := by rw [← HD.out]; exact hltr
              obtain ⟨ra, rd, la, ld⟩ := row_len HOK.out HTB.out HC.out hrd
              have hcd := dco_dcl HOK.out HC.out
              have hb1 := dco_bd HOK.out (((a, b) : Nat × Nat).1 - 1 : Int) ((a, b) : Nat × Nat).2
              have hb2 := dco_bd HOK.out ((a, b) : Nat × Nat).1 (((a, b) : Nat × Nat).2 - 1 : Int)
              have hal40 : ((tbl ac (a, b)).getD r []).length ≤ 40 := by have := ra.1; omega
              have hdl40 : ((tbl dn (a, b)).getD r []).length ≤ 40 := by have := rd.1; omega
              have hia : a < ac.length := by rw [← HN1.out]; omega
              have hid : a < dn.length := by rw [← HN4.out]; omega
              have hja : b < (ac[a]).length := by have h1 := HTB.out.ca a (by rw [← HM.out]; exact hlt); rw [getD_of_lt _ hia] at h1; rw [h1]; exact (mem_cells.1 HC.out).2
              have hjd : b < (dn[a]).length := by have h1 := HTB.out.cd a (by rw [← HM.out]; exact hlt); rw [getD_of_lt _ hid] at h1; rw [h1]; exact (mem_cells.1 HC.out).2
              have hdxz := (HNX.out wz HBwz.out).1.dx
              obtain ⟨ba, oa, ca, b2, o2, k2, ut, hva, hA1, hA2, hTl⟩ := l4_at hdxz.across hia hja
              obtain ⟨be, oe, ce, b5, o5, k5, us, hvd, hE1, hE2, hSl⟩ := l4_at hdxz.down hid hjd
              have hTt : (ac[a])[b] = tbl ac (a, b) := by unfold tbl; dsimp only; rw [getD_of_lt _ hia, getD_of_lt _ hja]
              have hTs : (dn[a])[b] = tbl dn (a, b) := by unfold tbl; dsimp only; rw [getD_of_lt _ hid, getD_of_lt _ hjd]
              rw [hTt] at hTl
              rw [hTs] at hSl
              have hra : r < (tbl ac (a, b)).length := by rw [la]; exact hrd
              have hrd' : r < (tbl dn (a, b)).length := by rw [ld]; exact hrd
              obtain ⟨b3, o3, k3, ua, rfl, hA3, hUA⟩ := row_at hTl hra
              obtain ⟨b6, o6, k6, ud, rfl, hE3, hUD⟩ := row_at hSl hrd'
              have hga : (tbl ac (a, b)).getD r [] = (tbl ac (a, b))[r] := getD_of_lt _ hra
              have hgd : (tbl dn (a, b)).getD r [] = (tbl dn (a, b))[r] := getD_of_lt _ hrd'
              rw [← hga] at hUA
              rw [← hgd] at hUD
              injection hva with e1 e2 e3
              injection hvd with e4 e5 e6
              have e1' : aa = some ⟨ba, oa, none⟩ := e1
              have e4' : ae = some ⟨be, oe, none⟩ := e4
              clear e1 e2 e3 e4 e5 e6
              obtain ⟨n2, hn2⟩ : ∃ n, n = (ac[a]).length := ⟨_, rfl⟩
              obtain ⟨n5, hn5⟩ : ∃ n, n = (dn[a]).length := ⟨_, rfl⟩
              obtain ⟨n3, hn3⟩ : ∃ n, n = (tbl ac (a, b)).length := ⟨_, rfl⟩
              obtain ⟨n6, hn6⟩ : ∃ n, n = (tbl dn (a, b)).length := ⟨_, rfl⟩
              rw [← hn2] at hA1
              rw [← hn5] at hE1
              rw [← hn3] at hA2
              rw [← hn6] at hE2
              have hja2 : b < n2 := by rw [hn2]; exact hja
              have hjd2 : b < n5 := by rw [hn5]; exact hjd
              have hra2 : r < n3 := by rw [hn3]; exact hra
              have hrd2 : r < n6 := by rw [hn6]; exact hrd'
              have hi1 : a < n1 := by omega
              have hi4 : a < n4 := by omega
              obtain ⟨aa1, ka1, hua'⟩ := Sl.shape hUA
              obtain ⟨ad1, kd1, hud'⟩ := Sl.shape hUD
              obtain ⟨na, hna⟩ : ∃ n, n = ((tbl ac (a, b)).getD r []).length := ⟨_, rfl⟩
              obtain ⟨nd, hnd⟩ : ∃ n, n = ((tbl dn (a, b)).getD r []).length := ⟨_, rfl⟩
              rw [← hna] at hua'
              rw [← hnd] at hud'
              subst hua' hud'
              have HA1 := Lib.hid hA1
              have HA2 := Lib.hid hA2
              have HA3 := Lib.hid hA3
              have HE1 := Lib.hid hE1
              have HE2 := Lib.hid hE2
              have HE3 := Lib.hid hE3
              have HUA := Lib.hid hUA
              have HUD := Lib.hid hUD
              have HE1' := Lib.hid e1'
              have HE4' := Lib.hid e4'
              have HAL := Lib.hid hal40
              have HDL := Lib.hid hdl40
              have HRD := Lib.hid hrd
              have wi : IntKind.i64.wrap ((a : Int) - 1) = (a : Int) - 1 := IntWalk.i64_in _ (by omega)
              have wj : IntKind.i64.wrap ((b : Int) - 1) = (b : Int) - 1 := IntWalk.i64_in _ (by omega)
              have hbz := HBwz.out
              have hzz := hbz.size
              clear hA1 hA2 hA3 hE1 hE2 hE3 hUA hUD hga hgd hTt hTs hTl hSl hn2 hn3 hn5 hn6 hna hnd e1' e4' hal40 hdl40 hcd hb1 hb2 ra rd hra hrd' hja hjd hia hid la ld hdxz
              go_upto_region 11 with fail
              refine wp_region_held (S := fun W => Below wz.heap.size wz W) (by kernel_rfl) ?_
              have S0 : Below wz.heap.size wz wz.drew := (Below.refl _ _).drew
              change wpAnyH _ _ _ _ _ _ _ _ wz.drew
              obtain ⟨wd, hwd⟩ : ∃ wd, wd = wz.drew := ⟨_, rfl⟩
              rw [← hwd] at S0 ⊢
              clear hwd
              have HNZ : Hid (∀ W, Below wz.heap.size wz W → DBx w W w.heap.size p (.slice (some ⟨bb, o, none⟩) m cd) (.slice aa n1 ca') (.slice ae n4 ce') ds ac dn) := Lib.hid (fun W hb => (HNX.out W (HBwz.out.trans (hb.mono hzz))).1)
              refine held_take (i := 0) (v := .pointer (some ⟨w.heap.size, 2, none⟩)) (some 41) rfl rfl (by kernel_rfl) (by kernel_rfl) (by kernel_rfl) (fun _ _ _ h => h) (yieldsIf_run (by kernel_rfl) (fun W _ => by kernel_rfl)) S0 ?_
              refine held_take (i := 1) (v := .slice aa n1 ca') (some 42) rfl rfl (by kernel_rfl) (by kernel_rfl) (by kernel_rfl) (fun _ _ _ h => h) (yieldsIf_cell (by kernel_rfl) rfl (by kernel_rfl) (fun W h => hload4 W (HNZ.out W h).c2)) S0 ?_
              refine held_take (i := 2) (v := .int .i64 (a : Int)) (some 43) rfl rfl (by kernel_rfl) (by kernel_rfl) (by kernel_rfl) (fun _ _ _ h => h) (yieldsIf_move (by kernel_rfl) rfl (by kernel_rfl)) S0 ?_
              refine held_take (i := 3) (v := .pointer (some ⟨ba, oa + a, none⟩)) (some 44) rfl rfl (by kernel_rfl) (by kernel_rfl) (by kernel_rfl) (fun _ _ _ h => h) (yieldsIf_index (by kernel_rfl) rfl (by kernel_rfl) (by kernel_rfl) (hidx4 (cap := ca') HE1'.out hi1)) S0 ?_
              refine held_take (i := 4) (v := .slice (some ⟨b2, o2, none⟩) n2 k2) (some 45) rfl rfl (by kernel_rfl) (by kernel_rfl) (by kernel_rfl) (fun _ _ _ h => h) (yieldsIf_cell (by kernel_rfl) rfl (by kernel_rfl) (fun W h => hload3s W (later h (Nat.le_refl _) HA1.out))) S0 ?_
              refine held_take (i := 5) (v := .int .i64 (b : Int)) (some 46) rfl rfl (by kernel_rfl) (by kernel_rfl) (by kernel_rfl) (fun _ _ _ h => h) (yieldsIf_move (by kernel_rfl) rfl (by kernel_rfl)) S0 ?_
              refine held_take (i := 6) (v := .pointer (some ⟨b2, o2 + b, none⟩)) (some 47) rfl rfl (by kernel_rfl) (by kernel_rfl) (by kernel_rfl) (fun _ _ _ h => h) (yieldsIf_index (by kernel_rfl) rfl (by kernel_rfl) (by kernel_rfl) (hidx3 b2 o2 k2 hja2)) S0 ?_
              refine held_take (i := 7) (v := .slice (some ⟨b3, o3, none⟩) n3 k3) (some 48) rfl rfl (by kernel_rfl) (by kernel_rfl) (by kernel_rfl) (fun _ _ _ h => h) (yieldsIf_cell (by kernel_rfl) rfl (by kernel_rfl) (fun W h => hload2s W (later h (Nat.le_refl _) HA2.out))) S0 ?_
              refine held_take (i := 8) (v := .int .i64 (r : Int)) (some 49) rfl rfl (by kernel_rfl) (by kernel_rfl) (by kernel_rfl) (fun _ _ _ h => h) (yieldsIf_move (by kernel_rfl) rfl (by kernel_rfl)) S0 ?_
              refine held_take (i := 9) (v := .pointer (some ⟨b3, o3 + r, none⟩)) (some 50) rfl rfl (by kernel_rfl) (by kernel_rfl) (by kernel_rfl) (fun _ _ _ h => h) (yieldsIf_index (by kernel_rfl) rfl (by kernel_rfl) (by kernel_rfl) (hidxS b3 o3 k3 hra2)) S0 ?_
              refine held_take (i := 10) (v := .slice aa1 na ka1) (some 51) rfl rfl (by kernel_rfl) (by kernel_rfl) (by kernel_rfl) (fun _ _ _ h => h) (yieldsIf_cell (by kernel_rfl) rfl (by kernel_rfl) (fun W h => hloadD W (later h (Nat.le_refl _) HA3.out))) S0 ?_
              refine held_take (i := 11) (v := .pointer (some ⟨w.heap.size, 3, none⟩)) (some 52) rfl rfl (by kernel_rfl) (by kernel_rfl) (by kernel_rfl) (fun _ _ _ h => h) (yieldsIf_run (by kernel_rfl) (fun W _ => by kernel_rfl)) S0 ?_
              refine held_take (i := 12) (v := .slice ae n4 ce') (some 53) rfl rfl (by kernel_rfl) (by kernel_rfl) (by kernel_rfl) (fun _ _ _ h => h) (yieldsIf_cell (by kernel_rfl) rfl (by kernel_rfl) (fun W h => hload4 W (HNZ.out W h).c3)) S0 ?_
              refine held_take (i := 13) (v := .int .i64 (a : Int)) (some 54) rfl rfl (by kernel_rfl) (by kernel_rfl) (by kernel_rfl) (fun _ _ _ h => h) (yieldsIf_move (by kernel_rfl) rfl (by kernel_rfl)) S0 ?_
              refine held_take (i := 14) (v := .pointer (some ⟨be, oe + a, none⟩)) (some 55) rfl rfl (by kernel_rfl) (by kernel_rfl) (by kernel_rfl) (fun _ _ _ h => h) (yieldsIf_index (by kernel_rfl) rfl (by kernel_rfl) (by kernel_rfl) (hidx4 (cap := ce') HE4'.out hi4)) S0 ?_
              refine held_take (i := 15) (v := .slice (some ⟨b5, o5, none⟩) n5 k5) (some 56) rfl rfl (by kernel_rfl) (by kernel_rfl) (by kernel_rfl) (fun _ _ _ h => h) (yieldsIf_cell (by kernel_rfl) rfl (by kernel_rfl) (fun W h => hload3s W (later h (Nat.le_refl _) HE1.out))) S0 ?_
              refine held_take (i := 16) (v := .int .i64 (b : Int)) (some 57) rfl rfl (by kernel_rfl) (by kernel_rfl) (by kernel_rfl) (fun _ _ _ h => h) (yieldsIf_move (by kernel_rfl) rfl (by kernel_rfl)) S0 ?_
              refine held_take (i := 17) (v := .pointer (some ⟨b5, o5 + b, none⟩)) (some 58) rfl rfl (by kernel_rfl) (by kernel_rfl) (by kernel_rfl) (fun _ _ _ h => h) (yieldsIf_index (by kernel_rfl) rfl (by kernel_rfl) (by kernel_rfl) (hidx3 b5 o5 k5 hjd2)) S0 ?_
              refine held_take (i := 18) (v := .slice (some ⟨b6, o6, none⟩) n6 k6) (some 59) rfl rfl (by kernel_rfl) (by kernel_rfl) (by kernel_rfl) (fun _ _ _ h => h) (yieldsIf_cell (by kernel_rfl) rfl (by kernel_rfl) (fun W h => hload2s W (later h (Nat.le_refl _) HE2.out))) S0 ?_
              refine held_take (i := 19) (v := .int .i64 (r : Int)) (some 60) rfl rfl (by kernel_rfl) (by kernel_rfl) (by kernel_rfl) (fun _ _ _ h => h) (yieldsIf_move (by kernel_rfl) rfl (by kernel_rfl)) S0 ?_
              refine held_take (i := 20) (v := .pointer (some ⟨b6, o6 + r, none⟩)) (some 61) rfl rfl (by kernel_rfl) (by kernel_rfl) (by kernel_rfl) (fun _ _ _ h => h) (yieldsIf_index (by kernel_rfl) rfl (by kernel_rfl) (by kernel_rfl) (hidxS b6 o6 k6 hrd2)) S0 ?_
              refine held_take (i := 21) (v := .slice ad1 nd kd1) (some 62) rfl rfl (by kernel_rfl) (by kernel_rfl) (by kernel_rfl) (fun _ _ _ h => h) (yieldsIf_cell (by kernel_rfl) rfl (by kernel_rfl) (fun W h => hloadD W (later h (Nat.le_refl _) HE3.out))) S0 ?_
              refine held_take (i := 22) (v := .slice aa1 na ka1) (some 7) rfl rfl (by kernel_rfl) (by kernel_rfl) (by kernel_rfl) (fun _ _ _ h => h) (yieldsIf_assign (by kernel_rfl) rfl (by kernel_rfl)) S0 ?_
              refine held_take (i := 23) (v := .slice ad1 nd kd1) (some 8) rfl rfl (by kernel_rfl) (by kernel_rfl) (by kernel_rfl) (fun _ _ _ h => h) (yieldsIf_assign (by kernel_rfl) rfl (by kernel_rfl)) S0 ?_
              refine wpAnyH_done (by kernel_rfl) ?_ _
              simp only [Act.put, List.setIfInBounds_toArray, List.set_cons_zero, List.set_cons_succ]
              clear c0 c1 c2 c3 hu0 hui hue
              have HBD := Lib.hid S0
              have hsd := S0.size
              clear S0
              have HND : Hid (∀ W, Below wd.heap.size wd W → DBx w W w.heap.size p (.slice (some ⟨bb, o, none⟩) m cd) (.slice aa n1 ca') (.slice ae n4 ce') ds ac dn ∧ Below w1.heap.size w1 W) := Lib.hid (fun W hb => ⟨HNZ.out W (HBD.out.trans (hb.mono hsd)), (HBwz.out.trans ((HBD.out.trans (hb.mono hsd)).mono hzz))⟩)
              have HKA : Hid (∀ b', RowOk p (wid ds b' ((a : Int) - 1) b) (stp p ds ac dn ((a : Int) - 1) b ((tbl ac (a, b)).getD r []) b') ∧ wid ds b' ((a : Int) - 1) b ≤ 4 ∧ StOk p ds ac dn ((a : Int) - 1) b ((tbl ac (a, b)).getD r []) b') := Lib.hid (fun b' => ⟨stp_ok HP.out (st_left HP.out HOK.out HTB.out HC.out HRD.out b'), (wid_cast HOK.out b' _ _).2, st_left HP.out HOK.out HTB.out HC.out HRD.out b'⟩)
              have HKD : Hid (∀ b', RowOk p (wid ds b' a ((b : Int) - 1)) (stp p ds ac dn a ((b : Int) - 1) ((tbl dn (a, b)).getD r []) b') ∧ wid ds b' a ((b : Int) - 1) ≤ 4 ∧ StOk p ds ac dn a ((b : Int) - 1) ((tbl dn (a, b)).getD r []) b') := Lib.hid (fun b' => ⟨stp_ok HP.out (st_low HP.out HOK.out HTB.out HC.out HRD.out b'), (wid_cast HOK.out b' _ _).2, st_low HP.out HOK.out HTB.out HC.out HRD.out b'⟩)
              obtain ⟨zA, hzA⟩ : ∃ z, z = leadOf (stp p ds ac dn ((a : Int) - 1) b ((tbl ac (a, b)).getD r []) true) := ⟨_, rfl⟩
              have HLA : Hid (∀ W u, L1 0 W u (stp p ds ac dn ((a : Int) - 1) b ((tbl ac (a, b)).getD r []) true) → Calls Tryz.prog 57 #[u] W (QW (.int .i64 zA) W)) := Lib.hid (fun W u hu => by rw [hzA]; exact l01Lead_any u _ W hu (by have h1 := (HKA.out true).1.1; have h2 := (HKA.out true).2.1; omega))
              obtain ⟨zD, hzD⟩ : ∃ z, z = leadOf (stp p ds ac dn a ((b : Int) - 1) ((tbl dn (a, b)).getD r []) false) := ⟨_, rfl⟩
              have HLD : Hid (∀ W u, L1 0 W u (stp p ds ac dn a ((b : Int) - 1) ((tbl dn (a, b)).getD r []) false) → Calls Tryz.prog 57 #[u] W (QW (.int .i64 zD) W)) := Lib.hid (fun W u hu => by rw [hzD]; exact l01Lead_any u _ W hu (by have h1 := (HKD.out false).1.1; have h2 := (HKD.out false).2.1; omega))
              obtain ⟨zC, hzC⟩ : ∃ z, z = leadOf (toL (wid ds false ((a : Int) - 1) b) (Lin.add p (ofL (stp p ds ac dn ((a : Int) - 1) b ((tbl ac (a, b)).getD r []) false)) (-(-1)) (ofL (stp p ds ac dn a ((b : Int) - 1) ((tbl dn (a, b)).getD r []) true)))) := ⟨_, rfl⟩
              have HLC : Hid (∀ W u, L1 0 W u (toL (wid ds false ((a : Int) - 1) b) (Lin.add p (ofL (stp p ds ac dn ((a : Int) - 1) b ((tbl ac (a, b)).getD r []) false)) (-(-1)) (ofL (stp p ds ac dn a ((b : Int) - 1) ((tbl dn (a, b)).getD r []) true)))) → Calls Tryz.prog 57 #[u] W (QW (.int .i64 zC) W)) := Lib.hid (fun W u hu => by rw [hzC]; exact l01Lead_any u _ W hu (by have h2 := (HKA.out false).2.1; simp [toL]; omega))
              have HZA := Lib.hid hzA
              have HZD := Lib.hid hzD
              have HZC := Lib.hid hzC
              clear hzA hzD hzC
              have HSA : Hid (∀ W, Below wd.heap.size wd W → ∀ b', Calls Tryz.prog 58 #[.agg #[.int .i64 p, .slice (some ⟨bb, o, none⟩) m cd, .slice aa n1 ca', .slice ae n4 ce'], .int .i64 ((a : Int) - 1), .int .i64 (b : Int), .slice aa1 na ka1, .bool b'] W fun e w' => ∃ u, e = .returned u ∧ L1 0 w' u (stp p ds ac dn ((a : Int) - 1) b ((tbl ac (a, b)).getD r []) b') ∧ Below W.heap.size W w') := Lib.hid (fun W hb b' => HSTEP.out W (HND.out W hb).2 b' _ _ _ _ (HUA.out.below (HBD.out.trans (hb.mono hsd))) HAL.out (by omega) (by omega) (HKA.out b').2.2)
              have HSD : Hid (∀ W, Below wd.heap.size wd W → ∀ b', Calls Tryz.prog 58 #[.agg #[.int .i64 p, .slice (some ⟨bb, o, none⟩) m cd, .slice aa n1 ca', .slice ae n4 ce'], .int .i64 (a : Int), .int .i64 ((b : Int) - 1), .slice ad1 nd kd1, .bool b'] W fun e w' => ∃ u, e = .returned u ∧ L1 0 w' u (stp p ds ac dn a ((b : Int) - 1) ((tbl dn (a, b)).getD r []) b') ∧ Below W.heap.size W w') := Lib.hid (fun W hb b' => HSTEP.out W (HND.out W hb).2 b' _ _ _ _ (HUD.out.below (HBD.out.trans (hb.mono hsd))) HDL.out (by omega) (by omega) (HKD.out b').2.2)
              have hnd0 := (HND.out wd (Below.refl _ _)).1
              have c0 := hnd0.c0
              have c1 := hnd0.c1
              have c2 := hnd0.c2
              have c3 := hnd0.c3
              clear hnd0
              go_wp2_with fail
              refine (HSA.out wd (Below.refl _ _) true).mono ?_
              rintro e W3 ⟨u3, rfl, hl3, hb3⟩
              obtain ⟨a3, k3', hu3⟩ := Sl.shape hl3
              obtain ⟨n7, hn7⟩ : ∃ n, n = (stp p ds ac dn ((a : Int) - 1) b ((tbl ac (a, b)).getD r []) true).length := ⟨_, rfl⟩
              rw [← hn7] at hu3
              subst hu3
              have HB3 := Lib.hid hb3
              have HL3 := Lib.hid hl3
              clear hn7 hb3 hl3 c0 c1 c2 c3
              have hnd0 := (HND.out W3 HB3.out).1
              have c0 := hnd0.c0
              have c1 := hnd0.c1
              have c2 := hnd0.c2
              have c3 := hnd0.c3
              clear hnd0
              go_wp2_with fail
              refine (HLA.out W3 _ HL3.out).mono ?_
              rintro e w' ⟨rfl, rfl⟩
              by_cases hA0 : ∀ x ∈ (stp p ds ac dn ((a : Int) - 1) b ((tbl ac (a, b)).getD r []) true), x = 0
              · have hlt0 : zA = -1 := by rw [HZA.out]; exact leadOf_null hA0
                subst hlt0
                have HA0 := Lib.hid hA0
                clear hA0
                go_wp2_with fail
                refine (HSD.out W3 HB3.out false).mono ?_
                rintro e W4 ⟨u4, rfl, hl4, hb4⟩
                obtain ⟨a4, k4', hu4⟩ := Sl.shape hl4
                obtain ⟨n8, hn8⟩ : ∃ n, n = (stp p ds ac dn a ((b : Int) - 1) ((tbl dn (a, b)).getD r []) false).length := ⟨_, rfl⟩
                rw [← hn8] at hu4
                subst hu4
                have HB4 := Lib.hid (HB3.out.trans (hb4.mono HB3.out.size))
                have HL4 := Lib.hid hl4
                clear hn8 hb4 hl4 c0 c1 c2 c3
                have hnd0 := (HND.out W4 HB4.out).1
                have c0 := hnd0.c0
                have c1 := hnd0.c1
                have c2 := hnd0.c2
                have c3 := hnd0.c3
                clear hnd0
                go_wp2_with fail
                refine (HLD.out W4 _ HL4.out).mono ?_
                rintro e w' ⟨rfl, rfl⟩
                by_cases hD0 : ∀ x ∈ (stp p ds ac dn a ((b : Int) - 1) ((tbl dn (a, b)).getD r []) false), x = 0
                · have hlt0 : zD = -1 := by rw [HZD.out]; exact leadOf_null hD0
                  subst hlt0
                  have HD0 := Lib.hid hD0
                  clear hD0
                  go_upto_region 14 with fail
                  refine wp_region_held (S := fun W => Below W4.heap.size W4 W) (by kernel_rfl) ?_
                  have S0 : Below W4.heap.size W4 W4.drew := (Below.refl _ _).drew
                  change wpAnyH _ _ _ _ _ _ _ _ W4.drew
                  obtain ⟨we, hwe⟩ : ∃ we, we = W4.drew := ⟨_, rfl⟩
                  rw [← hwe] at S0 ⊢
                  clear hwe c0 c1 c2 c3
                  have hs4 := HB4.out.size
                  have HN4w : Hid (∀ W, Below W4.heap.size W4 W → Below wd.heap.size wd W) := Lib.hid (fun W hb => HB4.out.trans (hb.mono hs4))
                  refine held_take (i := 0) (v := .agg #[.int .i64 p, .slice (some ⟨bb, o, none⟩) m cd, .slice aa n1 ca', .slice ae n4 ce']) (some 81) rfl rfl (by kernel_rfl) (by kernel_rfl) (by kernel_rfl) (fun _ _ _ h => h) (yieldsIf_cell (by kernel_rfl) rfl (by kernel_rfl) (fun W h => hloadDb W (HND.out W (HN4w.out W h)).1)) S0 ?_
                  refine held_take (i := 1) (v := .int .i64 (a : Int)) (some 82) rfl rfl (by kernel_rfl) (by kernel_rfl) (by kernel_rfl) (fun _ _ _ h => h) (yieldsIf_move (by kernel_rfl) rfl (by kernel_rfl)) S0 ?_
                  refine held_take (i := 2) (v := .int .i64 ((a : Int) - 1)) (some 83) rfl rfl (by kernel_rfl) (by kernel_rfl) (by kernel_rfl) (fun _ _ _ h => h) (yieldsIf_bin (by kernel_rfl) rfl (by kernel_rfl) (by kernel_rfl) (fun _ => rfl) (hsubA wi)) S0 ?_
                  refine held_take (i := 3) (v := .int .i64 (b : Int)) (some 84) rfl rfl (by kernel_rfl) (by kernel_rfl) (by kernel_rfl) (fun _ _ _ h => h) (yieldsIf_move (by kernel_rfl) rfl (by kernel_rfl)) S0 ?_
                  refine held_take (i := 4) (v := .slice aa1 na ka1) (some 85) rfl rfl (by kernel_rfl) (by kernel_rfl) (by kernel_rfl) (fun _ _ _ h => h) (yieldsIf_move (by kernel_rfl) rfl (by kernel_rfl)) S0 ?_
                  refine held_take (i := 6) (v := .agg #[.int .i64 p, .slice (some ⟨bb, o, none⟩) m cd, .slice aa n1 ca', .slice ae n4 ce']) (some 87) rfl rfl (by kernel_rfl) (by kernel_rfl) (by kernel_rfl) (fun _ _ _ h => h) (yieldsIf_cell (by kernel_rfl) rfl (by kernel_rfl) (fun W h => hloadDb W (HND.out W (HN4w.out W h)).1)) S0 ?_
                  refine held_take (i := 7) (v := .int .i64 (a : Int)) (some 88) rfl rfl (by kernel_rfl) (by kernel_rfl) (by kernel_rfl) (fun _ _ _ h => h) (yieldsIf_move (by kernel_rfl) rfl (by kernel_rfl)) S0 ?_
                  refine held_take (i := 8) (v := .int .i64 (b : Int)) (some 89) rfl rfl (by kernel_rfl) (by kernel_rfl) (by kernel_rfl) (fun _ _ _ h => h) (yieldsIf_move (by kernel_rfl) rfl (by kernel_rfl)) S0 ?_
                  refine held_take (i := 9) (v := .int .i64 ((b : Int) - 1)) (some 90) rfl rfl (by kernel_rfl) (by kernel_rfl) (by kernel_rfl) (fun _ _ _ h => h) (yieldsIf_bin (by kernel_rfl) rfl (by kernel_rfl) (by kernel_rfl) (fun _ => rfl) (hsubA wj)) S0 ?_
                  refine held_take (i := 10) (v := .slice ad1 nd kd1) (some 91) rfl rfl (by kernel_rfl) (by kernel_rfl) (by kernel_rfl) (fun _ _ _ h => h) (yieldsIf_move (by kernel_rfl) rfl (by kernel_rfl)) S0 ?_
                  refine held_enter (i := 5) (some 86) (f := 58) (args := #[.agg #[.int .i64 p, .slice (some ⟨bb, o, none⟩) m cd, .slice aa n1 ca', .slice ae n4 ce'], .int .i64 ((a : Int) - 1), .int .i64 (b : Int), .slice aa1 na ka1, .bool false]) (by kernel_rfl) rfl rfl rfl (by kernel_rfl) (HSA.out _ (HN4w.out _ S0) false) ?_ (fun c w' h => by obtain ⟨_, h, _⟩ := h; cases h) (fun w' h => by obtain ⟨_, h, _⟩ := h; cases h)
                  rintro e5 W5 ⟨u5, he5, hl5, hb5⟩
                  injection he5 with he5
                  subst he5
                  have S1 : Below W4.heap.size W4 W5 := S0.trans (hb5.mono S0.size)
                  refine ⟨S1, ?_⟩
                  refine held_enter (i := 11) (some 92) (f := 58) (args := #[.agg #[.int .i64 p, .slice (some ⟨bb, o, none⟩) m cd, .slice aa n1 ca', .slice ae n4 ce'], .int .i64 (a : Int), .int .i64 ((b : Int) - 1), .slice ad1 nd kd1, .bool true]) (by kernel_rfl) rfl rfl rfl (by kernel_rfl) (HSD.out _ (HN4w.out _ S1) true) ?_ (fun c w' h => by obtain ⟨_, h, _⟩ := h; cases h) (fun w' h => by obtain ⟨_, h, _⟩ := h; cases h)
                  rintro e6 W6 ⟨u6, he6, hl6, hb6⟩
                  injection he6 with he6
                  subst he6
                  have S2 : Below W4.heap.size W4 W6 := S1.trans (hb6.mono S1.size)
                  refine ⟨S2, ?_⟩
                  obtain ⟨a5, k5', hu5⟩ := Sl.shape hl5
                  obtain ⟨n9, hn9⟩ : ∃ n, n = (stp p ds ac dn ((a : Int) - 1) b ((tbl ac (a, b)).getD r []) false).length := ⟨_, rfl⟩
                  rw [← hn9] at hu5
                  subst hu5
                  obtain ⟨a6, k6', hu6⟩ := Sl.shape hl6
                  obtain ⟨n10, hn10⟩ : ∃ n, n = (stp p ds ac dn a ((b : Int) - 1) ((tbl dn (a, b)).getD r []) true).length := ⟨_, rfl⟩
                  rw [← hn10] at hu6
                  subst hu6
                  refine held_take (i := 12) (v := .slice a5 n9 k5') (some 9) rfl rfl (by kernel_rfl) (by kernel_rfl) (by kernel_rfl) (fun _ _ _ h => h) (yieldsIf_assign (by kernel_rfl) rfl (by kernel_rfl)) S2 ?_
                  refine held_take (i := 13) (v := .slice a6 n10 k6') (some 10) rfl rfl (by kernel_rfl) (by kernel_rfl) (by kernel_rfl) (fun _ _ _ h => h) (yieldsIf_assign (by kernel_rfl) rfl (by kernel_rfl)) S2 ?_
                  refine wpAnyH_done (by kernel_rfl) ?_ _
                  simp only [Act.put, List.setIfInBounds_toArray, List.set_cons_zero, List.set_cons_succ]
                  have HB6 := Lib.hid (HN4w.out _ S2)
                  have hs5 : wd.heap.size ≤ W6.heap.size := HB6.out.size
                  have HLESS : Hid (Calls Tryz.prog 59 #[.int .i64 p, .slice a5 n9 k5', .slice a6 n10 k6', .int .i64 (-1)] W6 (GbR (toL (wid ds false ((a : Int) - 1) b) (Lin.add p (ofL (stp p ds ac dn ((a : Int) - 1) b ((tbl ac (a, b)).getD r []) false)) (-(-1)) (ofL (stp p ds ac dn a ((b : Int) - 1) ((tbl dn (a, b)).getD r []) true)))) W6)) := Lib.hid (by
                    have k1 := HKA.out false
                    have k2 := HKD.out true
                    have hwe : wid ds true a ((b : Int) - 1) = (wid ds false ((a : Int) - 1) b) := by unfold wid; simp
                    rw [hwe] at k2
                    refine l01Less1_any p (-1) _ _ _ _ _ W6 HP.out ?_ ?_ (ofL_md (by have := HP.out.lo; omega) k1.1) (ofL_md (by have := HP.out.lo; omega) k2.1) (by have := HP.out.lo; omega) (by have := k1.2.1; omega)
                    · rw [toL_ofL (by have := k1.1.1; omega)]; exact hl5.below hb6
                    · rw [toL_ofL (by have := k2.1.1; omega)]; exact hl6)
                  clear hl5 hl6 hb5 hb6 S0 S1 S2 hn9 hn10
                  have hnd0 := (HND.out W6 HB6.out).1
                  have c0 := hnd0.c0
                  clear hnd0
                  go_wp2_with fail
                  refine HLESS.out.mono ?_
                  rintro e W7 ⟨u7, rfl, hg7, hb7⟩
                  obtain ⟨a7, k7', hu7⟩ := Sl.shape hg7.l1
                  obtain ⟨n11, hn11⟩ : ∃ n, n = (toL (wid ds false ((a : Int) - 1) b) (Lin.add p (ofL (stp p ds ac dn ((a : Int) - 1) b ((tbl ac (a, b)).getD r []) false)) (-(-1)) (ofL (stp p ds ac dn a ((b : Int) - 1) ((tbl dn (a, b)).getD r []) true)))).length := ⟨_, rfl⟩
                  rw [← hn11] at hu7
                  subst hu7
                  have HL7 := Lib.hid hg7.l1
                  have HB7 := Lib.hid (HB6.out.trans (hb7.mono hs5))
                  clear hg7 hb7 hn11 c0 HLESS
                  go_wp2_with fail
                  refine (HLC.out W7 _ HL7.out).mono ?_
                  rintro e w' ⟨rfl, rfl⟩
                  by_cases hC0 : ∀ x ∈ (toL (wid ds false ((a : Int) - 1) b) (Lin.add p (ofL (stp p ds ac dn ((a : Int) - 1) b ((tbl ac (a, b)).getD r []) false)) (-(-1)) (ofL (stp p ds ac dn a ((b : Int) - 1) ((tbl dn (a, b)).getD r []) true)))), x = 0
                  · have hlt0 : zC = -1 := by rw [HZC.out]; exact leadOf_null hC0
                    subst hlt0
                    have HNEW : Hid (∀ r', r' < r + 1 → SqRow p ds ac dn (a, b) r') := Lib.hid (fun r' hr' => by
                      by_cases e : r' = r
                      · subst e; exact ⟨HA0.out, HD0.out, hC0⟩
                      · exact HRC.out r' (by omega))
                    clear hC0
                    have HBF := Lib.hid (HND.out W7 HB7.out).2
                    go_wp2
                    go_roundw
                    case rel => exact ⟨r + 1, by omega, by go_num, HBF, HNEW⟩
                    case measure => simp [intOf]; omega
                  · have hge : 0 ≤ zC := by rw [HZC.out]; exact leadOf_nn hC0
                    have HNO : Hid (¬ PP) := Lib.hid (fun h => hC0 (HPI.out.1 h _ HC.out r HRD.out).b)
                    clear hC0
                    go_wp2
                    go_ret
                    exact bb_false (HX1.out.below.trans (((HND.out W7 HB7.out).2).mono HX1.out.below.size)) HNO.out
                · have hge : 0 ≤ zD := by rw [HZD.out]; exact leadOf_nn hD0
                  have HNO : Hid (¬ PP) := Lib.hid (fun h => hD0 (HPI.out.1 h _ HC.out r HRD.out).d)
                  clear hD0
                  go_wp2
                  go_ret
                  exact bb_false (HX1.out.below.trans (((HND.out W4 HB4.out).2).mono HX1.out.below.size)) HNO.out
              · have hge : 0 ≤ zA := by rw [HZA.out]; exact leadOf_nn hA0
                have HNO : Hid (¬ PP) := Lib.hid (fun h => hA0 (HPI.out.1 h _ HC.out r HRD.out).a)
                clear hA0
                go_wp2
                go_ret
                exact bb_false (HX1.out.below.trans (((HND.out W3 HB3.out).2).mono HX1.out.below.size)) HNO.out
            · obtain rfl : r = d := by omega
              have HNEW : Hid (∀ b', b' < b + 1 → SqCell p ds ac dn (a, b')) := Lib.hid (fun b' hb' => by
                by_cases e : b' = b
                · subst e; intro r' hr'; exact HRC.out r' (by rw [HD.out]; exact hr')
                · exact HBC.out b' (by omega))
              go_wp2
              go_roundw
              case rel => exact ⟨b + 1, by omega, by go_num, HBwz, HNEW⟩
              case measure => simp [intOf]; omega
        · obtain rfl : b = q := by omega
          have HNEW : Hid (∀ c ∈ cellsTo ds ds.length, c.1 < a + 1 → SqCell p ds ac dn c) := Lib.hid (fun c hc hca => by
            by_cases e : c.1 = a
            · obtain ⟨c1', c2'⟩ := c
              dsimp only at e
              subst e
              refine HBC.out c2' ?_
              have h1 := mem_cells.1 hc
              dsimp only at h1
              rw [getD_of_lt _ h1.1, (HOK.out.col _ (List.getElem_mem h1.1)).1, ← HQ.out] at h1
              exact h1.2
            · exact HA.out c hc (by omega))
          go_wp2
          go_roundw
          case rel => exact ⟨a + 1, by omega, by go_num, HBwy, HNEW⟩
          case measure => simp [intOf]; omega
    · obtain rfl : a = m := by omega
      have HYES : Hid PP := Lib.hid (HPI.out.2 (fun c hc => HA.out c hc (by rw [HM.out]; exact (mem_cells.1 hc).1)))
      go_wp2
      go_ret
      exact bb_true (HX1.out.below.trans (HBwx.out.mono HX1.out.below.size)) HYES.out
end Go.Proofs.YtlopenephgabhaaGreat


namespace Go.Proofs.YtlopenephgabhaaGreat
open Go.RowKit

set_option maxRecDepth 100000 in
set_option maxHeartbeats 12800000 in
theorem l03Is_any (p : Int) (dv av vv : Value) (ds : List (List Int)) (ac dn : List (List (List (List Int)))) (w : World) (h : Dx 0 w dv av vv ds ac dn) (hbd : Bd2 1048576 ds) (hba : Bd4 1048576 ac) (hbv : Bd4 1048576 dn) :
    Calls Tryz.prog 18 #[.agg #[.int .i64 p, dv, av, vv]] w (BB (IsDb p ds ac dn) w) := by
  obtain ⟨PP, hPP⟩ : ∃ P : Prop, P = (IsDb p ds ac dn) := ⟨_, rfl⟩
  rw [← hPP]
  have HPI : Hid (PP ↔ (IsDb p ds ac dn)) := Lib.hid (by rw [hPP])
  clear hPP
  have HX := Lib.hid h
  have HBD := Lib.hid hbd
  have HBA := Lib.hid hba
  have HBV := Lib.hid hbv
  have hm8 := hbd.1
  have hn18 := hba.1
  have hn48 := hbv.1
  obtain ⟨ad, cd, rfl⟩ := Sl.shape h.dims
  obtain ⟨aa, ca', rfl⟩ := Sl.shape h.across
  obtain ⟨ae, ce', rfl⟩ := Sl.shape h.down
  clear h hbd hba hbv
  obtain ⟨m, hm⟩ : ∃ m, m = ds.length := ⟨_, rfl⟩
  obtain ⟨n1, hn1⟩ : ∃ n, n = ac.length := ⟨_, rfl⟩
  obtain ⟨n4, hn4⟩ : ∃ n, n = dn.length := ⟨_, rfl⟩
  rw [← hm, ← hn1, ← hn4] at HX ⊢
  rw [← hm] at hm8
  rw [← hn1] at hn18
  rw [← hn4] at hn48
  have HN1 := Lib.hid hn1
  have HN4 := Lib.hid hn4
  have HM := Lib.hid hm
  clear hn1 hn4 hm
  have hx0 := DBx.start (p := p) 29 HX.out
  obtain ⟨w1, hw1⟩ : ∃ w1, w1 = w.alloc (.cells #[.int .i64 p, .slice ad m cd, .slice aa n1 ca', .slice ae n4 ce'] 29) := ⟨_, rfl⟩
  rw [← hw1] at hx0
  have HX1 := Lib.hid hx0
  have c0 := hx0.c0
  have c1 := hx0.c1
  have c2 := hx0.c2
  have c3 := hx0.c3
  clear hx0
  by_cases hP : IsP p
  rotate_left
  · have HNO : Hid (¬ PP) := Lib.hid (fun h => hP (HPI.out.1 h).prime)
    go_enter Tryz.func18, Tryz.ntmps18
    go_wp2_with fail
    rw [← hw1]
    clear hw1
    refine (spprime_no hP _).mono ?_
    rintro e w' ⟨rfl, rfl⟩
    go_wp2
    go_ret
    exact bb_false HX1.out.below HNO.out
  have HP := Lib.hid hP
  by_cases h1 : (m : Int) < 1
  · have HNO : Hid (¬ PP) := Lib.hid (fun h => by have := (HPI.out.1 h).cel.len0; have := HM.out; omega)
    go_enter Tryz.func18, Tryz.ntmps18
    go_wp2_with fail
    rw [← hw1]
    clear hw1
    refine (spprime_yes hP _).mono ?_
    rintro e w' ⟨rfl, rfl⟩
    go_wp2
    go_ret
    exact bb_false HX1.out.below HNO.out
  by_cases h2 : 4 < (m : Int)
  · have HNO : Hid (¬ PP) := Lib.hid (fun h => by have := (HPI.out.1 h).cel.len1; have := HM.out; omega)
    go_enter Tryz.func18, Tryz.ntmps18
    go_wp2_with fail
    rw [← hw1]
    clear hw1
    refine (spprime_yes hP _).mono ?_
    rintro e w' ⟨rfl, rfl⟩
    go_wp2
    go_ret
    exact bb_false HX1.out.below HNO.out
  by_cases h3 : n1 = m
  rotate_left
  · have HNO : Hid (¬ PP) := Lib.hid (fun h => h3 (by rw [HN1.out, HM.out]; exact (HPI.out.1 h).tbs.la))
    have hq1 : ((n1 : Int) != (m : Int)) = true := by have hz : (n1 : Int) ≠ (m : Int) := (by omega); simp [hz]
    go_enter Tryz.func18, Tryz.ntmps18
    go_wp2_with fail
    rw [← hw1]
    clear hw1
    refine (spprime_yes hP _).mono ?_
    rintro e w' ⟨rfl, rfl⟩
    go_wp2
    go_ret
    exact bb_false HX1.out.below HNO.out
  by_cases h4 : n4 = m
  rotate_left
  · have HNO : Hid (¬ PP) := Lib.hid (fun h => h4 (by rw [HN4.out, HM.out]; exact (HPI.out.1 h).tbs.ld))
    subst h3
    have hq1 : ((n1 : Int) != (n1 : Int)) = false := by simp
    have hq2 : ((n4 : Int) != (n1 : Int)) = true := by have hz : (n4 : Int) ≠ (n1 : Int) := (by omega); simp [hz]
    go_enter Tryz.func18, Tryz.ntmps18
    go_wp2_with fail
    rw [← hw1]
    clear hw1
    refine (spprime_yes hP _).mono ?_
    rintro e w' ⟨rfl, rfl⟩
    go_wp2
    go_ret
    exact bb_false HX1.out.below HNO.out
  subst h3
  subst h4
  have hm1 : 1 ≤ n4 := by omega
  have hm4 : n4 ≤ 4 := by omega
  rcases HX.out.dims with ⟨hx, _⟩ | ⟨bb, o, cd', hv, _, hpos, hcl⟩
  · have h0 := HM.out; rw [hx] at h0; simp at h0; omega
  injection hv with e1 e2 e3
  subst e1 e3
  clear e2
  have HCL := Lib.hid hcl
  obtain ⟨u0, hu0, hr0⟩ := hcl 0 hpos
  rw [Nat.add_zero] at hu0
  obtain ⟨a0, z0, rfl⟩ := Sl.shape hr0
  rw [← getD_of_lt [] hpos] at hu0
  clear hr0
  obtain ⟨q, hq⟩ : ∃ q, q = (ds.getD 0 []).length := ⟨_, rfl⟩
  have hq8 : q ≤ 1048576 := by rw [hq, getD_of_lt _ hpos]; exact HBD.out.2 _ (List.getElem_mem hpos)
  rw [← hq] at hu0
  have HQ := Lib.hid hq
  clear hq hpos hcl
  have hu1 := later (B := w.heap.size) HX1.out.below (Nat.le_refl _) hu0
  clear hu0
  have HU1 := Lib.hid hu1
  have hq0 : ((n4 : Int) != (n4 : Int)) = false := by simp
  by_cases h5 : (q : Int) < 1
  · have HNO : Hid (¬ PP) := Lib.hid (fun h => by have := (HPI.out.1 h).cel.h0; have := HQ.out; omega)
    go_enter Tryz.func18, Tryz.ntmps18
    go_wp2_with fail
    rw [← hw1]
    clear hw1
    refine (spprime_yes hP _).mono ?_
    rintro e w' ⟨rfl, rfl⟩
    go_wp2
    go_ret
    exact bb_false HX1.out.below HNO.out
  by_cases h6 : 4 < (q : Int)
  · have HNO : Hid (¬ PP) := Lib.hid (fun h => by have := (HPI.out.1 h).cel.h1; have := HQ.out; omega)
    go_enter Tryz.func18, Tryz.ntmps18
    go_wp2_with fail
    rw [← hw1]
    clear hw1
    refine (spprime_yes hP _).mono ?_
    rintro e w' ⟨rfl, rfl⟩
    go_wp2
    go_ret
    exact bb_false HX1.out.below HNO.out
  go_enter Tryz.func18, Tryz.ntmps18
  go_wp2_with fail
  rw [← hw1]
  clear hw1
  refine (spprime_yes hP _).mono ?_
  rintro e w' ⟨rfl, rfl⟩
  go_wp2
  clear hq0 h1 h2
  go_loopw [5, 6] (fun i _ wr => ∃ a : Nat, a ≤ n4 ∧ i = .int .i64 a ∧ w1 = wr ∧ Hid (∀ a', a' < a → (ds.getD a' []).length = q ∧ (ac.getD a' []).length = q ∧ (dn.getD a' []).length = q ∧ AllIn 0 4 (ds.getD a' []))) (fun i _ _ => n4 - (intOf i).toNat)
  case atStart => exact ⟨0, Nat.zero_le _, rfl, rfl, Lib.hid (fun _ h => absurd h (Nat.not_lt_zero _))⟩
  case round =>
    obtain ⟨a, ha, rfl, rfl, HA⟩ := hrel
    by_cases hlt : a < n4
    · have hlti : (a : Int) < (n4 : Int) := by omega
      have hai : (0 : Int) ≤ (a : Int) := by omega
      have hal : a < ds.length := by rw [← HM.out]; exact hlt
      have haa : a < ac.length := by rw [← HN1.out]; exact hlt
      have had : a < dn.length := by rw [← HN4.out]; exact hlt
      obtain ⟨ui, hui, hri⟩ := HCL.out a hal
      rw [← getD_of_lt [] hal] at hri
      obtain ⟨xi, yi, rfl⟩ := Sl.shape hri
      rcases HX1.out.dx.across with ⟨hx, _⟩ | ⟨ba, oa, ca2, hva, _, hpa, hca⟩
      · exact absurd (hx ▸ haa) (Nat.not_lt_zero _)
      injection hva with e1 e2 e3
      subst e1 e3
      clear e2
      rcases HX1.out.dx.down with ⟨hx, _⟩ | ⟨be, oe, ce2, hvd, _, hpd, hcd⟩
      · exact absurd (hx ▸ had) (Nat.not_lt_zero _)
      injection hvd with e1 e2 e3
      subst e1 e3
      clear e2
      obtain ⟨uj, huj, hrj⟩ := hca a haa
      obtain ⟨xj, yj, rfl⟩ := Sl.shape hrj
      obtain ⟨uk, huk, hrk⟩ := hcd a had
      obtain ⟨xk, yk, rfl⟩ := Sl.shape hrk
      have hui1 := later (B := w.heap.size) HX1.out.below (Nat.le_refl _) hui
      clear hui hpa hpd hca hcd hrj hrk
      obtain ⟨l1, hl1⟩ : ∃ l, l = (ds.getD a []).length := ⟨_, rfl⟩
      obtain ⟨l2, hl2⟩ : ∃ l, l = (ac[a]).length := ⟨_, rfl⟩
      obtain ⟨l3, hl3⟩ : ∃ l, l = (dn[a]).length := ⟨_, rfl⟩
      rw [← hl1] at hui1
      rw [← hl2] at huj
      rw [← hl3] at huk
      have HL1 : Hid (l1 = (ds.getD a []).length) := Lib.hid hl1
      have HL2 : Hid (l2 = (ac.getD a []).length) := Lib.hid (by rw [getD_of_lt _ haa]; exact hl2)
      have HL3 : Hid (l3 = (dn.getD a []).length) := Lib.hid (by rw [getD_of_lt _ had]; exact hl3)
      have HRI := Lib.hid hri
      have hl18 : l1 ≤ 1048576 := by rw [hl1, getD_of_lt _ hal]; exact HBD.out.2 _ (List.getElem_mem hal)
      clear hl1 hl2 hl3 hri
      by_cases k1 : l1 = q
      rotate_left
      · have HNO : Hid (¬ PP) := Lib.hid (fun h => k1 (by rw [HL1.out, HQ.out, getD_of_lt _ hal]; exact ((HPI.out.1 h).cel.col _ (List.getElem_mem hal)).1))
        clear hal haa had
        have hq1 : ((l1 : Int) != (q : Int)) = true := by have hz : (l1 : Int) ≠ (q : Int) := (by omega); simp [hz]
        go_wp2
        go_ret
        exact bb_false HX1.out.below HNO.out
      by_cases k2 : l2 = q
      rotate_left
      · have HNO : Hid (¬ PP) := Lib.hid (fun h => k2 (by rw [HL2.out, (HPI.out.1 h).tbs.ca a hal, getD_of_lt _ hal, ((HPI.out.1 h).cel.col _ (List.getElem_mem hal)).1]; exact HQ.out.symm))
        clear hal haa had
        subst k1
        have hq1 : ((l1 : Int) != (l1 : Int)) = false := by simp
        have hq2 : ((l2 : Int) != (l1 : Int)) = true := by have hz : (l2 : Int) ≠ (l1 : Int) := (by omega); simp [hz]
        go_wp2
        go_ret
        exact bb_false HX1.out.below HNO.out
      by_cases k3 : l3 = q
      rotate_left
      · have HNO : Hid (¬ PP) := Lib.hid (fun h => k3 (by rw [HL3.out, (HPI.out.1 h).tbs.cd a hal, getD_of_lt _ hal, ((HPI.out.1 h).cel.col _ (List.getElem_mem hal)).1]; exact HQ.out.symm))
        clear hal haa had
        subst k1
        subst k2
        have hq1 : ((l2 : Int) != (l2 : Int)) = false := by simp
        have hq2 : ((l3 : Int) != (l2 : Int)) = true := by have hz : (l3 : Int) ≠ (l2 : Int) := (by omega); simp [hz]
        go_wp2
        go_ret
        exact bb_false HX1.out.below HNO.out
      subst k1
      subst k2
      subst k3
      have hq1 : ((l3 : Int) != (l3 : Int)) = false := by simp
      have HAL := Lib.hid hal
      clear hal haa had
      go_wp2
      clear hq1
      go_loopw [6] (fun j wr => ∃ b : Nat, b ≤ l3 ∧ j = .int .i64 b ∧ w1 = wr ∧ Hid (∀ b', b' < b → 0 ≤ (ds.getD a []).getD b' 0 ∧ (ds.getD a []).getD b' 0 ≤ 4)) (fun j _ => l3 - (intOf j).toNat)
      case atStart => exact ⟨0, Nat.zero_le _, rfl, rfl, Lib.hid (fun _ h => absurd h (Nat.not_lt_zero _))⟩
      case round =>
        obtain ⟨b, hb, rfl, rfl, HB⟩ := hrel
        by_cases hltb : b < l3
        · have hltj : (b : Int) < (l3 : Int) := by omega
          have hbi : (0 : Int) ≤ (b : Int) := by omega
          have hbl : b < (ds.getD a []).length := by rw [← HL1.out]; exact hltb
          rcases HRI.out with ⟨hx, _⟩ | ⟨bi, oi, ci, hvi, _, hpi, hci⟩
          · rw [hx] at hbl; exact absurd hbl (Nat.not_lt_zero _)
          injection hvi with e1 e2 e3
          subst e1 e3
          clear e2
          obtain ⟨ue, hue, hre⟩ := hci b hbl
          obtain ⟨d, hd⟩ : ∃ d, d = (ds.getD a []).getD b 0 := ⟨_, rfl⟩
          have hre' : ue = .int .i64 d := by rw [hd, getD_of_lt _ hbl]; exact hre
          subst hre'
          have hue1 := later (B := w.heap.size) HX1.out.below (Nat.le_refl _) hue
          have HBL := Lib.hid hbl
          have HDD := Lib.hid hd
          clear hue hci hpi hre hd hbl
          by_cases k4 : 0 ≤ d ∧ d ≤ 4
          rotate_left
          · have HNO : Hid (¬ PP) := Lib.hid (fun h => k4 (by have h1 := ((HPI.out.1 h).cel.col (ds.getD a []) (by rw [getD_of_lt _ HAL.out]; exact List.getElem_mem HAL.out)).2 _ (List.getElem_mem HBL.out); rw [HDD.out, getD_of_lt _ HBL.out]; exact h1))
            go_wp2_with fail
            refine (spin_no k4 _).mono ?_
            rintro e w' ⟨rfl, rfl⟩
            go_wp2
            go_ret
            exact bb_false HX1.out.below HNO.out
          have HK4 := Lib.hid k4
          go_wp2_with fail
          refine (spin_yes k4 _).mono ?_
          rintro e w' ⟨rfl, rfl⟩
          clear k4
          have HNEW : Hid (∀ b', b' < b + 1 → 0 ≤ (ds.getD a []).getD b' 0 ∧ (ds.getD a []).getD b' 0 ≤ 4) := Lib.hid (fun b' hb' => by
            by_cases e : b' = b
            · subst e; rw [← HDD.out]; exact HK4.out
            · exact HB.out b' (by omega))
          go_wp2
          go_roundw
          case rel => exact ⟨b + 1, by omega, by go_num, (by first | trivial | rfl), HNEW⟩
          case measure => simp [intOf]; omega
        · obtain rfl : b = l3 := by omega
          have HNEW : Hid (∀ a', a' < a + 1 → (ds.getD a' []).length = b ∧ (ac.getD a' []).length = b ∧ (dn.getD a' []).length = b ∧ AllIn 0 4 (ds.getD a' [])) := Lib.hid (fun a' ha' => by
            by_cases e : a' = a
            · subst e
              refine ⟨HL1.out.symm, HL2.out.symm, HL3.out.symm, fun x hx => ?_⟩
              obtain ⟨k, hk, rfl⟩ := List.getElem_of_mem hx
              have := HB.out k (by rw [HL1.out]; exact hk)
              rwa [getD_of_lt _ hk] at this
            · exact HA.out a' (by omega))
          go_wp2
          go_roundw
          case rel => exact ⟨a + 1, by omega, by go_num, (by first | trivial | rfl), HNEW⟩
          case measure => simp [intOf]; omega
    · obtain rfl : a = n4 := by omega
      have hcel : DclOk ds := by
        have h00 := HA.out 0 (by omega)
        refine ⟨by rw [← HM.out]; omega, by rw [← HM.out]; omega, by rw [h00.1]; omega, by rw [h00.1]; omega, fun r hr => ?_⟩
        obtain ⟨k, hk, rfl⟩ := List.getElem_of_mem hr
        have := HA.out k (by rw [HM.out]; exact hk)
        rw [getD_of_lt _ hk] at this
        exact ⟨by rw [this.1, h00.1], this.2.2.2⟩
      have HCEL := Lib.hid hcel
      clear hcel
      have HLL : Hid (∀ a', a' < a → (ds.getD a' []).length = q ∧ (ac.getD a' []).length = q ∧ (dn.getD a' []).length = q) := Lib.hid (fun a' h => ⟨(HA.out a' h).1, (HA.out a' h).2.1, (HA.out a' h).2.2.1⟩)
      have HDIM : Hid (∀ W, Below w1.heap.size w1 W → ∀ x y : Int, -1000 ≤ x ∧ x ≤ 1000 → -1000 ≤ y ∧ y ≤ 1000 → Calls Tryz.prog 37 #[.agg #[.int .i64 p, .slice (some ⟨bb, o, none⟩) a cd, .slice aa a ca', .slice ae a ce'], .int .i64 x, .int .i64 y] W fun r w' => r = .returned (.int .i64 (dco ds x y)) ∧ Below w1.heap.size w1 w') := Lib.hid (fun W hb x y hx hy => by
        have h0 := (HX1.out.next hb).dx.dims
        exact (l03Dim_any p x y _ _ _ ds W h0 HCEL.out hx hy).mono fun _ _ hh => ⟨hh.1, hb.trans (hh.2.mono hb.size)⟩)
      clear HA
      have hq4 : q ≤ 4 := by omega
      have hq1' : 1 ≤ q := by omega
      go_wp2
      go_loopw [7, 8] (fun i _ wr => ∃ x : Nat, x ≤ a ∧ i = .int .i64 x ∧ Hid (Below w1.heap.size w1 wr) ∧ Hid (∀ c ∈ cellsTo ds ds.length, c.1 < x → DTab p ds ac dn c)) (fun i _ _ => a - (intOf i).toNat)
      case atStart => exact ⟨0, Nat.zero_le _, rfl, Lib.hid (Below.refl _ _), Lib.hid (fun _ _ h => absurd h (Nat.not_lt_zero _))⟩
      case round =>
        obtain ⟨x, hx, rfl, HBwx, HTX⟩ := hrel
        obtain ⟨wx, hwx⟩ : ∃ wx : World, wx = wr := ⟨_, rfl⟩
        subst hwx
        by_cases hltx : x < a
        · have hltx' : (x : Int) < (a : Int) := by omega
          go_wp2
          go_loopw [8] (fun j wr => ∃ y : Nat, y ≤ q ∧ j = .int .i64 y ∧ Hid (Below w1.heap.size w1 wr) ∧ Hid (∀ y', y' < y → DTab p ds ac dn (x, y'))) (fun j _ => q - (intOf j).toNat)
          case atStart => exact ⟨0, Nat.zero_le _, rfl, HBwx, Lib.hid (fun _ h => absurd h (Nat.not_lt_zero _))⟩
          case round =>
            clear HBwx
            obtain ⟨y, hy, rfl, HBwy, HTY⟩ := hrel
            obtain ⟨wy, hwy⟩ : ∃ wy : World, wy = wr := ⟨_, rfl⟩
            subst hwy
            by_cases hlty : y < q
            · have hlty' : (y : Int) < (q : Int) := by omega
              have hal : x < ds.length := by rw [← HM.out]; exact hltx
              have hia : x < ac.length := by rw [← HN1.out]; exact hltx
              have hid : x < dn.length := by rw [← HN4.out]; exact hltx
              obtain ⟨hll1, hll2, hll3⟩ := HLL.out x hltx
              have hc : (x, y) ∈ cellsTo ds ds.length := mem_cells.2 ⟨hal, by dsimp only; rw [hll1]; exact hlty⟩
              have HC := Lib.hid hc
              rw [getD_of_lt _ hal] at hll1
              rw [getD_of_lt _ hia] at hll2
              rw [getD_of_lt _ hid] at hll3
              have hja : y < (ac[x]).length := by rw [hll2]; exact hlty
              have hjd : y < (dn[x]).length := by rw [hll3]; exact hlty
              have hdxy := (HX1.out.next HBwy.out).dx
              have hbz := HBwy.out
              have hzz := hbz.size
              obtain ⟨ba, oa, ca, b2, o2, k2, ut, hva, hA1, hA2, hTl⟩ := l4_at hdxy.across hia hja
              obtain ⟨be, oe, ce, b5, o5, k5, us, hvd, hE1, hE2, hSl⟩ := l4_at hdxy.down hid hjd
              have hT1b : Bd2 1048576 (ac[x])[y] := (HBA.out.2 _ (List.getElem_mem hia)).2 _ (List.getElem_mem hja)
              have hT2b : Bd2 1048576 (dn[x])[y] := (HBV.out.2 _ (List.getElem_mem hid)).2 _ (List.getElem_mem hjd)
              have hTt : (ac[x])[y] = (ac.getD x []).getD y [] := by rw [getD_of_lt _ hia, getD_of_lt _ hja]
              have hTs : (dn[x])[y] = (dn.getD x []).getD y [] := by rw [getD_of_lt _ hid, getD_of_lt _ hjd]
              rw [hTt] at hTl hT1b
              rw [hTs] at hSl hT2b
              rw [hll2] at hA1
              rw [hll3] at hE1
              injection hva with e1 e2 e3
              injection hvd with e4 e5 e6
              have HE1' : Hid (aa = some ⟨ba, oa, none⟩) := Lib.hid e1
              have HE4' : Hid (ae = some ⟨be, oe, none⟩) := Lib.hid e4
              clear e1 e2 e3 e4 e5 e6
              obtain ⟨ta, tc, hut⟩ := Sl.shape hTl
              obtain ⟨sa, sc, hus⟩ := Sl.shape hSl
              obtain ⟨TA, hTA⟩ : ∃ t, t = (ac.getD x []).getD y [] := ⟨_, rfl⟩
              obtain ⟨TD, hTD⟩ : ∃ t, t = (dn.getD x []).getD y [] := ⟨_, rfl⟩
              rw [← hTA] at hTl hT1b hut
              rw [← hTD] at hSl hT2b hus
              obtain ⟨nt, hnt⟩ : ∃ n, n = TA.length := ⟨_, rfl⟩
              obtain ⟨ns, hns⟩ : ∃ n, n = TD.length := ⟨_, rfl⟩
              rw [← hnt] at hut
              rw [← hns] at hus
              subst hut hus
              have HA1 := Lib.hid hA1
              have HA2 := Lib.hid hA2
              have HE1 := Lib.hid hE1
              have HE2 := Lib.hid hE2
              have HTL := Lib.hid hTl
              have HSL := Lib.hid hSl
              have HT1 := Lib.hid hT1b
              have HT2 := Lib.hid hT2b
              obtain ⟨d, hd⟩ : ∃ d, d = (ds.getD x []).getD y 0 := ⟨_, rfl⟩
              obtain ⟨ui, hui, hri⟩ := HCL.out x hal
              have hbl : y < (ds[x]).length := by rw [hll1]; exact hlty
              rcases hri with ⟨hx0, _⟩ | ⟨bi, oi, ci, rfl, _, hpi, hci⟩
              · rw [hx0] at hbl; exact absurd hbl (Nat.not_lt_zero _)
              obtain ⟨ue, hue, hre⟩ := hci y hbl
              have hre' : ue = .int .i64 d := by rw [hd, getD_of_lt _ hal, getD_of_lt _ hbl]; exact hre
              subst hre'
              rw [hll1] at hui
              have HUI : Hid (∀ W, Below wy.heap.size wy W → W.cell? ⟨bb, o + x, none⟩ = some (.slice (some ⟨bi, oi, none⟩) q ci) ∧ W.cell? ⟨bi, oi + y, none⟩ = some (.int .i64 d)) := Lib.hid (fun W hb => ⟨later (HX1.out.below.trans ((HBwy.out.trans (hb.mono hzz)).mono HX1.out.below.size)) (Nat.le_refl _) hui, later (HX1.out.below.trans ((HBwy.out.trans (hb.mono hzz)).mono HX1.out.below.size)) (Nat.le_refl _) hue⟩)
              have hcd := dco_dcl HCEL.out hc
              dsimp only at hcd
              have HDT : Hid (DTab p ds ac dn (x, y) ↔ TabOk p d (dco ds ((x : Int) - 1) y) TA ∧ TabOk p d (dco ds x ((y : Int) - 1)) TD) := Lib.hid (by
                show (TabOk p (dcl ds x y) (dcl ds ((x : Int) - 1) y) ((ac.getD x []).getD y []) ∧ TabOk p (dcl ds x y) (dcl ds x ((y : Int) - 1)) ((dn.getD x []).getD y [])) ↔ _
                rw [hcd.1, hcd.2, hTA, hTD, dcl_nat, hd])
              clear hA1 hA2 hE1 hE2 hTl hSl hT1b hT2b hTt hTs hTA hTD hnt hns hd hui hue hre hci hpi hcd hc hdxy hbl hja hjd hia hid hll1 hll2 hll3 hal
              obtain ⟨dl, hdl⟩ : ∃ z, z = dco ds ((x : Int) - 1) y := ⟨_, rfl⟩
              obtain ⟨db, hdb⟩ : ∃ z, z = dco ds x ((y : Int) - 1) := ⟨_, rfl⟩
              rw [← hdl, ← hdb] at HDT
              have HNZ : Hid (∀ W, Below wy.heap.size wy W → DBx w W w.heap.size p (.slice (some ⟨bb, o, none⟩) a cd) (.slice aa a ca') (.slice ae a ce') ds ac dn ∧ Below w1.heap.size w1 W) := Lib.hid (fun W hb => ⟨HX1.out.next (HBwy.out.trans (hb.mono hzz)), HBwy.out.trans (hb.mono hzz)⟩)
              have HDL : Hid (∀ W, Below wy.heap.size wy W → Calls Tryz.prog 37 #[.agg #[.int .i64 p, .slice (some ⟨bb, o, none⟩) a cd, .slice aa a ca', .slice ae a ce'], .int .i64 ((x : Int) - 1), .int .i64 (y : Int)] W fun r w' => r = .returned (.int .i64 dl) ∧ Below W.heap.size W w') := Lib.hid (fun W hb => by
                rw [hdl]
                exact l03Dim_any p _ _ _ _ _ ds W (HNZ.out W hb).1.dx.dims HCEL.out ⟨by omega, by omega⟩ ⟨by omega, by omega⟩)
              have HDB : Hid (∀ W, Below wy.heap.size wy W → Calls Tryz.prog 37 #[.agg #[.int .i64 p, .slice (some ⟨bb, o, none⟩) a cd, .slice aa a ca', .slice ae a ce'], .int .i64 (x : Int), .int .i64 ((y : Int) - 1)] W fun r w' => r = .returned (.int .i64 db) ∧ Below W.heap.size W w') := Lib.hid (fun W hb => by
                rw [hdb]
                exact l03Dim_any p _ _ _ _ _ ds W (HNZ.out W hb).1.dx.dims HCEL.out ⟨by omega, by omega⟩ ⟨by omega, by omega⟩)
              have HTA1 : Hid (∀ W, Below wy.heap.size wy W → Calls Tryz.prog 36 #[.int .i64 p, .slice ta nt tc, .int .i64 d, .int .i64 dl] W (BW (TabOk p d dl TA) W)) := Lib.hid (fun W hb => l01Table_any p _ _ _ _ W HP.out (HTL.out.below hb) HT1.out)
              have HTD1 : Hid (∀ W, Below wy.heap.size wy W → Calls Tryz.prog 36 #[.int .i64 p, .slice sa ns sc, .int .i64 d, .int .i64 db] W (BW (TabOk p d db TD) W)) := Lib.hid (fun W hb => l01Table_any p _ _ _ _ W HP.out (HSL.out.below hb) HT2.out)
              clear hdl hdb
              have wi : IntKind.i64.wrap ((x : Int) - 1) = (x : Int) - 1 := IntWalk.i64_in _ (by omega)
              have wj : IntKind.i64.wrap ((y : Int) - 1) = (y : Int) - 1 := IntWalk.i64_in _ (by omega)
              go_upto_region 23 with fail
              refine wp_region_held (S := fun W => Below wy.heap.size wy W) (by kernel_rfl) ?_
              have S0 : Below wy.heap.size wy wy.drew := (Below.refl _ _).drew
              change wpAnyH _ _ _ _ _ _ _ _ wy.drew
              obtain ⟨wd, hwd⟩ : ∃ wd, wd = wy.drew := ⟨_, rfl⟩
              rw [← hwd] at S0 ⊢
              clear hwd
              refine held_take (i := 0) (v := .pointer (some ⟨w.heap.size, 0, none⟩)) (some 107) rfl rfl (by kernel_rfl) (by kernel_rfl) (by kernel_rfl) (fun _ _ _ h => h) (yieldsIf_run0 (by kernel_rfl) (fun W _ => by kernel_rfl)) S0 ?_
              refine held_take (i := 1) (v := .int .i64 p) (some 108) rfl rfl (by kernel_rfl) (by kernel_rfl) (by kernel_rfl) (fun _ _ _ h => h) (yieldsIf_cell (by kernel_rfl) rfl (by kernel_rfl) (fun W h => hloadIn W (HNZ.out W h).1.c0)) S0 ?_
              refine held_take (i := 2) (v := .pointer (some ⟨w.heap.size, 2, none⟩)) (some 109) rfl rfl (by kernel_rfl) (by kernel_rfl) (by kernel_rfl) (fun _ _ _ h => h) (yieldsIf_run0 (by kernel_rfl) (fun W _ => by kernel_rfl)) S0 ?_
              refine held_take (i := 3) (v := .slice aa a ca') (some 110) rfl rfl (by kernel_rfl) (by kernel_rfl) (by kernel_rfl) (fun _ _ _ h => h) (yieldsIf_cell (by kernel_rfl) rfl (by kernel_rfl) (fun W h => hload4 W (HNZ.out W h).1.c2)) S0 ?_
              refine held_take (i := 4) (v := .int .i64 (x : Int)) (some 111) rfl rfl (by kernel_rfl) (by kernel_rfl) (by kernel_rfl) (fun _ _ _ h => h) (yieldsIf_move (by kernel_rfl) rfl (by kernel_rfl)) S0 ?_
              refine held_take (i := 5) (v := .pointer (some ⟨ba, oa + x, none⟩)) (some 112) rfl rfl (by kernel_rfl) (by kernel_rfl) (by kernel_rfl) (fun _ _ _ h => h) (yieldsIf_index (by kernel_rfl) rfl (by kernel_rfl) (by kernel_rfl) (hidx4 (cap := ca') HE1'.out hltx)) S0 ?_
              refine held_take (i := 6) (v := .slice (some ⟨b2, o2, none⟩) q k2) (some 113) rfl rfl (by kernel_rfl) (by kernel_rfl) (by kernel_rfl) (fun _ _ _ h => h) (yieldsIf_cell (by kernel_rfl) rfl (by kernel_rfl) (fun W h => hload3s W (later h (Nat.le_refl _) HA1.out))) S0 ?_
              refine held_take (i := 7) (v := .int .i64 (y : Int)) (some 114) rfl rfl (by kernel_rfl) (by kernel_rfl) (by kernel_rfl) (fun _ _ _ h => h) (yieldsIf_move (by kernel_rfl) rfl (by kernel_rfl)) S0 ?_
              refine held_take (i := 8) (v := .pointer (some ⟨b2, o2 + y, none⟩)) (some 115) rfl rfl (by kernel_rfl) (by kernel_rfl) (by kernel_rfl) (fun _ _ _ h => h) (yieldsIf_index (by kernel_rfl) rfl (by kernel_rfl) (by kernel_rfl) (hidx3 b2 o2 k2 hlty)) S0 ?_
              refine held_take (i := 9) (v := .slice ta nt tc) (some 116) rfl rfl (by kernel_rfl) (by kernel_rfl) (by kernel_rfl) (fun _ _ _ h => h) (yieldsIf_cell (by kernel_rfl) rfl (by kernel_rfl) (fun W h => hload2s W (later h (Nat.le_refl _) HA2.out))) S0 ?_
              refine held_take (i := 10) (v := .pointer (some ⟨w.heap.size, 1, none⟩)) (some 117) rfl rfl (by kernel_rfl) (by kernel_rfl) (by kernel_rfl) (fun _ _ _ h => h) (yieldsIf_run0 (by kernel_rfl) (fun W _ => by kernel_rfl)) S0 ?_
              refine held_take (i := 11) (v := .slice (some ⟨bb, o, none⟩) a cd) (some 118) rfl rfl (by kernel_rfl) (by kernel_rfl) (by kernel_rfl) (fun _ _ _ h => h) (yieldsIf_cell (by kernel_rfl) rfl (by kernel_rfl) (fun W h => hload2s W (HNZ.out W h).1.c1)) S0 ?_
              refine held_take (i := 12) (v := .int .i64 (x : Int)) (some 119) rfl rfl (by kernel_rfl) (by kernel_rfl) (by kernel_rfl) (fun _ _ _ h => h) (yieldsIf_move (by kernel_rfl) rfl (by kernel_rfl)) S0 ?_
              refine held_take (i := 13) (v := .pointer (some ⟨bb, o + x, none⟩)) (some 120) rfl rfl (by kernel_rfl) (by kernel_rfl) (by kernel_rfl) (fun _ _ _ h => h) (yieldsIf_index (by kernel_rfl) rfl (by kernel_rfl) (by kernel_rfl) (hidxS bb o cd hltx)) S0 ?_
              refine held_take (i := 14) (v := .slice (some ⟨bi, oi, none⟩) q ci) (some 121) rfl rfl (by kernel_rfl) (by kernel_rfl) (by kernel_rfl) (fun _ _ _ h => h) (yieldsIf_cell (by kernel_rfl) rfl (by kernel_rfl) (fun W h => hloadD W (HUI.out W h).1)) S0 ?_
              refine held_take (i := 15) (v := .int .i64 (y : Int)) (some 122) rfl rfl (by kernel_rfl) (by kernel_rfl) (by kernel_rfl) (fun _ _ _ h => h) (yieldsIf_move (by kernel_rfl) rfl (by kernel_rfl)) S0 ?_
              refine held_take (i := 16) (v := .pointer (some ⟨bi, oi + y, none⟩)) (some 123) rfl rfl (by kernel_rfl) (by kernel_rfl) (by kernel_rfl) (fun _ _ _ h => h) (yieldsIf_index (by kernel_rfl) rfl (by kernel_rfl) (by kernel_rfl) (hidxI bi oi ci hlty)) S0 ?_
              refine held_take (i := 17) (v := .int .i64 d) (some 124) rfl rfl (by kernel_rfl) (by kernel_rfl) (by kernel_rfl) (fun _ _ _ h => h) (yieldsIf_cell (by kernel_rfl) rfl (by kernel_rfl) (fun W h => hloadIn W (HUI.out W h).2)) S0 ?_
              refine held_take (i := 18) (v := .agg #[.int .i64 p, .slice (some ⟨bb, o, none⟩) a cd, .slice aa a ca', .slice ae a ce']) (some 125) rfl rfl (by kernel_rfl) (by kernel_rfl) (by kernel_rfl) (fun _ _ _ h => h) (yieldsIf_cell (by kernel_rfl) rfl (by kernel_rfl) (fun W h => hloadDb W (HNZ.out W h).1)) S0 ?_
              refine held_take (i := 19) (v := .int .i64 (x : Int)) (some 126) rfl rfl (by kernel_rfl) (by kernel_rfl) (by kernel_rfl) (fun _ _ _ h => h) (yieldsIf_move (by kernel_rfl) rfl (by kernel_rfl)) S0 ?_
              refine held_take (i := 20) (v := .int .i64 ((x : Int) - 1)) (some 127) rfl rfl (by kernel_rfl) (by kernel_rfl) (by kernel_rfl) (fun _ _ _ h => h) (yieldsIf_bin (by kernel_rfl) rfl (by kernel_rfl) (by kernel_rfl) (fun _ => rfl) (hsubA wi)) S0 ?_
              refine held_take (i := 21) (v := .int .i64 (y : Int)) (some 128) rfl rfl (by kernel_rfl) (by kernel_rfl) (by kernel_rfl) (fun _ _ _ h => h) (yieldsIf_move (by kernel_rfl) rfl (by kernel_rfl)) S0 ?_
              refine held_enter (i := 22) (some 129) (f := 37) (args := #[.agg #[.int .i64 p, .slice (some ⟨bb, o, none⟩) a cd, .slice aa a ca', .slice ae a ce'], .int .i64 ((x : Int) - 1), .int .i64 (y : Int)]) (by kernel_rfl) rfl rfl rfl (by kernel_rfl) (HDL.out _ S0) ?_ (fun c w' h => by cases h.1) (fun w' h => by cases h.1)
              rintro e3 W3 ⟨he3, hb3⟩
              injection he3 with he3
              subst he3
              have S1 : Below wy.heap.size wy W3 := S0.trans (hb3.mono S0.size)
              refine ⟨S1, ?_⟩
              refine held_enter (i := 23) (some 130) (f := 36) (args := #[.int .i64 p, .slice ta nt tc, .int .i64 d, .int .i64 dl]) (by kernel_rfl) rfl rfl rfl (by kernel_rfl) (HTA1.out _ S1) ?_ (fun c w' h => by obtain ⟨_, h, _⟩ := h; cases h) (fun w' h => by obtain ⟨_, h, _⟩ := h; cases h)
              rintro e4 W4 ⟨t1, he4, hw4, ht1⟩
              injection he4 with he4
              subst he4
              subst hw4
              refine ⟨S1, ?_⟩
              have HT1B := Lib.hid ht1
              clear ht1
              cases t1
              · refine held_take (i := 24) (v := .bool true) (some 131) rfl rfl (by kernel_rfl) (by kernel_rfl) (by kernel_rfl) (fun _ _ _ h => h) (yieldsIf_run0 (by kernel_rfl) (fun W _ => by kernel_rfl)) S1 ?_
                refine held_take (i := 25) (v := .bool true) (some 132) rfl rfl (by kernel_rfl) (by kernel_rfl) (by kernel_rfl) (fun _ _ _ h => h) (yieldsIf_move (by kernel_rfl) rfl (by kernel_rfl)) S1 ?_
                refine held_skip0 (i := 26) (some 133) rfl rfl (by kernel_rfl) (by kernel_rfl) (by kernel_rfl) (fun _ _ _ h => h) (by kernel_rfl) S1 ?_
                refine held_skip0 (i := 27) (some 134) rfl rfl (by kernel_rfl) (by kernel_rfl) (by kernel_rfl) (fun _ _ _ h => h) (by kernel_rfl) S1 ?_
                refine held_skip0 (i := 28) (some 135) rfl rfl (by kernel_rfl) (by kernel_rfl) (by kernel_rfl) (fun _ _ _ h => h) (by kernel_rfl) S1 ?_
                refine held_skip0 (i := 29) (some 136) rfl rfl (by kernel_rfl) (by kernel_rfl) (by kernel_rfl) (fun _ _ _ h => h) (by kernel_rfl) S1 ?_
                refine held_skip0 (i := 30) (some 137) rfl rfl (by kernel_rfl) (by kernel_rfl) (by kernel_rfl) (fun _ _ _ h => h) (by kernel_rfl) S1 ?_
                refine held_skip0 (i := 31) (some 138) rfl rfl (by kernel_rfl) (by kernel_rfl) (by kernel_rfl) (fun _ _ _ h => h) (by kernel_rfl) S1 ?_
                refine held_skip0 (i := 32) (some 139) rfl rfl (by kernel_rfl) (by kernel_rfl) (by kernel_rfl) (fun _ _ _ h => h) (by kernel_rfl) S1 ?_
                refine held_skip0 (i := 33) (some 140) rfl rfl (by kernel_rfl) (by kernel_rfl) (by kernel_rfl) (fun _ _ _ h => h) (by kernel_rfl) S1 ?_
                refine held_skip0 (i := 34) (some 141) rfl rfl (by kernel_rfl) (by kernel_rfl) (by kernel_rfl) (fun _ _ _ h => h) (by kernel_rfl) S1 ?_
                refine held_skip0 (i := 35) (some 142) rfl rfl (by kernel_rfl) (by kernel_rfl) (by kernel_rfl) (fun _ _ _ h => h) (by kernel_rfl) S1 ?_
                refine held_skip0 (i := 36) (some 143) rfl rfl (by kernel_rfl) (by kernel_rfl) (by kernel_rfl) (fun _ _ _ h => h) (by kernel_rfl) S1 ?_
                refine held_skip0 (i := 37) (some 144) rfl rfl (by kernel_rfl) (by kernel_rfl) (by kernel_rfl) (fun _ _ _ h => h) (by kernel_rfl) S1 ?_
                refine held_skip0 (i := 38) (some 145) rfl rfl (by kernel_rfl) (by kernel_rfl) (by kernel_rfl) (fun _ _ _ h => h) (by kernel_rfl) S1 ?_
                refine held_skip0 (i := 39) (some 146) rfl rfl (by kernel_rfl) (by kernel_rfl) (by kernel_rfl) (fun _ _ _ h => h) (by kernel_rfl) S1 ?_
                refine held_skip0 (i := 40) (some 147) rfl rfl (by kernel_rfl) (by kernel_rfl) (by kernel_rfl) (fun _ _ _ h => h) (by kernel_rfl) S1 ?_
                refine held_skip0 (i := 41) (some 148) rfl rfl (by kernel_rfl) (by kernel_rfl) (by kernel_rfl) (fun _ _ _ h => h) (by kernel_rfl) S1 ?_
                refine held_skip0 (i := 42) (some 149) rfl rfl (by kernel_rfl) (by kernel_rfl) (by kernel_rfl) (fun _ _ _ h => h) (by kernel_rfl) S1 ?_
                refine held_skip0 (i := 43) (some 150) rfl rfl (by kernel_rfl) (by kernel_rfl) (by kernel_rfl) (fun _ _ _ h => h) (by kernel_rfl) S1 ?_
                refine held_skip0 (i := 44) (some 151) rfl rfl (by kernel_rfl) (by kernel_rfl) (by kernel_rfl) (fun _ _ _ h => h) (by kernel_rfl) S1 ?_
                refine held_skip0 (i := 45) (some 152) rfl rfl (by kernel_rfl) (by kernel_rfl) (by kernel_rfl) (fun _ _ _ h => h) (by kernel_rfl) S1 ?_
                refine held_skip0 (i := 46) (some 153) rfl rfl (by kernel_rfl) (by kernel_rfl) (by kernel_rfl) (fun _ _ _ h => h) (by kernel_rfl) S1 ?_
                refine held_skip0 (i := 47) (some 154) rfl rfl (by kernel_rfl) (by kernel_rfl) (by kernel_rfl) (fun _ _ _ h => h) (by kernel_rfl) S1 ?_
                refine held_skip0 (i := 48) (some 155) rfl rfl (by kernel_rfl) (by kernel_rfl) (by kernel_rfl) (fun _ _ _ h => h) (by kernel_rfl) S1 ?_
                refine held_skip0 (i := 49) (some 156) rfl rfl (by kernel_rfl) (by kernel_rfl) (by kernel_rfl) (fun _ _ _ h => h) (by kernel_rfl) S1 ?_
                refine held_skip0 (i := 50) (some 157) rfl rfl (by kernel_rfl) (by kernel_rfl) (by kernel_rfl) (fun _ _ _ h => h) (by kernel_rfl) S1 ?_
                refine held_take (i := 51) (v := .bool true) (some 158) rfl rfl (by kernel_rfl) (by kernel_rfl) (by kernel_rfl) (fun _ _ _ h => h) (yieldsIf_run0 (by kernel_rfl) (fun W _ => by kernel_rfl)) S1 ?_
                refine wpAnyH_done (by kernel_rfl) ?_ _
                simp only [Act.put, List.setIfInBounds_toArray, List.set_cons_zero, List.set_cons_succ]
                have HS1 := Lib.hid (HNZ.out _ S1).2
                have HNO : Hid (¬ PP) := Lib.hid (fun h => by have h1 := HDT.out.1 ((HPI.out.1 h).tbs.tab _ HC.out); exact absurd (HT1B.out.2 h1.1) (by simp))
                clear S0 S1 hb3
                go_wp2
                go_ret
                exact bb_false (HX1.out.below.trans (HS1.out.mono HX1.out.below.size)) HNO.out
              · refine held_take (i := 24) (v := .bool false) (some 131) rfl rfl (by kernel_rfl) (by kernel_rfl) (by kernel_rfl) (fun _ _ _ h => h) (yieldsIf_run0 (by kernel_rfl) (fun W _ => by kernel_rfl)) S1 ?_
                refine held_take (i := 25) (v := .bool false) (some 132) rfl rfl (by kernel_rfl) (by kernel_rfl) (by kernel_rfl) (fun _ _ _ h => h) (yieldsIf_move (by kernel_rfl) rfl (by kernel_rfl)) S1 ?_
                refine held_take (i := 26) (v := .pointer (some ⟨w.heap.size, 0, none⟩)) (some 133) rfl rfl (by kernel_rfl) (by kernel_rfl) (by kernel_rfl) (fun _ _ _ h => h) (yieldsIf_runG (by kernel_rfl) (fun W _ => by kernel_rfl)) S1 ?_
                refine held_take (i := 27) (v := .int .i64 p) (some 134) rfl rfl (by kernel_rfl) (by kernel_rfl) (by kernel_rfl) (fun _ _ _ h => h) (yieldsIf_cellG (by kernel_rfl) rfl (by kernel_rfl) (fun W h => hloadIn W (HNZ.out W h).1.c0)) S1 ?_
                refine held_take (i := 28) (v := .pointer (some ⟨w.heap.size, 3, none⟩)) (some 135) rfl rfl (by kernel_rfl) (by kernel_rfl) (by kernel_rfl) (fun _ _ _ h => h) (yieldsIf_runG (by kernel_rfl) (fun W _ => by kernel_rfl)) S1 ?_
                refine held_take (i := 29) (v := .slice ae a ce') (some 136) rfl rfl (by kernel_rfl) (by kernel_rfl) (by kernel_rfl) (fun _ _ _ h => h) (yieldsIf_cellG (by kernel_rfl) rfl (by kernel_rfl) (fun W h => hload4 W (HNZ.out W h).1.c3)) S1 ?_
                refine held_take (i := 30) (v := .int .i64 (x : Int)) (some 137) rfl rfl (by kernel_rfl) (by kernel_rfl) (by kernel_rfl) (fun _ _ _ h => h) (yieldsIf_runG (by kernel_rfl) (fun W _ => by kernel_rfl)) S1 ?_
                refine held_take (i := 31) (v := .pointer (some ⟨be, oe + x, none⟩)) (some 138) rfl rfl (by kernel_rfl) (by kernel_rfl) (by kernel_rfl) (fun _ _ _ h => h) (yieldsIf_indexD (by kernel_rfl) rfl (by kernel_rfl) (by kernel_rfl) (hidx4 (cap := ce') HE4'.out hltx)) S1 ?_
                refine held_take (i := 32) (v := .slice (some ⟨b5, o5, none⟩) q k5) (some 139) rfl rfl (by kernel_rfl) (by kernel_rfl) (by kernel_rfl) (fun _ _ _ h => h) (yieldsIf_cellG (by kernel_rfl) rfl (by kernel_rfl) (fun W h => hload3s W (later h (Nat.le_refl _) HE1.out))) S1 ?_
                refine held_take (i := 33) (v := .int .i64 (y : Int)) (some 140) rfl rfl (by kernel_rfl) (by kernel_rfl) (by kernel_rfl) (fun _ _ _ h => h) (yieldsIf_runG (by kernel_rfl) (fun W _ => by kernel_rfl)) S1 ?_
                refine held_take (i := 34) (v := .pointer (some ⟨b5, o5 + y, none⟩)) (some 141) rfl rfl (by kernel_rfl) (by kernel_rfl) (by kernel_rfl) (fun _ _ _ h => h) (yieldsIf_indexD (by kernel_rfl) rfl (by kernel_rfl) (by kernel_rfl) (hidx3 b5 o5 k5 hlty)) S1 ?_
                refine held_take (i := 35) (v := .slice sa ns sc) (some 142) rfl rfl (by kernel_rfl) (by kernel_rfl) (by kernel_rfl) (fun _ _ _ h => h) (yieldsIf_cellG (by kernel_rfl) rfl (by kernel_rfl) (fun W h => hload2s W (later h (Nat.le_refl _) HE2.out))) S1 ?_
                refine held_take (i := 36) (v := .pointer (some ⟨w.heap.size, 1, none⟩)) (some 143) rfl rfl (by kernel_rfl) (by kernel_rfl) (by kernel_rfl) (fun _ _ _ h => h) (yieldsIf_runG (by kernel_rfl) (fun W _ => by kernel_rfl)) S1 ?_
                refine held_take (i := 37) (v := .slice (some ⟨bb, o, none⟩) a cd) (some 144) rfl rfl (by kernel_rfl) (by kernel_rfl) (by kernel_rfl) (fun _ _ _ h => h) (yieldsIf_cellG (by kernel_rfl) rfl (by kernel_rfl) (fun W h => hload2s W (HNZ.out W h).1.c1)) S1 ?_
                refine held_take (i := 38) (v := .int .i64 (x : Int)) (some 145) rfl rfl (by kernel_rfl) (by kernel_rfl) (by kernel_rfl) (fun _ _ _ h => h) (yieldsIf_runG (by kernel_rfl) (fun W _ => by kernel_rfl)) S1 ?_
                refine held_take (i := 39) (v := .pointer (some ⟨bb, o + x, none⟩)) (some 146) rfl rfl (by kernel_rfl) (by kernel_rfl) (by kernel_rfl) (fun _ _ _ h => h) (yieldsIf_indexD (by kernel_rfl) rfl (by kernel_rfl) (by kernel_rfl) (hidxS bb o cd hltx)) S1 ?_
                refine held_take (i := 40) (v := .slice (some ⟨bi, oi, none⟩) q ci) (some 147) rfl rfl (by kernel_rfl) (by kernel_rfl) (by kernel_rfl) (fun _ _ _ h => h) (yieldsIf_cellG (by kernel_rfl) rfl (by kernel_rfl) (fun W h => hloadD W (HUI.out W h).1)) S1 ?_
                refine held_take (i := 41) (v := .int .i64 (y : Int)) (some 148) rfl rfl (by kernel_rfl) (by kernel_rfl) (by kernel_rfl) (fun _ _ _ h => h) (yieldsIf_runG (by kernel_rfl) (fun W _ => by kernel_rfl)) S1 ?_
                refine held_take (i := 42) (v := .pointer (some ⟨bi, oi + y, none⟩)) (some 149) rfl rfl (by kernel_rfl) (by kernel_rfl) (by kernel_rfl) (fun _ _ _ h => h) (yieldsIf_indexD (by kernel_rfl) rfl (by kernel_rfl) (by kernel_rfl) (hidxI bi oi ci hlty)) S1 ?_
                refine held_take (i := 43) (v := .int .i64 d) (some 150) rfl rfl (by kernel_rfl) (by kernel_rfl) (by kernel_rfl) (fun _ _ _ h => h) (yieldsIf_cellG (by kernel_rfl) rfl (by kernel_rfl) (fun W h => hloadIn W (HUI.out W h).2)) S1 ?_
                refine held_take (i := 44) (v := .agg #[.int .i64 p, .slice (some ⟨bb, o, none⟩) a cd, .slice aa a ca', .slice ae a ce']) (some 151) rfl rfl (by kernel_rfl) (by kernel_rfl) (by kernel_rfl) (fun _ _ _ h => h) (yieldsIf_cellG (by kernel_rfl) rfl (by kernel_rfl) (fun W h => hloadDb W (HNZ.out W h).1)) S1 ?_
                refine held_take (i := 45) (v := .int .i64 (x : Int)) (some 152) rfl rfl (by kernel_rfl) (by kernel_rfl) (by kernel_rfl) (fun _ _ _ h => h) (yieldsIf_runG (by kernel_rfl) (fun W _ => by kernel_rfl)) S1 ?_
                refine held_take (i := 46) (v := .int .i64 (y : Int)) (some 153) rfl rfl (by kernel_rfl) (by kernel_rfl) (by kernel_rfl) (fun _ _ _ h => h) (yieldsIf_runG (by kernel_rfl) (fun W _ => by kernel_rfl)) S1 ?_
                refine held_take (i := 47) (v := .int .i64 ((y : Int) - 1)) (some 154) rfl rfl (by kernel_rfl) (by kernel_rfl) (by kernel_rfl) (fun _ _ _ h => h) (yieldsIf_binG (by kernel_rfl) rfl (by kernel_rfl) (by kernel_rfl) (fun _ => by kernel_rfl) (hsubA wj)) S1 ?_
                refine held_enterG (i := 48) (some 155) (f := 37) (args := #[.agg #[.int .i64 p, .slice (some ⟨bb, o, none⟩) a cd, .slice aa a ca', .slice ae a ce'], .int .i64 (x : Int), .int .i64 ((y : Int) - 1)]) (by kernel_rfl) rfl (by kernel_rfl) rfl (by kernel_rfl) (HDB.out _ S1) ?_ (fun c w' h => by cases h.1) (fun w' h => by cases h.1)
                rintro e5 W5 ⟨he5, hb5⟩
                injection he5 with he5
                subst he5
                have S2 : Below wy.heap.size wy W5 := S1.trans (hb5.mono S1.size)
                refine ⟨S2, ?_⟩
                refine held_enterG (i := 49) (some 156) (f := 36) (args := #[.int .i64 p, .slice sa ns sc, .int .i64 d, .int .i64 db]) (by kernel_rfl) rfl (by kernel_rfl) rfl (by kernel_rfl) (HTD1.out _ S2) ?_ (fun c w' h => by obtain ⟨_, h, _⟩ := h; cases h) (fun w' h => by obtain ⟨_, h, _⟩ := h; cases h)
                rintro e6 W6 ⟨t2, he6, hw6, ht2⟩
                injection he6 with he6
                subst he6
                subst hw6
                refine ⟨S2, ?_⟩
                have HT2B := Lib.hid ht2
                clear ht2
                cases t2
                · refine held_take (i := 50) (v := .bool true) (some 157) rfl rfl (by kernel_rfl) (by kernel_rfl) (by kernel_rfl) (fun _ _ _ h => h) (yieldsIf_runG (by kernel_rfl) (fun W _ => by kernel_rfl)) S2 ?_
                  refine held_take (i := 51) (v := .bool true) (some 158) rfl rfl (by kernel_rfl) (by kernel_rfl) (by kernel_rfl) (fun _ _ _ h => h) (yieldsIf_run0 (by kernel_rfl) (fun W _ => by kernel_rfl)) S2 ?_
                  refine wpAnyH_done (by kernel_rfl) ?_ _
                  simp only [Act.put, List.setIfInBounds_toArray, List.set_cons_zero, List.set_cons_succ]
                  have HS1 := Lib.hid (HNZ.out _ S2).2
                  have HNO : Hid (¬ PP) := Lib.hid (fun h => by have h1 := HDT.out.1 ((HPI.out.1 h).tbs.tab _ HC.out); exact absurd (HT2B.out.2 h1.2) (by simp))
                  clear S0 S1 S2 hb3 hb5
                  go_wp2
                  go_ret
                  exact bb_false (HX1.out.below.trans (HS1.out.mono HX1.out.below.size)) HNO.out
                · refine held_take (i := 50) (v := .bool false) (some 157) rfl rfl (by kernel_rfl) (by kernel_rfl) (by kernel_rfl) (fun _ _ _ h => h) (yieldsIf_runG (by kernel_rfl) (fun W _ => by kernel_rfl)) S2 ?_
                  refine held_take (i := 51) (v := .bool false) (some 158) rfl rfl (by kernel_rfl) (by kernel_rfl) (by kernel_rfl) (fun _ _ _ h => h) (yieldsIf_run0 (by kernel_rfl) (fun W _ => by kernel_rfl)) S2 ?_
                  refine wpAnyH_done (by kernel_rfl) ?_ _
                  simp only [Act.put, List.setIfInBounds_toArray, List.set_cons_zero, List.set_cons_succ]
                  have HS1 := Lib.hid (HNZ.out _ S2).2
                  have HNEW : Hid (∀ y', y' < y + 1 → DTab p ds ac dn (x, y')) := Lib.hid (fun y' hy' => by
                    by_cases e : y' = y
                    · subst e; exact HDT.out.2 ⟨HT1B.out.1 (by simp), HT2B.out.1 (by simp)⟩
                    · exact HTY.out y' (by omega))
                  clear S0 S1 S2 hb3 hb5
                  go_wp2
                  go_roundw
                  case rel => exact ⟨y + 1, by omega, by go_num, HS1, HNEW⟩
                  case measure => simp [intOf]; omega
            · obtain rfl : y = q := by omega
              have HNEW : Hid (∀ c ∈ cellsTo ds ds.length, c.1 < x + 1 → DTab p ds ac dn c) := Lib.hid (fun c hc hca => by
                by_cases e : c.1 = x
                · obtain ⟨c1', c2'⟩ := c
                  dsimp only at e
                  subst e
                  refine HTY.out c2' ?_
                  have h1 := mem_cells.1 hc
                  dsimp only at h1
                  rw [(HLL.out c1' hltx).1] at h1
                  exact h1.2
                · exact HTX.out c hc (by omega))
              go_wp2
              go_roundw
              case rel => exact ⟨x + 1, by omega, by go_num, HBwy, HNEW⟩
              case measure => simp [intOf]; omega
        · obtain rfl : x = a := by omega
          have HTB : Hid (TbsOk p ds ac dn) := Lib.hid ⟨by rw [← HN1.out]; exact HM.out, by rw [← HN4.out]; exact HM.out, fun i hi => by rw [← HM.out] at hi; rw [(HLL.out i hi).2.1, (HLL.out i hi).1], fun i hi => by rw [← HM.out] at hi; rw [(HLL.out i hi).2.2, (HLL.out i hi).1], fun c hc => HTX.out c hc (by rw [HM.out]; exact (mem_cells.1 hc).1)⟩
          have hxn := HX1.out.next HBwx.out
          have HXN := Lib.hid hxn
          have c0 := hxn.c0
          have c1 := hxn.c1
          have c2 := hxn.c2
          have c3 := hxn.c3
          clear hxn
          go_wp2_with fail
          refine (l03Square_any p HP.out _ _ _ ds ac dn _ HXN.out.dx HCEL.out HTB.out).mono ?_
          rintro e w' ⟨bq, rfl, hbq, hq2⟩
          have HBQ := Lib.hid hbq
          have HQ2 := Lib.hid hq2
          clear hbq hq2 c0 c1 c2 c3
          go_wp2
          go_ret
          exact ⟨bq, rfl, HXN.out.below.trans (HBQ.out.mono HXN.out.below.size), HQ2.out.trans ((sq_iff HP.out HCEL.out HTB.out).trans ⟨fun h => HPI.out.2 ⟨HP.out, HCEL.out, HTB.out, h⟩, fun h => (HPI.out.1 h).cnd⟩)⟩

end Go.Proofs.YtlopenephgabhaaGreat


namespace Go.Proofs.YtlopenephgabhaaGreat
open Go.RowKit

/-- A row, and a table, of numbers that are told cell by cell. -/
def NmRow (P : Nat → Nat → Int → Prop) (i m : Nat) (row : List Int) : Prop := row.length = m ∧ ∀ q, q < m → P i q (row.getD q 0)
def NmTab (P : Nat → Nat → Int → Prop) (n h : Nat) (out : List (List Int)) : Prop := out.length = n ∧ ∀ i, i < n → NmRow P i h (out.getD i [])
theorem NmRow.nil (P : Nat → Nat → Int → Prop) (i : Nat) : NmRow P i 0 [] := ⟨rfl, fun _ h => absurd h (Nat.not_lt_zero _)⟩
theorem NmTab.nil (P : Nat → Nat → Int → Prop) (h : Nat) : NmTab P 0 h [] := ⟨rfl, fun _ h => absurd h (Nat.not_lt_zero _)⟩
theorem NmRow.snoc {P : Nat → Nat → Int → Prop} {i m : Nat} {row : List Int} {x : Int} (h : NmRow P i m row) (hx : P i m x) : NmRow P i (m + 1) (row ++ [x]) := by
  refine ⟨by simp [h.1], fun q hq => ?_⟩
  by_cases e : q = m
  · subst e
    have : (row ++ [x]).getD q 0 = x := by rw [List.getD_eq_getElem?_getD, List.getElem?_append_right (by have := h.1; omega), h.1]; simp
    rw [this]
    exact hx
  · have : (row ++ [x]).getD q 0 = row.getD q 0 := by rw [List.getD_eq_getElem?_getD, List.getElem?_append_left (by have := h.1; omega), ← List.getD_eq_getElem?_getD]
    rw [this]
    exact h.2 q (by omega)
theorem NmTab.snoc {P : Nat → Nat → Int → Prop} {n m : Nat} {out : List (List Int)} {row : List Int} (h : NmTab P n m out) (hx : NmRow P n m row) : NmTab P (n + 1) m (out ++ [row]) := by
  refine ⟨by simp [h.1], fun q hq => ?_⟩
  by_cases e : q = n
  · subst e
    have : (out ++ [row]).getD q [] = row := by rw [List.getD_eq_getElem?_getD, List.getElem?_append_right (by have := h.1; omega), h.1]; simp
    rw [this]
    exact hx
  · have : (out ++ [row]).getD q [] = out.getD q [] := by rw [List.getD_eq_getElem?_getD, List.getElem?_append_left (by have := h.1; omega), ← List.getD_eq_getElem?_getD]
    rw [this]
    exact h.2 q (by omega)
theorem NmTab.tc {p : Int} {ds : List (List Int)} {dn : List (List (List (List Int)))} {out : List (List Int)} (hok : DclOk ds) (h : NmTab (fun i j x => HNum p (clD ds i) (clM dn i) j x) ds.length (ds.getD 0 []).length out) : TcOk p ds dn out := by
  refine ⟨h.1, fun i hi => ?_⟩
  have hh : (ds.getD i []).length = (ds.getD 0 []).length := cl_height hok hi
  have h1 := h.2 i hi
  rw [hh]
  exact ⟨h1.1, h1.2⟩
theorem hsubLen {a b : Int} (h0 : -1000 ≤ a - b) (h1 : a - b ≤ 1000) (w : World) : (binOp .sub 3 (.int .i64 a) (.int .i64 b)).run Tryz.prog w = .ok (.int .i64 (a - b)) w := by
  have hw : IntKind.i64.wrap (a - b) = a - b := IntWalk.i64_in _ (by omega)
  go_simp

set_option maxHeartbeats 12800000 in
set_option maxRecDepth 100000 in
theorem l03Numbers_any (p : Int) (dv av vv : Value) (ds : List (List Int)) (ac dn : List (List (List (List Int)))) (w : World) (h : Dx 0 w dv av vv ds ac dn) (hdb : IsDb p ds ac dn) :
    Calls Tryz.prog 20 #[.agg #[.int .i64 p, dv, av, vv], .bool false] w fun e w' => ∃ u out, e = .returned u ∧ L2 0 w' u out ∧ Below w.heap.size w w' ∧ TcOk p ds dn out := by
  have HDB := Lib.hid hdb
  have hm4 := hdb.cel.len1
  have hm1 := hdb.cel.len0
  have hq1 := hdb.cel.h0
  have hq4 := hdb.cel.h1
  have HX := Lib.hid h
  rcases h.dims with ⟨hx, _⟩ | ⟨bb, o, cd, rfl, _, hpos, hcl⟩
  · subst hx; simp at hm1
  obtain ⟨u0, hu0, hr0⟩ := hcl 0 hpos
  rw [Nat.add_zero] at hu0
  obtain ⟨a0, z0, rfl⟩ := Sl.shape hr0
  rw [← getD_of_lt [] hpos] at hu0
  clear hcl hr0 h hdb
  obtain ⟨m, hm⟩ : ∃ m, m = ds.length := ⟨_, rfl⟩
  obtain ⟨hh, hhh⟩ : ∃ q, q = (ds.getD 0 []).length := ⟨_, rfl⟩
  have hx0 := DBx.start (p := p) 29 HX.out
  rw [← hm] at hm4 hm1 hpos hx0 ⊢
  rw [← hhh] at hq1 hq4 hu0
  have hB : Below w.heap.size w (w.alloc (.cells #[.int .i64 p, .slice (some ⟨bb, o, none⟩) m cd, av, vv] 29)) := (Below.refl _ _).alloc (Nat.le_refl _) _
  have hu1 := later hB (Nat.le_refl _) hu0
  clear hB hu0
  obtain ⟨w0, hw0⟩ : ∃ w1, w1 = w.alloc (.cells #[.int .i64 p, .slice (some ⟨bb, o, none⟩) m cd, av, vv] 29) := ⟨_, rfl⟩
  rw [← hw0] at hx0 hu1
  have HM := Lib.hid hm
  have HQ := Lib.hid hhh
  have HX1 := Lib.hid hx0
  have HU1 := Lib.hid hu1
  have HNX : Hid (∀ W, Below w0.heap.size w0 W → DBx w W w.heap.size p (.slice (some ⟨bb, o, none⟩) m cd) av vv ds ac dn ∧ W.cell? ⟨bb, o, none⟩ = some (.slice a0 hh z0)) := Lib.hid (fun W hb => ⟨HX1.out.next hb, later hb (Nat.le_refl _) HU1.out⟩)
  have HCY : Hid (∀ (i j : Nat) W, i < ds.length → j < (clD ds i).length → Below w0.heap.size w0 W → Calls Tryz.prog 40 #[.agg #[.int .i64 p, .slice (some ⟨bb, o, none⟩) m cd, av, vv], .int .i64 (i : Int), .int .i64 (j : Int)] W (KerR p (dimN (clD ds i) (j : Int)) (cycM (clD ds i) j) (cycT (clD ds i) (clM dn i) j) W)) := Lib.hid (fun i j W hi hj hb => l03Cycles_any p i j _ av vv ds ac dn W (HNX.out W hb).1.dx HDB.out hi hj)
  have HBO : Hid (∀ (i j : Nat) W, i < ds.length → j < (clD ds i).length → Below w0.heap.size w0 W → Calls Tryz.prog 41 #[.agg #[.int .i64 p, .slice (some ⟨bb, o, none⟩) m cd, av, vv], .int .i64 (i : Int), .int .i64 (j : Int)] W (EchR p (dimN (clD ds i) (j : Int)) ((tabN (clM dn i) j).map ofL) W)) := Lib.hid (fun i j W hi hj hb => l03Bounds_any p i j _ av vv ds ac dn W (HNX.out W hb).1.dx HDB.out hi hj)
  have HT0 := Lib.hid (Gs.new (base := w0.heap.size) w0 (Nat.le_refl _))
  clear hm hhh hx0 hu1
  go_enter Tryz.func20, Tryz.ntmps20
  go_upto_region 1 with fail
  rw [← hw0]
  clear hw0
  go_wp2
  go_loopw [5, 6, 7, 8] (fun ov i _ _ wr => ∃ (k : Nat) (tb : List (List Int)), k ≤ m ∧ i = .int .i64 k ∧ tb.length = k ∧ Hid (Below w0.heap.size w0 wr) ∧ Hid (Gs w0.heap.size wr ov tb) ∧ Hid (NmTab (fun i j x => HNum p (clD ds i) (clM dn i) j x) k hh tb)) (fun _ i _ _ _ => m - (intOf i).toNat)
  case atStart => exact ⟨0, [], Nat.zero_le _, rfl, rfl, Lib.hid (below_alloc1 _ _), HT0, Lib.hid (NmTab.nil _ _)⟩
  case round =>
    clear HT0
    obtain ⟨k, tb, hk, rfl, hgl, HB, HG, HP⟩ := hrel
    obtain ⟨wx, hwx⟩ : ∃ wx : World, wx = wr := ⟨_, rfl⟩
    subst hwx
    have hX := HNX.out _ HB.out
    have c0 := hX.1.c0
    have c1 := hX.1.c1
    have c2 := hX.1.c2
    have c3 := hX.1.c3
    have HXX := Lib.hid hX.1
    clear hX
    obtain ⟨ao, co, hov⟩ := Sl.shape HG.out.l2
    rw [hgl] at hov
    subst hov
    have HGN := Lib.hid hgl
    clear hgl
    have hsx : w0.heap.size ≤ wx.heap.size := HB.out.size
    by_cases hlt : k < m
    · have hkl : (k : Int) < (m : Int) := by omega
      have hkd : k < ds.length := by rw [← HM.out]; exact hlt
      have HS0 := Lib.hid (Gb.new (base := wx.heap.size) wx (Nat.le_refl _))
      go_wp2
      clear c0 c1 c2 c3
      go_loopw [7, 8] (fun ov i wr => ∃ (q : Nat) (row : List Int), q ≤ hh ∧ i = .int .i64 q ∧ row.length = q ∧ Hid (Below wx.heap.size wx wr) ∧ Hid (Gb wx.heap.size wr ov row) ∧ Hid (NmRow (fun i j x => HNum p (clD ds i) (clM dn i) j x) k q row)) (fun _ i _ => hh - (intOf i).toNat)
      case atStart => exact ⟨0, [], by omega, rfl, rfl, Lib.hid (below_alloc1 _ _), HS0, Lib.hid (NmRow.nil _ _)⟩
      case round =>
        clear HS0
        obtain ⟨q, row, hq, rfl, hrl, HBY, HS, HR⟩ := hrel
        obtain ⟨wy, hwy⟩ : ∃ wy : World, wy = wr := ⟨_, rfl⟩
        subst hwy
        have hsy : wx.heap.size ≤ wy.heap.size := HBY.out.size
        have HB1Y := Lib.hid (HB.out.trans (HBY.out.mono hsx))
        have hXY := HNX.out _ HB1Y.out
        have c0 := hXY.1.c0
        have c1 := hXY.1.c1
        have c2 := hXY.1.c2
        have c3 := hXY.1.c3
        have hu := hXY.2
        clear hXY
        obtain ⟨ar, cr, hrv⟩ := Sl.shape HS.out.l1
        rw [hrl] at hrv
        subst hrv
        have HSN := Lib.hid hrl
        clear hrl
        by_cases hlq : q < hh
        · have hlqi : (q : Int) < (hh : Int) := by omega
          have hqd : q < (clD ds k).length := by rw [cl_height HDB.out.cel hkd, ← HQ.out]; exact hlq
          go_upto_region 11 with fail
          clear c0 c1 c2 c3 hu
          refine wp_region_held (S := fun W => Below w0.heap.size w0 W) (by kernel_rfl) ?_
          have S0 : Below w0.heap.size w0 wy.drew := HB1Y.out.drew
          have HRB0 := Lib.hid (HS.out.below (Below.refl wy.heap.size wy).drew)
          change wpAnyH _ _ _ _ _ _ _ _ wy.drew
          obtain ⟨wd, hwd⟩ : ∃ wd, wd = wy.drew := ⟨_, rfl⟩
          rw [← hwd] at S0 HRB0 ⊢
          have hsd : wx.heap.size ≤ wd.heap.size := by rw [hwd]; exact hsy
          have HBXD : Hid (Below wx.heap.size wx wd) := Lib.hid (by rw [hwd]; exact HBY.out.drew)
          clear hwd
          refine held_take (i := 0) (v := (.slice ar q cr)) (some 35) rfl rfl (by kernel_rfl) (by kernel_rfl) (by kernel_rfl) (fun _ _ _ h => h) (yieldsIf_move (by kernel_rfl) rfl (by kernel_rfl)) S0 ?_
          refine held_take (i := 1) (v := (.agg #[.int .i64 p, .slice (some ⟨bb, o, none⟩) m cd, av, vv])) (some 36) rfl rfl (by kernel_rfl) (by kernel_rfl) (by kernel_rfl) (fun _ _ _ h => h) (yieldsIf_cell (by kernel_rfl) rfl (by kernel_rfl) (fun W h => hloadDb W (HNX.out W h).1)) S0 ?_
          refine held_take (i := 2) (v := (.int .i64 (k : Int))) (some 37) rfl rfl (by kernel_rfl) (by kernel_rfl) (by kernel_rfl) (fun _ _ _ h => h) (yieldsIf_move (by kernel_rfl) rfl (by kernel_rfl)) S0 ?_
          refine held_take (i := 3) (v := (.int .i64 (q : Int))) (some 38) rfl rfl (by kernel_rfl) (by kernel_rfl) (by kernel_rfl) (fun _ _ _ h => h) (yieldsIf_move (by kernel_rfl) rfl (by kernel_rfl)) S0 ?_
          refine held_take (i := 6) (v := (.agg #[.int .i64 p, .slice (some ⟨bb, o, none⟩) m cd, av, vv])) (some 41) rfl rfl (by kernel_rfl) (by kernel_rfl) (by kernel_rfl) (fun _ _ _ h => h) (yieldsIf_cell (by kernel_rfl) rfl (by kernel_rfl) (fun W h => hloadDb W (HNX.out W h).1)) S0 ?_
          refine held_take (i := 7) (v := (.int .i64 (k : Int))) (some 42) rfl rfl (by kernel_rfl) (by kernel_rfl) (by kernel_rfl) (fun _ _ _ h => h) (yieldsIf_move (by kernel_rfl) rfl (by kernel_rfl)) S0 ?_
          refine held_take (i := 8) (v := (.int .i64 (q : Int))) (some 43) rfl rfl (by kernel_rfl) (by kernel_rfl) (by kernel_rfl) (fun _ _ _ h => h) (yieldsIf_move (by kernel_rfl) rfl (by kernel_rfl)) S0 ?_
          refine held_enter (i := 4) (some 39) (f := 40) (args := #[.agg #[.int .i64 p, .slice (some ⟨bb, o, none⟩) m cd, av, vv], .int .i64 (k : Int), .int .i64 (q : Int)]) (by kernel_rfl) rfl rfl rfl (by kernel_rfl) (HCY.out k q _ hkd hqd S0) ?_ (fun c w' h => by obtain ⟨_, _, h, _⟩ := h; cases h) (fun w' h => by obtain ⟨_, _, h, _⟩ := h; cases h)
          rintro e3 W3 ⟨u3, R1, he3, hg3, hb3, hr3⟩
          injection he3 with he3
          subst he3
          have S1 : Below w0.heap.size w0 W3 := S0.trans (hb3.mono S0.size)
          have HRB1 := Lib.hid (HRB0.out.below hb3)
          have HBX1 : Hid (Below wx.heap.size wx W3) := Lib.hid (HBXD.out.trans (hb3.mono hsd))
          have HR1 := Lib.hid hr3
          have hl1 := hr3.short
          have hd8 := (dimN_le8 (cl_cx HDB.out hkd) q).1
          obtain ⟨a3, c3x, hv3⟩ := Sl.shape hg3.l2
          rw [List.length_map] at hv3
          subst hv3
          have hs3 := hb3.size
          clear hg3 hb3 hr3
          refine ⟨S1, ?_⟩
          refine held_take (i := 5) (v := (.int .i64 (R1.length : Int))) (some 40) rfl rfl (by kernel_rfl) (by kernel_rfl) (by kernel_rfl) (fun _ _ _ h => h) (yieldsIf_run (by kernel_rfl) (fun W _ => by kernel_rfl)) S1 ?_
          refine held_enter (i := 9) (some 44) (f := 41) (args := #[.agg #[.int .i64 p, .slice (some ⟨bb, o, none⟩) m cd, av, vv], .int .i64 (k : Int), .int .i64 (q : Int)]) (by kernel_rfl) rfl rfl rfl (by kernel_rfl) (HBO.out k q _ hkd hqd S1) ?_ (fun c w' h => by obtain ⟨_, _, h, _⟩ := h; cases h) (fun w' h => by obtain ⟨_, _, h, _⟩ := h; cases h)
          rintro e4 W4 ⟨u4, R2, he4, hg4, hb4, hr4, hl4⟩
          injection he4 with he4
          subst he4
          have S2 : Below w0.heap.size w0 W4 := S1.trans (hb4.mono S1.size)
          have HRB2 := Lib.hid (HRB1.out.below hb4)
          have HBX2 : Hid (Below wx.heap.size wx W4) := Lib.hid (HBX1.out.trans (hb4.mono (by omega)))
          have HR2 := Lib.hid hr4
          have hl2 := red_length hr4.red hr4.wd
          obtain ⟨a4, c4x, hv4⟩ := Sl.shape hg4.l2
          rw [List.length_map] at hv4
          subst hv4
          have hs4 := hb4.size
          clear hg4 hb4 hr4 hl4
          refine ⟨S2, ?_⟩
          refine held_take (i := 10) (v := (.int .i64 (R2.length : Int))) (some 45) rfl rfl (by kernel_rfl) (by kernel_rfl) (by kernel_rfl) (fun _ _ _ h => h) (yieldsIf_run (by kernel_rfl) (fun W _ => by kernel_rfl)) S2 ?_
          refine held_take (i := 11) (v := (.int .i64 ((R1.length : Int) - (R2.length : Int)))) (some 46) rfl rfl (by kernel_rfl) (by kernel_rfl) (by kernel_rfl) (fun _ _ _ h => h) (yieldsIf_bin (by kernel_rfl) rfl (by kernel_rfl) (by kernel_rfl) (fun _ => rfl) (hsubLen (by omega) (by omega))) S2 ?_
          have HX' : Hid (NmRow (fun i j x => HNum p (clD ds i) (clM dn i) j x) k (q + 1) (row ++ [(R1.length : Int) - (R2.length : Int)])) := Lib.hid (HR.out.snoc ⟨R1, R2, HR1.out, ⟨HR2.out.red, HR2.out.wd, HR2.out.eqv⟩, rfl⟩)
          obtain ⟨x, hx⟩ : ∃ x : Int, x = (R1.length : Int) - (R2.length : Int) := ⟨_, rfl⟩
          rw [← hx] at HX' ⊢
          clear hx HR1 HR2 hl1 hl2
          obtain ⟨W5, hW5⟩ : ∃ W', W' = W4.alloc (.cells #[.int .i64 x] 2) := ⟨_, rfl⟩
          have hb5 : Below W4.heap.size W4 W5 := by rw [hW5]; exact below_alloc1 _ _
          have hcell : W5.cell? ⟨W4.heap.size, 0, none⟩ = some (.int .i64 x) := by rw [hW5]; exact cell_alloc1 _ _ _
          have S3 : Below w0.heap.size w0 W5 := S2.trans (hb5.mono S2.size)
          have HRB3 := Lib.hid (HRB2.out.below hb5)
          have HBX3 : Hid (Below wx.heap.size wx W5) := Lib.hid (HBX2.out.trans (hb5.mono (by omega)))
          have hs5 := hb5.size
          refine held_buildI (i := 12) (some 47) (by kernel_rfl) rfl (by kernel_rfl) (by kernel_rfl) (.tmp 46) x (by kernel_rfl) (by kernel_rfl) ?_
          rw [← hW5]
          clear hW5
          refine ⟨S3, ?_⟩
          refine held_appendI (i := 13) (some 48) (by kernel_rfl) rfl (by kernel_rfl) (by kernel_rfl) (.tmp 35) (.tmp 47) (by kernel_rfl) wx.heap.size (.slice ar q cr) row.length (row.map (Value.int .i64)) (by kernel_rfl) HRB3.out W4.heap.size x (by kernel_rfl) hcell (by rw [HSN.out]; omega) (by omega) ?_
          intro v7 W7 hg7 hgr7
          have HS7 : Hid (Gb wx.heap.size W7 v7 (row ++ [x])) := Lib.hid (by unfold Gb; simpa using hg7)
          have HB7 : Hid (Below wx.heap.size wx W7) := Lib.hid (HBX3.out.grown hgr7 (by omega) (fun g hg => (HRB3.out.lt g hg).1))
          have S4 : Below w0.heap.size w0 W7 := HB.out.trans (HB7.out.mono hsx)
          have HL7 : (row ++ [x]).length = q + 1 := by rw [List.length_append, HSN.out]; rfl
          obtain ⟨a7, c7', hv7⟩ := Sl.shape HS7.out.l1
          rw [HL7] at hv7
          subst hv7
          clear hg7 hgr7 hcell hb5
          refine ⟨S4, ?_⟩
          refine held_take (i := 14) (v := (.slice a7 (q + 1) c7')) (some 7) rfl rfl (by kernel_rfl) (by kernel_rfl) (by kernel_rfl) (fun _ _ _ h => h) (yieldsIf_assign (by kernel_rfl) rfl (by kernel_rfl)) S4 ?_
          refine wpAnyH_done (by kernel_rfl) ?_ _
          simp only [Act.put, List.setIfInBounds_toArray, List.set_cons_zero, List.set_cons_succ]
          have HS4 := Lib.hid S4
          clear S0 S1 S2 S3 S4 HRB0 HRB1 HRB2 HRB3 HBX1 HBX2 HBX3 HBXD HR
          go_wp2
          go_roundw
          case rel => first | exact ⟨q + 1, row ++ [x], by omega, by go_num, HL7, HB7, HS7, HX'⟩ | ((repeat apply Exists.intro); exact ⟨⟨q + 1, row ++ [x], by omega, by go_num, HL7, HB7, HS7, HX'⟩, rfl⟩)
          case measure => simp [intOf]; omega
        · obtain rfl : q = hh := by omega
          have hba : Below wy.heap.size wy (wy.alloc (.cells #[.slice ar q cr] 47)) := below_alloc1 _ _
          have HGL := Lib.hid ((HG.out.below HBY.out).below hba)
          have HGU : Hid (G1 (wy.alloc (.cells #[.slice ar q cr] 47)) (.slice ar q cr) row) := Lib.hid (HS.out.g1.below hba)
          have HBZ := Lib.hid (HB1Y.out.trans (hba.mono HB1Y.out.size))
          have hcell := cell_alloc1 wy (.slice ar q cr) 47
          have HP' := Lib.hid (HP.out.snoc HR.out)
          clear hba HS HR c0 c2 c3
          go_wp2_with (at_builtin; refine wpList_appendG rfl (some 52) rfl (.tmp 49) (.tmp 51) rfl w0.heap.size _ tb rfl HGL.out wy.heap.size rfl ar q cr hcell row HGU.out ?c1 ?c2 ?_)
          case c1 => rw [HGN.out]; omega
          case c2 => first | (simp; omega) | omega
          intro v7 W7 hg7 hgr7
          have HG7 := Lib.hid hg7
          have HB7 : Hid (Below w0.heap.size w0 W7) := Lib.hid (HBZ.out.grown hgr7 (by simp; omega) (fun g hg => (HGL.out.lt g hg).1))
          have HL7 : (tb ++ [row]).length = k + 1 := by rw [List.length_append, HGN.out]; rfl
          clear hg7 hgr7 hcell
          go_wp2
          go_roundw
          case rel => first | exact ⟨k + 1, tb ++ [row], by omega, by go_num, HL7, HB7, HG7, HP'⟩ | ((repeat apply Exists.intro); exact ⟨⟨k + 1, tb ++ [row], by omega, by go_num, HL7, HB7, HG7, HP'⟩, rfl⟩)
          case measure => simp [intOf]; omega
    · obtain rfl : k = m := by omega
      go_wp2
      go_ret
      exact ⟨_, tb, rfl, HG.out.l2, HXX.out.below, NmTab.tc HDB.out.cel (by rw [← HM.out, ← HQ.out]; exact HP.out)⟩

end Go.Proofs.YtlopenephgabhaaGreat


namespace Go.Proofs.YtlopenephgabhaaGreat
open Go.RowKit

def TurP (s : List (List Int)) (j i : Nat) (x : Int) : Prop := x = (s.getD i []).getD j 0
theorem tur_eq {s out : List (List Int)} {c : Nat} (h : NmTab (TurP s) c s.length out) : out = flipT c s := by
  refine List.ext_getElem (by rw [h.1]; simp [flipT, tableOf]) (fun j h1 h2 => ?_)
  have hj : j < c := by rw [← h.1]; exact h1
  have hr := h.2 j hj
  rw [getD_of_lt _ h1] at hr
  simp only [flipT, tableOf, List.getElem_map, List.getElem_range]
  refine List.ext_getElem (by rw [hr.1]; simp) (fun i h3 h4 => ?_)
  have h5 := hr.2 i (by rw [← hr.1]; exact h3)
  rw [getD_of_lt _ h3] at h5
  simp only [List.getElem_map, List.getElem_range]
  exact h5
set_option maxHeartbeats 6400000 in
set_option maxRecDepth 100000 in
theorem l03Turned_any (sv : Value) (s : List (List Int)) (c : Nat) (w : World) (h : L2 0 w sv s) (hl0 : 0 < s.length) (hl : s.length ≤ 1000) (hc : c ≤ 1000) (hr : ∀ x ∈ s, x.length = c) :
    Calls Tryz.prog 19 #[sv] w fun e w' => ∃ u, e = .returned u ∧ L2 0 w' u (flipT c s) ∧ Below w.heap.size w w' := by
  have HL := Lib.hid h
  have HR := Lib.hid hr
  rcases h with ⟨hx, _⟩ | ⟨bb, o, cd, rfl, _, hpos, hcl⟩
  · subst hx; exact absurd hl0 (Nat.lt_irrefl _)
  have HCL := Lib.hid hcl
  obtain ⟨u0, hu0, hr0⟩ := hcl 0 hpos
  rw [Nat.add_zero] at hu0
  obtain ⟨a0, z0, rfl⟩ := Sl.shape hr0
  have hq0 : (s[0]).length = c := hr _ (List.getElem_mem hpos)
  rw [hq0] at hu0
  obtain ⟨m, hm⟩ : ∃ m, m = s.length := ⟨_, rfl⟩
  rw [← hm] at hl0 hl hpos ⊢
  have HM := Lib.hid hm
  have HU0 := Lib.hid hu0
  have HT0 := Lib.hid (Gs.new (base := w.heap.size) w (Nat.le_refl _))
  clear hcl hr0 hr hq0 hm hu0
  go_enter Tryz.func19, Tryz.ntmps19
  go_wp2
  go_loopw [3, 4, 5, 6] (fun ov i _ _ wr => ∃ (k : Nat) (tb : List (List Int)), k ≤ c ∧ i = .int .i64 k ∧ tb.length = k ∧ Hid (Below w.heap.size w wr) ∧ Hid (Gs w.heap.size wr ov tb) ∧ Hid (NmTab (TurP s) k m tb)) (fun _ i _ _ _ => c - (intOf i).toNat)
  case atStart => exact ⟨0, [], Nat.zero_le _, rfl, rfl, Lib.hid (below_alloc1 _ _), HT0, Lib.hid (NmTab.nil _ _)⟩
  case round =>
    clear HT0
    obtain ⟨k, tb, hk, rfl, hgl, HB, HG, HP⟩ := hrel
    obtain ⟨wx, hwx⟩ : ∃ wx : World, wx = wr := ⟨_, rfl⟩
    subst hwx
    have hu := later HB.out (Nat.le_refl _) HU0.out
    obtain ⟨ao, co, hov⟩ := Sl.shape HG.out.l2
    rw [hgl] at hov
    subst hov
    have HGN := Lib.hid hgl
    clear hgl
    have hsx : w.heap.size ≤ wx.heap.size := HB.out.size
    by_cases hlt : k < c
    · have hkl : (k : Int) < (c : Int) := by omega
      have HS0 := Lib.hid (Gb.new (base := wx.heap.size) wx (Nat.le_refl _))
      go_wp2
      clear hu
      go_loopw [5, 6] (fun ov i wr => ∃ (q : Nat) (row : List Int), q ≤ m ∧ i = .int .i64 q ∧ row.length = q ∧ Hid (Below wx.heap.size wx wr) ∧ Hid (Gb wx.heap.size wr ov row) ∧ Hid (NmRow (TurP s) k q row)) (fun _ i _ => m - (intOf i).toNat)
      case atStart => exact ⟨0, [], by omega, rfl, rfl, Lib.hid (below_alloc1 _ _), HS0, Lib.hid (NmRow.nil _ _)⟩
      case round =>
        clear HS0
        obtain ⟨q, row, hq, rfl, hrl, HBY, HS, HRW⟩ := hrel
        obtain ⟨wy, hwy⟩ : ∃ wy : World, wy = wr := ⟨_, rfl⟩
        subst hwy
        have hsy : wx.heap.size ≤ wy.heap.size := HBY.out.size
        have HB1Y := Lib.hid (HB.out.trans (HBY.out.mono hsx))
        obtain ⟨ar, cr, hrv⟩ := Sl.shape HS.out.l1
        rw [hrl] at hrv
        subst hrv
        have HSN := Lib.hid hrl
        clear hrl
        by_cases hlq : q < m
        · have hlqi : (q : Int) < (m : Int) := by omega
          have hqi0 : (0 : Int) ≤ (q : Int) := by omega
          have hki0 : (0 : Int) ≤ (k : Int) := by omega
          have hql : q < s.length := by rw [← HM.out]; exact hlq
          obtain ⟨ui, hui, hri⟩ := HCL.out q hql
          have hcl2 : (s[q]).length = c := HR.out _ (List.getElem_mem hql)
          have hkl2 : k < (s[q]).length := by omega
          rcases hri with ⟨hx, _⟩ | ⟨b2, o2, c2, rfl, _, _, hcl3⟩
          · rw [hx] at hkl2; exact absurd hkl2 (Nat.not_lt_zero _)
          obtain ⟨ux, hux, hrx⟩ := hcl3 k hkl2
          have ex : ux = .int .i64 ((s[q])[k]) := hrx
          subst ex
          obtain ⟨x, hx⟩ : ∃ x, x = (s[q])[k] := ⟨_, rfl⟩
          rw [← hx] at hux
          have HXV : Hid (TurP s k q x) := Lib.hid (by unfold TurP; rw [hx, getD_of_lt _ hql, getD_of_lt _ hkl2])
          rw [hcl2] at hui
          have hui2 := later HB1Y.out (Nat.le_refl _) hui
          have hux2 := later HB1Y.out (Nat.le_refl _) hux
          clear hcl3 hrx hx hui hux
          have hba : Below wy.heap.size wy (wy.alloc (.cells #[.int .i64 x] 2)) := below_alloc1 _ _
          have HSA := Lib.hid (HS.out.below hba)
          have hcell := cell_alloc1 wy (.int .i64 x) 2
          have HC1 : Hid (row.length ≤ 2097151) := Lib.hid (by rw [HSN.out]; omega)
          have HC2 : Hid (wx.heap.size ≤ (wy.alloc (.cells #[.int .i64 x] 2)).heap.size) := Lib.hid (by have := hba.size; omega)
          have HBA := Lib.hid (HBY.out.trans (hba.mono hsy))
          clear hba
          go_wp2_with (at_builtin; refine wpList_appendB1l rfl (some 32) rfl (.tmp 23) (.tmp 31) rfl wx.heap.size _ row rfl HSA.out wy.heap.size rfl x hcell HC1.out HC2.out ?_)
          intro g9 c9 w9 hn9 hgw _
          have HS7 := Lib.hid hn9
          have HB7 : Hid (Below wx.heap.size wx w9) := Lib.hid (HBA.out.grown hgw HC2.out (fun g hg => (HSA.out.lt g hg).1))
          have HL7 : (row ++ [x]).length = q + 1 := by rw [List.length_append, HSN.out]; rfl
          have HX' := Lib.hid (HRW.out.snoc HXV.out)
          clear hn9 hgw hcell hui2 hux2
          go_wp2
          go_roundw
          case rel => first | exact ⟨q + 1, row ++ [x], by omega, by go_num, HL7, HB7, HS7, HX'⟩ | ((repeat apply Exists.intro); exact ⟨⟨q + 1, row ++ [x], by omega, by go_num, HL7, HB7, HS7, HX'⟩, rfl⟩)
          case measure => simp [intOf]; omega
        · obtain rfl : q = m := by omega
          have hba : Below wy.heap.size wy (wy.alloc (.cells #[.slice ar q cr] 47)) := below_alloc1 _ _
          have HGL := Lib.hid ((HG.out.below HBY.out).below hba)
          have HGU : Hid (G1 (wy.alloc (.cells #[.slice ar q cr] 47)) (.slice ar q cr) row) := Lib.hid (HS.out.g1.below hba)
          have HBZ := Lib.hid (HB1Y.out.trans (hba.mono HB1Y.out.size))
          have hcell := cell_alloc1 wy (.slice ar q cr) 47
          have HP' := Lib.hid (HP.out.snoc HRW.out)
          clear hba HS HRW
          go_wp2_with (at_builtin; refine wpList_appendG rfl (some 36) rfl (.tmp 33) (.tmp 35) rfl w.heap.size _ tb rfl HGL.out wy.heap.size rfl ar q cr hcell row HGU.out ?c1 ?c2 ?_)
          case c1 => rw [HGN.out]; omega
          case c2 => first | (simp; omega) | omega
          intro v7 W7 hg7 hgr7
          have HG7 := Lib.hid hg7
          have HB7 : Hid (Below w.heap.size w W7) := Lib.hid (HBZ.out.grown hgr7 (by simp; omega) (fun g hg => (HGL.out.lt g hg).1))
          have HL7 : (tb ++ [row]).length = k + 1 := by rw [List.length_append, HGN.out]; rfl
          clear hg7 hgr7 hcell
          go_wp2
          go_roundw
          case rel => first | exact ⟨k + 1, tb ++ [row], by omega, by go_num, HL7, HB7, HG7, HP'⟩ | ((repeat apply Exists.intro); exact ⟨⟨k + 1, tb ++ [row], by omega, by go_num, HL7, HB7, HG7, HP'⟩, rfl⟩)
          case measure => simp [intOf]; omega
    · obtain rfl : k = c := by omega
      have etb : tb = flipT k s := tur_eq (by rw [← HM.out]; exact HP.out)
      have HLF : Hid (L2 0 wx (.slice ao k co) (flipT k s)) := Lib.hid (by have h0 := HG.out.l2; rwa [etb] at h0)
      clear etb
      go_wp2
      go_ret
      exact ⟨_, rfl, HLF.out, HB.out⟩
end Go.Proofs.YtlopenephgabhaaGreat


namespace Go.Proofs.YtlopenephgabhaaGreat
open Go.RowKit

/-- A step that turns at most one block, of the tag k (or no block of cells); what was there keeps its tag. -/
structure Stp1 (L L' : Nat → Nat) (k : Nat) (W W' : World) : Prop where
  ex : ∃ row, W.grownBy W' row ∧ ∀ r, row = some r → r < W.heap.size → L r = k ∨ ∃ o : Obj, W.heap[r]? = some o ∧ o.isCells = false
  old : ∀ b, b < W.heap.size → L' b = L b
section
variable {L L' : Nat → Nat} {k j s base : Nat} {W W' : World} {u y : Value}
theorem Stp1.own (st : Stp1 L L' k W W') {e : TypeId} {n : Nat} {xs : List Value} (h : W.ownsRow base e 1 u n xs) (hj : ∀ g, u.ownBlock = some g → L g ≠ k) : W'.ownsRow base e 1 u n xs := by
  obtain ⟨⟨row, hg, hr⟩, _⟩ := st
  refine h.kept hg ?_
  cases hv : u.ownBlock with
  | none => exact .inl rfl
  | some g =>
    refine .inr (fun e => ?_)
    rcases hr g e.symm (h.lt g hv).2 with h1 | ⟨o, ho, hc⟩
    · exact hj g hv h1
    · rcases h.2 with ⟨h0, _⟩ | ⟨g', c', cur, hu, _, hh, _⟩
      · rw [h0] at hv; simp [Value.ownBlock] at hv
      · rw [hu] at hv
        simp [Value.ownBlock] at hv
        subst hv
        rw [hh] at ho
        cases ho
        cases hc
theorem Stp1.of_below (hb : Below W.heap.size W W') (ho : ∀ b, b < W.heap.size → L' b = L b) (k : Nat) : Stp1 L L' k W W' := ⟨⟨none, ⟨hb.os, hb.tape, hb.output, hb.size, fun i hi _ => hb.block i hi⟩, fun r e => by cases e⟩, ho⟩
theorem grown_setCell (W : World) (D i : Nat) (r : Value) : W.grownBy (W.setCell ⟨D, i, none⟩ r) (some D) := ⟨by first | rfl | simp, by first | rfl | simp, by first | rfl | simp, by first | simp | exact Nat.le_refl _, fun q _ hne => Below.heap_setCell W ⟨D, i, none⟩ r q (fun e => hne (by rw [e]))⟩
theorem Stp1.of_set {D : Nat} (hL : L D = k) (W : World) (i : Nat) (r : Value) : Stp1 L L k W (W.setCell ⟨D, i, none⟩ r) := ⟨⟨some D, grown_setCell W D i r, fun q e _ => by cases e; exact .inl hL⟩, fun _ _ => rfl⟩
/-- A list in a block of a tag. -/
def TR (L : Nat → Nat) (k base : Nat) (e : TypeId) (W : World) (u : Value) (n : Nat) (xs : List Value) : Prop := W.ownsRow base e 1 u n xs ∧ ∀ g, u.ownBlock = some g → L g = k
theorem TR.kept {e : TypeId} {n : Nat} {xs : List Value} (h : TR L j base e W u n xs) (st : Stp1 L L' k W W') (hjk : j ≠ k) : TR L' j base e W' u n xs :=
  ⟨st.own h.1 (fun g hg => by rw [h.2 g hg]; exact hjk), fun g hg => by rw [st.old g (h.1.lt g hg).2]; exact h.2 g hg⟩
theorem TR.set {e : TypeId} {D n cap : Nat} {xs : List Value} (h : TR L k base e W (.slice (some ⟨D, 0, none⟩) n cap) n xs) {i : Nat} (_ : i < n) (r : Value) : TR L k base e (W.setCell ⟨D, i, none⟩ r) (.slice (some ⟨D, 0, none⟩) n cap) n (xs.set i r) := by
  refine ⟨⟨by simpa using h.1.1, ?_⟩, h.2⟩
  rcases h.1.2 with ⟨h0, _⟩ | ⟨g', c', cur, hv, hlo, hh, hnc, hcm, hcs, htk⟩
  · cases h0
  injection hv with e1 e2 e3
  injection e1 with e1
  injection e1 with e1
  subst e1 e3
  refine Or.inr ⟨D, cap, cur.setIfInBounds i r, rfl, hlo, block_setCell' hh _, hnc, hcm, by simpa using hcs, ?_⟩
  simp only [Nat.mul_one] at htk ⊢
  rw [Array.toList_setIfInBounds, List.take_set, htk]
theorem TR.at' {e : TypeId} {D n cap : Nat} {xs : List Value} (h : TR L k base e W (.slice (some ⟨D, 0, none⟩) n cap) n xs) {i : Nat} (hi : i < xs.length) : W.cell? ⟨D, i, none⟩ = some xs[i] ∧ W.frozen? ⟨D, i, none⟩ = false ∧ L D = k ∧ base ≤ D ∧ ∃ cs, W.heap[D]? = some (.cells cs e (0, 0)) := by
  have hl := h.1.1
  have hk := h.2 D rfl
  rcases h.1.2 with ⟨h0, _⟩ | ⟨g', c', cur, hv, hlo, hh, hnc, hcm, hcs, htk⟩
  · cases h0
  injection hv with e1 e2 e3
  injection e1 with e1
  injection e1 with e1
  subst e1
  have h5 : (cur.toList.take (n * 1))[i]? = xs[i]? := by rw [htk]
  rw [List.getElem?_take, if_pos (by omega), List.getElem?_eq_getElem hi] at h5
  exact ⟨by simp [World.cell?, hh]; simpa using h5, by simp [World.frozen?, hh], hk, hlo, _, hh⟩
/-- A list of numbers in a block of a tag. -/
def TI (L : Nat → Nat) (k base : Nat) (W : World) (u : Value) (xs : List Int) : Prop := Gb base W u xs ∧ ∀ g, u.ownBlock = some g → L g = k
theorem TI.kept {xs : List Int} (h : TI L j base W u xs) (st : Stp1 L L' k W W') (hjk : j ≠ k) : TI L' j base W' u xs :=
  ⟨st.own h.1 (fun g hg => by rw [h.2 g hg]; exact hjk), fun g hg => by rw [st.old g (h.1.lt g hg).2]; exact h.2 g hg⟩
/-- A table, its rows apart, in blocks of a tag. -/
def TTab (L : Nat → Nat) (s base : Nat) (W : World) (u : Value) (t : List (List Int)) : Prop := ∃ vs, Gqv base W u vs t ∧ (∀ g, u.ownBlock = some g → L g = s) ∧ ∀ k (h : k < vs.length) g, vs[k].ownBlock = some g → L g = s
theorem TTab.kept {t : List (List Int)} (h : TTab L s base W u t) (st : Stp1 L L' k W W') (hsk : s ≠ k) : TTab L' s base W' u t := by
  obtain ⟨vs, hq, h1, h2⟩ := h
  exact ⟨vs, ⟨st.own hq.own (fun g hg => by rw [h1 g hg]; exact hsk), fun i a b => st.own (hq.rows i a b) (fun g hg => by rw [h2 i a g hg]; exact hsk), hq.ap⟩, fun g hg => by rw [st.old g (hq.own.lt g hg).2]; exact h1 g hg, fun i a g hg => by rw [st.old g ((hq.rows i a (by have := hq.len; omega)).lt g hg).2]; exact h2 i a g hg⟩
theorem TTab.l2 {t : List (List Int)} (h : TTab L s base W u t) : L2 0 W u t := by
  obtain ⟨vs, hq, _⟩ := h
  exact hq.gs.l2
/-- A list of tables. -/
def TTabs (L : Nat → Nat) (k : Nat) (τ : Nat → Nat) (base : Nat) (W : World) (u : Value) (ts : List (List (List Int))) : Prop := ∃ vs, TR L k base 22 W u ts.length vs ∧ ∀ i (h1 : i < vs.length) (h2 : i < ts.length), TTab L (τ i) base W vs[i] ts[i]
theorem TTabs.kept {τ : Nat → Nat} {ts : List (List (List Int))} (h : TTabs L k τ base W u ts) (st : Stp1 L L' j W W') (hk : k ≠ j) (hτ : ∀ i, i < ts.length → τ i ≠ j) : TTabs L' k τ base W' u ts := by
  obtain ⟨vs, ho, hr⟩ := h
  exact ⟨vs, ho.kept st hk, fun i h1 h2 => (hr i h1 h2).kept st (hτ i h2)⟩
theorem TTabs.nil (L : Nat → Nat) (k : Nat) (τ : Nat → Nat) (base : Nat) (W : World) : TTabs L k τ base W (.slice none 0 0) [] := ⟨[], ⟨⟨rfl, .inl ⟨rfl, rfl⟩⟩, fun g hg => by simp [Value.ownBlock] at hg⟩, fun i h1 => absurd h1 (Nat.not_lt_zero _)⟩
theorem TI.nil (L : Nat → Nat) (k base : Nat) (W : World) : TI L k base W (.slice none 0 0) [] := ⟨⟨rfl, Or.inl ⟨rfl, rfl⟩⟩, fun g hg => by simp [Value.ownBlock] at hg⟩
theorem TTabs.l3 {τ : Nat → Nat} {ts : List (List (List Int))} (h : TTabs L k τ base W u ts) : L3 0 W u ts := by
  obtain ⟨vs, ho, hr⟩ := h
  exact sl_of_owns ho.1 (Nat.zero_le _) rfl (fun i h1 h2 => (hr i h2 h1).l2)
theorem TTabs.cap {τ : Nat → Nat} {ts : List (List (List Int))} (h : TTabs L k τ base W u ts) : ∃ a n c, u = .slice a n c ∧ n ≤ c := by
  obtain ⟨vs, ho, _⟩ := h
  rcases ho.1.2 with ⟨h0, _⟩ | ⟨g', c', cur, hv, hlo, hh, hnc, _⟩
  · exact ⟨_, _, _, h0, Nat.le_refl _⟩
  · exact ⟨_, _, _, hv, hnc⟩
end
/-- append of one number. -/
theorem TI.append {L : Nat → Nat} {k base : Nat} {W : World} {u : Value} {xs : List Int} (h : TI L k base W u xs) (g : Nat) (x : Int) (hc : W.cell? ⟨g, 0, none⟩ = some (.int .i64 x)) (hl : xs.length ≤ 1000) (hb : base ≤ W.heap.size) :
    ∃ g' cap W', (Builtin.append_ #[47, 47] 47 #[u, .slice (some ⟨g, 0, none⟩) 1 1]).run Tryz.prog W = .ok (.slice (some ⟨g', 0, none⟩) (xs.length + 1) cap) W' ∧ W.grownBy W' u.ownBlock ∧ g' < W'.heap.size ∧
      ∀ L' : Nat → Nat, (∀ b, b < W.heap.size → L' b = L b) → (∀ b, W.heap.size ≤ b → L' b = k) → TI L' k base W' (.slice (some ⟨g', 0, none⟩) (xs.length + 1) cap) (xs ++ [x]) := by
  obtain ⟨i, hi, hz, hs, hbt⟩ := info_parts Tryz.infoI
  obtain ⟨g', cap, W', hr, h2, h3, h4, h5⟩ := run_append_lies (P := Tryz.prog) (w := W) 47 47 base 2 i _ 1 8 Tryz.underlying47 hi hz hs hbt (by rfl) (by decide) u xs.length (xs.map (Value.int .i64)) h.1 ⟨g, 0, none⟩ 1 1 [.int .i64 x] rfl
    (fun q v hq => by
      match q, hq with
      | 0, hq =>
        simp at hq
        subst hq
        exact hc) (fun v hv => by
      simp at hv
      subst hv
      rfl) (by omega) (by unfold maxLen; omega) (by omega) hb W.heap.size rfl
  refine ⟨g', cap, W', hr, h3, h5, fun L' hL hN => ⟨by unfold Gb; simpa using h2, fun q hq => ?_⟩⟩
  have e : g' = q := by simpa [Value.ownBlock] using hq
  subst e
  rcases h4 with h4 | h4
  · rw [hL _ (h.1.lt _ h4).2]
    exact h.2 _ h4
  · exact hN _ (by omega)
/-- append of one table. -/
theorem TTabs.append {L : Nat → Nat} {k base : Nat} {τ : Nat → Nat} {W : World} {u y : Value} {ts : List (List (List Int))} {t : List (List Int)} (h : TTabs L k τ base W u ts) (hτ : ∀ i, i ≤ ts.length → τ i ≠ k) (hx : TTab L (τ ts.length) base W y t) (g : Nat) (hc : W.cell? ⟨g, 0, none⟩ = some y) (hl : ts.length ≤ 1000) (hb : base ≤ W.heap.size) :
    ∃ g' cap W', (Builtin.append_ #[51, 51] 51 #[u, .slice (some ⟨g, 0, none⟩) 1 1]).run Tryz.prog W = .ok (.slice (some ⟨g', 0, none⟩) (ts.length + 1) cap) W' ∧ W.grownBy W' u.ownBlock ∧ g' < W'.heap.size ∧
      ∀ L' : Nat → Nat, (∀ b, b < W.heap.size → L' b = L b) → (∀ b, W.heap.size ≤ b → L' b = k) → TTabs L' k τ base W' (.slice (some ⟨g', 0, none⟩) (ts.length + 1) cap) (ts ++ [t]) := by
  obtain ⟨i, hi, hz, hs, hbt⟩ := info_parts Tryz.infoSS
  obtain ⟨vs, ho, hr⟩ := h
  have hyo : y.oneCell' = true := by
    obtain ⟨a, c, rfl⟩ := Sl.shape hx.l2
    rfl
  obtain ⟨g', cap, W', hrun, h2, h3, h4, h5⟩ := run_append_lies (P := Tryz.prog) (w := W) 51 51 base 22 i _ 1 24 Tryz.underlying51 hi hz hs hbt (by rfl) (by decide) u ts.length vs ho.1 ⟨g, 0, none⟩ 1 1 [y] rfl
    (fun q v hq => by
      match q, hq with
      | 0, hq =>
        simp at hq
        subst hq
        exact hc) (fun v hv => by
      simp at hv
      subst hv
      exact hyo) (by omega) (by unfold maxLen; omega) (by omega) hb W.heap.size rfl
  refine ⟨g', cap, W', hrun, h3, h5, fun L' hL hN => ?_⟩
  have st : Stp1 L L' k W W' := ⟨⟨_, h3, fun r e _ => .inl (ho.2 r e)⟩, hL⟩
  have hvl : vs.length = ts.length := by have := ho.1.1; omega
  refine ⟨vs ++ [y], ⟨by simpa using h2, fun q hq => ?_⟩, fun q a b => ?_⟩
  · have e : g' = q := by simpa [Value.ownBlock] using hq
    subst e
    rcases h4 with h4 | h4
    · rw [hL _ (ho.1.lt _ h4).2]
      exact ho.2 _ h4
    · exact hN _ (by omega)
  · by_cases e : q < vs.length
    · rw [List.getElem_append_left e, List.getElem_append_left (by omega)]
      exact (hr q e (by omega)).kept st (hτ q (by omega))
    · have e2 : q = vs.length := by simp at a; omega
      subst e2
      rw [List.getElem_append_right (Nat.le_refl _), List.getElem_append_right (by omega)]
      simp only [Nat.sub_self, hvl, List.getElem_cons_zero]
      exact hx.kept st (hτ _ (Nat.le_refl _))
/-- A made table. -/
theorem TTab.of_mat {L : Nat → Nat} {s base r c : Nat} {W W' : World} {Z : Nat → Nat → Int} (h : Mat W W' r c Z) (hb : base ≤ W.heap.size) (hr : r ≤ 1048576) (hc : c ≤ 1048576) (hL : ∀ b, W.heap.size ≤ b → L b = s) : TTab L s base W' (.slice (some ⟨W.heap.size, 0, none⟩) r r) (tableOf r c Z) := by
  have hrow : ∀ {g n : Nat} {t : TypeId} {f : Nat → Value} {xs : List Value}, W'.rowIs g t n f → base ≤ g → n ≤ 1048576 → xs.length = n → (∀ i (h : i < xs.length), f i = xs[i]) → W'.ownsRow base t 1 (.slice (some ⟨g, 0, none⟩) n n) n xs := fun {g n t f xs} hw hg hn hx hf => by
    obtain ⟨cs, hh, hsz, hget⟩ := hw
    refine ⟨by omega, Or.inr ⟨g, n, cs, rfl, hg, hh, Nat.le_refl _, by unfold maxLen; omega, by omega, ?_⟩⟩
    refine List.ext_getElem? (fun q => ?_)
    by_cases hq : q < n
    · rw [List.getElem?_take, if_pos (by omega), Array.getElem?_toList, hget q hq, List.getElem?_eq_getElem (by omega), hf q (by omega)]
    · rw [List.getElem?_eq_none (by simp; omega), List.getElem?_eq_none (by omega)]
  refine ⟨(List.range r).map (fun j => .slice (some ⟨W.heap.size + 1 + j, 0, none⟩) c c), ⟨?_, fun q h1 h2 => ?_, fun i j hi hj hij g hg => ?_⟩, fun g hg => ?_, fun q hq g hg => ?_⟩
  · have e : (tableOf r c Z).length = r := by simp [tableOf]
    rw [e]
    exact hrow h.top hb hr (by simp) (fun i hi => by simp)
  · have hq : q < r := by simpa using h1
    simp only [List.getElem_map, List.getElem_range, tableOf]
    unfold Gb
    have e : ((List.range c).map fun i => Z q i).length = c := by simp
    rw [e]
    exact hrow (h.rows q hq) (by omega) hc (by simp) (fun i hi => by simp)
  · simp only [List.getElem_map, List.getElem_range, Value.ownBlock] at hg ⊢
    injection hg with hg
    intro e
    injection e with e
    omega
  · have e : W.heap.size = g := by simpa [Value.ownBlock] using hg
    exact hL g (by omega)
  · simp only [List.getElem_map, List.getElem_range, Value.ownBlock] at hg
    injection hg with hg
    exact hL g (by omega)
end Go.Proofs.YtlopenephgabhaaGreat


namespace Go.Proofs.YtlopenephgabhaaGreat
open Go.RowKit

structure Fl (L : Nat → Nat) (base : Nat) (W : World) (D A V n : Nat) (dvs avs vvs : List Value) (d2 : List (List Int)) (a2 v2 : List (List (List (List Int)))) : Prop where
  d0 : TR L 1 base 47 W (.slice (some ⟨D, 0, none⟩) n n) n dvs
  a0 : TR L 2 base 51 W (.slice (some ⟨A, 0, none⟩) n n) n avs
  v0 : TR L 3 base 51 W (.slice (some ⟨V, 0, none⟩) n n) n vvs
  ld : d2.length = n
  la : a2.length = n
  lv : v2.length = n
  dr : ∀ i (h1 : i < dvs.length) (h2 : i < d2.length), TI L (4 + 3 * i) base W dvs[i] d2[i]
  ar : ∀ i (h1 : i < avs.length) (h2 : i < a2.length), TTabs L (5 + 3 * i) (fun x => 100 + 200 * i + x) base W avs[i] a2[i]
  vr : ∀ i (h1 : i < vvs.length) (h2 : i < v2.length), TTabs L (6 + 3 * i) (fun x => 200 + 200 * i + x) base W vvs[i] v2[i]
  lo : ∀ b, b < base → L b = 0
section
variable {L L' : Nat → Nat} {base : Nat} {W W' : World} {D A V n : Nat} {dvs avs vvs : List Value} {d2 : List (List Int)} {a2 v2 : List (List (List (List Int)))}
theorem Fl.lens (h : Fl L base W D A V n dvs avs vvs d2 a2 v2) : dvs.length = n ∧ avs.length = n ∧ vvs.length = n := ⟨by have := h.d0.1.1; omega, by have := h.a0.1.1; omega, by have := h.v0.1.1; omega⟩
theorem Fl.base_le (h : Fl L base W D A V n dvs avs vvs d2 a2 v2) : base ≤ W.heap.size := by have := h.d0.1.lt D rfl; omega
/-- A step beside it. -/
theorem Fl.kept (h : Fl L base W D A V n dvs avs vvs d2 a2 v2) (st : Stp1 L L' 0 W W') : Fl L' base W' D A V n dvs avs vvs d2 a2 v2 :=
  ⟨h.d0.kept st (by omega), h.a0.kept st (by omega), h.v0.kept st (by omega), h.ld, h.la, h.lv, fun i h1 h2 => (h.dr i h1 h2).kept st (by omega),
    fun i h1 h2 => (h.ar i h1 h2).kept st (by omega) (fun x _ => by show 100 + 200 * i + x ≠ 0; omega), fun i h1 h2 => (h.vr i h1 h2).kept st (by omega) (fun x _ => by show 200 + 200 * i + x ≠ 0; omega), fun b hb => by rw [st.old b (by have := h.base_le; omega)]; exact h.lo b hb⟩
theorem Fl.growD (h : Fl L base W D A V n dvs avs vvs d2 a2 v2) {i : Nat} (hi : i < n) (hn : n ≤ 20) {r : Value} {y : List Int} (st : Stp1 L L' (4 + 3 * i) W W') (hr : TI L' (4 + 3 * i) base W' r y) :
    Fl L' base (W'.setCell ⟨D, i, none⟩ r) D A V n (dvs.set i r) avs vvs (d2.set i y) a2 v2 := by
  have hD := h.d0.kept st (by omega)
  have s2 : Stp1 L' L' 1 W' (W'.setCell ⟨D, i, none⟩ r) := Stp1.of_set (hD.2 D rfl) W' i r
  refine ⟨hD.set hi r, (h.a0.kept st (by omega)).kept s2 (by omega), (h.v0.kept st (by omega)).kept s2 (by omega), by simp [h.ld], h.la, h.lv, fun q h1 h2 => ?_, fun q h1 h2 => ?_, fun q h1 h2 => ?_, fun b hb => by rw [st.old b (by have := h.base_le; omega)]; exact h.lo b hb⟩
  · rw [List.getElem_set, List.getElem_set]
    by_cases e : i = q
    · subst e
      rw [if_pos rfl, if_pos rfl]
      exact hr.kept s2 (by omega)
    · rw [if_neg e, if_neg e]
      exact ((h.dr q (by simpa using h1) (by simpa using h2)).kept st (by omega)).kept s2 (by omega)
  · exact ((h.ar q h1 h2).kept st (by omega) (fun x _ => by show 100 + 200 * q + x ≠ 4 + 3 * i; omega)).kept s2 (by omega) (fun x _ => by show 100 + 200 * q + x ≠ 1; omega)
  · exact ((h.vr q h1 h2).kept st (by omega) (fun x _ => by show 200 + 200 * q + x ≠ 4 + 3 * i; omega)).kept s2 (by omega) (fun x _ => by show 200 + 200 * q + x ≠ 1; omega)
theorem Fl.growA (h : Fl L base W D A V n dvs avs vvs d2 a2 v2) {i : Nat} (hi : i < n) (hn : n ≤ 20) {r : Value} {y : List (List (List Int))} (st : Stp1 L L' (5 + 3 * i) W W') (hr : TTabs L' (5 + 3 * i) (fun x => 100 + 200 * i + x) base W' r y) :
    Fl L' base (W'.setCell ⟨A, i, none⟩ r) D A V n dvs (avs.set i r) vvs d2 (a2.set i y) v2 := by
  have hA := h.a0.kept st (by omega)
  have s2 : Stp1 L' L' 2 W' (W'.setCell ⟨A, i, none⟩ r) := Stp1.of_set (hA.2 A rfl) W' i r
  refine ⟨(h.d0.kept st (by omega)).kept s2 (by omega), hA.set hi r, (h.v0.kept st (by omega)).kept s2 (by omega), h.ld, by simp [h.la], h.lv, fun q h1 h2 => ?_, fun q h1 h2 => ?_, fun q h1 h2 => ?_, fun b hb => by rw [st.old b (by have := h.base_le; omega)]; exact h.lo b hb⟩
  · exact ((h.dr q h1 h2).kept st (by omega)).kept s2 (by omega)
  · rw [List.getElem_set, List.getElem_set]
    by_cases e : i = q
    · subst e
      rw [if_pos rfl, if_pos rfl]
      exact hr.kept s2 (by omega) (fun x _ => by show 100 + 200 * i + x ≠ 2; omega)
    · rw [if_neg e, if_neg e]
      exact ((h.ar q (by simpa using h1) (by simpa using h2)).kept st (by omega) (fun x _ => by show 100 + 200 * q + x ≠ 5 + 3 * i; omega)).kept s2 (by omega) (fun x _ => by show 100 + 200 * q + x ≠ 2; omega)
  · exact ((h.vr q h1 h2).kept st (by omega) (fun x _ => by show 200 + 200 * q + x ≠ 5 + 3 * i; omega)).kept s2 (by omega) (fun x _ => by show 200 + 200 * q + x ≠ 2; omega)
theorem Fl.growV (h : Fl L base W D A V n dvs avs vvs d2 a2 v2) {i : Nat} (hi : i < n) (hn : n ≤ 20) {r : Value} {y : List (List (List Int))} (st : Stp1 L L' (6 + 3 * i) W W') (hr : TTabs L' (6 + 3 * i) (fun x => 200 + 200 * i + x) base W' r y) :
    Fl L' base (W'.setCell ⟨V, i, none⟩ r) D A V n dvs avs (vvs.set i r) d2 a2 (v2.set i y) := by
  have hV := h.v0.kept st (by omega)
  have s2 : Stp1 L' L' 3 W' (W'.setCell ⟨V, i, none⟩ r) := Stp1.of_set (hV.2 V rfl) W' i r
  refine ⟨(h.d0.kept st (by omega)).kept s2 (by omega), (h.a0.kept st (by omega)).kept s2 (by omega), hV.set hi r, h.ld, h.la, by simp [h.lv], fun q h1 h2 => ?_, fun q h1 h2 => ?_, fun q h1 h2 => ?_, fun b hb => by rw [st.old b (by have := h.base_le; omega)]; exact h.lo b hb⟩
  · exact ((h.dr q h1 h2).kept st (by omega)).kept s2 (by omega)
  · exact ((h.ar q h1 h2).kept st (by omega) (fun x _ => by show 100 + 200 * q + x ≠ 6 + 3 * i; omega)).kept s2 (by omega) (fun x _ => by show 100 + 200 * q + x ≠ 3; omega)
  · rw [List.getElem_set, List.getElem_set]
    by_cases e : i = q
    · subst e
      rw [if_pos rfl, if_pos rfl]
      exact hr.kept s2 (by omega) (fun x _ => by show 200 + 200 * i + x ≠ 3; omega)
    · rw [if_neg e, if_neg e]
      exact ((h.vr q (by simpa using h1) (by simpa using h2)).kept st (by omega) (fun x _ => by show 200 + 200 * q + x ≠ 6 + 3 * i; omega)).kept s2 (by omega) (fun x _ => by show 200 + 200 * q + x ≠ 3; omega)
end
/-- What a call leaves: all blocks of the tag 0, and all that is no cells. -/
structure Frm (L L' : Nat → Nat) (W W' : World) : Prop where
  os : W'.os = W.os
  tape : W'.tape = W.tape
  output : W'.output = W.output
  size : W.heap.size ≤ W'.heap.size
  blk : ∀ b, b < W.heap.size → L b = 0 → W'.heap[b]? = W.heap[b]?
  old : ∀ b, b < W.heap.size → L' b = L b
  ko : KeepsOthers W W'
section
variable {L L' L'' : Nat → Nat} {W W' W'' : World}
theorem Frm.trans (h : Frm L L' W W') (k : Frm L' L'' W' W'') : Frm L L'' W W'' :=
  ⟨k.os.trans h.os, k.tape.trans h.tape, k.output.trans h.output, Nat.le_trans h.size k.size, fun b hb h0 => (k.blk b (Nat.lt_of_lt_of_le hb h.size) (by rw [h.old b hb]; exact h0)).trans (h.blk b hb h0), fun b hb => (k.old b (Nat.lt_of_lt_of_le hb h.size)).trans (h.old b hb), h.ko.trans k.ko⟩
theorem Frm.of_set {D k : Nat} (hL : L D = k) (hk : k ≠ 0) (i : Nat) (r : Value) : Frm L L W (W.setCell ⟨D, i, none⟩ r) :=
  have hg := grown_setCell W D i r
  ⟨hg.os, hg.tape, hg.output, hg.size, fun b hb h0 => hg.block b hb (fun e => by cases e; omega), fun _ _ => rfl, KeepsOthers.setCell _ _ _⟩
theorem Frm.grow {k base : Nat} {e : TypeId} {u : Value} {n : Nat} {xs : List Value} (h : TR L k base e W u n xs) (hk : k ≠ 0) (hg : W.grownBy W' u.ownBlock) (ho : ∀ b, b < W.heap.size → L' b = L b) : Frm L L' W W' :=
  ⟨hg.os, hg.tape, hg.output, hg.size, fun b hb h0 => hg.block b hb (fun e => by have := h.2 b e.symm; omega), ho, ⟨hg.size, fun q o hq hc => by
    rw [hg.block q (Array.getElem?_eq_some_iff.1 hq).1 (fun e => by
      rcases h.1.2 with ⟨h0, _⟩ | ⟨g', c', cur, hu, _, hh, _⟩
      · rw [h0] at e; simp [Value.ownBlock] at e
      · rw [hu] at e
        simp [Value.ownBlock] at e
        subst e
        rw [hh] at hq
        cases hq
        cases hc)]
    exact hq⟩⟩
theorem TI.tr {k base : Nat} {u : Value} {xs : List Int} (h : TI L k base W u xs) : TR L k base 2 W u xs.length (xs.map (Value.int .i64)) := ⟨h.1, h.2⟩
theorem Frm.below {base : Nat} {w : World} (h : Frm L L' W W') (hb : Below base w W) (hw : base ≤ w.heap.size) (hlo : ∀ b, b < base → L b = 0) : Below base w W' :=
  ⟨h.os.trans hb.os, h.tape.trans hb.tape, h.output.trans hb.output, Nat.le_trans hb.size h.size, fun b hbb => (h.blk b (by have := hb.size; omega) (hlo b hbb)).trans (hb.block b hbb)⟩
end
end Go.Proofs.YtlopenephgabhaaGreat


namespace Go.Proofs.YtlopenephgabhaaGreat
open Go.RowKit

/-- The tags without a block that is of another kind. -/
def retag (L : Nat → Nat) (Bx : Nat) (b : Nat) : Nat := if b = Bx then 0 else L b
section
variable {L : Nat → Nat} {k base Bx : Nat} {W : World} {u : Value} {cs : Array Value} {fz : Nat × Nat} {t : TypeId}
theorem own_ne {e : TypeId} {n : Nat} {xs : List Value} (h : W.ownsRow base e 1 u n xs) (hX : W.heap[Bx]? = some (.cells cs t fz)) (he : e ≠ t) {g : Nat} (hg : u.ownBlock = some g) : g ≠ Bx := fun e2 => by
  rcases h.2 with ⟨h0, _⟩ | ⟨g', c', cur, hu, _, hh, _⟩
  · rw [h0] at hg; simp [Value.ownBlock] at hg
  · rw [hu] at hg
    simp [Value.ownBlock] at hg
    subst hg
    subst e2
    rw [hh] at hX
    injection hX with hX
    injection hX with _ h2
    exact he h2
theorem retag_eq {g : Nat} (h : g ≠ Bx) : retag L Bx g = L g := if_neg h
theorem TR.retag {e : TypeId} {n : Nat} {xs : List Value} (h : TR L k base e W u n xs) (hX : W.heap[Bx]? = some (.cells cs t fz)) (he : e ≠ t) : TR (retag L Bx) k base e W u n xs := ⟨h.1, fun g hg => by rw [retag_eq (own_ne h.1 hX he hg)]; exact h.2 g hg⟩
theorem TI.retag {xs : List Int} (h : TI L k base W u xs) (hX : W.heap[Bx]? = some (.cells cs t fz)) (he : 2 ≠ t) : TI (retag L Bx) k base W u xs := ⟨h.1, fun g hg => by rw [retag_eq (own_ne h.1 hX he hg)]; exact h.2 g hg⟩
theorem TTab.retag {s : Nat} {tb : List (List Int)} (h : TTab L s base W u tb) (hX : W.heap[Bx]? = some (.cells cs t fz)) (he : 2 ≠ t ∧ 47 ≠ t) : TTab (retag L Bx) s base W u tb := by
  obtain ⟨vs, hq, h1, h2⟩ := h
  exact ⟨vs, hq, fun g hg => by rw [retag_eq (own_ne hq.own hX he.2 hg)]; exact h1 g hg, fun i a g hg => by rw [retag_eq (own_ne (hq.rows i a (by have := hq.len; omega)) hX he.1 hg)]; exact h2 i a g hg⟩
theorem TTabs.retag {τ : Nat → Nat} {ts : List (List (List Int))} (h : TTabs L k τ base W u ts) (hX : W.heap[Bx]? = some (.cells cs t fz)) (he : 2 ≠ t ∧ 47 ≠ t ∧ 22 ≠ t) : TTabs (retag L Bx) k τ base W u ts := by
  obtain ⟨vs, ho, hr⟩ := h
  exact ⟨vs, ho.retag hX he.2.2, fun i h1 h2 => (hr i h1 h2).retag hX ⟨he.1, he.2.1⟩⟩
theorem Fl.retag {D A V n : Nat} {dvs avs vvs : List Value} {d2 : List (List Int)} {a2 v2 : List (List (List (List Int)))} (h : Fl L base W D A V n dvs avs vvs d2 a2 v2) (hX : W.heap[Bx]? = some (.cells cs t fz)) (he : 2 ≠ t ∧ 47 ≠ t ∧ 22 ≠ t ∧ 51 ≠ t) :
    Fl (retag L Bx) base W D A V n dvs avs vvs d2 a2 v2 :=
  ⟨h.d0.retag hX he.2.1, h.a0.retag hX he.2.2.2, h.v0.retag hX he.2.2.2, h.ld, h.la, h.lv, fun i a b => (h.dr i a b).retag hX he.1, fun i a b => (h.ar i a b).retag hX ⟨he.1, he.2.1, he.2.2.1⟩, fun i a b => (h.vr i a b).retag hX ⟨he.1, he.2.1, he.2.2.1⟩, fun b hb => by
    unfold Go.Proofs.YtlopenephgabhaaGreat.retag
    by_cases e : b = Bx
    · rw [if_pos e]
    · rw [if_neg e]; exact h.lo b hb⟩
end
/-- The cells with the number j in their columns. -/
def onR (j : Nat) (c : Nat × Nat) : Bool := c.2 == j
/-- What the cells tell, laid by their numbers. -/
def colF {α : Type} (n : Nat) (cs : List (Nat × Nat)) (g : Nat × Nat → α) : List (List α) := (List.range n).map fun j => (cs.filter (onR j)).map g
theorem colF_len {α : Type} (n : Nat) (cs : List (Nat × Nat)) (g : Nat × Nat → α) : (colF n cs g).length = n := by simp [colF]
theorem colF_at {α : Type} {n : Nat} {cs : List (Nat × Nat)} {g : Nat × Nat → α} {j : Nat} (h : j < (colF n cs g).length) : (colF n cs g)[j] = (cs.filter (onR j)).map g := by simp [colF]
theorem colF_nil {α : Type} (n : Nat) (g : Nat × Nat → α) : colF n [] g = List.replicate n [] := List.ext_getElem (by simp [colF]) (fun i h1 h2 => by simp [colF])
theorem colF_snoc {α : Type} {n : Nat} {cs : List (Nat × Nat)} {g : Nat × Nat → α} {i j : Nat} (h : j < (colF n cs g).length) : (colF n cs g).set j ((colF n cs g)[j] ++ [g (i, j)]) = colF n (cs ++ [(i, j)]) g := by
  have hy := colF_at h
  generalize (colF n cs g)[j] = y at hy
  refine List.ext_getElem (by simp [colF]) (fun q h1 h2 => ?_)
  rw [List.getElem_set, colF_at h2, List.filter_append]
  by_cases e : j = q
  · subst e
    rw [if_pos rfl, hy]
    simp [onR]
  · rw [if_neg e, colF_at (by simpa using h1)]
    simp [onR, e]
theorem colF_short {α : Type} {n : Nat} {cs : List (Nat × Nat)} {g : Nat × Nat → α} {j : Nat} (h : j < (colF n cs g).length) : ((colF n cs g)[j]).length ≤ cs.length := by
  rw [colF_at h, List.length_map]
  exact List.length_filter_le _ _
def cdI (ds : List (List Int)) (c : Nat × Nat) : Int := (ds.getD c.1 []).getD c.2 0
theorem row_onR (ds : List (List Int)) (i j : Nat) : (rowCells ds i).filter (onR j) = if j < (ds.getD i []).length then [(i, j)] else [] := by
  unfold rowCells
  generalize (ds.getD i []).length = L
  induction L with
  | zero => simp
  | succ L ih =>
    rw [List.range_succ, List.map_append, List.filter_append, ih]
    by_cases e : L = j
    · subst e
      rw [if_neg (Nat.lt_irrefl _), if_pos (Nat.lt_succ_self _)]
      simp [onR]
    · have hz : ([L].map fun j => (i, j)).filter (onR j) = [] := by simp [onR, e]
      rw [hz, List.append_nil]
      by_cases h : j < L
      · rw [if_pos h, if_pos (by omega)]
      · rw [if_neg h, if_neg (by omega)]
theorem cells_onR {ds : List (List Int)} {j h : Nat} (hh : ∀ i, i < ds.length → (ds.getD i []).length = h) (hj : j < h) : ∀ m, m ≤ ds.length → (cellsTo ds m).filter (onR j) = (List.range m).map fun i => (i, j)
  | 0, _ => by simp [cellsTo]
  | m + 1, hm => by
    rw [cellsTo_succ, List.filter_append, cells_onR hh hj m (by omega), row_onR, if_pos (by rw [hh m (by omega)]; exact hj), List.range_succ, List.map_append]
    rfl
/-- The transposed lists. -/
theorem colF_all {α : Type} {ds : List (List Int)} (hok : DclOk ds) (g : Nat × Nat → α) : colF (ds.getD 0 []).length (cellsTo ds ds.length) g = (List.range (ds.getD 0 []).length).map fun j => (List.range ds.length).map fun i => g (i, j) := by
  unfold colF
  refine List.map_congr_left (fun j hj => ?_)
  rw [cells_onR (fun i hi => cl_height hok hi) (List.mem_range.1 hj) ds.length (Nat.le_refl _), List.map_map]
  rfl
/-- A table whose numbers are their own rests is what scaledTable by 1 makes of it. -/
theorem sc_tab {p r c : Int} {t : List (List Int)} (h : TabOk p r c t) : tableOf t.length c.toNat (scZ p 1 t) = t := by
  refine List.ext_getElem (by simp [tableOf]) fun a h1 h2 => ?_
  have hra := h.2 _ (List.getElem_mem h2)
  simp only [tableOf, List.getElem_map, List.getElem_range]
  refine List.ext_getElem (by simp only [List.length_map, List.length_range]; have := hra.1; omega) fun b h3 h4 => ?_
  have hz := hra.2 _ (List.getElem_mem h4)
  simp only [List.getElem_map, List.getElem_range, scZ]
  rw [getD_of_lt _ h2, getD_of_lt _ h4, Int.one_mul, Int.emod_eq_of_lt hz.1 (by omega)]
/-- The lists as a double complex is read, with room. -/
theorem Fl.dx {L : Nat → Nat} {base : Nat} {W : World} {D A V n : Nat} {dvs avs vvs : List Value} {d2 : List (List Int)} {a2 v2 : List (List (List (List Int)))} (h : Fl L base W D A V n dvs avs vvs d2 a2 v2) : Dx 0 W (.slice (some ⟨D, 0, none⟩) n n) (.slice (some ⟨A, 0, none⟩) n n) (.slice (some ⟨V, 0, none⟩) n n) d2 a2 v2 ∧ L5 0 W (.slice (some ⟨V, 0, none⟩) n n) v2 := by
  obtain ⟨l1, l2, l3⟩ := h.lens
  refine ⟨⟨?_, ?_, ?_⟩, ?_⟩
  · exact sl_of_owns h.d0.1 (Nat.zero_le _) h.ld (fun i h1 h2 => (h.dr i h2 h1).1.l1)
  · exact sl_of_owns h.a0.1 (Nat.zero_le _) h.la (fun i h1 h2 => (h.ar i h2 h1).l3)
  · exact sl_of_owns h.v0.1 (Nat.zero_le _) h.lv (fun i h1 h2 => (h.vr i h2 h1).l3)
  · exact sl_of_owns h.v0.1 (Nat.zero_le _) h.lv (fun i h1 h2 => ⟨(h.vr i h2 h1).l3, (h.vr i h2 h1).cap⟩)
end Go.Proofs.YtlopenephgabhaaGreat


namespace Go.Proofs.YtlopenephgabhaaGreat
open Go.RowKit

/-- append of one value to a list. -/
theorem TR.append {L : Nat → Nat} {k base : Nat} {e t : TypeId} {W : World} {u y : Value} {n : Nat} {xs : List Value} (hinf : (Tryz.prog.info? e).map (fun i => (i.zero, i.size, i.bytes)) = some (some (.slice none 0 0), 1, 24)) (hund : Tryz.prog.underlying t = some (.slice e)) (h : TR L k base e W u n xs) (hy : y.oneCell' = true) (g : Nat) (hc : W.cell? ⟨g, 0, none⟩ = some y) (hl : n ≤ 1000) (hb : base ≤ W.heap.size) :
    ∃ g' cap W', (Builtin.append_ #[t, t] t #[u, .slice (some ⟨g, 0, none⟩) 1 1]).run Tryz.prog W = .ok (.slice (some ⟨g', 0, none⟩) (n + 1) cap) W' ∧ W.grownBy W' u.ownBlock ∧ g' < W'.heap.size ∧
      ∀ L' : Nat → Nat, (∀ b, b < W.heap.size → L' b = L b) → (∀ b, W.heap.size ≤ b → L' b = k) → TR L' k base e W' (.slice (some ⟨g', 0, none⟩) (n + 1) cap) (n + 1) (xs ++ [y]) := by
  obtain ⟨i, hi, hz, hs, hbt⟩ := info_parts hinf
  obtain ⟨g', cap, W', hr, h2, h3, h4, h5⟩ := run_append_lies (P := Tryz.prog) (w := W) t t base e i _ 1 24 hund hi hz hs hbt (by rfl) (by decide) u n xs h.1 ⟨g, 0, none⟩ 1 1 [y] rfl
    (fun q v hq => by
      match q, hq with
      | 0, hq =>
        simp at hq
        subst hq
        exact hc) (fun v hv => by
      simp at hv
      subst hv
      exact hy) (by omega) (by unfold maxLen; omega) (by omega) hb W.heap.size rfl
  refine ⟨g', cap, W', hr, h3, h5, fun L' hL hN => ⟨by simpa using h2, fun q hq => ?_⟩⟩
  have e : g' = q := by simpa [Value.ownBlock] using hq
  subst e
  rcases h4 with h4 | h4
  · rw [hL _ (h.1.lt _ h4).2]
    exact h.2 _ h4
  · exact hN _ (by omega)
theorem TTab.of_gq {L : Nat → Nat} {s base : Nat} {W W' : World} {u : Value} {t : List (List Int)} (h : Gq W.heap.size W' u t) (hb : base ≤ W.heap.size) (hL : ∀ b, W.heap.size ≤ b → L b = s) : TTab L s base W' u t := by
  obtain ⟨vs, hq⟩ := h
  exact ⟨vs, ⟨owns_mono hq.own hb, fun i a b => owns_mono (hq.rows i a b) hb, hq.ap⟩, fun g hg => hL g (hq.own.lt g hg).1, fun i a g hg => hL g ((hq.rows i a (by have := hq.len; omega)).lt g hg).1⟩
/-- The double complex while its columns come in: its box at block g. -/
structure FlM (L : Nat → Nat) (base : Nat) (W : World) (g : Nat) (p : Int) (j1 j2 j3 : Nat) (vD vA vV : Value) (d2 : List (List Int)) (a2 v2 : List (List (List (List Int)))) : Prop where
  o1 : ∃ vs, TR L 1 base 47 W vD j1 vs ∧ d2.length = j1 ∧ ∀ q (h1 : q < vs.length) (h2 : q < d2.length), TI L (10 + q) base W vs[q] d2[q]
  o2 : ∃ vs, TR L 2 base 51 W vA j2 vs ∧ a2.length = j2 ∧ ∀ q (h1 : q < vs.length) (h2 : q < a2.length), TTabs L (20 + q) (fun _ => 40) base W vs[q] a2[q]
  o3 : ∃ vs, TR L 3 base 51 W vV j3 vs ∧ v2.length = j3 ∧ ∀ q (h1 : q < vs.length) (h2 : q < v2.length), TTabs L (30 + q) (fun _ => 40) base W vs[q] v2[q]
  box : W.heap[g]? = some (.cells #[.int .i64 p, vD, vA, vV] 29 (0, 0))
  zero : L g = 0
  lo : base ≤ g
section
variable {L L' : Nat → Nat} {base : Nat} {W W' : World} {g j1 j2 j3 k : Nat} {p : Int} {vD vA vV : Value} {d2 : List (List Int)} {a2 v2 : List (List (List (List Int)))}
theorem stp_keeps (st : Stp1 L L' k W W') (hk : k ≠ 0) {cs : Array Value} {t : TypeId} (hb : W.heap[g]? = some (.cells cs t (0, 0))) (hz : L g = 0) : W'.heap[g]? = some (.cells cs t (0, 0)) := by
  have hgl := (Array.getElem?_eq_some_iff.1 hb).1
  obtain ⟨row, hg, hr⟩ := st.ex
  refine (hg.block g hgl (fun e => ?_)).trans hb
  rcases hr g e.symm hgl with h1 | ⟨o, ho, hc⟩
  · omega
  · rw [hb] at ho; cases ho; cases hc
/-- A step beside it: of a tag that none of its lists has, and that is not 0. -/
theorem FlM.kept (h : FlM L base W g p j1 j2 j3 vD vA vV d2 a2 v2) (st : Stp1 L L' k W W') (hk : k ≠ 1 ∧ k ≠ 2 ∧ k ≠ 3 ∧ k ≠ 40 ∧ k ≠ 0 ∧ (∀ q, q < j1 → k ≠ 10 + q) ∧ (∀ q, q < j2 → k ≠ 20 + q) ∧ ∀ q, q < j3 → k ≠ 30 + q) : FlM L' base W' g p j1 j2 j3 vD vA vV d2 a2 v2 := by
  obtain ⟨s1, t1, l1, r1⟩ := h.o1
  obtain ⟨s2, t2, l2, r2⟩ := h.o2
  obtain ⟨s3, t3, l3, r3⟩ := h.o3
  have hgl := (Array.getElem?_eq_some_iff.1 h.box).1
  exact ⟨⟨s1, t1.kept st (by omega), l1, fun q h1 h2 => (r1 q h1 h2).kept st (fun e => hk.2.2.2.2.2.1 q (by omega) e.symm)⟩, ⟨s2, t2.kept st (by omega), l2, fun q h1 h2 => (r2 q h1 h2).kept st (fun e => hk.2.2.2.2.2.2.1 q (by omega) e.symm) (fun _ _ e => hk.2.2.2.1 e.symm)⟩,
    ⟨s3, t3.kept st (by omega), l3, fun q h1 h2 => (r3 q h1 h2).kept st (fun e => hk.2.2.2.2.2.2.2 q (by omega) e.symm) (fun _ _ e => hk.2.2.2.1 e.symm)⟩, stp_keeps st hk.2.2.2.2.1 h.box h.zero, (st.old g hgl).trans h.zero, h.lo⟩
theorem FlM.below (h : FlM L base W g p j1 j2 j3 vD vA vV d2 a2 v2) (hb : Below W.heap.size W W') (ho : ∀ b, b < W.heap.size → L' b = L b) (hj : j1 ≤ 9 ∧ j2 ≤ 9 ∧ j3 ≤ 9) : FlM L' base W' g p j1 j2 j3 vD vA vV d2 a2 v2 := h.kept (Stp1.of_below hb ho 50) ⟨by omega, by omega, by omega, by omega, by omega, fun q hq => by omega, fun q hq => by omega, fun q hq => by omega⟩
/-- One list of the three, as it lies when another step has been made. -/
theorem keptD (h : ∃ vs, TR L 1 base 47 W vD j1 vs ∧ d2.length = j1 ∧ ∀ q (h1 : q < vs.length) (h2 : q < d2.length), TI L (10 + q) base W vs[q] d2[q]) (st : Stp1 L L' k W W') (hk : k ≠ 1 ∧ (k < 10 ∨ 20 ≤ k)) (hj : j1 ≤ 9) :
    ∃ vs, TR L' 1 base 47 W' vD j1 vs ∧ d2.length = j1 ∧ ∀ q (h1 : q < vs.length) (h2 : q < d2.length), TI L' (10 + q) base W' vs[q] d2[q] := by
  obtain ⟨s1, t1, l1, r1⟩ := h
  exact ⟨s1, t1.kept st (by omega), l1, fun q h1 h2 => (r1 q h1 h2).kept st (by omega)⟩
theorem keptT {kk b0 j : Nat} {vX : Value} {x2 : List (List (List (List Int)))} (h : ∃ vs, TR L kk base 51 W vX j vs ∧ x2.length = j ∧ ∀ q (h1 : q < vs.length) (h2 : q < x2.length), TTabs L (b0 + q) (fun _ => 40) base W vs[q] x2[q]) (st : Stp1 L L' k W W') (hk : k ≠ kk ∧ k ≠ 40 ∧ (k < b0 ∨ b0 + 10 ≤ k)) (hj : j ≤ 9) :
    ∃ vs, TR L' kk base 51 W' vX j vs ∧ x2.length = j ∧ ∀ q (h1 : q < vs.length) (h2 : q < x2.length), TTabs L' (b0 + q) (fun _ => 40) base W' vs[q] x2[q] := by
  obtain ⟨s1, t1, l1, r1⟩ := h
  exact ⟨s1, t1.kept st (by omega), l1, fun q h1 h2 => (r1 q h1 h2).kept st (by omega) (fun _ _ => by show 40 ≠ k; omega)⟩
/-- What an append into one of the three lists, and the store of its new head, leave. -/
def Psh (L : Nat → Nat) (kk g i : Nat) (W W' : World) (L' : Nat → Nat) (v vn : Value) : Prop :=
  W.grownBy W' v.ownBlock ∧ Stp1 L L' kk W W' ∧ Stp1 L' L' 0 W' (W'.setCell ⟨g, i, none⟩ vn) ∧ W'.cell? ⟨g, i, none⟩ = some v ∧ W'.frozen? ⟨g, i, none⟩ = false
theorem FlM.pushD {r : Value} {y : List Int} (h : FlM L base W g p j1 j2 j3 vD vA vV d2 a2 v2) (hy : TI L (10 + j1) base W r y) (gc : Nat) (hc : W.cell? ⟨gc, 0, none⟩ = some r) (hj : j1 ≤ 5 ∧ j2 ≤ 9 ∧ j3 ≤ 9) :
    ∃ g' cap W' L', (Builtin.append_ #[22, 22] 22 #[vD, .slice (some ⟨gc, 0, none⟩) 1 1]).run Tryz.prog W = .ok (.slice (some ⟨g', 0, none⟩) (j1 + 1) cap) W' ∧ Psh L 1 g 1 W W' L' vD (.slice (some ⟨g', 0, none⟩) (j1 + 1) cap) ∧ (∀ q, vD.ownBlock = some q → base ≤ q) ∧
      FlM L' base (W'.setCell ⟨g, 1, none⟩ (.slice (some ⟨g', 0, none⟩) (j1 + 1) cap)) g p (j1 + 1) j2 j3 (.slice (some ⟨g', 0, none⟩) (j1 + 1) cap) vA vV (d2 ++ [y]) a2 v2 := by
  obtain ⟨s1, t1, l1, r1⟩ := h.o1
  have hgl := (Array.getElem?_eq_some_iff.1 h.box).1
  have hro : r.oneCell' = true := by obtain ⟨a, c, rfl⟩ := Sl.shape hy.1.l1; rfl
  obtain ⟨g', cap, W', hrun, hg, hlt, hL⟩ := t1.append Tryz.infoS Tryz.underlying22 hro gc hc (by omega) (by have := h.lo; omega)
  obtain ⟨L', hLd⟩ : ∃ M : Nat → Nat, M = fun b => if b < W.heap.size then L b else 1 := ⟨_, rfl⟩
  have hLo : ∀ b, b < W.heap.size → L' b = L b := fun b hb => by rw [hLd]; exact if_pos hb
  have hLn : ∀ b, W.heap.size ≤ b → L' b = 1 := fun b hb => by rw [hLd]; exact if_neg (by omega)
  have st : Stp1 L L' 1 W W' := ⟨⟨_, hg, fun q e _ => .inl (t1.2 q e)⟩, hLo⟩
  have hz : L' g = 0 := (hLo g hgl).trans h.zero
  have hbx := stp_keeps st (by omega) h.box h.zero
  have s2 : Stp1 L' L' 0 W' (W'.setCell ⟨g, 1, none⟩ (.slice (some ⟨g', 0, none⟩) (j1 + 1) cap)) := Stp1.of_set hz W' 1 _
  have hsl : s1.length = j1 := by have := t1.1.1; omega
  refine ⟨g', cap, W', L', hrun, ⟨hg, st, s2, by simp [World.cell?, hbx], by simp [World.frozen?, hbx]⟩, fun q hq => (t1.1.lt q hq).1, ⟨⟨s1 ++ [r], (hL L' hLo hLn).kept s2 (by omega), by simp [l1], fun q h1 h2 => ?_⟩, keptT (keptT h.o2 st (by omega) (by omega)) s2 (by omega) (by omega), keptT (keptT h.o3 st (by omega) (by omega)) s2 (by omega) (by omega), ?_, hz, h.lo⟩⟩
  · by_cases e : q < s1.length
    · rw [List.getElem_append_left e, List.getElem_append_left (by omega)]
      exact ((r1 q e (by omega)).kept st (by omega)).kept s2 (by omega)
    · have e2 : q = s1.length := by simp at h1; omega
      subst e2
      rw [List.getElem_append_right (Nat.le_refl _), List.getElem_append_right (by omega)]
      simp only [Nat.sub_self, hsl, l1, List.getElem_cons_zero]
      exact ((hy.kept st (by omega)).kept s2 (by omega))
  · exact block_setCell' hbx _
theorem pushT {kk b0 j i : Nat} {vX r : Value} {x2 : List (List (List (List Int)))} {y : List (List (List Int))} {cs : Array Value} (h : ∃ vs, TR L kk base 51 W vX j vs ∧ x2.length = j ∧ ∀ q (h1 : q < vs.length) (h2 : q < x2.length), TTabs L (b0 + q) (fun _ => 40) base W vs[q] x2[q])
    (hbx : W.heap[g]? = some (.cells cs 29 (0, 0))) (hz0 : L g = 0) (hlo : base ≤ g) (hci : W.cell? ⟨g, i, none⟩ = some vX) (hkk : kk = 2 ∨ kk = 3) (hb0 : b0 = 20 ∨ b0 = 30) (hy : TTabs L (b0 + j) (fun _ => 40) base W r y) (gc : Nat) (hc : W.cell? ⟨gc, 0, none⟩ = some r) (hj : j ≤ 5) :
    ∃ g' cap W' L', (Builtin.append_ #[23, 23] 23 #[vX, .slice (some ⟨gc, 0, none⟩) 1 1]).run Tryz.prog W = .ok (.slice (some ⟨g', 0, none⟩) (j + 1) cap) W' ∧ Psh L kk g i W W' L' vX (.slice (some ⟨g', 0, none⟩) (j + 1) cap) ∧ (∀ q, vX.ownBlock = some q → base ≤ q) ∧
      (∃ vs, TR L' kk base 51 (W'.setCell ⟨g, i, none⟩ (.slice (some ⟨g', 0, none⟩) (j + 1) cap)) (.slice (some ⟨g', 0, none⟩) (j + 1) cap) (j + 1) vs ∧ (x2 ++ [y]).length = j + 1 ∧ ∀ q (h1 : q < vs.length) (h2 : q < (x2 ++ [y]).length), TTabs L' (b0 + q) (fun _ => 40) base (W'.setCell ⟨g, i, none⟩ (.slice (some ⟨g', 0, none⟩) (j + 1) cap)) vs[q] (x2 ++ [y])[q]) ∧
      (W'.setCell ⟨g, i, none⟩ (.slice (some ⟨g', 0, none⟩) (j + 1) cap)).heap[g]? = some (.cells (cs.setIfInBounds i (.slice (some ⟨g', 0, none⟩) (j + 1) cap)) 29 (0, 0)) ∧ L' g = 0 := by
  obtain ⟨s1, t1, l1, r1⟩ := h
  have hgl := (Array.getElem?_eq_some_iff.1 hbx).1
  have hro : r.oneCell' = true := by obtain ⟨a, n, c, rfl, _⟩ := hy.cap; rfl
  obtain ⟨g', cap, W', hrun, hg, hlt, hL⟩ := t1.append Tryz.infoSSS Tryz.underlying23 hro gc hc (by omega) (by omega)
  obtain ⟨L', hLd⟩ : ∃ M : Nat → Nat, M = fun b => if b < W.heap.size then L b else kk := ⟨_, rfl⟩
  have hLo : ∀ b, b < W.heap.size → L' b = L b := fun b hb => by rw [hLd]; exact if_pos hb
  have hLn : ∀ b, W.heap.size ≤ b → L' b = kk := fun b hb => by rw [hLd]; exact if_neg (by omega)
  have st : Stp1 L L' kk W W' := ⟨⟨_, hg, fun q e _ => .inl (t1.2 q e)⟩, hLo⟩
  have hz : L' g = 0 := (hLo g hgl).trans hz0
  have hbx2 := stp_keeps st (by omega) hbx hz0
  have s2 : Stp1 L' L' 0 W' (W'.setCell ⟨g, i, none⟩ (.slice (some ⟨g', 0, none⟩) (j + 1) cap)) := Stp1.of_set hz W' i _
  have hsl : s1.length = j := by have := t1.1.1; omega
  have hci2 : W'.cell? ⟨g, i, none⟩ = some vX := by
    have e : W'.cell? ⟨g, i, none⟩ = W.cell? ⟨g, i, none⟩ := World.cell?_of_block (hbx2.trans hbx.symm)
    rw [e]
    exact hci
  refine ⟨g', cap, W', L', hrun, ⟨hg, st, s2, hci2, by simp [World.frozen?, hbx2]⟩, fun q hq => (t1.1.lt q hq).1, ⟨s1 ++ [r], (hL L' hLo hLn).kept s2 (by omega), by simp [l1], fun q h1 h2 => ?_⟩, block_setCell' hbx2 _, hz⟩
  by_cases e : q < s1.length
  · rw [List.getElem_append_left e, List.getElem_append_left (by omega)]
    exact ((r1 q e (by omega)).kept st (by omega) (fun _ _ => by show 40 ≠ kk; omega)).kept s2 (by omega) (fun _ _ => by show 40 ≠ 0; omega)
  · have e2 : q = s1.length := by simp at h1; omega
    subst e2
    rw [List.getElem_append_right (Nat.le_refl _), List.getElem_append_right (by omega)]
    simp only [Nat.sub_self, hsl, l1, List.getElem_cons_zero]
    exact ((hy.kept st (by omega) (fun _ _ => by show 40 ≠ kk; omega)).kept s2 (by omega) (fun _ _ => by show 40 ≠ 0; omega))
theorem FlM.pushA {r : Value} {y : List (List (List Int))} (h : FlM L base W g p j1 j2 j3 vD vA vV d2 a2 v2) (hy : TTabs L (20 + j2) (fun _ => 40) base W r y) (gc : Nat) (hc : W.cell? ⟨gc, 0, none⟩ = some r) (hj : j1 ≤ 9 ∧ j2 ≤ 5 ∧ j3 ≤ 9) :
    ∃ g' cap W' L', (Builtin.append_ #[23, 23] 23 #[vA, .slice (some ⟨gc, 0, none⟩) 1 1]).run Tryz.prog W = .ok (.slice (some ⟨g', 0, none⟩) (j2 + 1) cap) W' ∧ Psh L 2 g 2 W W' L' vA (.slice (some ⟨g', 0, none⟩) (j2 + 1) cap) ∧ (∀ q, vA.ownBlock = some q → base ≤ q) ∧
      FlM L' base (W'.setCell ⟨g, 2, none⟩ (.slice (some ⟨g', 0, none⟩) (j2 + 1) cap)) g p j1 (j2 + 1) j3 vD (.slice (some ⟨g', 0, none⟩) (j2 + 1) cap) vV d2 (a2 ++ [y]) v2 := by
  obtain ⟨g', cap, W', L', hrun, hP, hlo, hx, hbx, hz⟩ := pushT (i := 2) h.o2 h.box h.zero h.lo (by simp [World.cell?, h.box]) (.inl rfl) (.inl rfl) hy gc hc (by omega)
  exact ⟨g', cap, W', L', hrun, hP, hlo, ⟨keptD (keptD h.o1 hP.2.1 (by omega) (by omega)) hP.2.2.1 (by omega) (by omega), hx, keptT (keptT h.o3 hP.2.1 (by omega) (by omega)) hP.2.2.1 (by omega) (by omega), hbx, hz, h.lo⟩⟩
theorem FlM.pushV {r : Value} {y : List (List (List Int))} (h : FlM L base W g p j1 j2 j3 vD vA vV d2 a2 v2) (hy : TTabs L (30 + j3) (fun _ => 40) base W r y) (gc : Nat) (hc : W.cell? ⟨gc, 0, none⟩ = some r) (hj : j1 ≤ 9 ∧ j2 ≤ 9 ∧ j3 ≤ 5) :
    ∃ g' cap W' L', (Builtin.append_ #[23, 23] 23 #[vV, .slice (some ⟨gc, 0, none⟩) 1 1]).run Tryz.prog W = .ok (.slice (some ⟨g', 0, none⟩) (j3 + 1) cap) W' ∧ Psh L 3 g 3 W W' L' vV (.slice (some ⟨g', 0, none⟩) (j3 + 1) cap) ∧ (∀ q, vV.ownBlock = some q → base ≤ q) ∧
      FlM L' base (W'.setCell ⟨g, 3, none⟩ (.slice (some ⟨g', 0, none⟩) (j3 + 1) cap)) g p j1 j2 (j3 + 1) vD vA (.slice (some ⟨g', 0, none⟩) (j3 + 1) cap) d2 a2 (v2 ++ [y]) := by
  obtain ⟨g', cap, W', L', hrun, hP, hlo, hx, hbx, hz⟩ := pushT (i := 3) h.o3 h.box h.zero h.lo (by simp [World.cell?, h.box]) (.inr rfl) (.inr rfl) hy gc hc (by omega)
  exact ⟨g', cap, W', L', hrun, hP, hlo, ⟨keptD (keptD h.o1 hP.2.1 (by omega) (by omega)) hP.2.2.1 (by omega) (by omega), keptT (keptT h.o2 hP.2.1 (by omega) (by omega)) hP.2.2.1 (by omega) (by omega), hx, hbx, hz, h.lo⟩⟩
/-- Its lists as a double complex is read. -/
theorem FlM.dx (h : FlM L base W g p j1 j2 j3 vD vA vV d2 a2 v2) : Dx 0 W vD vA vV d2 a2 v2 := by
  obtain ⟨s1, t1, l1, r1⟩ := h.o1
  obtain ⟨s2, t2, l2, r2⟩ := h.o2
  obtain ⟨s3, t3, l3, r3⟩ := h.o3
  exact ⟨sl_of_owns t1.1 (Nat.zero_le _) l1 (fun i a b => (r1 i b a).1.l1), sl_of_owns t2.1 (Nat.zero_le _) l2 (fun i a b => (r2 i b a).l3), sl_of_owns t3.1 (Nat.zero_le _) l3 (fun i a b => (r3 i b a).l3)⟩
end
end Go.Proofs.YtlopenephgabhaaGreat

