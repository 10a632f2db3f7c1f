/-
  impl.insertRow by its contract.
-/
import Derived.Test.YtlbalcckjokeiaaIns
namespace Go.Proofs.Ytlbalcckjokeiaa
open Go.RowKit

theorem block_setCell' {w : World} {g i : Nat} {cs : Array Value} {t : TypeId} {fr : Nat × Nat} (h : w.heap[g]? = some (.cells cs t fr)) (v : Value) : (w.setCell ⟨g, i, none⟩ v).heap[g]? = some (.cells (cs.setIfInBounds i v) t fr) := by
  rw [setCell_eq_setRow w g i cs t fr v h]
  exact setRow_heap w g _ _ t _ h
theorem setCells_row (g : Nat) (t : TypeId) (fr : Nat × Nat) : ∀ (vs : List Value) (o : Nat) (cur : Array Value) (w : World), w.heap[g]? = some (.cells cur t fr) → o + vs.length ≤ cur.size →
    (w.setCells g o vs).heap[g]? = some (.cells (cur.toList.take o ++ vs ++ cur.toList.drop (o + vs.length)).toArray t fr)
  | [], o, cur, w, h, _ => by simpa [World.setCells] using h
  | v :: rest, o, cur, w, h, hl => by
    have ih := setCells_row g t fr rest (o + 1) (cur.setIfInBounds o v) (w.setCell ⟨g, o, none⟩ v) (block_setCell' h v) (by simp at hl ⊢; omega)
    rw [World.setCells, ih]
    congr 3
    have e := list_seg_step cur.toList o v rest (by simp at hl ⊢; omega)
    simpa [Array.toList_setIfInBounds] using e
theorem setCells_other (g k : Nat) (h : k ≠ g) : ∀ (vs : List Value) (o : Nat) (w : World), (w.setCells g o vs).heap[k]? = w.heap[k]?
  | [], _, _ => rfl
  | v :: rest, o, w => by
    rw [World.setCells, setCells_other g k h rest (o + 1)]
    exact Below.heap_setCell w ⟨g, o, none⟩ v k h
theorem setCells_rest (g : Nat) : ∀ (vs : List Value) (o : Nat) (w : World), (w.setCells g o vs).os = w.os ∧ (w.setCells g o vs).tape = w.tape ∧ (w.setCells g o vs).output = w.output ∧ (w.setCells g o vs).heap.size = w.heap.size
  | [], _, _ => ⟨rfl, rfl, rfl, rfl⟩
  | v :: rest, o, w => by
    rw [World.setCells]
    obtain ⟨h1, h2, h3, h4⟩ := setCells_rest g rest (o + 1) (w.setCell ⟨g, o, none⟩ v)
    exact ⟨h1, h2, h3, h4.trans (by simp [World.setCell])⟩
theorem grown_setCells (w : World) (g o : Nat) (vs : List Value) : w.grownBy (w.setCells g o vs) (some g) := by
  obtain ⟨h1, h2, h3, h4⟩ := setCells_rest g vs o w
  exact ⟨h1, h2, h3, by omega, fun k _ hne => setCells_other g k (fun e => hne (by rw [e])) vs o w⟩
theorem grown_trans {a b c : World} {row : Option Nat} (h : a.grownBy b row) (k : b.grownBy c row) : a.grownBy c row :=
  ⟨k.os.trans h.os, k.tape.trans h.tape, k.output.trans h.output, Nat.le_trans h.size k.size, fun i hi hne => (k.block i (Nat.lt_of_lt_of_le hi h.size) hne).trans (h.block i hi hne)⟩
theorem grown_refl (w : World) (row : Option Nat) : w.grownBy w row := ⟨rfl, rfl, rfl, Nat.le_refl _, fun _ _ _ => rfl⟩
theorem grown_below {a b c : World} {row : Option Nat} (h : a.grownBy b row) (k : Below b.heap.size b c) : a.grownBy c row :=
  ⟨k.os.trans h.os, k.tape.trans h.tape, k.output.trans h.output, Nat.le_trans h.size k.size, fun i hi hne => (k.block i (Nat.lt_of_lt_of_le hi h.size)).trans (h.block i hi hne)⟩
theorem below_grown {a b c : World} {row : Option Nat} (h : Below a.heap.size a b) (k : b.grownBy c row) : a.grownBy c row :=
  ⟨k.os.trans h.os, k.tape.trans h.tape, k.output.trans h.output, Nat.le_trans h.size k.size, fun i hi hne => (k.block i (Nat.lt_of_lt_of_le hi h.size) hne).trans (h.block i hi)⟩

/-- An owned slice of vectors that is not empty. -/
structure Ox (base : Nat) (w : World) (g cap : Nat) (L : List Lin.V) : Prop where
  lo : base ≤ g
  own : Ow base w (.slice (some ⟨g, 0, none⟩) L.length cap) L
theorem Ox.lt {base : Nat} {w : World} {g cap : Nat} {L : List Lin.V} (h : Ox base w g cap L) : g < w.heap.size := by
  rcases h.own.2 with ⟨h0, _⟩ | ⟨g', c', cur, hv, _, hh, _⟩
  · cases h0
  · injection hv with e1 _ _
    injection e1 with e1
    injection e1 with e1
    subst e1
    exact (Array.getElem?_eq_some_iff.1 hh).1
theorem Ox.at' {base : Nat} {w : World} {g cap : Nat} {L : List Lin.V} (h : Ox base w g cap L) {k : Nat} (hk : k < L.length) : At w g (k * 40) L[k] := by
  rcases h.own.vs with ⟨h0, _⟩ | ⟨b, o, c, hv, _, _, hc⟩
  · rw [h0] at hk; exact absurd hk (Nat.not_lt_zero _)
  · injection hv with e1 _ _
    injection e1 with e1
    injection e1 with e1 e2
    subst e1 e2
    have := hc k hk
    rwa [Nat.zero_add] at this
theorem Ox.below {base : Nat} {w w' : World} {g cap : Nat} {L : List Lin.V} (h : Ox base w g cap L) (hb : Below w.heap.size w w') : Ox base w' g cap L := ⟨h.lo, h.own.below hb⟩
theorem cellsOf_set {L : List Lin.V} {k : Nat} (hk : k < L.length) (x : Lin.V) : cellsOf (L.set k x) = (cellsOf L).take (k * 40) ++ vl x ++ (cellsOf L).drop (k * 40 + 40) := by
  rw [List.set_eq_take_append_cons_drop, if_pos hk, cellsOf_append, cellsOf_cons, cellsOf_take, cellsOf_drop, show (k + 1) * 40 = k * 40 + 40 by omega, List.append_assoc]
theorem Ox.put {base : Nat} {w : World} {g cap : Nat} {L : List Lin.V} (h : Ox base w g cap L) {k : Nat} (hk : k < L.length) (x : Lin.V) : Ox base (w.setCells g (k * 40) (vl x)) g cap (L.set k x) ∧ w.there g (k * 40) 40 := by
  rcases h.own.2 with ⟨h0, _⟩ | ⟨g', c', cur, hv, hlo, hh, hnc, hcm, hcs, htk⟩
  · cases h0
  · injection hv with e1 _ e3
    injection e1 with e1
    injection e1 with e1
    subst e1 e3
    have hkc : k * 40 + 40 ≤ cap * 40 := by
      have : (k + 1) * 40 ≤ cap * 40 := Nat.mul_le_mul_right 40 (by omega)
      omega
    have hb := setCells_row g 107 (0, 0) (vl x) (k * 40) cur w hh (by rw [vl_length, hcs]; exact hkc)
    refine ⟨⟨h.lo, ⟨cellsOf_length _, Or.inr ⟨g, cap, _, rfl, hlo, hb, by simpa using hnc, hcm, ?_, ?_⟩⟩⟩, fun j hj => ⟨?_, by simp [World.frozen?, hh]⟩⟩
    · have hsz : cur.toList.length = cap * 40 := by simpa using hcs
      simp only [List.size_toArray, List.length_append, List.length_take, List.length_drop, vl_length, hsz]
      omega
    · rw [cellsOf_set hk, ← htk]
      have hkn : k * 40 + 40 ≤ L.length * 40 := by
        have : (k + 1) * 40 ≤ L.length * 40 := Nat.mul_le_mul_right 40 hk
        omega
      have hnc' : L.length * 40 ≤ cap * 40 := Nat.mul_le_mul_right 40 hnc
      have hsz : cur.toList.length = cap * 40 := by simpa using hcs
      rw [List.length_set, vl_length, List.take_take, Nat.min_eq_left (by omega), List.drop_take]
      simp only [List.append_assoc]
      rw [List.take_append, List.take_append, List.length_take, vl_length, hsz, Nat.min_eq_left (by omega), List.take_of_length_le (l := cur.toList.take (k * 40)) (by rw [List.length_take]; omega), List.take_of_length_le (l := vl x) (by rw [vl_length]; omega),
        show L.length * 40 - k * 40 - 40 = L.length * 40 - (k * 40 + 40) by omega]
    · rw [cell_of_row _ _ _ _ _ _ hh, Array.getElem?_eq_getElem (by rw [hcs]; omega)]
      rfl
theorem Ow.cases {base : Nat} {w : World} {s : Value} {L : List Lin.V} (h : Ow base w s L) {C : Prop} (h0 : s = .slice none 0 0 → L = [] → C) (h1 : ∀ g cap, s = .slice (some ⟨g, 0, none⟩) L.length cap → Ox base w g cap L → C) : C := by
  rcases h.2 with ⟨hs, hl⟩ | ⟨g, cap, cur, hs, hlo, r⟩
  · exact h0 hs (List.eq_nil_of_length_eq_zero hl)
  · exact h1 g cap hs ⟨hlo, by rw [← hs]; exact h⟩
theorem hindexS (g : Nat) {k n : Nat} (cap : Nat) (hk : k < n) (w : World) : (Instr.indexAt 69 (.slice (some ⟨g, 0, none⟩) n cap) (.int .i64 k)).run Try.prog w = .ok (.pointer (some ⟨g, k * 40, none⟩)) w := by
  have h2 : (0 : Int) ≤ (k : Int) := by omega
  have h3 : (k : Int) < (n : Int) := by omega
  go_simp

/-- The rows, the first k of them cleared at the new row's lead. -/
noncomputable def clr (p : Int) (u : Lin.V) (x : Lin.V) : Lin.V := Lin.add p x (-(x (Lin.ld u))) u
noncomputable def part (p : Int) (u : Lin.V) (L : List Lin.V) (k : Nat) : List Lin.V := (L.take k).map (clr p u) ++ L.drop k
theorem part_length (p : Int) (u : Lin.V) (L : List Lin.V) (k : Nat) : (part p u L k).length = L.length := by simp [part]; omega
theorem part_get (p : Int) (u : Lin.V) (L : List Lin.V) {k : Nat} (hk : k < L.length) : (part p u L k)[k]'(by rw [part_length]; exact hk) = L[k] := by
  have hl : ((L.take k).map (clr p u)).length = k := by simp; omega
  simp only [part]
  rw [List.getElem_append_right (by omega)]
  simp only [hl, Nat.sub_self, List.getElem_drop, Nat.add_zero]
theorem part_set (p : Int) (u : Lin.V) (L : List Lin.V) {k : Nat} (hk : k < L.length) : (part p u L k).set k (clr p u L[k]) = part p u L (k + 1) := by
  have hl : ((L.take k).map (clr p u)).length = k := by simp; omega
  unfold part
  rw [List.set_append_right _ _ (by omega), hl, Nat.sub_self, List.drop_eq_getElem_cons hk, List.set_cons_zero, List.take_succ_eq_append_getElem hk, List.map_append, List.append_assoc]
  rfl

def InrR (p : Int) (base : Nat) (s : Value) (L : List Lin.V) (u : Lin.V) (w : World) (e : Ending) (w' : World) : Prop :=
  ∃ s' k, e = .returned s' ∧ Ow base w' s' (Lin.put p L k u) ∧ w.grownBy w' s.ownBlock ∧ k ≤ L.length ∧ (∀ x ∈ L.take k, Lin.ld x < Lin.ld u) ∧ ∀ x ∈ L.drop k, ¬ Lin.ld x < Lin.ld u

set_option maxHeartbeats 3200000 in
set_option maxRecDepth 100000 in
theorem insertRow_any (p : Int) (base : Nat) (s : Value) (L : List Lin.V) (u : Lin.V) (w : World) (hp : IsP p) (hbw : base ≤ w.heap.size) (hs : Ow base w s L) (hL : Lin.Red p L) (hLw : ∀ x ∈ L, Lin.Wd 40 x) (hl : L.length ≤ 1048575)
    (hm : Lin.Md p u) (hw : Lin.Wd 40 u) (hne : u ≠ Lin.zv) : Calls Try.prog 119 #[.int .i64 p, s, vv u] w (InrR p base s L u w) := by
  have HP := Lib.hid hp
  have HM := Lib.hid hm
  have HW := Lib.hid hw
  have HNE := Lib.hid hne
  have HL := Lib.hid hL
  have HLW := Lib.hid hLw
  have hp7 := hp.hi7
  have hp1 := hp.lo1
  obtain ⟨d, hd⟩ : ∃ d, d = Lin.ld u := ⟨_, rfl⟩
  have hd40 : d < 40 := by rw [hd]; exact (ld_lt hw hne).1
  have HD := Lib.hid hd
  have HI := Lib.hid (Try.infoVl u)
  have HAT := Lib.hid (at_alloc w u 107)
  have HB0 := Lib.hid (below_alloc1 w (.cells (vl u).toArray 107))
  refine Ow.cases hs (fun hs0 hL0 => ?_) (fun g cap hs0 hox => ?_)
  · subst hs0 hL0
    clear hp hm hw hne hL hLw hd
    unfold vv
    go_enter Try.func119, Try.ntmps119
    go_wp2_with (with_reducible refine wpList_load_mid rfl 107 (.tmp 5) rfl w.heap.size 0 rfl (vl u) _ HAT.out.range Try.underlyingV rfl HI.out ?_)
    refine (leadOf_any u _ HW.out HNE.out).mono ?_
    rw [← HD.out]
    rintro e w2 ⟨rfl, hb2⟩
    have HAT2 := Lib.hid (HAT.out.later hb2)
    have HG2 : Hid (w.grownBy w2 none) := Lib.hid (grown_below (grown_below (grown_refl w _) HB0.out) hb2)
    have hsz2 : w.heap.size < w2.heap.size := by have := hb2.size; simp at this; omega
    clear hb2
    go_wp2
    refine wp_loop_rounds 1 ?_
    rw [rounds_succ]
    go_wp2_with (first | (with_reducible refine wpList_load_mid rfl 107 (.tmp 5) rfl w.heap.size 0 rfl (vl u) _ HAT2.out.range Try.underlyingV rfl HI.out ?_) | (with_reducible refine wpList_oneV rfl (some 40) rfl (.tmp 39) rfl u rfl ?_; intro W7 hn7; have HN7 := Lib.hid hn7; clear hn7))
    refine (insert_any base w2.heap.size 0 (.slice none 0 0) [] u W7 (by have := HN7.out.size; omega) (Ow.nil _ _) (by simp) (Nat.le_refl _) HN7.out.block (by simp [Value.ownBlock])).mono ?_
    rintro e W8 ⟨s8, rfl, ho8, hg8⟩
    have HO8 := Lib.hid ho8
    have HG8 : Hid (w.grownBy W8 none) := Lib.hid (grown_trans (grown_below HG2.out HN7.out.below) hg8)
    clear ho8 hg8
    go_wp2
    go_ret
    exact ⟨s8, 0, rfl, HO8.out, HG8.out, Nat.le_refl _, by simp, by simp⟩
  · subst hs0
    clear hp hm hw hne hL hLw hd
    unfold vv
    go_enter Try.func119, Try.ntmps119
    go_wp2_with (with_reducible refine wpList_load_mid rfl 107 (.tmp 5) rfl w.heap.size 0 rfl (vl u) _ HAT.out.range Try.underlyingV rfl HI.out ?_)
    refine (leadOf_any u _ HW.out HNE.out).mono ?_
    rw [← HD.out]
    rintro e w2 ⟨rfl, hb2⟩
    have HAT2 := Lib.hid (HAT.out.later hb2)
    have HOX2 : Hid (Ox base w2 g cap (part p u L 0)) := Lib.hid (by
      have := (hox.below HB0.out).below hb2
      simpa [part] using this)
    have HGR2 : Hid (w.grownBy w2 (some g)) := Lib.hid (grown_below (grown_below (grown_refl w _) HB0.out) hb2)
    have hgw : g < w.heap.size := hox.lt
    have hsz2 : w.heap.size < w2.heap.size := by have := hb2.size; simp at this; omega
    clear hb2 hox hs
    go_wp2
    go_loopw [8, 9, 10, 15] (fun pl _ _ i wr => ∃ (k P : Nat), k ≤ L.length ∧ i = .int .i64 k ∧ pl = .int .i64 P ∧ P ≤ k ∧ Hid (Ox base wr g cap (part p u L k)) ∧ Hid (At wr w.heap.size 0 u) ∧ Hid (w.grownBy wr (some g)) ∧ w.heap.size < wr.heap.size ∧ Hid (∀ j (h : j < L.length), j < P → Lin.ld L[j] < d) ∧ Hid (∀ j (h : j < L.length), P ≤ j → j < k → ¬ Lin.ld L[j] < d)) (fun _ _ _ i _ => L.length - (intOf i).toNat)
    case atStart => exact ⟨0, 0, Nat.zero_le _, rfl, rfl, Nat.le_refl _, HOX2, HAT2, HGR2, hsz2, Lib.hid (fun _ _ h => absurd h (Nat.not_lt_zero _)), Lib.hid (fun _ _ _ h => absurd h (Nat.not_lt_zero _))⟩
    case round =>
      obtain ⟨k, P, hk, rfl, rfl, hPk, HOX, HA, HG, hsw, HLO, HHI⟩ := hrel
      clear HOX2 HAT2 HGR2 hsz2
      by_cases hlt : k < L.length
      · obtain ⟨x, hx⟩ : ∃ x, x = L[k] := ⟨_, rfl⟩
        have HXE := Lib.hid hx
        have HXA : Hid (At wr g (k * 40) x) := Lib.hid (by
          have := HOX.out.at' (k := k) (by rw [part_length]; exact hlt)
          rwa [part_get p u L hlt, ← hx] at this)
        have HIX := Lib.hid (Try.infoVl x)
        have HI2 : Hid ((Try.prog.info? 107).map (·.size) = some (vl x).toArray.size) := Lib.hid (by have := HIX.out; simpa using this)
        have HXM : Hid (Lin.Md p x) := Lib.hid (by rw [hx]; exact HL.out.md _ (List.getElem_mem hlt))
        have HXW : Hid (Lin.Wd 40 x) := Lib.hid (by rw [hx]; exact HLW.out _ (List.getElem_mem hlt))
        have HXN : Hid (x ≠ Lin.zv) := Lib.hid (by rw [hx]; exact HL.out.ne (List.getElem_mem hlt))
        have hadd : (0 : Nat) + k * 40 = k * 40 := Nat.zero_add _
        clear hx
        go_upto_region 5 with (first | (with_reducible refine wpList_load_mid rfl 107 (.tmp 18) rfl g (k * 40) rfl (vl x) _ HXA.out.range Try.underlyingV rfl HIX.out ?_) | (with_reducible refine wpList_allocV rfl (some 10) rfl rfl ?_; intro W2 hn2; have HN2 := Lib.hid hn2; have HT2 : Hid (W2.there wr.heap.size 0 (vl x).toArray.size) := (Lib.hid (by have := hn2.there; simpa [vl_length] using this)); clear hn2) | (with_reducible refine wpList_store_mid rfl 107 (.tmp 10) (.tmp 19) rfl wr.heap.size 0 (vl x).toArray rfl rfl HT2.out HI2.out (vl_all x) ?_))
        have HP2 := Lib.hid (HN2.out.put x)
        refine forget_wp (fun W => Hid (Below wr.heap.size wr W ∧ At W wr.heap.size 0 x ∧ W.heap.size = wr.heap.size + 1)) (Lib.hid HP2.out) ?_
        intro W3 HB3
        clear HP2 HN2 HT2 HI2
        obtain ⟨dx, hdx⟩ : ∃ dx, dx = Lin.ld x := ⟨_, rfl⟩
        have HDX := Lib.hid hdx
        obtain ⟨f, hf⟩ : ∃ f, f = x d := ⟨_, rfl⟩
        have hfb : 0 ≤ f ∧ f < p := by rw [hf]; exact HXM.out d
        have HFE := Lib.hid hf
        have HCL : Hid (clr p u x = Lin.add p x (-f) u) := Lib.hid (by unfold clr; rw [← HD.out, ← hf])
        clear hdx hf
        simp only [Act.put]
        go_wp2_with (with_reducible refine wpList_load_mid rfl 107 (.tmp 10) rfl wr.heap.size 0 rfl (vl x) _ HB3.out.2.1.range Try.underlyingV rfl HIX.out ?_)
        refine (leadOf_any x _ HXW.out HXN.out).mono ?_
        rw [← HDX.out]
        rintro e W4 ⟨rfl, hb4⟩
        have HB4 : Hid (Below wr.heap.size wr W4 ∧ At W4 wr.heap.size 0 x ∧ wr.heap.size < W4.heap.size) := Lib.hid ⟨HB3.out.1.trans (hb4.mono (by have := HB3.out.2.2; omega)), HB3.out.2.1.later hb4, by have := HB3.out.2.2; have := hb4.size; omega⟩
        clear hb4 HB3
        obtain ⟨M, hM⟩ : ∃ M, M = part p u L k := ⟨_, rfl⟩
        have HME := Lib.hid hM
        have HOX4 : Hid (Ox base W4 g cap M) := Lib.hid (by rw [hM]; exact HOX.out.below HB4.out.1)
        clear hM
        have HS4 : Hid (At W4 w.heap.size 0 u ∧ At W4 wr.heap.size 0 x ∧ Hid (Ox base W4 g cap M ∧ w.grownBy W4 (some g) ∧ w.heap.size < W4.heap.size)) := Lib.hid ⟨HA.out.later HB4.out.1, HB4.out.2.1, Lib.hid ⟨HOX4.out, grown_below HG.out HB4.out.1, by have := HB4.out.2.2; omega⟩⟩
        have HSN : Hid (∀ W W', (At W w.heap.size 0 u ∧ At W wr.heap.size 0 x ∧ Hid (Ox base W g cap M ∧ w.grownBy W (some g) ∧ w.heap.size < W.heap.size)) → Below W.heap.size W W' → (At W' w.heap.size 0 u ∧ At W' wr.heap.size 0 x ∧ Hid (Ox base W' g cap M ∧ w.grownBy W' (some g) ∧ w.heap.size < W'.heap.size))) := Lib.hid (fun W W' h hb => ⟨h.1.later hb, h.2.1.later hb, Lib.hid ⟨h.2.2.out.1.below hb, grown_below h.2.2.out.2.1 hb, by have := h.2.2.out.2.2; have := hb.size; omega⟩⟩)
        have hcellS : ∀ W, (At W w.heap.size 0 u ∧ At W wr.heap.size 0 x ∧ Hid (Ox base W g cap M ∧ w.grownBy W (some g) ∧ w.heap.size < W.heap.size)) → W.cell? ⟨wr.heap.size, d, none⟩ = some (.int .i64 f) := fun W h => by rw [HFE.out]; have := h.2.1.cell hd40; rwa [Nat.zero_add] at this
        obtain ⟨y, hy⟩ : ∃ y, y = Lin.add p x (-f) u := ⟨_, rfl⟩
        have HYE := Lib.hid hy
        have HMM := Lib.hid (minusMultiple_any p f x u · HP.out hfb.1 hfb.2 HXM.out HXW.out HM.out HW.out)
        rw [← hy] at HMM
        have HI5 : Hid ((Try.prog.info? 107).map (·.size) = some (vl y).toArray.size) := Lib.hid (by have := Try.infoVl y; simpa using this)
        have hkM : k < M.length := by rw [HME.out, part_length]; exact hlt
        have HPUT : Hid (∀ W, Ox base W g cap M → Ox base (W.setCells g (k * 40) (vl y)) g cap (part p u L (k + 1)) ∧ W.there g (k * 40) (vl y).toArray.size) := Lib.hid (fun W h => by
          have h2 := h.put hkM y
          refine ⟨?_, by simpa [vl_length] using h2.2⟩
          have h3 := h2.1
          rw [HYE.out, ← HCL.out, HXE.out] at h3
          rw [HYE.out, ← HCL.out, HXE.out]
          have e := part_set p u L hlt
          rw [← HME.out] at e
          rwa [e] at h3)
        clear hy HOX4 HB4 HOX HA HG
        by_cases hlx : dx < d
        · have hlxi : decide ((dx : Int) < (d : Int)) = true := by simp; exact hlx
          have HNX : Hid (∀ j (h : j < L.length), j < k + 1 → Lin.ld L[j] < d) := Lib.hid (fun j h hj => by
            by_cases e : j = k
            · subst e; rw [← HXE.out, ← HDX.out]; exact hlx
            · have := List.pairwise_iff_getElem.1 HL.out.inc j k h hlt (by omega)
              rw [← HXE.out, ← HDX.out] at this
              omega)
          have hw1 : IntKind.i64.wrap ((k : Int) + 1) = (k : Int) + 1 := IntWalk.i64_in _ (by omega)
          go_upto_region 7 with fail
          refine wp_region_last (fun W => At W w.heap.size 0 u ∧ At W wr.heap.size 0 x ∧ Hid (Ox base W g cap M ∧ w.grownBy W (some g) ∧ w.heap.size < W.heap.size)) 10 (by kernel_rfl) rfl (by kernel_rfl) ?_
          have S1 := HSN.out _ _ HS4.out (Below.refl _ _).drew
          refine held_take (i := 0) (v := .slice (some ⟨g, 0, none⟩) L.length cap) (some 26) rfl rfl (by kernel_rfl) (by kernel_rfl) (by kernel_rfl) (fun _ _ _ h => h) (yieldsIf_move (by kernel_rfl) rfl (by kernel_rfl)) S1 ?_
          refine held_take (i := 1) (v := .int .i64 (k : Int)) (some 27) rfl rfl (by kernel_rfl) (by kernel_rfl) (by kernel_rfl) (fun _ _ _ h => h) (yieldsIf_move (by kernel_rfl) rfl (by kernel_rfl)) S1 ?_
          refine held_take (i := 2) (v := .int .i64 p) (some 28) rfl rfl (by kernel_rfl) (by kernel_rfl) (by kernel_rfl) (fun _ _ _ h => h) (yieldsIf_move (by kernel_rfl) rfl (by kernel_rfl)) S1 ?_
          refine held_take (i := 3) (v := .agg (vl x).toArray) (some 29) rfl rfl (by kernel_rfl) (by kernel_rfl) (by kernel_rfl) (fun _ _ _ h => h) (yieldsIf_load_mid (by kernel_rfl) 107 (.tmp 10) (by kernel_rfl) wr.heap.size 0 (by kernel_rfl) (vl x) _ (fun W h => h.2.1) Try.underlyingV rfl HIX.out) S1 ?_
          refine held_take (i := 4) (v := .int .i64 (d : Int)) (some 30) rfl rfl (by kernel_rfl) (by kernel_rfl) (by kernel_rfl) (fun _ _ _ h => h) (yieldsIf_move (by kernel_rfl) rfl (by kernel_rfl)) S1 ?_
          refine held_take (i := 5) (v := .pointer (some ⟨wr.heap.size, d, none⟩)) (some 31) rfl rfl (by kernel_rfl) (by kernel_rfl) (by kernel_rfl) (fun _ _ _ h => h) (yieldsIf_index (by kernel_rfl) rfl (by kernel_rfl) (by kernel_rfl) (hindexV wr.heap.size hd40)) S1 ?_
          refine held_take (i := 6) (v := .int .i64 f) (some 32) rfl rfl (by kernel_rfl) (by kernel_rfl) (by kernel_rfl) (fun _ _ _ h => h) (yieldsIf_cell (by kernel_rfl) rfl (by kernel_rfl) (fun W h => hload W (hcellS W h))) S1 ?_
          refine held_take (i := 7) (v := .agg (vl u).toArray) (some 33) rfl rfl (by kernel_rfl) (by kernel_rfl) (by kernel_rfl) (fun _ _ _ h => h) (yieldsIf_load_mid (by kernel_rfl) 107 (.tmp 5) (by kernel_rfl) w.heap.size 0 (by kernel_rfl) (vl u) _ (fun W h => h.1) Try.underlyingV rfl HI.out) S1 ?_
          refine held_enter (i := 8) (some 34) (f := 117) (args := #[.int .i64 p, vv x, .int .i64 f, vv u]) (by kernel_rfl) rfl rfl rfl (by kernel_rfl) (HMM.out _) ?_ (fun c w' h => by cases h.1) (fun w' h => by cases h.1)
          rintro e5 W5 ⟨he5, hb5⟩
          injection he5 with he5
          subst he5
          have S5 := HSN.out _ _ S1 hb5
          refine ⟨S5, ?_⟩
          clear hb5 S1 HS4
          refine held_take (i := 9) (v := .pointer (some ⟨g, k * 40, none⟩)) (some 35) rfl rfl (by kernel_rfl) (by kernel_rfl) (by kernel_rfl) (fun _ _ _ h => h) (yieldsIf_index (by kernel_rfl) rfl (by kernel_rfl) (by kernel_rfl) (hindexS g cap hlt)) S5 ?_
          refine held_none (i := 10) (v := .bool false) rfl rfl (by kernel_rfl) (by kernel_rfl) (by kernel_rfl) (fun _ _ _ h => h) (yieldsIf_move (by kernel_rfl) rfl (by kernel_rfl)) S5 ?_
          have hput := HPUT.out _ S5.2.2.out.1
          refine wpAnyH_done (by kernel_rfl) (lastQ_store rfl (by kernel_rfl) (by kernel_rfl) 107 (.tmp 35) (.tmp 34) (by kernel_rfl) g (k * 40) (vl y).toArray (by kernel_rfl) (by kernel_rfl) hput.2 HI5.out (vl_all _) ?_) _
          simp only [Act.put, List.setIfInBounds_toArray, List.set_cons_zero, List.set_cons_succ]
          have hgs := grown_setCells W5 g (k * 40) (vl y)
          have hgn : w.heap.size ≠ g := by omega
          have HA6 : Hid (At (W5.setCells g (k * 40) (vl y)) w.heap.size 0 u) := Lib.hid (S5.1.grown hgs (by simp; omega))
          have HG6 : Hid (w.grownBy (W5.setCells g (k * 40) (vl y)) (some g)) := Lib.hid (grown_trans S5.2.2.out.2.1 hgs)
          have HO6 : Hid (Ox base (W5.setCells g (k * 40) (vl y)) g cap (part p u L (k + 1))) := Lib.hid hput.1
          have hs6 : w.heap.size < (W5.setCells g (k * 40) (vl y)).heap.size := by have := hgs.size; have := S5.2.2.out.2.2; omega
          obtain ⟨W6, hW6⟩ : ∃ W6, W6 = W5.setCells g (k * 40) (vl y) := ⟨_, rfl⟩
          rw [show W5.setCells g (k * 40) (vl y).toArray.toList = W6 by rw [hW6]]
          rw [← hW6] at HA6 HG6 HO6 hs6
          clear hW6 S5 hcellS hput hgs
          go_wp2
          go_roundw
          case rel => exact ⟨k + 1, k + 1, by omega, by go_num, by go_num, by omega, HO6, HA6, HG6, hs6, HNX, Lib.hid (fun j h h1 h2 => absurd h2 (by omega))⟩
          case measure => simp [intOf]; omega
        · have hlxi : decide ((dx : Int) < (d : Int)) = false := by simp; omega
          go_upto_region 7 with fail
          refine wp_region_last (fun W => At W w.heap.size 0 u ∧ At W wr.heap.size 0 x ∧ Hid (Ox base W g cap M ∧ w.grownBy W (some g) ∧ w.heap.size < W.heap.size)) 10 (by kernel_rfl) rfl (by kernel_rfl) ?_
          have S1 := HSN.out _ _ HS4.out (Below.refl _ _).drew
          refine held_take (i := 0) (v := .slice (some ⟨g, 0, none⟩) L.length cap) (some 26) rfl rfl (by kernel_rfl) (by kernel_rfl) (by kernel_rfl) (fun _ _ _ h => h) (yieldsIf_move (by kernel_rfl) rfl (by kernel_rfl)) S1 ?_
          refine held_take (i := 1) (v := .int .i64 (k : Int)) (some 27) rfl rfl (by kernel_rfl) (by kernel_rfl) (by kernel_rfl) (fun _ _ _ h => h) (yieldsIf_move (by kernel_rfl) rfl (by kernel_rfl)) S1 ?_
          refine held_take (i := 2) (v := .int .i64 p) (some 28) rfl rfl (by kernel_rfl) (by kernel_rfl) (by kernel_rfl) (fun _ _ _ h => h) (yieldsIf_move (by kernel_rfl) rfl (by kernel_rfl)) S1 ?_
          refine held_take (i := 3) (v := .agg (vl x).toArray) (some 29) rfl rfl (by kernel_rfl) (by kernel_rfl) (by kernel_rfl) (fun _ _ _ h => h) (yieldsIf_load_mid (by kernel_rfl) 107 (.tmp 10) (by kernel_rfl) wr.heap.size 0 (by kernel_rfl) (vl x) _ (fun W h => h.2.1) Try.underlyingV rfl HIX.out) S1 ?_
          refine held_take (i := 4) (v := .int .i64 (d : Int)) (some 30) rfl rfl (by kernel_rfl) (by kernel_rfl) (by kernel_rfl) (fun _ _ _ h => h) (yieldsIf_move (by kernel_rfl) rfl (by kernel_rfl)) S1 ?_
          refine held_take (i := 5) (v := .pointer (some ⟨wr.heap.size, d, none⟩)) (some 31) rfl rfl (by kernel_rfl) (by kernel_rfl) (by kernel_rfl) (fun _ _ _ h => h) (yieldsIf_index (by kernel_rfl) rfl (by kernel_rfl) (by kernel_rfl) (hindexV wr.heap.size hd40)) S1 ?_
          refine held_take (i := 6) (v := .int .i64 f) (some 32) rfl rfl (by kernel_rfl) (by kernel_rfl) (by kernel_rfl) (fun _ _ _ h => h) (yieldsIf_cell (by kernel_rfl) rfl (by kernel_rfl) (fun W h => hload W (hcellS W h))) S1 ?_
          refine held_take (i := 7) (v := .agg (vl u).toArray) (some 33) rfl rfl (by kernel_rfl) (by kernel_rfl) (by kernel_rfl) (fun _ _ _ h => h) (yieldsIf_load_mid (by kernel_rfl) 107 (.tmp 5) (by kernel_rfl) w.heap.size 0 (by kernel_rfl) (vl u) _ (fun W h => h.1) Try.underlyingV rfl HI.out) S1 ?_
          refine held_enter (i := 8) (some 34) (f := 117) (args := #[.int .i64 p, vv x, .int .i64 f, vv u]) (by kernel_rfl) rfl rfl rfl (by kernel_rfl) (HMM.out _) ?_ (fun c w' h => by cases h.1) (fun w' h => by cases h.1)
          rintro e5 W5 ⟨he5, hb5⟩
          injection he5 with he5
          subst he5
          have S5 := HSN.out _ _ S1 hb5
          refine ⟨S5, ?_⟩
          clear hb5 S1 HS4
          refine held_take (i := 9) (v := .pointer (some ⟨g, k * 40, none⟩)) (some 35) rfl rfl (by kernel_rfl) (by kernel_rfl) (by kernel_rfl) (fun _ _ _ h => h) (yieldsIf_index (by kernel_rfl) rfl (by kernel_rfl) (by kernel_rfl) (hindexS g cap hlt)) S5 ?_
          refine held_none (i := 10) (v := .bool false) rfl rfl (by kernel_rfl) (by kernel_rfl) (by kernel_rfl) (fun _ _ _ h => h) (yieldsIf_move (by kernel_rfl) rfl (by kernel_rfl)) S5 ?_
          have hput := HPUT.out _ S5.2.2.out.1
          refine wpAnyH_done (by kernel_rfl) (lastQ_store rfl (by kernel_rfl) (by kernel_rfl) 107 (.tmp 35) (.tmp 34) (by kernel_rfl) g (k * 40) (vl y).toArray (by kernel_rfl) (by kernel_rfl) hput.2 HI5.out (vl_all _) ?_) _
          simp only [Act.put, List.setIfInBounds_toArray, List.set_cons_zero, List.set_cons_succ]
          have hgs := grown_setCells W5 g (k * 40) (vl y)
          have hgn : w.heap.size ≠ g := by omega
          have HA6 : Hid (At (W5.setCells g (k * 40) (vl y)) w.heap.size 0 u) := Lib.hid (S5.1.grown hgs (by simp; omega))
          have HG6 : Hid (w.grownBy (W5.setCells g (k * 40) (vl y)) (some g)) := Lib.hid (grown_trans S5.2.2.out.2.1 hgs)
          have HO6 : Hid (Ox base (W5.setCells g (k * 40) (vl y)) g cap (part p u L (k + 1))) := Lib.hid hput.1
          have hs6 : w.heap.size < (W5.setCells g (k * 40) (vl y)).heap.size := by have := hgs.size; have := S5.2.2.out.2.2; omega
          obtain ⟨W6, hW6⟩ : ∃ W6, W6 = W5.setCells g (k * 40) (vl y) := ⟨_, rfl⟩
          rw [show W5.setCells g (k * 40) (vl y).toArray.toList = W6 by rw [hW6]]
          rw [← hW6] at HA6 HG6 HO6 hs6
          clear hW6 S5 hcellS hput hgs
          go_wp2
          go_roundw
          case rel => exact ⟨k + 1, P, by omega, by go_num, by go_num, by omega, HO6, HA6, HG6, hs6, HLO, Lib.hid (fun j h h1 h2 => by
            by_cases e : j = k
            · subst e; rw [← HXE.out, ← HDX.out]; exact hlx
            · exact HHI.out j h h1 (by omega))⟩
          case measure => simp [intOf]; omega
      · obtain rfl : k = L.length := by omega
        obtain ⟨M, hM⟩ : ∃ M, M = part p u L L.length := ⟨_, rfl⟩
        have HML : Hid (M.length = L.length) := Lib.hid (by rw [hM, part_length])
        have HOW : Hid (Ow base wr (.slice (some ⟨g, 0, none⟩) L.length cap) M) := Lib.hid (by have := HOX.out.own; rwa [← hM, HML.out] at this)
        have hgr : g < wr.heap.size := HOX.out.lt
        have HPUT : Hid (M.take P ++ u :: M.drop P = Lin.put p L P u) := Lib.hid (by
          rw [hM, part, List.take_length, List.drop_length, List.append_nil, ← List.map_take, ← List.map_drop]
          rfl)
        have HLO2 : Hid (∀ x ∈ L.take P, Lin.ld x < Lin.ld u) := Lib.hid (fun x hx => by
          obtain ⟨j, hj, rfl⟩ := List.getElem_of_mem hx
          rw [List.getElem_take, ← HD.out]
          rw [List.length_take] at hj
          exact HLO.out j (by omega) (by omega))
        have HHI2 : Hid (∀ x ∈ L.drop P, ¬ Lin.ld x < Lin.ld u) := Lib.hid (fun x hx => by
          obtain ⟨j, hj, rfl⟩ := List.getElem_of_mem hx
          rw [List.getElem_drop, ← HD.out]
          rw [List.length_drop] at hj
          exact HHI.out (P + j) (by omega) (by omega) (by omega))
        clear hM HOX HLO HHI
        go_wp2_with (first | (with_reducible refine wpList_load_mid rfl 107 (.tmp 5) rfl w.heap.size 0 rfl (vl u) _ HA.out.range Try.underlyingV rfl HI.out ?_) | (with_reducible refine wpList_oneV rfl (some 40) rfl (.tmp 39) rfl u rfl ?_; intro W7 hn7; have HN7 := Lib.hid hn7; clear hn7))
        refine (insert_any base wr.heap.size P (.slice (some ⟨g, 0, none⟩) L.length cap) M u W7 (by have := HN7.out.size; omega) (HOW.out.below HN7.out.below) (by rw [HML.out]; omega) (by rw [HML.out]; exact hPk) HN7.out.block (by simp [Value.ownBlock]; omega)).mono ?_
        rintro e W8 ⟨s8, rfl, ho8, hg8⟩
        have HO8 := Lib.hid ho8
        have HG8 : Hid (w.grownBy W8 (some g)) := Lib.hid (grown_trans (grown_below HG.out HN7.out.below) hg8)
        clear ho8 hg8
        go_wp2
        go_ret
        exact ⟨s8, P, rfl, by rw [← HPUT.out]; exact HO8.out, HG8.out, hPk, HLO2.out, HHI2.out⟩
end Go.Proofs.Ytlbalcckjokeiaa
