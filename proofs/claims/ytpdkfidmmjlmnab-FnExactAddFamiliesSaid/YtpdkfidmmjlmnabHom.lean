/-
  Homology lists: both sides by their contracts.
-/
import Derived.Test.YtpdkfidmmjlmnabP4
namespace Go.Proofs.Ytpdkfidmmjlmnab
open Go.RowKit

/-- The rests of a list modulo a reduced one. -/
structure RestsOf (p : Int) (n : Nat) (B C tt : List Lin.V) : Prop where
  rest : ∀ i (h : i < tt.length) (h2 : i < C.length), Lin.Rest p B C[i] B.length tt[i]
  wd : ∀ u ∈ tt, Lin.Wd n u
theorem RestsOf.nil (p : Int) (n : Nat) (B C : List Lin.V) : RestsOf p n B C [] := ⟨fun i h => absurd h (Nat.not_lt_zero _), by simp⟩
theorem RestsOf.push {p : Int} {n : Nat} {B C tt : List Lin.V} (h : RestsOf p n B C tt) {r : Lin.V} (hk : tt.length < C.length) (hr : Lin.Rest p B C[tt.length] B.length r) (hw : Lin.Wd n r) : RestsOf p n B C (tt ++ [r]) := by
  refine ⟨fun i h1 h2 => ?_, fun u hu => ?_⟩
  · by_cases e : i < tt.length
    · rw [List.getElem_append_left e]
      exact h.rest i e h2
    · have e2 : i = tt.length := by simp at h1; omega
      subst e2
      rw [List.getElem_append_right (Nat.le_refl _)]
      simpa using hr
  · rcases List.mem_append.1 hu with h1 | h1
    · exact h.wd u h1
    · rw [List.mem_singleton.1 h1]; exact hw
theorem sp_off {p : Int} {tt B : List Lin.V} (h : ∀ u ∈ tt, ∀ w ∈ B, u (Lin.ld w) = 0) {t : Lin.V} (ht : Lin.Sp p tt t) : ∀ w ∈ B, t (Lin.ld w) = 0 := by
  induction ht with
  | zero => intro w _; rfl
  | step c _ hu ih =>
    intro w hw
    simp [Lin.add, ih w hw, h _ hu w hw]
theorem sp_parts {p : Int} (hp : 0 < p) {tt B : List Lin.V} {v : Lin.V} (h : Lin.Sp p (tt ++ B) v) : ∃ t b, Lin.Sp p tt t ∧ Lin.Sp p B b ∧ v = Lin.add p t 1 b := by
  induction h with
  | zero => exact ⟨Lin.zv, Lin.zv, .zero, .zero, (Lin.add_zv (Lin.zv_md hp) 1).symm⟩
  | step c _ hw ih =>
    obtain ⟨t, b, h1, h2, rfl⟩ := ih
    rcases List.mem_append.1 hw with h3 | h3
    · exact ⟨_, b, .step c h1 h3, h2, Lin.add_swap p t b _ 1 c⟩
    · refine ⟨t, _, h1, .step c h2 h3, ?_⟩
      rw [Lin.add_add, Int.one_mul]
theorem rests_sp {p : Int} (hp : 1 < p) {n : Nat} {B C tt : List Lin.V} (hB : Lin.Red p B) (h : RestsOf p n B C tt) (hl : tt.length = C.length) (v : Lin.V) : Lin.Sp p tt v ↔ Lin.Sp p (C ++ B) v ∧ ∀ w ∈ B, v (Lin.ld w) = 0 := by
  have hp0 : 0 < p := by omega
  have hoff : ∀ u ∈ tt, ∀ w ∈ B, u (Lin.ld w) = 0 := fun u hu w hw => by
    obtain ⟨i, hi, rfl⟩ := List.getElem_of_mem hu
    exact (h.rest i hi (by omega)).off w (by rw [List.take_of_length_le (Nat.le_refl _)]; exact hw)
  have hm : ∀ u ∈ tt, Lin.Md p u := fun u hu => by
    obtain ⟨i, hi, rfl⟩ := List.getElem_of_mem hu
    exact (h.rest i hi (by omega)).md
  constructor
  · intro hv
    refine ⟨Lin.Sp.trans hp0 (fun u hu => ?_) hv, sp_off hoff hv⟩
    obtain ⟨i, hi, rfl⟩ := List.getElem_of_mem hu
    have hic : i < C.length := by omega
    refine Lin.Sp.mono (fun x hx => ?_) (h.rest i hi hic).to
    rcases List.mem_cons.1 hx with rfl | h1
    · exact List.mem_append_left _ (List.getElem_mem hic)
    · exact List.mem_append_right _ h1
  · rintro ⟨hv, h0⟩
    have h1 : Lin.Sp p (tt ++ B) v := Lin.Sp.trans hp0 (fun u hu => by
      rcases List.mem_append.1 hu with h2 | h2
      · obtain ⟨i, hi, rfl⟩ := List.getElem_of_mem h2
        have hit : i < tt.length := by omega
        refine Lin.Sp.mono (fun x hx => ?_) (h.rest i hit hi).of
        rcases List.mem_cons.1 hx with rfl | h3
        · exact List.mem_append_left _ (List.getElem_mem hit)
        · exact List.mem_append_right _ h3
      · exact Lin.Sp.mem (List.mem_append_right _ h2) (hB.md u h2)) hv
    obtain ⟨t, b, ht, hb, rfl⟩ := sp_parts hp0 h1
    have htz := sp_off hoff ht
    have hbz : b = Lin.zv := hB.zero_of hp0 hb (fun w hw => by
      have := h0 w hw
      rw [Lin.add, htz w hw, Int.zero_add, Int.one_mul] at this
      have hbm := hb.md hp0 (Lin.ld w)
      rwa [Lin.md_mod hbm.1 hbm.2] at this)
    rw [hbz, Lin.add_zv (ht.md hp0) 1]
    exact ht

/-- The homology space of a degree. -/
def HomS (p : Int) (ds : List Int) (ms : List (List (List Int))) (q : Nat) (v : Lin.V) : Prop :=
  ∃ C B, SpF p (dimN ds (q : Int)) (CycS p (dimN ds (q : Int)) (cycM ds q) (cycT ds ms q)) C ∧ SpF p (dimN ds (q : Int)) (Lin.Sp p ((tabN ms q).map ofL)) B ∧ Lin.Sp p (C ++ B) v ∧ ∀ w ∈ B, v (Lin.ld w) = 0
theorem homS_of {p : Int} (hp : 1 < p) {ds : List Int} {ms : List (List (List Int))} {q : Nat} {C B tt R : List Lin.V} (hC : SpF p (dimN ds (q : Int)) (CycS p (dimN ds (q : Int)) (cycM ds q) (cycT ds ms q)) C) (hB : SpF p (dimN ds (q : Int)) (Lin.Sp p ((tabN ms q).map ofL)) B)
    (hT : RestsOf p (dimN ds (q : Int)) B C tt) (hl : tt.length = C.length) (hR : Lin.Red p R) (he : Lin.Eqv p R tt) : SpF p (dimN ds (q : Int)) (HomS p ds ms q) R := by
  refine ⟨hR, fun u hu => Lin.Sp.wd hT.wd ((he u).1 (Lin.Sp.mem hu (hR.md u hu))), fun v => ?_⟩
  rw [he v, rests_sp hp hB.1 hT hl v]
  constructor
  · exact fun h => ⟨C, B, hC, hB, h⟩
  · rintro ⟨C', B', hC', hB', h⟩
    have e1 : C = C' := Lin.Red.unique hp hC.1 hC'.1 (fun v => (hC.2.2 v).trans (hC'.2.2 v).symm)
    have e2 : B = B' := Lin.Red.unique hp hB.1 hB'.1 (fun v => (hB.2.2 v).trans (hB'.2.2 v).symm)
    subst e1 e2
    exact h

theorem fill_set (tt : List Lin.V) (m : Nat) (r : Lin.V) : (tt ++ List.replicate (m + 1) Lin.zv).set tt.length r = (tt ++ [r]) ++ List.replicate m Lin.zv := by
  rw [List.set_append_right _ _ (Nat.le_refl _), Nat.sub_self, List.replicate_succ, List.set_cons_zero, List.append_assoc]
  rfl

set_option maxHeartbeats 3200000 in
set_option maxRecDepth 100000 in
theorem spaceOfRests_any (p : Int) (n : Nat) (sc sb : Value) (C B : List Lin.V) (w : World) (hp : IsP p) (hn : n ≤ 40) (hC : Vs 0 w sc C) (hB : Vs 0 w sb B) (hCm : ∀ u ∈ C, Lin.Md p u) (hCw : ∀ u ∈ C, Lin.Wd n u) (hBr : Lin.Red p B) (hBw : ∀ u ∈ B, Lin.Wd n u) (hlc : C.length ≤ 1048575) (hlb : B.length ≤ 1048576) :
    Calls Try.prog 166 #[.int .i64 p, sc, sb] w (VsR (fun R => ∃ tt, RestsOf p n B C tt ∧ tt.length = C.length ∧ RedOf p R tt) w) := by
  have HP := Lib.hid hp
  have HC := Lib.hid hC
  have HB0 := Lib.hid hB
  have HCM := Lib.hid hCm
  have HCW := Lib.hid hCw
  have HBR := Lib.hid hBr
  have HBW := Lib.hid hBw
  obtain ⟨ac, cc, rfl⟩ := Vs.shape hC
  clear hp hC hB hCm hCw hBr hBw
  go_enter Try.func166, Try.ntmps166
  go_wp2_with (with_reducible refine wpList_makeV rfl (some 12) rfl (.tmp 11) rfl C.length rfl (by omega) ?_; intro W1 hw1 hb1; have HX1 := Lib.hid hw1; have HB1 := Lib.hid hb1; clear hw1 hb1)
  go_wp2
  go_loopw [8, 9, 15] (fun _ _ i wr => ∃ (k : Nat) (tt : List Lin.V), k ≤ C.length ∧ i = .int .i64 k ∧ tt.length = k ∧ Hid (Below w.heap.size w wr) ∧ Hid (Ox w.heap.size wr w.heap.size C.length (tt ++ List.replicate (C.length - k) Lin.zv)) ∧ Hid (RestsOf p n B C tt)) (fun _ _ i _ => C.length - (intOf i).toNat)
  case atStart => exact ⟨0, [], Nat.zero_le _, rfl, rfl, HB1, HX1, Lib.hid (RestsOf.nil p n B C)⟩
  case round =>
    clear HX1 HB1
    obtain ⟨k, tt, hk, rfl, hTl, HB, HX, HR⟩ := hrel
    obtain ⟨wx, hwx⟩ : ∃ wx : World, wx = wr := ⟨_, rfl⟩
    subst hwx
    by_cases hlt : k < C.length
    · refine Vs.cases (HC.out.below HB.out) (fun _ _ hx _ => absurd hlt (by simp [hx])) (fun b o cap2 hv _ _ hc => ?_)
      obtain ⟨rfl, rfl⟩ : ac = some ⟨b, o, none⟩ ∧ cc = cap2 := by simpa using hv
      obtain ⟨u, hu⟩ : ∃ u, u = C[k] := ⟨_, rfl⟩
      have HVA : Hid (At wx b (o + k * 40) u) := Lib.hid (by rw [hu]; exact hc k hlt)
      have HI2V := Lib.hid (Try.infoVl u)
      have HIS : Hid ((Try.prog.info? 161).map (·.size) = some (vl u).toArray.size) := Lib.hid (by have := HI2V.out; simpa using this)
      have HUM : Hid (Lin.Md p u) := Lib.hid (by rw [hu]; exact HCM.out _ (List.getElem_mem hlt))
      have HUW : Hid (Lin.Wd n u) := Lib.hid (by rw [hu]; exact HCW.out _ (List.getElem_mem hlt))
      have HUE : Hid (∀ (h : tt.length < C.length), C[tt.length] = u) := Lib.hid (fun h => by
        subst hTl
        exact hu.symm)
      have hsz : w.heap.size ≤ wx.heap.size := HB.out.size
      clear hv hc hu
      go_upto_region 5 with (first | (with_reducible refine wpList_load_mid rfl 161 (.tmp 18) rfl b (o + k * 40) rfl (vl u) _ HVA.out.range Try.underlyingV rfl HI2V.out ?_) | (with_reducible refine wpList_allocV rfl (some 9) rfl rfl ?_; intro W2 hn2; have HN2 := Lib.hid hn2; have HT2 : Hid (W2.there wx.heap.size 0 (vl u).toArray.size) := (Lib.hid (by have := hn2.there; simpa [vl_length] using this)); clear hn2) | (with_reducible refine wpList_store_mid rfl 161 (.tmp 9) (.tmp 19) rfl wx.heap.size 0 (vl u).toArray rfl rfl HT2.out HIS.out (vl_all _) ?_))
      refine forget_wp (fun W => Hid (At W wx.heap.size 0 u ∧ Below wx.heap.size wx W)) (Lib.hid ?_) ?_
      · have hp2 := HN2.out.put u
        exact ⟨hp2.2.1, hp2.1⟩
      intro W3 HS3
      clear HN2 HT2 HVA HIS
      have HB3 := Lib.hid (HB.out.trans (HS3.out.2.mono hsz))
      have HREST := Lib.hid (restModulo_any p u sb B W3 HP.out HUM.out (wd_wider HUW.out hn) (HB0.out.below HB3.out) HBR.out (fun x hx => wd_wider (HBW.out x hx) hn) hlb)
      go_wp2_with (with_reducible refine wpList_load_mid rfl 161 (.tmp 9) rfl wx.heap.size 0 rfl (vl u) _ HS3.out.1.range Try.underlyingV rfl HI2V.out ?_)
      refine HREST.out.mono ?_
      rintro e W4 ⟨r, rfl, hb4, hr4, _⟩
      have HB4 := Lib.hid (HB3.out.trans (hb4.mono HB3.out.size))
      have hkT : k < (tt ++ List.replicate (C.length - k) Lin.zv).length := by simp [hTl]; omega
      have HP4 := Lib.hid (((HX.out.below HS3.out.2).below hb4).put (k := k) hkT r)
      have HRW : Hid (Lin.Wd n r) := Lib.hid (Lin.Sp.wd (fun x hx => by
        rcases List.mem_cons.1 hx with rfl | h
        · exact HUW.out
        · exact HBW.out x h) hr4.to)
      have HR5 : Hid (RestsOf p n B C (tt ++ [r])) := Lib.hid (HR.out.push (by omega) (by rw [HUE.out (by omega)]; exact hr4) HRW.out)
      have HX5 : Hid (Ox w.heap.size (W4.setCells w.heap.size (k * 40) (vl r)) w.heap.size C.length ((tt ++ [r]) ++ List.replicate (C.length - (k + 1)) Lin.zv)) := Lib.hid (by
        have h := HP4.out.1
        have e : (tt ++ List.replicate (C.length - k) Lin.zv).set k r = (tt ++ [r]) ++ List.replicate (C.length - (k + 1)) Lin.zv := by
          rw [show C.length - k = (C.length - (k + 1)) + 1 by omega]
          subst hTl
          exact fill_set tt _ r
        rw [e] at h
        exact h)
      have HB5 : Hid (Below w.heap.size w (W4.setCells w.heap.size (k * 40) (vl r))) := Lib.hid (below_setCells _ (Nat.le_refl _) _ _ _ HB4.out)
      have HIr := Lib.hid (Try.infoVl r)
      have HI2 : Hid ((Try.prog.info? 161).map (·.size) = some (vl r).toArray.size) := Lib.hid (by have := HIr.out; simpa using this)
      have HTH : Hid (W4.there w.heap.size (k * 40) (vl r).toArray.size) := Lib.hid (by have := HP4.out.2; simpa [vl_length] using this)
      unfold vv
      clear hb4 hr4 HX HREST HS3 hkT HP4
      go_wp2_with (with_reducible refine wpList_store_mid rfl 161 (.tmp 26) (.tmp 25) rfl w.heap.size (k * 40) (vl r).toArray rfl rfl HTH.out HI2.out (vl_all _) ?_)
      go_roundw
      case rel => exact ⟨k + 1, tt ++ [r], by omega, by go_num, by simp [hTl], HB5, HX5, HR5⟩
      case measure => simp [intOf]; omega
    · have hTL : tt.length = C.length := by omega
      have HOV : Hid (Vs 0 wx (.slice (some ⟨w.heap.size, 0, none⟩) C.length C.length) tt) := Lib.hid (by
        have h := HX.out.own
        rw [show C.length - k = 0 by omega, List.replicate_zero, List.append_nil, hTL] at h
        exact h.vs.lower (Nat.zero_le _))
      have HTM : Hid (∀ x ∈ tt, Lin.Md p x) := Lib.hid (fun x hx => by
        obtain ⟨i, hi, rfl⟩ := List.getElem_of_mem hx
        exact (HR.out.rest i hi (by omega)).md)
      go_wp2_with fail
      refine (reducedList_any p _ tt _ HP.out HOV.out HTM.out (fun x hx => wd_wider (HR.out.wd x hx) hn) (by omega)).mono ?_
      rintro e W9 ⟨s9, R9, rfl, hb9, ho9, hr9, _⟩
      have hsz : w.heap.size ≤ wx.heap.size := HB.out.size
      have HB9 := Lib.hid (HB.out.trans (hb9.mono hsz))
      have HO9 : Hid (Ow w.heap.size W9 s9 R9) := Lib.hid ⟨ho9.1, ho9.2.imp id (fun ⟨g, cap, cur, h1, h2, h3⟩ => ⟨g, cap, cur, h1, Nat.le_trans hsz h2, h3⟩)⟩
      have HR9 := Lib.hid hr9
      clear hb9 ho9 hr9
      go_wp2
      go_ret
      exact ⟨_, R9, rfl, HB9.out, HO9.out, tt, HR.out, hTL, HR9.out⟩

/-- A table that is being gathered: the empty literal yet, or rows of its own. -/
def GsE (base g : Nat) (w : World) (v : Value) (tb : List (List Int)) : Prop := (tb = [] ∧ v = .slice (some ⟨g, 0, none⟩) 0 0) ∨ Gs base w v tb
theorem GsE.below {base g : Nat} {w w' : World} {v : Value} {tb : List (List Int)} (h : GsE base g w v tb) (hb : Below w.heap.size w w') : GsE base g w' v tb := h.imp id (fun h => h.below hb)
theorem GsE.l2 {base g : Nat} {w : World} {v : Value} {tb : List (List Int)} (h : GsE base g w v tb) : L2 0 w v tb := by
  rcases h with ⟨rfl, rfl⟩ | h
  · exact Or.inl ⟨rfl, _, _, rfl⟩
  · exact h.l2
section
variable {md : Region.Mode} {ops : Array Oper} {Q : Exit → Act → World → Prop} {S : World → Prop}
theorem held_appendE {i : Nat} {oi : Oper} {fuel : Nat} {listed : Array Bool} {a : Act} {w : World} (d : Option Tmp) (hr : Region.ready md ops listed = [i]) (hi : ops[i]? = some oi) (hg : oi.guard = none) (hd : oi.dst = d)
    (s x : Operand) (ho : oi.op = .call { callee := .builtin .append, args := #[s, x], argTypes := #[26, 26] }) (base g : Nat) (v : Value) (tb : List (List Int)) (hs : a.eval s = v) (hst : GsE base g w v tb)
    (b : Nat) (ad : Option Addr) (m c : Nat) (hx : a.eval x = .slice (some ⟨b, 0, none⟩) 1 1) (hc : w.cell? ⟨b, 0, none⟩ = some (.slice ad m c)) (y : List Int) (hy : G1 w (.slice ad m c) y) (hn : tb.length ≤ 1048576) (hb : base ≤ w.heap.size)
    (h : ∀ v' w', Gs base w' v' (tb ++ [y]) → Below base w w' → S w' ∧ wpAnyH Try.prog md ops Q S fuel (listed.setIfInBounds i true) (a.put d v') w') : wpAnyH Try.prog md ops Q S (fuel + 1) listed a w := by
  rcases hst with ⟨rfl, rfl⟩ | hG
  · obtain ⟨ie, hie, hz, h1, h2⟩ := info_parts Try.infoS
    subst hd
    have hrun := fun ty => run_append_grow (P := Try.prog) w 26 ty 22 ie _ Try.underlying26 hie hz ⟨g, 0, none⟩ 0 0 [] (by simp) (by simp) ⟨b, 0, none⟩ 1 1 [.slice ad m c] (by rw [h1]; rfl) (fun j u hj => by
      match j, hj with
      | 0, hj =>
        simp at hj
        subst hj
        exact hc) (by omega) (by omega) (by rw [h2]; exact growslice_fits (by omega) (by omega))
    obtain ⟨G, hG⟩ : ∃ G, G = grownCap w (0 + 1) 0 22 := ⟨_, rfl⟩
    rw [← hG] at hrun
    have hGn : 1 ≤ G := by rw [hG]; exact grownCap_ge w _ _ _
    have hGm : G ≤ maxLen := by rw [hG]; exact grownCap_le_maxLen w 1 0 _ (by unfold maxLen; omega)
    obtain ⟨ROW, hROW⟩ : ∃ ROW : Array Value, ROW = ([] : List Value).toArray ++ [Value.slice ad m c].toArray ++ Builtin.zeroCells (Value.slice none 0 0).cells (G - (0 + 1)) := ⟨_, rfl⟩
    rw [← hROW] at hrun
    have hsz : ROW.size = G := by
      rw [hROW]
      simp [Builtin.zeroCells, Value.cells]
      omega
    have hown : (w.drew.alloc (.cells ROW 22)).ownsRow base 22 1 (.slice (some ⟨w.heap.size, 0, none⟩) 1 G) 1 [.slice ad m c] :=
      ⟨rfl, Or.inr ⟨w.heap.size, G, ROW, rfl, hb, heap_alloc_new w.drew _, hGn, hGm, by rw [hsz]; omega, by rw [hROW]; simp⟩⟩
    have hbel : Below w.heap.size w (w.drew.alloc (.cells ROW 22)) := (Below.refl _ _).drew.alloc (Nat.le_refl _) _
    have hgs : Gs base (w.drew.alloc (.cells ROW 22)) (.slice (some ⟨w.heap.size, 0, none⟩) 1 G) ([] ++ [y]) := ⟨[.slice ad m c], hown, fun k h1 h2 => by
      have hk : k = 0 := by simpa using h1
      subst hk
      exact hy.below hbel⟩
    refine held_call hr hi hg (Lib.wp_append_run w s x 26 26 ho _ _ hs hx _ _ (hrun _) (h _ _ hgs (hbel.mono hb)))
  · obtain ⟨vs, hvo, hvr⟩ := hG
    refine held_appendS d hr hi hg hd s x ho base v tb.length vs hs hvo b ad m c hx hc (by omega) hb (fun v' w' hown hgrow => h v' w' (Gs.push hvo hvr hy hown hgrow) ((Below.refl _ _).grown hgrow hb (fun g hg => (World.ownsRow.lt hvo g hg).1)))
end

end Go.Proofs.Ytpdkfidmmjlmnab
