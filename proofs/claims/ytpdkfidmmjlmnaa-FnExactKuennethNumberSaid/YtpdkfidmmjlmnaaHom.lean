/-
  Homology lists: both sides by their contracts.
-/
import Derived.Test.YtpdkfidmmjlmnaaP4
namespace Go.Proofs.Ytpdkfidmmjlmnaa
open Go.RowKit

/-- The rests of a list modulo a reduced one. -/
structure RestsOf (p : Int) (n : Nat) (B C tt : List Lin.V) : Prop where
  rest : ∀ i (h : i < tt.length) (h2 : i < C.length), Lin.Rest p B C[i] B.length tt[i]
  wd : ∀ u ∈ tt, Lin.Wd n u
theorem RestsOf.nil (p : Int) (n : Nat) (B C : List Lin.V) : RestsOf p n B C [] := ⟨fun i h => absurd h (Nat.not_lt_zero _), by simp⟩
theorem RestsOf.push {p : Int} {n : Nat} {B C tt : List Lin.V} (h : RestsOf p n B C tt) {r : Lin.V} (hk : tt.length < C.length) (hr : Lin.Rest p B C[tt.length] B.length r) (hw : Lin.Wd n r) : RestsOf p n B C (tt ++ [r]) := by
  refine ⟨fun i h1 h2 => ?_, fun u hu => ?_⟩
  · by_cases e : i < tt.length
    · rw [List.getElem_append_left e]
      exact h.rest i e h2
    · have e2 : i = tt.length := by simp at h1; omega
      subst e2
      rw [List.getElem_append_right (Nat.le_refl _)]
      simpa using hr
  · rcases List.mem_append.1 hu with h1 | h1
    · exact h.wd u h1
    · rw [List.mem_singleton.1 h1]; exact hw
theorem sp_off {p : Int} {tt B : List Lin.V} (h : ∀ u ∈ tt, ∀ w ∈ B, u (Lin.ld w) = 0) {t : Lin.V} (ht : Lin.Sp p tt t) : ∀ w ∈ B, t (Lin.ld w) = 0 := by
  induction ht with
  | zero => intro w _; rfl
  | step c _ hu ih =>
    intro w hw
    simp [Lin.add, ih w hw, h _ hu w hw]
theorem sp_parts {p : Int} (hp : 0 < p) {tt B : List Lin.V} {v : Lin.V} (h : Lin.Sp p (tt ++ B) v) : ∃ t b, Lin.Sp p tt t ∧ Lin.Sp p B b ∧ v = Lin.add p t 1 b := by
  induction h with
  | zero => exact ⟨Lin.zv, Lin.zv, .zero, .zero, (Lin.add_zv (Lin.zv_md hp) 1).symm⟩
  | step c _ hw ih =>
    obtain ⟨t, b, h1, h2, rfl⟩ := ih
    rcases List.mem_append.1 hw with h3 | h3
    · exact ⟨_, b, .step c h1 h3, h2, Lin.add_swap p t b _ 1 c⟩
    · refine ⟨t, _, h1, .step c h2 h3, ?_⟩
      rw [Lin.add_add, Int.one_mul]
theorem rests_sp {p : Int} (hp : 1 < p) {n : Nat} {B C tt : List Lin.V} (hB : Lin.Red p B) (h : RestsOf p n B C tt) (hl : tt.length = C.length) (v : Lin.V) : Lin.Sp p tt v ↔ Lin.Sp p (C ++ B) v ∧ ∀ w ∈ B, v (Lin.ld w) = 0 := by
  have hp0 : 0 < p := by omega
  have hoff : ∀ u ∈ tt, ∀ w ∈ B, u (Lin.ld w) = 0 := fun u hu w hw => by
    obtain ⟨i, hi, rfl⟩ := List.getElem_of_mem hu
    exact (h.rest i hi (by omega)).off w (by rw [List.take_of_length_le (Nat.le_refl _)]; exact hw)
  have hm : ∀ u ∈ tt, Lin.Md p u := fun u hu => by
    obtain ⟨i, hi, rfl⟩ := List.getElem_of_mem hu
    exact (h.rest i hi (by omega)).md
  constructor
  · intro hv
    refine ⟨Lin.Sp.trans hp0 (fun u hu => ?_) hv, sp_off hoff hv⟩
    obtain ⟨i, hi, rfl⟩ := List.getElem_of_mem hu
    have hic : i < C.length := by omega
    refine Lin.Sp.mono (fun x hx => ?_) (h.rest i hi hic).to
    rcases List.mem_cons.1 hx with rfl | h1
    · exact List.mem_append_left _ (List.getElem_mem hic)
    · exact List.mem_append_right _ h1
  · rintro ⟨hv, h0⟩
    have h1 : Lin.Sp p (tt ++ B) v := Lin.Sp.trans hp0 (fun u hu => by
      rcases List.mem_append.1 hu with h2 | h2
      · obtain ⟨i, hi, rfl⟩ := List.getElem_of_mem h2
        have hit : i < tt.length := by omega
        refine Lin.Sp.mono (fun x hx => ?_) (h.rest i hit hi).of
        rcases List.mem_cons.1 hx with rfl | h3
        · exact List.mem_append_left _ (List.getElem_mem hit)
        · exact List.mem_append_right _ h3
      · exact Lin.Sp.mem (List.mem_append_right _ h2) (hB.md u h2)) hv
    obtain ⟨t, b, ht, hb, rfl⟩ := sp_parts hp0 h1
    have htz := sp_off hoff ht
    have hbz : b = Lin.zv := hB.zero_of hp0 hb (fun w hw => by
      have := h0 w hw
      rw [Lin.add, htz w hw, Int.zero_add, Int.one_mul] at this
      have hbm := hb.md hp0 (Lin.ld w)
      rwa [Lin.md_mod hbm.1 hbm.2] at this)
    rw [hbz, Lin.add_zv (ht.md hp0) 1]
    exact ht

/-- The homology space of a degree. -/
def HomS (p : Int) (ds : List Int) (ms : List (List (List Int))) (q : Nat) (v : Lin.V) : Prop :=
  ∃ C B, SpF p (dimN ds (q : Int)) (CycS p (dimN ds (q : Int)) (cycM ds q) (cycT ds ms q)) C ∧ SpF p (dimN ds (q : Int)) (Lin.Sp p ((tabN ms q).map ofL)) B ∧ Lin.Sp p (C ++ B) v ∧ ∀ w ∈ B, v (Lin.ld w) = 0
theorem homS_of {p : Int} (hp : 1 < p) {ds : List Int} {ms : List (List (List Int))} {q : Nat} {C B tt R : List Lin.V} (hC : SpF p (dimN ds (q : Int)) (CycS p (dimN ds (q : Int)) (cycM ds q) (cycT ds ms q)) C) (hB : SpF p (dimN ds (q : Int)) (Lin.Sp p ((tabN ms q).map ofL)) B)
    (hT : RestsOf p (dimN ds (q : Int)) B C tt) (hl : tt.length = C.length) (hR : Lin.Red p R) (he : Lin.Eqv p R tt) : SpF p (dimN ds (q : Int)) (HomS p ds ms q) R := by
  refine ⟨hR, fun u hu => Lin.Sp.wd hT.wd ((he u).1 (Lin.Sp.mem hu (hR.md u hu))), fun v => ?_⟩
  rw [he v, rests_sp hp hB.1 hT hl v]
  constructor
  · exact fun h => ⟨C, B, hC, hB, h⟩
  · rintro ⟨C', B', hC', hB', h⟩
    have e1 : C = C' := Lin.Red.unique hp hC.1 hC'.1 (fun v => (hC.2.2 v).trans (hC'.2.2 v).symm)
    have e2 : B = B' := Lin.Red.unique hp hB.1 hB'.1 (fun v => (hB.2.2 v).trans (hB'.2.2 v).symm)
    subst e1 e2
    exact h

theorem fill_set (tt : List Lin.V) (m : Nat) (r : Lin.V) : (tt ++ List.replicate (m + 1) Lin.zv).set tt.length r = (tt ++ [r]) ++ List.replicate m Lin.zv := by
  rw [List.set_append_right _ _ (Nat.le_refl _), Nat.sub_self, List.replicate_succ, List.set_cons_zero, List.append_assoc]
  rfl

set_option maxHeartbeats 3200000 in
set_option maxRecDepth 100000 in
theorem spaceOfRests_any (p : Int) (n : Nat) (sc sb : Value) (C B : List Lin.V) (w : World) (hp : IsP p) (hn : n ≤ 40) (hC : Vs 0 w sc C) (hB : Vs 0 w sb B) (hCm : ∀ u ∈ C, Lin.Md p u) (hCw : ∀ u ∈ C, Lin.Wd n u) (hBr : Lin.Red p B) (hBw : ∀ u ∈ B, Lin.Wd n u) (hlc : C.length ≤ 1048575) (hlb : B.length ≤ 1048576) :
    Calls Try.prog 159 #[.int .i64 p, sc, sb] w (VsR (fun R => ∃ tt, RestsOf p n B C tt ∧ tt.length = C.length ∧ RedOf p R tt) w) := by
  have HP := Lib.hid hp
  have HC := Lib.hid hC
  have HB0 := Lib.hid hB
  have HCM := Lib.hid hCm
  have HCW := Lib.hid hCw
  have HBR := Lib.hid hBr
  have HBW := Lib.hid hBw
  obtain ⟨ac, cc, rfl⟩ := Vs.shape hC
  clear hp hC hB hCm hCw hBr hBw
  go_enter Try.func159, Try.ntmps159
  go_wp2_with (with_reducible refine wpList_makeV rfl (some 12) rfl (.tmp 11) rfl C.length rfl (by omega) ?_; intro W1 hw1 hb1; have HX1 := Lib.hid hw1; have HB1 := Lib.hid hb1; clear hw1 hb1)
  go_wp2
  go_loopw [8, 9, 15] (fun _ _ i wr => ∃ (k : Nat) (tt : List Lin.V), k ≤ C.length ∧ i = .int .i64 k ∧ tt.length = k ∧ Hid (Below w.heap.size w wr) ∧ Hid (Ox w.heap.size wr w.heap.size C.length (tt ++ List.replicate (C.length - k) Lin.zv)) ∧ Hid (RestsOf p n B C tt)) (fun _ _ i _ => C.length - (intOf i).toNat)
  case atStart => exact ⟨0, [], Nat.zero_le _, rfl, rfl, HB1, HX1, Lib.hid (RestsOf.nil p n B C)⟩
  case round =>
    clear HX1 HB1
    obtain ⟨k, tt, hk, rfl, hTl, HB, HX, HR⟩ := hrel
    obtain ⟨wx, hwx⟩ : ∃ wx : World, wx = wr := ⟨_, rfl⟩
    subst hwx
    by_cases hlt : k < C.length
    · refine Vs.cases (HC.out.below HB.out) (fun _ _ hx _ => absurd hlt (by simp [hx])) (fun b o cap2 hv _ _ hc => ?_)
      obtain ⟨rfl, rfl⟩ : ac = some ⟨b, o, none⟩ ∧ cc = cap2 := by simpa using hv
      obtain ⟨u, hu⟩ : ∃ u, u = C[k] := ⟨_, rfl⟩
      have HVA : Hid (At wx b (o + k * 40) u) := Lib.hid (by rw [hu]; exact hc k hlt)
      have HI2V := Lib.hid (Try.infoVl u)
      have HIS : Hid ((Try.prog.info? 134).map (·.size) = some (vl u).toArray.size) := Lib.hid (by have := HI2V.out; simpa using this)
      have HUM : Hid (Lin.Md p u) := Lib.hid (by rw [hu]; exact HCM.out _ (List.getElem_mem hlt))
      have HUW : Hid (Lin.Wd n u) := Lib.hid (by rw [hu]; exact HCW.out _ (List.getElem_mem hlt))
      have HUE : Hid (∀ (h : tt.length < C.length), C[tt.length] = u) := Lib.hid (fun h => by
        subst hTl
        exact hu.symm)
      have hsz : w.heap.size ≤ wx.heap.size := HB.out.size
      clear hv hc hu
      go_upto_region 5 with (first | (with_reducible refine wpList_load_mid rfl 134 (.tmp 18) rfl b (o + k * 40) rfl (vl u) _ HVA.out.range Try.underlyingV rfl HI2V.out ?_) | (with_reducible refine wpList_allocV rfl (some 9) rfl rfl ?_; intro W2 hn2; have HN2 := Lib.hid hn2; have HT2 : Hid (W2.there wx.heap.size 0 (vl u).toArray.size) := (Lib.hid (by have := hn2.there; simpa [vl_length] using this)); clear hn2) | (with_reducible refine wpList_store_mid rfl 134 (.tmp 9) (.tmp 19) rfl wx.heap.size 0 (vl u).toArray rfl rfl HT2.out HIS.out (vl_all _) ?_))
      refine forget_wp (fun W => Hid (At W wx.heap.size 0 u ∧ Below wx.heap.size wx W)) (Lib.hid ?_) ?_
      · have hp2 := HN2.out.put u
        exact ⟨hp2.2.1, hp2.1⟩
      intro W3 HS3
      clear HN2 HT2 HVA HIS
      have HB3 := Lib.hid (HB.out.trans (HS3.out.2.mono hsz))
      have HREST := Lib.hid (restModulo_any p u sb B W3 HP.out HUM.out (wd_wider HUW.out hn) (HB0.out.below HB3.out) HBR.out (fun x hx => wd_wider (HBW.out x hx) hn) hlb)
      go_wp2_with (with_reducible refine wpList_load_mid rfl 134 (.tmp 9) rfl wx.heap.size 0 rfl (vl u) _ HS3.out.1.range Try.underlyingV rfl HI2V.out ?_)
      refine HREST.out.mono ?_
      rintro e W4 ⟨r, rfl, hb4, hr4, _⟩
      have HB4 := Lib.hid (HB3.out.trans (hb4.mono HB3.out.size))
      have hkT : k < (tt ++ List.replicate (C.length - k) Lin.zv).length := by simp [hTl]; omega
      have HP4 := Lib.hid (((HX.out.below HS3.out.2).below hb4).put (k := k) hkT r)
      have HRW : Hid (Lin.Wd n r) := Lib.hid (Lin.Sp.wd (fun x hx => by
        rcases List.mem_cons.1 hx with rfl | h
        · exact HUW.out
        · exact HBW.out x h) hr4.to)
      have HR5 : Hid (RestsOf p n B C (tt ++ [r])) := Lib.hid (HR.out.push (by omega) (by rw [HUE.out (by omega)]; exact hr4) HRW.out)
      have HX5 : Hid (Ox w.heap.size (W4.setCells w.heap.size (k * 40) (vl r)) w.heap.size C.length ((tt ++ [r]) ++ List.replicate (C.length - (k + 1)) Lin.zv)) := Lib.hid (by
        have h := HP4.out.1
        have e : (tt ++ List.replicate (C.length - k) Lin.zv).set k r = (tt ++ [r]) ++ List.replicate (C.length - (k + 1)) Lin.zv := by
          rw [show C.length - k = (C.length - (k + 1)) + 1 by omega]
          subst hTl
          exact fill_set tt _ r
        rw [e] at h
        exact h)
      have HB5 : Hid (Below w.heap.size w (W4.setCells w.heap.size (k * 40) (vl r))) := Lib.hid (below_setCells _ (Nat.le_refl _) _ _ _ HB4.out)
      have HIr := Lib.hid (Try.infoVl r)
      have HI2 : Hid ((Try.prog.info? 134).map (·.size) = some (vl r).toArray.size) := Lib.hid (by have := HIr.out; simpa using this)
      have HTH : Hid (W4.there w.heap.size (k * 40) (vl r).toArray.size) := Lib.hid (by have := HP4.out.2; simpa [vl_length] using this)
      unfold vv
      clear hb4 hr4 HX HREST HS3 hkT HP4
      go_wp2_with (with_reducible refine wpList_store_mid rfl 134 (.tmp 26) (.tmp 25) rfl w.heap.size (k * 40) (vl r).toArray rfl rfl HTH.out HI2.out (vl_all _) ?_)
      go_roundw
      case rel => exact ⟨k + 1, tt ++ [r], by omega, by go_num, by simp [hTl], HB5, HX5, HR5⟩
      case measure => simp [intOf]; omega
    · have hTL : tt.length = C.length := by omega
      have HOV : Hid (Vs 0 wx (.slice (some ⟨w.heap.size, 0, none⟩) C.length C.length) tt) := Lib.hid (by
        have h := HX.out.own
        rw [show C.length - k = 0 by omega, List.replicate_zero, List.append_nil, hTL] at h
        exact h.vs.lower (Nat.zero_le _))
      have HTM : Hid (∀ x ∈ tt, Lin.Md p x) := Lib.hid (fun x hx => by
        obtain ⟨i, hi, rfl⟩ := List.getElem_of_mem hx
        exact (HR.out.rest i hi (by omega)).md)
      go_wp2_with fail
      refine (reducedList_any p _ tt _ HP.out HOV.out HTM.out (fun x hx => wd_wider (HR.out.wd x hx) hn) (by omega)).mono ?_
      rintro e W9 ⟨s9, R9, rfl, hb9, ho9, hr9, _⟩
      have hsz : w.heap.size ≤ wx.heap.size := HB.out.size
      have HB9 := Lib.hid (HB.out.trans (hb9.mono hsz))
      have HO9 : Hid (Ow w.heap.size W9 s9 R9) := Lib.hid ⟨ho9.1, ho9.2.imp id (fun ⟨g, cap, cur, h1, h2, h3⟩ => ⟨g, cap, cur, h1, Nat.le_trans hsz h2, h3⟩)⟩
      have HR9 := Lib.hid hr9
      clear hb9 ho9 hr9
      go_wp2
      go_ret
      exact ⟨_, R9, rfl, HB9.out, HO9.out, tt, HR.out, hTL, HR9.out⟩

set_option maxHeartbeats 1600000 in
set_option maxRecDepth 100000 in
theorem homologySpace_any (p : Int) (q : Nat) (dv mv : Value) (ds : List Int) (ms : List (List (List Int))) (w : World) (h : Cx 0 w dv mv ds ms) (hcx : IsCx p ds ms) (hq : q < ds.length) :
    Calls Try.prog 101 #[.agg #[.int .i64 p, dv, mv], .int .i64 q] w (VsR (SpF p (dimN ds (q : Int)) (HomS p ds ms q)) w) := by
  have HX0 := Lib.hid (Bx.start (p := p) 28 h)
  obtain ⟨ad, cap, rfl⟩ := Sl.shape h.dims
  obtain ⟨am, capm, rfl⟩ := Sl.shape h.maps
  have HCX := Lib.hid hcx
  have hd8 := (dimN_le8 hcx q).1
  have hp1 := hcx.1.prime.lo1
  have c0 := HX0.out.c0
  have c1 := HX0.out.c1
  have c2 := HX0.out.c2
  clear h hcx
  go_enter Try.func101, Try.ntmps101
  go_wp2
  go_region_held3 (fun w' => w'.cell? ⟨w.heap.size, 0, none⟩ = some (.int .i64 p) ∧ w'.cell? ⟨w.heap.size, 1, none⟩ = some (.slice ad ds.length cap) ∧ w'.cell? ⟨w.heap.size, 2, none⟩ = some (.slice am ms.length capm) ∧ Hid (Bx w w' w.heap.size p (.slice ad ds.length cap) (.slice am ms.length capm) ds ms))
    (first | exact ⟨HX0.out.c0, HX0.out.c1, HX0.out.c2, HX0⟩ | exact ⟨HX0.out.c0, HX0.out.c1, HX0.out.c2, Lib.hid (HX0.out.next (Below.refl _ _).drew)⟩ | exact ⟨HX3.out.c0, HX3.out.c1, HX3.out.c2, HX3⟩ | exact ⟨HX4.out.c0, HX4.out.c1, HX4.out.c2, HX4⟩ | exact ⟨HX5.out.c0, HX5.out.c1, HX5.out.c2, HX5⟩ | go_keep)
    (first
      | (go_at_call 96; refine (cycleSpace_any p q _ _ ds ms _ ?_ HCX.out hq).mono ?_; (exact (HX0.out.next (Below.refl _ _).drew).cx); rintro e w3 ⟨s3, C, rfl, hb3, ho3, hr3⟩; have HX3 := Lib.hid ((HX0.out.next (Below.refl _ _).drew).next hb3); have HR3 := Lib.hid hr3; have hl3 := hr3.short; have HO3 := Lib.hid (ho3.vs.lower (Nat.zero_le _)); clear ho3 hb3 hr3)
      | (go_at_call 98; refine (boundarySpace_any p q _ _ ds ms _ HX3.out.cx HCX.out).mono ?_; rintro e w4 ⟨s4, B, rfl, hb4, ho4, hr4⟩; have HX4 := Lib.hid (HX3.out.next hb4); have HR4 := Lib.hid hr4; have hl4 := hr4.short; have HO4 := Lib.hid (And.intro (ho4.vs.lower (Nat.zero_le _)) (HO3.out.below hb4)); clear ho4 hb4 hr4)
      | (go_at_call 159; refine (spaceOfRests_any p (dimN ds (q : Int)) s3 s4 C B _ HCX.out.1.prime (by omega) HO4.out.2 HO4.out.1 HR3.out.1.md HR3.out.2.1 HR4.out.1 HR4.out.2.1 (by omega) (by omega)).mono ?_; rintro e w5 ⟨s5, R, rfl, hb5, ho5, hr5⟩; have HX5 := Lib.hid (HX4.out.next hb5); have HO5 := Lib.hid (And.intro ho5 HX4.out.below.size); have HR5 := Lib.hid hr5; clear ho5 hb5 hr5))
  go_wp2
  go_ret
  obtain ⟨tt, h1, h2, h3⟩ := HR5.out
  exact ⟨s5, R, rfl, HX5.out.below, ⟨HO5.out.1.1, HO5.out.1.2.imp id (fun ⟨g, cap, cur, h1, h2, h3⟩ => ⟨g, cap, cur, h1, Nat.le_trans HO5.out.2 h2, h3⟩)⟩, homS_of hp1 HR3.out HR4.out h1 h2 h3.red h3.eqv⟩
set_option maxHeartbeats 3200000 in
set_option maxRecDepth 100000 in
theorem spaceAt_hom (p n : Int) (S : Lin.V → Prop) (dv mv : Value) (ds : List Int) (ms : List (List (List Int))) (w : World) (h : Cx 0 w dv mv ds ms) (hd : ds.length ≤ 1048576) (hm : Bd3 1048576 ms)
    (hf : IsCx p ds ms → 0 ≤ n ∧ n ≤ (ds.length : Int) - 1 → ∀ W, Cx 0 W dv mv ds ms → Calls Try.prog 101 #[.agg #[.int .i64 p, dv, mv], .int .i64 n] W (VsR (SpF p (dimN ds n) S) W)) :
    Calls Try.prog 95 #[.agg #[.int .i64 p, dv, mv], .int .i64 n, .func (.func 101) #[] #[]] w (SpW p (dimN ds n) S (cxCode p ds ms n) w) := by
  have HX0 := Lib.hid (Bx.start (p := p) 28 h)
  have HCK := Lib.hid (checkDegree_any p n dv mv ds ms _ HX0.out.cx hd hm)
  have HF := Lib.hid hf
  obtain ⟨ad, cap, hdv⟩ := Sl.shape h.dims
  clear h hm hf
  by_cases hcode : cxCode p ds ms n = 0
  · obtain ⟨hcx, hr⟩ := cxCode_zero hcode
    obtain ⟨q, rfl⟩ : ∃ q : Nat, n = (q : Int) := ⟨n.toNat, by have := hr.1; omega⟩
    have hq : q < ds.length := by have := hr.2; omega
    have HCX := Lib.hid hcx
    have HR := Lib.hid hr
    have HCODE := Lib.hid hcode
    refine Sl.cases HX0.out.cx.dims (fun _ _ hx _ => absurd hq (by simp [hx])) (fun bd od capd hvd _ _ _ => ?_)
    subst hvd
    have hdim := hcx.1.dim q
    obtain ⟨c, hc⟩ := Int.eq_ofNat_of_zero_le hdim.1
    have hc8 : c ≤ 8 := by omega
    have HDN : Hid (dimN ds (q : Int) = c) := Lib.hid (by unfold dimN; rw [Int.toNat_natCast, hc]; rfl)
    have HC := Lib.hid hc
    clear hcx hr hcode hdv hdim hc
    go_enter Try.func95, Try.ntmps95
    go_wp2_with fail
    refine HCK.out.mono ?_
    rintro e w1 ⟨c1, rfl, hb1, hc1⟩
    obtain rfl : c1 = 0 := hc1.2.2 HCX.out HR.out
    have HX1 := Lib.hid (HX0.out.next hb1)
    clear hb1 hc1 HCK HX0
    go_wp2
    have HNX : Hid (∀ W, Below w1.heap.size w1 W → Bx w W w.heap.size p (.slice (some ⟨bd, od, none⟩) ds.length capd) mv ds ms) := Lib.hid (fun W h => HX1.out.next h)
    have HDQ : Hid (∀ W, Below w1.heap.size w1 W → W.cell? ⟨bd, od + q, none⟩ = some (.int .i64 (c : Int))) := Lib.hid (fun W h => by
      obtain ⟨ud, hud, hrd⟩ := Sl.at (HNX.out W h).cx.dims hq
      rw [hud, hrd, ← getD_of_lt 0 hq, HC.out])
    refine wp_region_held (S := fun W => Below w1.heap.size w1 W) (by kernel_rfl) ?_
    have S0 : Below w1.heap.size w1 w1.drew := (Below.refl _ _).drew
    refine held_take (i := 0) (v := .func (.func 101) #[] #[]) (some 15) rfl rfl (by kernel_rfl) (by kernel_rfl) (by kernel_rfl) (fun _ _ _ h => h) (yieldsIf_move (by kernel_rfl) rfl (by kernel_rfl)) S0 ?_
    refine held_take (i := 1) (v := .agg #[.int .i64 p, .slice (some ⟨bd, od, none⟩) ds.length capd, mv]) (some 16) rfl rfl (by kernel_rfl) (by kernel_rfl) (by kernel_rfl) (fun _ _ _ h => h) (yieldsIf_cell (by kernel_rfl) rfl (by kernel_rfl) (fun W h => hloadC W (HNX.out W h).c0 (HNX.out W h).c1 (HNX.out W h).c2)) S0 ?_
    refine held_take (i := 2) (v := .int .i64 (q : Int)) (some 17) rfl rfl (by kernel_rfl) (by kernel_rfl) (by kernel_rfl) (fun _ _ _ h => h) (yieldsIf_move (by kernel_rfl) rfl (by kernel_rfl)) S0 ?_
    refine held_take (i := 4) (v := .pointer (some ⟨w.heap.size, 1, none⟩)) (some 19) rfl rfl (by kernel_rfl) (by kernel_rfl) (by kernel_rfl) (fun _ _ _ h => h) (yieldsIf_run (by kernel_rfl) (fun W _ => by kernel_rfl)) S0 ?_
    refine held_take (i := 5) (v := .slice (some ⟨bd, od, none⟩) ds.length capd) (some 20) rfl rfl (by kernel_rfl) (by kernel_rfl) (by kernel_rfl) (fun _ _ _ h => h) (yieldsIf_cell (by kernel_rfl) rfl (by kernel_rfl) (fun W h => hloadS W (HNX.out W h).c1)) S0 ?_
    refine held_take (i := 6) (v := .int .i64 (q : Int)) (some 21) rfl rfl (by kernel_rfl) (by kernel_rfl) (by kernel_rfl) (fun _ _ _ h => h) (yieldsIf_move (by kernel_rfl) rfl (by kernel_rfl)) S0 ?_
    refine held_take (i := 7) (v := .pointer (some ⟨bd, od + q, none⟩)) (some 22) rfl rfl (by kernel_rfl) (by kernel_rfl) (by kernel_rfl) (fun _ _ _ h => h) (yieldsIf_index (by kernel_rfl) rfl (by kernel_rfl) (by kernel_rfl) (hidxI bd od capd hq)) S0 ?_
    refine held_take (i := 8) (v := .int .i64 (c : Int)) (some 23) rfl rfl (by kernel_rfl) (by kernel_rfl) (by kernel_rfl) (fun _ _ _ h => h) (yieldsIf_cell (by kernel_rfl) rfl (by kernel_rfl) (fun W h => hload W (HDQ.out W h))) S0 ?_
    refine held_enter (i := 3) (some 18) (f := 101) (args := #[.agg #[.int .i64 p, .slice (some ⟨bd, od, none⟩) ds.length capd, mv], .int .i64 (q : Int)]) (by kernel_rfl) rfl rfl rfl (by kernel_rfl) (HF.out HCX.out HR.out _ (HNX.out _ S0).cx) ?_ (fun c w' h => by obtain ⟨_, _, h, _⟩ := h; cases h) (fun w' h => by obtain ⟨_, _, h, _⟩ := h; cases h)
    rintro e4 W4 ⟨s4, R, he4, hb4, ho4, hsp⟩
    injection he4 with he4
    subst he4
    have S1 : Below w1.heap.size w1 W4 := S0.trans hb4
    have HO4 := Lib.hid (ho4.vs.lower (Nat.zero_le _))
    have HSP := Lib.hid hsp
    have hshort := hsp.short
    rw [HDN.out] at hshort
    refine ⟨S1, ?_⟩
    clear hb4 ho4 hsp
    refine held_enter (i := 9) (some 24) (f := 107) (args := #[e4, .int .i64 (c : Int)]) (by kernel_rfl) rfl rfl rfl (by kernel_rfl) (rowsOf_any c e4 R W4 HO4.out (by omega) (by omega)) ?_ (fun c w' h => by obtain ⟨_, h, _⟩ := h; cases h) (fun w' h => by obtain ⟨_, h, _⟩ := h; cases h)
    rintro e5 W5 ⟨u5, he5, ht5, hb5⟩
    injection he5 with he5
    subst he5
    have S2 : Below w1.heap.size w1 W5 := S1.trans (hb5.mono S1.size)
    have HT5 := Lib.hid ht5
    have hs4 : w1.heap.size ≤ W4.heap.size := S1.size
    have HB5 := Lib.hid (HNX.out _ S2).below
    have hs1 : w.heap.size ≤ w1.heap.size := HX1.out.below.size
    refine ⟨S2, ?_⟩
    refine held_take (i := 10) (v := e5) (some 6) rfl rfl (by kernel_rfl) (by kernel_rfl) (by kernel_rfl) (fun _ _ _ h => h) (yieldsIf_assign (by kernel_rfl) rfl (by kernel_rfl)) S2 ?_
    refine held_take (i := 11) (v := .int .i64 0) (some 7) rfl rfl (by kernel_rfl) (by kernel_rfl) (by kernel_rfl) (fun _ _ _ h => h) (yieldsIf_assign (by kernel_rfl) rfl (by kernel_rfl)) S2 ?_
    refine wpAnyH_done (by kernel_rfl) ?_ _
    simp only [Act.put, List.setIfInBounds_toArray, List.set_cons_zero, List.set_cons_succ]
    clear S0 S1 S2 ht5 hb5
    go_wp2
    go_ret2
    refine ⟨e5, R.map (toL c), 0, rfl, HT5.out.wider (by omega), HB5.out, ?_⟩
    rw [HCODE.out]
    have hh := HSP.out
    rw [HDN.out] at hh ⊢
    exact ⟨fun _ => ⟨R, hh.1, hh.2.1, hh.2.2, rfl⟩, fun hh => absurd rfl hh, rfl⟩
  · have HNC := Lib.hid hcode
    subst hdv
    clear hcode HF
    go_enter Try.func95, Try.ntmps95
    go_wp2_with fail
    refine HCK.out.mono ?_
    rintro e w1 ⟨c1, rfl, hb1, hc1⟩
    have HC1 := Lib.hid (cxCode_of hc1)
    have hne : ¬ c1 = 0 := fun e => HNC.out (by rw [← HC1.out]; exact e)
    have hne2 : (c1 != 0) = true := by simp [hne]
    have hne3 : (c1 == 0) = false := by simp [hne]
    have HX1 := Lib.hid (HX0.out.next hb1)
    clear hb1 hc1 HCK HX0 hne
    go_wp2
    go_ret2
    refine ⟨_, [], c1, rfl, TW.nil _ _ _, HX1.out.below, ?_⟩
    rw [HC1.out]
    exact SpOut.of_no HNC.out

set_option maxHeartbeats 1600000 in
theorem homologyList_any (p n : Int) (dv mv : Value) (ds : List Int) (ms : List (List (List Int))) (w : World) (h : Cx 0 w dv mv ds ms) (hd : ds.length ≤ 1048576) (hm : Bd3 1048576 ms) :
    Calls Try.prog 45 #[.agg #[.int .i64 p, dv, mv], .int .i64 n] w (SpW p (dimN ds n) (HomS p ds ms n.toNat) (cxCode p ds ms n) w) := by
  have HX0 := Lib.hid (Bx.start (p := p) 28 h)
  have HSA := Lib.hid (spaceAt_hom p n (HomS p ds ms n.toNat) dv mv ds ms _ HX0.out.cx hd hm (fun hcx hr W hW => by
    obtain ⟨q, rfl⟩ : ∃ q : Nat, n = (q : Int) := ⟨n.toNat, by have := hr.1; omega⟩
    exact homologySpace_any p q dv mv ds ms W hW hcx (by have := hr.2; omega)))
  obtain ⟨ad, cap, rfl⟩ := Sl.shape h.dims
  obtain ⟨am, capm, rfl⟩ := Sl.shape h.maps
  have c0 := HX0.out.c0
  have c1 := HX0.out.c1
  have c2 := HX0.out.c2
  clear h hm
  go_enter Try.func45, Try.ntmps45
  go_wp2_with fail
  refine HSA.out.mono ?_
  rintro e w1 ⟨u, out, c, rfl, ht, hb, ho⟩
  have HT := Lib.hid ht
  have HB := Lib.hid (HX0.out.next hb).below
  have HO := Lib.hid ho
  clear ht hb ho HSA
  have hs0 := HX0.out.below.size
  go_wp2
  go_ret2
  exact ⟨u, out, c, rfl, HT.out.wider hs0, HB.out, HO.out⟩

/-- A table that is being gathered: the empty literal yet, or rows of its own. -/
def GsE (base g : Nat) (w : World) (v : Value) (tb : List (List Int)) : Prop := (tb = [] ∧ v = .slice (some ⟨g, 0, none⟩) 0 0) ∨ Gs base w v tb
theorem GsE.below {base g : Nat} {w w' : World} {v : Value} {tb : List (List Int)} (h : GsE base g w v tb) (hb : Below w.heap.size w w') : GsE base g w' v tb := h.imp id (fun h => h.below hb)
theorem GsE.l2 {base g : Nat} {w : World} {v : Value} {tb : List (List Int)} (h : GsE base g w v tb) : L2 0 w v tb := by
  rcases h with ⟨rfl, rfl⟩ | h
  · exact Or.inl ⟨rfl, _, _, rfl⟩
  · exact h.l2
section
variable {md : Region.Mode} {ops : Array Oper} {Q : Exit → Act → World → Prop} {S : World → Prop}
theorem held_appendE {i : Nat} {oi : Oper} {fuel : Nat} {listed : Array Bool} {a : Act} {w : World} (d : Option Tmp) (hr : Region.ready md ops listed = [i]) (hi : ops[i]? = some oi) (hg : oi.guard = none) (hd : oi.dst = d)
    (s x : Operand) (ho : oi.op = .call { callee := .builtin .append, args := #[s, x], argTypes := #[41, 41] }) (base g : Nat) (v : Value) (tb : List (List Int)) (hs : a.eval s = v) (hst : GsE base g w v tb)
    (b : Nat) (ad : Option Addr) (m c : Nat) (hx : a.eval x = .slice (some ⟨b, 0, none⟩) 1 1) (hc : w.cell? ⟨b, 0, none⟩ = some (.slice ad m c)) (y : List Int) (hy : G1 w (.slice ad m c) y) (hn : tb.length ≤ 1048576) (hb : base ≤ w.heap.size)
    (h : ∀ v' w', Gs base w' v' (tb ++ [y]) → Below base w w' → S w' ∧ wpAnyH Try.prog md ops Q S fuel (listed.setIfInBounds i true) (a.put d v') w') : wpAnyH Try.prog md ops Q S (fuel + 1) listed a w := by
  rcases hst with ⟨rfl, rfl⟩ | hG
  · obtain ⟨ie, hie, hz, h1, h2⟩ := info_parts Try.infoS
    subst hd
    have hrun := fun ty => run_append_grow (P := Try.prog) w 41 ty 22 ie _ Try.underlying41 hie hz ⟨g, 0, none⟩ 0 0 [] (by simp) (by simp) ⟨b, 0, none⟩ 1 1 [.slice ad m c] (by rw [h1]; rfl) (fun j u hj => by
      match j, hj with
      | 0, hj =>
        simp at hj
        subst hj
        exact hc) (by omega) (by omega) (by rw [h2]; exact growslice_fits (by omega) (by omega))
    obtain ⟨G, hG⟩ : ∃ G, G = grownCap w (0 + 1) 0 22 := ⟨_, rfl⟩
    rw [← hG] at hrun
    have hGn : 1 ≤ G := by rw [hG]; exact grownCap_ge w _ _ _
    have hGm : G ≤ maxLen := by rw [hG]; exact grownCap_le_maxLen w 1 0 _ (by unfold maxLen; omega)
    obtain ⟨ROW, hROW⟩ : ∃ ROW : Array Value, ROW = ([] : List Value).toArray ++ [Value.slice ad m c].toArray ++ Builtin.zeroCells (Value.slice none 0 0).cells (G - (0 + 1)) := ⟨_, rfl⟩
    rw [← hROW] at hrun
    have hsz : ROW.size = G := by
      rw [hROW]
      simp [Builtin.zeroCells, Value.cells]
      omega
    have hown : (w.drew.alloc (.cells ROW 22)).ownsRow base 22 1 (.slice (some ⟨w.heap.size, 0, none⟩) 1 G) 1 [.slice ad m c] :=
      ⟨rfl, Or.inr ⟨w.heap.size, G, ROW, rfl, hb, heap_alloc_new w.drew _, hGn, hGm, by rw [hsz]; omega, by rw [hROW]; simp⟩⟩
    have hbel : Below w.heap.size w (w.drew.alloc (.cells ROW 22)) := (Below.refl _ _).drew.alloc (Nat.le_refl _) _
    have hgs : Gs base (w.drew.alloc (.cells ROW 22)) (.slice (some ⟨w.heap.size, 0, none⟩) 1 G) ([] ++ [y]) := ⟨[.slice ad m c], hown, fun k h1 h2 => by
      have hk : k = 0 := by simpa using h1
      subst hk
      exact hy.below hbel⟩
    refine held_call hr hi hg (Lib.wp_append_run w s x 41 41 ho _ _ hs hx _ _ (hrun _) (h _ _ hgs (hbel.mono hb)))
  · obtain ⟨vs, hvo, hvr⟩ := hG
    refine held_appendS d hr hi hg hd s x ho base v tb.length vs hs hvo b ad m c hx hc (by omega) hb (fun v' w' hown hgrow => h v' w' (Gs.push hvo hvr hy hown hgrow) ((Below.refl _ _).grown hgrow hb (fun g hg => (World.ownsRow.lt hvo g hg).1)))
end

set_option maxHeartbeats 6400000 in
set_option maxRecDepth 100000 in
theorem spHomologyList_any (p n : Int) (dv mv : Value) (ds : List Int) (ms : List (List (List Int))) (w : World) (h : Cx 0 w dv mv ds ms) (hd : ds.length ≤ 1048576) (hm : Bd3 1048576 ms) :
    Calls Try.prog 44 #[.agg #[.int .i64 p, dv, mv], .int .i64 n] w (SpS p (dimN ds n) (HomS p ds ms n.toNat) (cxCode p ds ms n) w) := by
  have HX0 := Lib.hid (Bx.start (p := p) 28 h)
  have HCK := Lib.hid (l01Code_any p n dv mv ds ms _ HX0.out.cx hd hm)
  obtain ⟨ad, cap, rfl⟩ := Sl.shape h.dims
  obtain ⟨am, capm, rfl⟩ := Sl.shape h.maps
  have c0 := HX0.out.c0
  have c1 := HX0.out.c1
  have c2 := HX0.out.c2
  clear h hm
  go_enter Try.func44, Try.ntmps44
  go_wp2_with fail
  refine HCK.out.mono ?_
  rintro e w1 ⟨k0, rfl, hb1, hc1⟩
  have HC1 := Lib.hid (cxCode_of hc1)
  have HX1 := Lib.hid (HX0.out.next hb1)
  clear hb1 hc1 c0 c1 c2 HCK
  have c0 := HX1.out.c0
  have c1 := HX1.out.c1
  have c2 := HX1.out.c2
  by_cases hk : k0 = 0
  · subst hk
    obtain ⟨hcx, hr⟩ := cxCode_zero HC1.out.symm
    obtain ⟨q, rfl⟩ : ∃ q : Nat, n = (q : Int) := ⟨n.toNat, by have := hr.1; omega⟩
    have hq : q < ds.length := by have := hr.2; omega
    have HCX := Lib.hid hcx
    have hd8 := (dimN_le8 hcx q).1
    have hp1 := hcx.1.prime.lo1
    clear hcx hr
    go_upto_region 4 with fail
    go_cut [7, 8, 9] from 17 to 23 (fun s7 s8 s9 wx => ∃ (C B : List Lin.V) (ac : Option Addr) (cc : Nat) (ab : Option Addr) (cb g : Nat), s7 = .slice ac C.length cc ∧ s8 = .slice ab B.length cb ∧ s9 = .slice (some ⟨g, 0, none⟩) 0 0 ∧ Hid (Bx w wx w.heap.size p (.slice ad ds.length cap) (.slice am ms.length capm) ds ms) ∧ Hid (L2 0 wx (.slice ac C.length cc) (C.map (toL (dimN ds (q : Int))))) ∧ Hid (L2 0 wx (.slice ab B.length cb) (B.map (toL (dimN ds (q : Int))))) ∧ Hid (SpF p (dimN ds (q : Int)) (CycS p (dimN ds (q : Int)) (cycM ds q) (cycT ds ms q)) C) ∧ Hid (RedN p (dimN ds (q : Int)) B ((tabN ms q).map ofL)))
    case first =>
      have HX2 := Lib.hid (HX1.out.next (Below.refl _ _).drew)
      go_region_held3 (fun w' => w'.cell? ⟨w.heap.size, 0, none⟩ = some (.int .i64 p) ∧ w'.cell? ⟨w.heap.size, 1, none⟩ = some (.slice ad ds.length cap) ∧ w'.cell? ⟨w.heap.size, 2, none⟩ = some (.slice am ms.length capm) ∧ Hid (Bx w w' w.heap.size p (.slice ad ds.length cap) (.slice am ms.length capm) ds ms))
        (first | exact ⟨HX1.out.c0, HX1.out.c1, HX1.out.c2, HX1⟩ | exact ⟨HX2.out.c0, HX2.out.c1, HX2.out.c2, HX2⟩ | exact ⟨(HX2.out.next (below_alloc1 _ _)).c0, (HX2.out.next (below_alloc1 _ _)).c1, (HX2.out.next (below_alloc1 _ _)).c2, Lib.hid (HX2.out.next (below_alloc1 _ _))⟩ | exact ⟨HX3.out.c0, HX3.out.c1, HX3.out.c2, HX3⟩ | exact ⟨(HX3.out.next (below_alloc1 _ _)).c0, (HX3.out.next (below_alloc1 _ _)).c1, (HX3.out.next (below_alloc1 _ _)).c2, Lib.hid (HX3.out.next (below_alloc1 _ _))⟩ | exact ⟨HX4.out.c0, HX4.out.c1, HX4.out.c2, HX4⟩ | exact ⟨(HX4.out.next (below_alloc1 _ _)).c0, (HX4.out.next (below_alloc1 _ _)).c1, (HX4.out.next (below_alloc1 _ _)).c2, Lib.hid (HX4.out.next (below_alloc1 _ _))⟩ | go_keep)
        (first
          | (go_at_call 94; refine (l01Cycles_any p q _ _ ds ms _ ?_ HCX.out hq).mono ?_; (first | exact HX2.out.cx | exact (HX2.out.next (below_alloc1 _ _)).cx); rintro e w3 ⟨s3, C, rfl, hg3, hb3, hr3⟩; have HX3 : Hid (Bx w w3 w.heap.size p (.slice ad ds.length cap) (.slice am ms.length capm) ds ms) := (by first | exact Lib.hid (HX2.out.next hb3) | exact Lib.hid ((HX2.out.next (below_alloc1 _ _)).next hb3)); have HR3 := Lib.hid hr3; obtain ⟨ac, cc, hv3⟩ := Sl.shape hg3.l2; rw [List.length_map] at hv3; subst hv3; have HO3 := Lib.hid hg3.l2; clear hg3 hb3 hr3)
          | (go_at_call 97; refine (l01Bounds_any p q _ _ ds ms _ ?_ HCX.out hq).mono ?_; (first | exact HX3.out.cx | exact (HX3.out.next (below_alloc1 _ _)).cx); rintro e w4 ⟨s4, B, rfl, hg4, hb4, hr4, _⟩; have HX4 : Hid (Bx w w4 w.heap.size p (.slice ad ds.length cap) (.slice am ms.length capm) ds ms) := (by first | exact Lib.hid (HX3.out.next hb4) | exact Lib.hid ((HX3.out.next (below_alloc1 _ _)).next hb4)); have HR4 := Lib.hid hr4; obtain ⟨ab, cb, hv4⟩ := Sl.shape hg4.l2; rw [List.length_map] at hv4; subst hv4; have HO4 := Lib.hid hg4.l2; have HO3' : Hid (L2 0 w4 (.slice ac C.length cc) (C.map (toL (dimN ds (q : Int))))) := (by first | exact Lib.hid (HO3.out.below hb4) | exact Lib.hid ((HO3.out.below (below_alloc1 _ _)).below hb4)); clear hg4 hb4 hr4))
      all_goals go_wp2
      all_goals go_meet
      all_goals refine ⟨C, B, ac, cc, ab, cb, _, rfl, rfl, rfl, ?_, ?_, ?_, HR3, HR4⟩
      all_goals first
        | exact HX4 | exact Lib.hid (HX4.out.next (below_alloc1 _ _)) | exact HO3' | exact HO4 | exact Lib.hid (HO3'.out.below (below_alloc1 _ _)) | exact Lib.hid (HO4.out.below (below_alloc1 _ _))
    case rest =>
      obtain ⟨C, B, ac, cc, ab, cb, g4, rfl, rfl, rfl, HX4, HOC, HOB, HR3, HR4⟩ := hcut
      obtain ⟨w4, hw4⟩ : ∃ w4 : World, w4 = wc := ⟨_, rfl⟩
      subst hw4
      have hl3 := HR3.out.short
      have hl4 := red_length HR4.out.red HR4.out.wd
      have HNX : Hid (∀ W, Below w4.heap.size w4 W → Bx w W w.heap.size p (.slice ad ds.length cap) (.slice am ms.length capm) ds ms) := Lib.hid (fun W h => HX4.out.next h)
      clear c0 c1 c2
      go_wp2
      go_loopw [9, 10] (fun rv i wr => ∃ (k : Nat) (tt : List Lin.V), k ≤ C.length ∧ i = .int .i64 k ∧ tt.length = k ∧ Hid (Below w4.heap.size w4 wr) ∧ Hid (GsE w4.heap.size g4 wr rv (tt.map (toL (dimN ds (q : Int))))) ∧ Hid (RestsOf p (dimN ds (q : Int)) B C tt)) (fun _ i _ => C.length - (intOf i).toNat)
      case atStart => exact ⟨0, [], Nat.zero_le _, rfl, rfl, Lib.hid (Below.refl _ _), Lib.hid (Or.inl ⟨rfl, rfl⟩), Lib.hid (RestsOf.nil p _ B C)⟩
      case round =>
        obtain ⟨k, tt, hk, rfl, hTl, HB, HG, HR⟩ := hrel
        obtain ⟨wx, hwx⟩ : ∃ wx : World, wx = wr := ⟨_, rfl⟩
        subst hwx
        have hsx : w4.heap.size ≤ wx.heap.size := HB.out.size
        obtain ⟨an, cn, hnv⟩ := Sl.shape HG.out.l2
        rw [List.length_map] at hnv
        subst hnv
        have hXN := HNX.out _ HB.out
        have HXN := Lib.hid hXN
        have c0 := hXN.c0
        have c1 := hXN.c1
        have c2 := hXN.c2
        clear hXN
        by_cases hlt : k < C.length
        · refine Sl.cases HOC.out (fun _ _ hx _ => absurd hlt (by have := congrArg List.length hx; simp at this; simp [this])) (fun bc oc c2' hvv _ _ hc => ?_)
          rw [List.length_map] at hvv
          obtain ⟨rfl, rfl⟩ : ac = some ⟨bc, oc, none⟩ ∧ cc = c2' := by simpa using hvv
          obtain ⟨ur, hur, hrr⟩ := hc k (by rw [List.length_map]; exact hlt)
          rw [List.getElem_map] at hrr
          obtain ⟨ar, cr, hus⟩ := l1_slice hrr
          subst hus
          obtain ⟨u, hu⟩ : ∃ u, u = C[k] := ⟨_, rfl⟩
          rw [← hu] at hrr
          have HRR := Lib.hid hrr
          have HUE : Hid (∀ (h : tt.length < C.length), C[tt.length] = u) := Lib.hid (fun h => by
            subst hTl
            exact hu.symm)
          have HUM : Hid (Lin.Md p u) := Lib.hid (by rw [hu]; exact HR3.out.1.md _ (List.getElem_mem hlt))
          have HUW : Hid (Lin.Wd (dimN ds (q : Int)) u) := Lib.hid (by rw [hu]; exact HR3.out.2.1 _ (List.getElem_mem hlt))
          have HROWC : Hid (∀ W, Below w4.heap.size w4 W → W.cell? ⟨bc, oc + k, none⟩ = some (.slice ar (dimN ds (q : Int)) cr)) := Lib.hid (fun W h => later h (Nat.le_refl _) hur)
          have HREST : Hid (∀ W, Below w4.heap.size w4 W → Calls Try.prog 99 #[.int .i64 p, .slice ab B.length cb, .slice ar (dimN ds (q : Int)) cr] W (RestR p (dimN ds (q : Int)) B u W)) := Lib.hid (fun W h =>
            l01Rest_any p (dimN ds (q : Int)) _ _ B u W HCX.out.1.prime (HOB.out.below h) (HRR.out.below h) HR4.out.red HR4.out.wd HUM.out HUW.out (by omega) (by omega))
          clear hvv hc hur hrr hu
          go_wp2
          refine wp_region_held (S := fun W => Below w4.heap.size w4 W) (by kernel_rfl) ?_
          have S0 : Below w4.heap.size w4 wx.drew := HB.out.drew
          refine held_take (i := 0) (v := .slice an tt.length cn) (some 30) rfl rfl (by kernel_rfl) (by kernel_rfl) (by kernel_rfl) (fun _ _ _ h => h) (yieldsIf_move (by kernel_rfl) rfl (by kernel_rfl)) S0 ?_
          refine held_take (i := 1) (v := .pointer (some ⟨w.heap.size, 0, none⟩)) (some 31) rfl rfl (by kernel_rfl) (by kernel_rfl) (by kernel_rfl) (fun _ _ _ h => h) (yieldsIf_run (by kernel_rfl) (fun W _ => by kernel_rfl)) S0 ?_
          refine held_take (i := 2) (v := .int .i64 p) (some 32) rfl rfl (by kernel_rfl) (by kernel_rfl) (by kernel_rfl) (fun _ _ _ h => h) (yieldsIf_cell (by kernel_rfl) rfl (by kernel_rfl) (fun W h => hload W ((HNX.out W h).c0))) S0 ?_
          refine held_take (i := 3) (v := .slice ab B.length cb) (some 33) rfl rfl (by kernel_rfl) (by kernel_rfl) (by kernel_rfl) (fun _ _ _ h => h) (yieldsIf_move (by kernel_rfl) rfl (by kernel_rfl)) S0 ?_
          refine held_take (i := 4) (v := .slice (some ⟨bc, oc, none⟩) C.length cc) (some 34) rfl rfl (by kernel_rfl) (by kernel_rfl) (by kernel_rfl) (fun _ _ _ h => h) (yieldsIf_move (by kernel_rfl) rfl (by kernel_rfl)) S0 ?_
          refine held_take (i := 5) (v := .int .i64 (k : Int)) (some 35) rfl rfl (by kernel_rfl) (by kernel_rfl) (by kernel_rfl) (fun _ _ _ h => h) (yieldsIf_move (by kernel_rfl) rfl (by kernel_rfl)) S0 ?_
          refine held_take (i := 6) (v := .pointer (some ⟨bc, oc + k, none⟩)) (some 36) rfl rfl (by kernel_rfl) (by kernel_rfl) (by kernel_rfl) (fun _ _ _ h => h) (yieldsIf_index (by kernel_rfl) rfl (by kernel_rfl) (by kernel_rfl) (hidxS bc oc cc hlt)) S0 ?_
          refine held_take (i := 7) (v := .slice ar (dimN ds (q : Int)) cr) (some 37) rfl rfl (by kernel_rfl) (by kernel_rfl) (by kernel_rfl) (fun _ _ _ h => h) (yieldsIf_cell (by kernel_rfl) rfl (by kernel_rfl) (fun W h => hloadS W (HROWC.out W h))) S0 ?_
          refine held_enter (i := 8) (some 38) (f := 99) (args := #[.int .i64 p, .slice ab B.length cb, .slice ar (dimN ds (q : Int)) cr]) (by kernel_rfl) rfl rfl rfl (by kernel_rfl) (HREST.out _ S0) ?_ (fun c w' h => by obtain ⟨_, _, h, _⟩ := h; cases h) (fun w' h => by obtain ⟨_, _, h, _⟩ := h; cases h)
          rintro e5 W5 ⟨u5, r, he5, hg5, hb5, hr5, hrw5⟩
          injection he5 with he5
          subst he5
          have S1 : Below w4.heap.size w4 W5 := S0.trans (hb5.mono S0.size)
          have hb5' : Below wx.heap.size wx W5 := ((Below.refl wx.heap.size wx).drew).trans hb5
          have HO5 := Lib.hid (HG.out.below hb5')
          have HG5 := Lib.hid hg5.g1
          have HR5 : Hid (RestsOf p (dimN ds (q : Int)) B C (tt ++ [r])) := Lib.hid (HR.out.push (by omega) (by rw [HUE.out (by omega)]; exact hr5) hrw5)
          obtain ⟨a5, c5, hv5⟩ := l1_slice hg5.l1
          subst hv5
          refine ⟨S1, ?_⟩
          have hs5 : w4.heap.size ≤ W5.heap.size := S1.size
          have S2 : Below w4.heap.size w4 (W5.alloc (.cells #[.slice a5 (dimN ds (q : Int)) c5] 22)) := S1.alloc hs5 _
          have hba : Below W5.heap.size W5 (W5.alloc (.cells #[.slice a5 (dimN ds (q : Int)) c5] 22)) := (Below.refl _ _).alloc (Nat.le_refl _) _
          have HOX := Lib.hid (HO5.out.below hba)
          refine held_buildS (i := 9) (some 39) (by kernel_rfl) rfl rfl rfl (.tmp 38) a5 (dimN ds (q : Int)) c5 rfl (by kernel_rfl) ⟨S2, ?_⟩
          refine held_appendE (i := 10) (some 40) (by kernel_rfl) rfl rfl rfl (.tmp 30) (.tmp 39) rfl w4.heap.size g4 (.slice an tt.length cn) _ (by kernel_rfl) HOX.out W5.heap.size a5 (dimN ds (q : Int)) c5 (by kernel_rfl) (cell_alloc1 W5 _ _) _ (HG5.out.below hba) (by rw [List.length_map]; omega) (by simp; omega) ?_
          intro v' w6 hown hgrow
          have S3 : Below w4.heap.size w4 w6 := S2.trans hgrow
          have HB6 := Lib.hid S3
          have HG6 : Hid (GsE w4.heap.size g4 w6 v' ((tt ++ [r]).map (toL (dimN ds (q : Int))))) := Lib.hid (by
            rw [List.map_append]
            exact Or.inr hown)
          refine ⟨S3, ?_⟩
          refine held_take (i := 11) (v := v') (some 9) rfl rfl (by kernel_rfl) (by kernel_rfl) (by kernel_rfl) (fun _ _ _ h => h) (yieldsIf_assign (by kernel_rfl) rfl (by kernel_rfl)) S3 ?_
          refine wpAnyH_done (by kernel_rfl) ?_ _
          simp only [Act.put, List.setIfInBounds_toArray, List.set_cons_zero, List.set_cons_succ]
          clear S0 S1 S2 S3 hown hgrow hb5 hb5' hba hg5 hr5 hrw5 HOX HO5 HG5 HREST HROWC hs5 c0 c1 c2
          go_wp2
          go_roundw
          case rel => exact ⟨k + 1, tt ++ [r], by omega, by go_num, by simp [hTl], HB6, HG6, HR5⟩
          case measure => simp [intOf]; omega
        · have HTL : Hid (tt.length = C.length) := Lib.hid (by omega)
          have htc : tt.length ≤ 8 := by omega
          have HTM : Hid (∀ x ∈ tt, Lin.Md p x) := Lib.hid (fun x hx => by
            obtain ⟨i, hi, rfl⟩ := List.getElem_of_mem hx
            exact (HR.out.rest i hi (by have := HTL.out; omega)).md)
          have HECH := Lib.hid (l01Echelon_any p (dimN ds (q : Int)) (.slice an tt.length cn) tt wx HCX.out.1.prime HG.out.l2 HTM.out HR.out.wd (by omega) (by omega))
          clear hTl
          go_wp2_with fail
          refine HECH.out.mono ?_
          rintro e w6 ⟨u6, R, rfl, hg6, hb6, hr6, _⟩
          have HG6 := Lib.hid hg6.l2
          have HB6 := Lib.hid (HXN.out.next hb6).below
          have HR6 := Lib.hid hr6
          clear hg6 hb6 hr6 HECH c0 c1 c2
          go_wp2
          go_ret2
          refine ⟨u6, R.map (toL (dimN ds (q : Int))), 0, rfl, HG6.out, HB6.out, ?_⟩
          rw [← HC1.out, Int.toNat_natCast]
          have hS := homS_of hp1 HR3.out ⟨HR4.out.red, HR4.out.wd, HR4.out.eqv⟩ HR.out HTL.out HR6.out.red HR6.out.eqv
          exact ⟨fun _ => ⟨R, hS.1, hS.2.1, hS.2.2, rfl⟩, fun hh => absurd rfl hh, rfl⟩
  · have hne2 : (k0 != 0) = true := by simp [hk]
    have hne3 : (k0 == 0) = false := by simp [hk]
    have HK := Lib.hid hk
    clear hk
    go_wp2
    go_ret2
    refine ⟨_, [], k0, rfl, nil2 _, HX1.out.below, ?_⟩
    rw [← HC1.out]
    exact SpOut.of_no HK.out
end Go.Proofs.Ytpdkfidmmjlmnaa
