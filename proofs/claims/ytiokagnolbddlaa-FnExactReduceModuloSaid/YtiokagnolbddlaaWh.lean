/-
  Whole values: read, owned, bounded, copied, compared, marked; their boxes; how one that came in reads. (gk.py)
-/
import Derived.Test.YtiokagnolbddlaaQh
import Derived.Test.YtiokagnolbddlaaQe
import Derived.Test.YtiokagnolbddlaaQg
import Derived.Test.YtiokagnolbddlaaQb
import Derived.Test.YtiokagnolbddlaaQc
import Derived.Deep.Strs
namespace Go.Proofs.Ytiokagnolbddlaa
open Go.ChangeShapes Go.WideShapes Go.ChangeAt Go.RowKit Go.Deep

structure Wh (lo : Nat) (w : World) (dv mv : Value) (dl : List Int) (ml : List (List (List Int))) : Prop where
  fd : L1 lo w dv dl
  fm : L3 lo w mv ml
theorem Wh.below {lo : Nat} {w w' : World} {dv mv : Value} {dl : List Int} {ml : List (List (List Int))} (h : Wh lo w dv mv dl ml) (hb : Below w.heap.size w w') : Wh lo w' dv mv dl ml := ⟨h.fd.below hb, h.fm.below hb⟩
theorem Wh.lower {lo lo' : Nat} (hl : lo' ≤ lo) {w : World} {dv mv : Value} {dl : List Int} {ml : List (List (List Int))} (h : Wh lo w dv mv dl ml) : Wh lo' w dv mv dl ml := ⟨h.fd.lower hl, h.fm.lower hl⟩
theorem Wh.zero {lo : Nat} {w : World} {dv mv : Value} {dl : List Int} {ml : List (List (List Int))} (h : Wh lo w dv mv dl ml) : Wh 0 w dv mv dl ml := h.lower (Nat.zero_le _)
theorem Wh.drew {lo : Nat} {w : World} {dv mv : Value} {dl : List Int} {ml : List (List (List Int))} (h : Wh lo w dv mv dl ml) : Wh lo w.drew dv mv dl ml := h.below (Below.refl _ _).drew
theorem Wh.shapes {lo : Nat} {w : World} {dv mv : Value} {dl : List Int} {ml : List (List (List Int))} (h : Wh lo w dv mv dl ml) : (∃ a c, dv = .slice a dl.length c) ∧ (∃ a c, mv = .slice a ml.length c) := ⟨Sl.shape h.fd, Sl.shape h.fm⟩
structure WhB (n : Nat) (dl : List Int) (ml : List (List (List Int))) : Prop where
  bd : Bd1 n dl
  bm : Bd3 n ml
structure WhW (lo hi : Nat) (w : World) (dv mv : Value) (dl : List Int) (ml : List (List (List Int))) : Prop where
  fd : W1 lo hi w dv dl
  fm : W3 lo hi w mv ml
theorem WhW.same {lo hi : Nat} {w w' : World} {dv mv : Value} {dl : List Int} {ml : List (List (List Int))} (h : WhW lo hi w dv mv dl ml) (s : Same lo hi w w') : WhW lo hi w' dv mv dl ml := ⟨h.fd.same s, h.fm.same s⟩
theorem WhW.cx {lo hi : Nat} {w : World} {dv mv : Value} {dl : List Int} {ml : List (List (List Int))} (h : WhW lo hi w dv mv dl ml) : Wh lo w dv mv dl ml := ⟨h.fd.l1, h.fm.l3⟩
/-- The box of one, in whatever later world. -/
structure BxWh (w wr : World) (b : Nat)  (dv mv : Value) (dl : List Int) (ml : List (List (List Int))) : Prop where
  below : Below w.heap.size w wr
  c0 : wr.cell? ⟨b, 0, none⟩ = some (dv)
  c1 : wr.cell? ⟨b, 1, none⟩ = some (mv)
  lt : b < wr.heap.size
  cx : Wh 0 wr dv mv dl ml
theorem BxWh.next {w wr w' : World} {b : Nat}  {dv mv : Value} {dl : List Int} {ml : List (List (List Int))} (h : BxWh w wr b  dv mv dl ml) (hb : Below wr.heap.size wr w') : BxWh w w' b  dv mv dl ml :=
  ⟨h.below.trans (hb.mono h.below.size), later hb (Nat.le_refl _) h.c0, later hb (Nat.le_refl _) h.c1, Nat.lt_of_lt_of_le h.lt hb.size, h.cx.below hb⟩
theorem BxWh.start {w : World}  {dv mv : Value} {dl : List Int} {ml : List (List (List Int))} (t : TypeId) (h : Wh 0 w dv mv dl ml) : BxWh w (w.alloc (.cells #[dv, mv] t)) w.heap.size  dv mv dl ml :=
  ⟨(Below.refl _ _).alloc (Nat.le_refl _) _, by simp, by simp, by simp, h.below ((Below.refl _ _).alloc (Nat.le_refl _) _)⟩
structure BqWh (wr : World) (b : Nat)  (dv mv : Value) (dl : List Int) (ml : List (List (List Int))) : Prop where
  c0 : wr.cell? ⟨b, 0, none⟩ = some (dv)
  c1 : wr.cell? ⟨b, 1, none⟩ = some (mv)
  lt : b < wr.heap.size
  cx : Wh 0 wr dv mv dl ml
theorem BxWh.bq {w wr : World} {b : Nat}  {dv mv : Value} {dl : List Int} {ml : List (List (List Int))} (h : BxWh w wr b  dv mv dl ml) : BqWh wr b  dv mv dl ml := ⟨h.c0, h.c1, h.lt, h.cx⟩
theorem BqWh.next {wr w' : World} {b : Nat}  {dv mv : Value} {dl : List Int} {ml : List (List (List Int))} (h : BqWh wr b  dv mv dl ml) (hb : Below wr.heap.size wr w') : BqWh w' b  dv mv dl ml :=
  ⟨later hb (Nat.le_refl _) h.c0, later hb (Nat.le_refl _) h.c1, Nat.lt_of_lt_of_le h.lt hb.size, h.cx.below hb⟩
theorem BqWh.only {wr w' : World} {b lo hi : Nat}  {dv mv : Value} {dl : List Int} {ml : List (List (List Int))} (h : BqWh wr b  dv mv dl ml) (ho : Only lo hi wr w') (hc : Wh 0 w' dv mv dl ml) (hb : b < lo ∨ hi ≤ b) : BqWh w' b  dv mv dl ml :=
  ⟨(ho.cell hb).trans h.c0, (ho.cell hb).trans h.c1, by have := ho.size; have := h.lt; omega, hc⟩
theorem bxWh_two {w : World}   {dv mv : Value} {dv2 mv2 : Value} {dl : List Int} {ml : List (List (List Int))} {dl2 : List Int} {ml2 : List (List (List Int))} (t : TypeId) (h : Wh 0 w dv mv dl ml) (h2 : Wh 0 w dv2 mv2 dl2 ml2) :
    BxWh w ((w.alloc (.cells #[dv, mv] t)).alloc (.cells #[dv2, mv2] t)) w.heap.size  dv mv dl ml ∧ BxWh w ((w.alloc (.cells #[dv, mv] t)).alloc (.cells #[dv2, mv2] t)) (w.heap.size + 1)  dv2 mv2 dl2 ml2 := by
  have b1 : Below w.heap.size w (w.alloc (.cells #[dv, mv] t)) := below_alloc1 _ _
  refine ⟨(BxWh.start t h).next (below_alloc1 _ _), ?_⟩
  have := BxWh.start  t (h2.below b1)
  have hs : (w.alloc (.cells #[dv, mv] t)).heap.size = w.heap.size + 1 := by simp
  rw [hs] at this
  exact ⟨b1.trans (this.below.mono (by omega)), this.c0, this.c1, this.lt, this.cx⟩

set_option maxHeartbeats 800000 in
theorem szWhole_any  (dv mv : Value) (dl : List Int) (ml : List (List (List Int))) (left : Int) (w : World) (h : Wh 0 w dv mv dl ml) (h0 : 0 ≤ left) (h1 : left ≤ 1048576) (hml : WhB 9223372036854775807 dl ml) :
    Calls Try.prog 20 #[.agg #[dv, mv], .int .i64 left] w (SzB left (WhB 1048576 dl ml) w) := by
  have H := Lib.hid h
  have HML := Lib.hid hml
  have HB : Hid (Below w.heap.size w (w.alloc (.cells #[dv, mv] 31))) := Lib.hid ((Below.refl _ _).alloc (Nat.le_refl _) _)
  clear h hml
  go_enter Try.func20, Try.ntmps20
  go_wp2_with fail
  refine (sz1_any (lo := 0) dv dl left _ (H.out.fd.below HB.out) h0 (by omega) HML.out.bd).mono ?_
  rintro ee w' ⟨r0, rfl, rfl, hpost⟩
  rcases hpost with rfl | ⟨hp0, hq0, hbb⟩
  · go_wp2
    go_ret
    exact ⟨_, rfl, HB.out, Or.inl rfl⟩
  have HBB0 := Lib.hid hbb
  clear hbb
  go_wp2_with fail
  refine (sz3_any (lo := 0) mv ml r0 _ (H.out.fm.below HB.out) hp0 (by omega) HML.out.bm).mono ?_
  rintro ee w' ⟨r1, rfl, rfl, hpost⟩
  rcases hpost with rfl | ⟨hp1, hq1, hbb⟩
  · go_wp2
    go_ret
    exact ⟨_, rfl, HB.out, Or.inl rfl⟩
  have HBB1 := Lib.hid hbb
  clear hbb
  go_wp2
  go_ret
  exact ⟨_, rfl, HB.out, Or.inr ⟨hp1, by omega, ⟨HBB0.out, HBB1.out⟩⟩⟩
def ToWh  (dl : List Int) (ml : List (List (List Int))) (w : World) (e' : Ending) (w' : World) : Prop := ∃ dv mv, e' = .returned (.agg #[dv, mv]) ∧ Wh w.heap.size w' dv mv dl ml ∧ Below w.heap.size w w'

set_option maxHeartbeats 1600000 in
theorem toWhole_any  (dv mv : Value) (dl : List Int) (ml : List (List (List Int))) (w : World) (h : Wh 0 w dv mv dl ml) (hm : WhB 1048576 dl ml) :
    Calls Try.prog 22 #[.agg #[dv, mv]] w (ToWh  dl ml w) := by
  have H := Lib.hid h
  have HM := Lib.hid hm
  clear h hm
  have hres : Try.f22.results = #[.cell 2 25] := by kernel_rfl
  have HRES := Lib.hid hres
  clear hres
  have HB0 : Hid (Below w.heap.size w (((w.alloc (.cells #[dv, mv] 31)).alloc (.cells #[.slice none 0 0, .slice none 0 0] 25)).alloc (.cells #[.slice none 0 0, .slice none 0 0] 25))) := Lib.hid ((((Below.refl _ _).alloc (Nat.le_refl _) _).alloc (by simp) _).alloc (by simp; omega) _)
  have hz0 : w.heap.size + 3 = (((w.alloc (.cells #[dv, mv] 31)).alloc (.cells #[.slice none 0 0, .slice none 0 0] 25)).alloc (.cells #[.slice none 0 0, .slice none 0 0] 25)).heap.size := by simp
  have HZ0 := Lib.hid hz0
  clear hz0
  go_enter Try.func22, Try.ntmps22
  go_wp2_with fail
  refine (to1_any dv dl _ (H.out.fd.below HB0.out) HM.out.bd).mono ?_
  rintro ee w1 ⟨u0, rfl, hr, hb⟩
  obtain ⟨ad, cd, rfl⟩ := Sl.shape hr
  have hs0 : w.heap.size + 3 ≤ w1.heap.size := by have := hb.size; simp at this; omega
  obtain ⟨hc0, hf0⟩ := bcell hb
  have HB0b := Lib.hid (HB0.out.trans (hb.mono (by first | omega | (simp; omega) | simp)))
  have HRd : Hid (L1 (w.heap.size + 1 + 1 + 1) w1 (.slice ad dl.length cd) dl) := Lib.hid (hr.lower (by first | omega | (simp; omega) | simp))
  clear hr hb
  have hzx0 : w.heap.size < w1.heap.size := by omega
  have hzz0 : w.heap.size + 1 < w1.heap.size := by omega
  have hzy0 : w.heap.size + 1 + 1 < w1.heap.size := by omega
  have HB0c : Hid (Below w.heap.size w (w1.setCell ⟨w.heap.size + 1 + 1, 0, none⟩ (.slice ad dl.length cd))) := Lib.hid (HB0b.out.setCell (by show w.heap.size ≤ w.heap.size + 1 + 1; omega) _)
  have HRd' : Hid (L1 (w.heap.size + 1 + 1 + 1) (w1.setCell ⟨w.heap.size + 1 + 1, 0, none⟩ (.slice ad dl.length cd)) (.slice ad dl.length cd) dl) := Lib.hid (stable1 _ _ _ _ _ (Keep.set _ (Nat.lt_succ_self _)) HRd.out)
  clear HRd
  have HRd := HRd'
  clear HRd'
  go_wp2_with fail
  refine (to3_any mv ml _ (H.out.fm.below HB0c.out) HM.out.bm).mono ?_
  rintro ee w2 ⟨u1, rfl, hr, hb⟩
  obtain ⟨am, cm, rfl⟩ := Sl.shape hr
  have hs1 : w1.heap.size ≤ w2.heap.size := by have := hb.size; simpa using this
  obtain ⟨hc1, hf1⟩ := bcell hb
  have HB1b := Lib.hid (HB0c.out.trans (hb.mono (by first | omega | (simp; omega) | simp)))
  have HRd' := Lib.hid (HRd.out.below hb)
  clear HRd
  have HRd := HRd'
  clear HRd'
  have HRm : Hid (L3 (w.heap.size + 1 + 1 + 1) w2 (.slice am ml.length cm) ml) := Lib.hid (hr.lower (by first | omega | (simp; omega) | simp))
  clear hr hb
  have hzx1 : w.heap.size < w2.heap.size := by omega
  have hzz1 : w.heap.size + 1 < w2.heap.size := by omega
  have hzy1 : w.heap.size + 1 + 1 < w2.heap.size := by omega
  go_wp2
  refine bodyPost_ret (v := .agg #[.slice ad dl.length cd, .slice am ml.length cm]) ?_ rfl ?_
  · simp only [results, HRES.out]
    go_simp
  · have hk : Keep (w.heap.size + 1 + 1 + 1) w2 (((w2.setCell ⟨w.heap.size + 1 + 1, 1, none⟩ (.slice am ml.length cm)).setCell ⟨w.heap.size + 1, 0, none⟩ (.slice ad dl.length cd)).setCell ⟨w.heap.size + 1, 1, none⟩ (.slice am ml.length cm)) := (((Keep.set _ (by omega)).trans (Keep.set _ (by omega))).trans (Keep.set _ (by omega)))
    refine ⟨_, _, rfl, ⟨?_, ?_⟩, ?_⟩
    · exact (stable1 _ _ _ _ _ hk HRd.out).lower (by omega)
    · exact (stable3 _ _ _ _ _ hk HRm.out).lower (by omega)
    · exact (((HB1b.out.setCell (by show w.heap.size ≤ w.heap.size + 1 + 1; omega) _).setCell (by show w.heap.size ≤ w.heap.size + 1; omega) _).setCell (by show w.heap.size ≤ w.heap.size + 1; omega) _)
def ToWhW  (dl : List Int) (ml : List (List (List Int))) (w : World) (e' : Ending) (w' : World) : Prop := ∃ dv mv, e' = .returned (.agg #[dv, mv]) ∧ WhW w.heap.size w'.heap.size w' dv mv dl ml ∧ Below w.heap.size w w'

set_option maxHeartbeats 1600000 in
theorem toWholew_any  (dv mv : Value) (dl : List Int) (ml : List (List (List Int))) (w : World) (h : Wh 0 w dv mv dl ml) (hm : WhB 1048576 dl ml) :
    Calls Try.prog 22 #[.agg #[dv, mv]] w (ToWhW  dl ml w) := by
  have H := Lib.hid h
  have HM := Lib.hid hm
  clear h hm
  have hres : Try.f22.results = #[.cell 2 25] := by kernel_rfl
  have HRES := Lib.hid hres
  clear hres
  have HB0 : Hid (Below w.heap.size w (((w.alloc (.cells #[dv, mv] 31)).alloc (.cells #[.slice none 0 0, .slice none 0 0] 25)).alloc (.cells #[.slice none 0 0, .slice none 0 0] 25))) := Lib.hid ((((Below.refl _ _).alloc (Nat.le_refl _) _).alloc (by simp) _).alloc (by simp; omega) _)
  have hz0 : w.heap.size + 3 = (((w.alloc (.cells #[dv, mv] 31)).alloc (.cells #[.slice none 0 0, .slice none 0 0] 25)).alloc (.cells #[.slice none 0 0, .slice none 0 0] 25)).heap.size := by simp
  have HZ0 := Lib.hid hz0
  clear hz0
  go_enter Try.func22, Try.ntmps22
  go_wp2_with fail
  refine (to1w_any dv dl _ (H.out.fd.below HB0.out) HM.out.bd).mono ?_
  rintro ee w1 ⟨u0, rfl, hr, hb⟩
  obtain ⟨ad, cd, rfl⟩ := Sw.shape hr
  have hs0 : w.heap.size + 3 ≤ w1.heap.size := by have := hb.size; simp at this; omega
  obtain ⟨hc0, hf0⟩ := bcell hb
  have HB0b := Lib.hid (HB0.out.trans (hb.mono (by first | omega | (simp; omega) | simp)))
  have HRd : Hid (W1 (w.heap.size + 1 + 1 + 1) (w1.heap.size) w1 (.slice ad dl.length cd) dl) := Lib.hid (hr.wider (by first | omega | (simp; omega) | simp) (Nat.le_refl _))
  clear hr hb
  have hzx0 : w.heap.size < w1.heap.size := by omega
  have hzz0 : w.heap.size + 1 < w1.heap.size := by omega
  have hzy0 : w.heap.size + 1 + 1 < w1.heap.size := by omega
  have HB0c : Hid (Below w.heap.size w (w1.setCell ⟨w.heap.size + 1 + 1, 0, none⟩ (.slice ad dl.length cd))) := Lib.hid (HB0b.out.setCell (by show w.heap.size ≤ w.heap.size + 1 + 1; omega) _)
  have HRd' : Hid (W1 (w.heap.size + 1 + 1 + 1) (w1.heap.size) (w1.setCell ⟨w.heap.size + 1 + 1, 0, none⟩ (.slice ad dl.length cd)) (.slice ad dl.length cd) dl) := Lib.hid (HRd.out.same (Same.set _ (Or.inl (Nat.lt_succ_self _))))
  clear HRd
  have HRd := HRd'
  clear HRd'
  go_wp2_with fail
  refine (to3w_any mv ml _ (H.out.fm.below HB0c.out) HM.out.bm).mono ?_
  rintro ee w2 ⟨u1, rfl, hr, hb⟩
  obtain ⟨am, cm, rfl⟩ := Sw.shape hr
  have hs1 : w1.heap.size ≤ w2.heap.size := by have := hb.size; simpa using this
  obtain ⟨hc1, hf1⟩ := bcell hb
  have HB1b := Lib.hid (HB0c.out.trans (hb.mono (by first | omega | (simp; omega) | simp)))
  have HRd' := Lib.hid (HRd.out.same (Same.of_below hb (by simp)))
  clear HRd
  have HRd := HRd'
  clear HRd'
  have HRm : Hid (W3 (w.heap.size + 1 + 1 + 1) (w2.heap.size) w2 (.slice am ml.length cm) ml) := Lib.hid (hr.wider (by first | omega | (simp; omega) | simp) (Nat.le_refl _))
  clear hr hb
  have hzx1 : w.heap.size < w2.heap.size := by omega
  have hzz1 : w.heap.size + 1 < w2.heap.size := by omega
  have hzy1 : w.heap.size + 1 + 1 < w2.heap.size := by omega
  have HRd' : Hid (W1 (w.heap.size + 1 + 1 + 1) (w2.heap.size) w2 (.slice ad dl.length cd) dl) := Lib.hid (HRd.out.wider (Nat.le_refl _) (by omega))
  clear HRd
  have HRd := HRd'
  clear HRd'
  go_wp2
  refine bodyPost_ret (v := .agg #[.slice ad dl.length cd, .slice am ml.length cm]) ?_ rfl ?_
  · simp only [results, HRES.out]
    go_simp
  · have hk : ∀ hi, Same (w.heap.size + 1 + 1 + 1) hi w2 (((w2.setCell ⟨w.heap.size + 1 + 1, 1, none⟩ (.slice am ml.length cm)).setCell ⟨w.heap.size + 1, 0, none⟩ (.slice ad dl.length cd)).setCell ⟨w.heap.size + 1, 1, none⟩ (.slice am ml.length cm)) := fun hi => (((Same.set _ (Or.inl (by omega))).trans (Same.set _ (Or.inl (by omega)))).trans (Same.set _ (Or.inl (by omega))))
    refine ⟨_, _, rfl, ⟨?_, ?_⟩, ?_⟩
    · exact (HRd.out.same (hk _)).wider (by omega) (by simp)
    · exact (HRm.out.same (hk _)).wider (by omega) (by simp)
    · exact (((HB1b.out.setCell (by show w.heap.size ≤ w.heap.size + 1 + 1; omega) _).setCell (by show w.heap.size ≤ w.heap.size + 1; omega) _).setCell (by show w.heap.size ≤ w.heap.size + 1; omega) _)

set_option maxHeartbeats 1600000 in
theorem eqWhole_true  (dv mv : Value) (dv2 mv2 : Value) (dl : List Int) (ml : List (List (List Int))) (w : World) (h : Wh 0 w dv mv dl ml) (h2 : Wh 0 w dv2 mv2 dl ml) (hm : WhB 1048576 dl ml) :
    Calls Try.prog 17 #[.agg #[dv, mv], .agg #[dv2, mv2]] w (BR (.bool true) w) := by
  have HM := Lib.hid hm
  have HB0 : Hid (Below w.heap.size w ((w.alloc (.cells #[dv, mv] 25)).alloc (.cells #[dv2, mv2] 25))) := Lib.hid (((Below.refl _ _).alloc (Nat.le_refl _) _).alloc (by simp) _)
  have H := Lib.hid (h.below HB0.out)
  have H2 := Lib.hid (h2.below HB0.out)
  clear hm h h2
  go_enter Try.func17, Try.ntmps17
  go_wp2_with fail
  have h1 := eq1_any dv dv2 dl dl _ H.out.fd H2.out.fd HM.out.bd HM.out.bd
  rw [decide_eq_true rfl] at h1
  refine h1.mono ?_
  clear h1
  rintro ee w' ⟨rfl, m0, rfl⟩
  go_wp2_with fail
  have h1 := eq3_any mv mv2 ml ml _ (H.out.fm.below (drewN_below _ (m0))) (H2.out.fm.below (drewN_below _ (m0))) HM.out.bm HM.out.bm
  rw [decide_eq_true rfl] at h1
  refine h1.mono ?_
  clear h1
  rintro ee w' ⟨rfl, m1, rfl⟩
  go_wp2
  go_ret
  exact ⟨rfl, HB0.out.trans ((drewN_below _ (m0 + m1)).mono HB0.out.size)⟩
structure WhT (lo hi : Nat) (w : World) (dv mv : Value) (dl : List Int) (ml : List (List (List Int))) : Prop where
  fd : T1 lo hi w dv dl
  fm : T3 lo hi w mv ml
theorem WhW.t {lo hi : Nat} {w : World} {dv mv : Value} {dl : List Int} {ml : List (List (List Int))} (h : WhW lo hi w dv mv dl ml) : WhT lo hi w dv mv dl ml := ⟨h.fd.t1, h.fm.t3⟩

set_option maxHeartbeats 1600000 in
theorem markWholeK_any {lo hi : Nat} (kk : Int)  (dv mv : Value) (dl : List Int) (ml : List (List (List Int))) (w : World) (h : WhW lo hi w dv mv dl ml) (hh : hi ≤ w.heap.size) (hm : WhB 1048576 dl ml) (hk0 : 0 ≤ kk) (hk1 : kk ≤ 4611686018427387904) :
    Calls Try.prog 18 #[.agg #[dv, mv], .int .i64 kk] w (MarkC lo hi kk w) := by
  have HM := Lib.hid hm
  have hb0 : Below w.heap.size w (w.alloc (.cells #[dv, mv] 25)) := (Below.refl _ _).alloc (Nat.le_refl _) _
  have HC := Lib.hid (h.same (Same.of_below hb0 hh)).t
  have HB0 := Lib.hid hb0
  have hmld : dl.length ≤ 1048576 := hm.bd
  have hmlm : ml.length ≤ 1048576 := hm.bm.1
  clear h hm hb0
  go_enter Try.func18, Try.ntmps18
  go_wp2_with fail
  refine (mark1_any dv dl kk _ HC.out.fd HM.out.bd (by omega) (by omega)).mono ?_
  rintro ee w1 ⟨rfl, ho, ht, _⟩
  have c01 : w1.cell? ⟨w.heap.size, 1, none⟩ = some mv := (ho.cell (Or.inr hh)).trans (by simp)
  have HO0 := Lib.hid (And.intro ho ht)
  clear ho ht
  go_wp2_with fail
  refine (mark3_any mv ml (kk + (dl.length : Int)) _ (HC.out.fm.tame HO0.out.2) HM.out.bm (by omega) (by omega)).mono ?_
  rintro ee w2 ⟨r1, rfl, hs10, hs11, ho, ht⟩
  clear c01
  have HO1 := Lib.hid (And.intro (HO0.out.1.trans ho) (HO0.out.2.trans ht))
  clear ho ht
  go_wp2
  go_ret
  exact ⟨r1, _, rfl, by omega, by omega, HB0.out, HO1.out.1, HO1.out.2⟩
theorem array2x {α : Type} {cs : Array α} (h : cs.size = 2) : ∃ c0 c1, cs = #[c0, c1] := by
  obtain ⟨l⟩ := cs
  match l, h with
  | [c0, c1], _ => exact ⟨c0, c1, rfl⟩
theorem Try.cellsWh : Try.prog.cellsOf 31 = 2 := by kernel_rfl
section
variable {H : Type} {enc : TypeId × Value → H} {P : Program} {w : World} {base : Nat} {held : Bool} {spare : Nat → Bool}
theorem trod_struct2x {t : TypeId} {f0 f1 : Field} {fuel : Nat} {cs : List Value} {x : DataW H × List MemPlace} (ht : P.underlying t = some (.struct #[f0, f1])) (h : DataW.trod enc P w base (fun _ => true) held fuel t cs = some x) :
    ∃ y0 y1 m, DataW.trod enc P w base (fun _ => true) held m f0.type ((cs.drop f0.offset).take (P.cellsOf f0.type)) = some y0 ∧ DataW.trod enc P w base (fun _ => true) held m f1.type ((cs.drop f1.offset).take (P.cellsOf f1.type)) = some y1 := by
  obtain ⟨xs, m, _, rfl, hl, hlen, hf⟩ := DataW.trod_struct ht h
  match xs, hlen with
  | [y0, y1], _ => exact ⟨y0, y1, m, by simpa using hf 0 f0 rfl, by simpa using hf 1 f1 rfl⟩
set_option maxRecDepth 100000 in
theorem whole_of_trod {r : Reach} {b0 : Nat} {v : Value} {d' : DataW H} {p' : List MemPlace} (hv : Value.okWide Try.prog w r b0 31 v) (h : DataW.Trod enc Try.prog w base (fun _ => true) held 31 v d' p') :
    ∃  (dv mv : Value) (dl : List Int) (ml : List (List (List Int))), v = .agg #[dv, mv] ∧ Wh 0 w dv mv dl ml ∧ WhB 9223372036854775807 dl ml := by
  obtain ⟨cs, rfl, hsz⟩ := okWide_struct Try.underlying31 hv
  obtain ⟨c0, c1, rfl⟩ := array2x (hsz.trans Try.cellsWh)
  obtain ⟨fuel, hf⟩ := h
  obtain ⟨y0, y1, m, h0, h1⟩ := trod_struct2x Try.underlying31 hf
  have h0' : DataW.trod enc Try.prog w base (fun _ => true) held m 22 [c0] = some y0 := h0
  have h1' : DataW.trod enc Try.prog w base (fun _ => true) held m 23 [c1] = some y1 := h1
  obtain ⟨x0, hx0, hy0⟩ := l1_of_trod h0'
  obtain ⟨x1, hx1, hy1⟩ := l3_of_trod h1'
  exact ⟨c0, c1, x0, x1, rfl, ⟨hx0, hx1⟩, ⟨hy0, hy1⟩⟩
end
end Go.Proofs.Ytiokagnolbddlaa
