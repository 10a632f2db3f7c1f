/-
  Texts that ProofFtl needs, part 7.
-/
import Derived.Test.YtlopenephgabhaaZh6
import Derived.Deep.Strs
import Derived.Deep.RegionWith
import Derived.Deep.RegionHeld3
import Derived.BigRegion
import Derived.BigQuiet
import Derived.Deep.QuietTactic
namespace Go.Proofs.Ytlopenephgabhaa
open Go.ChangeShapes Go.WideShapes Go.ChangeAt Go.RowKit Go.Deep

structure Dc (lo : Nat) (w : World) (dv av vv : Value) (dl : List (List Int)) (al : List (List (List (List Int)))) (vl : List (List (List (List Int)))) : Prop where
  fd : L2 lo w dv dl
  fa : L4 lo w av al
  fv : L5 lo w vv vl
theorem Dc.below {lo : Nat} {w w' : World} {dv av vv : Value} {dl : List (List Int)} {al : List (List (List (List Int)))} {vl : List (List (List (List Int)))} (h : Dc lo w dv av vv dl al vl) (hb : Below w.heap.size w w') : Dc lo w' dv av vv dl al vl := ⟨h.fd.below hb, h.fa.below hb, h.fv.below hb⟩
theorem Dc.lower {lo lo' : Nat} (hl : lo' ≤ lo) {w : World} {dv av vv : Value} {dl : List (List Int)} {al : List (List (List (List Int)))} {vl : List (List (List (List Int)))} (h : Dc lo w dv av vv dl al vl) : Dc lo' w dv av vv dl al vl := ⟨h.fd.lower hl, h.fa.lower hl, h.fv.lower hl⟩
theorem Dc.zero {lo : Nat} {w : World} {dv av vv : Value} {dl : List (List Int)} {al : List (List (List (List Int)))} {vl : List (List (List (List Int)))} (h : Dc lo w dv av vv dl al vl) : Dc 0 w dv av vv dl al vl := h.lower (Nat.zero_le _)
theorem Dc.shapes {lo : Nat} {w : World} {dv av vv : Value} {dl : List (List Int)} {al : List (List (List (List Int)))} {vl : List (List (List (List Int)))} (h : Dc lo w dv av vv dl al vl) : (∃ a c, dv = .slice a dl.length c) ∧ (∃ a c, av = .slice a al.length c) ∧ (∃ a c, vv = .slice a vl.length c) := ⟨Sl.shape h.fd, Sl.shape h.fa, Sl.shape h.fv⟩
structure DcB (n : Nat) (dl : List (List Int)) (al : List (List (List (List Int)))) (vl : List (List (List (List Int)))) : Prop where
  bd : Bd2 n dl
  ba : Bd4 n al
  bv : Bd5 n vl
structure DcW (lo hi : Nat) (w : World) (dv av vv : Value) (dl : List (List Int)) (al : List (List (List (List Int)))) (vl : List (List (List (List Int)))) : Prop where
  fd : W2 lo hi w dv dl
  fa : W4 lo hi w av al
  fv : W5 lo hi w vv vl
theorem DcW.same {lo hi : Nat} {w w' : World} {dv av vv : Value} {dl : List (List Int)} {al : List (List (List (List Int)))} {vl : List (List (List (List Int)))} (h : DcW lo hi w dv av vv dl al vl) (s : Same lo hi w w') : DcW lo hi w' dv av vv dl al vl := ⟨h.fd.same s, h.fa.same s, h.fv.same s⟩
theorem DcW.cx {lo hi : Nat} {w : World} {dv av vv : Value} {dl : List (List Int)} {al : List (List (List (List Int)))} {vl : List (List (List (List Int)))} (h : DcW lo hi w dv av vv dl al vl) : Dc lo w dv av vv dl al vl := ⟨h.fd.l2, h.fa.l4, h.fv.l5⟩
/-- The box of one, in whatever later world. -/
structure BxDc (w wr : World) (b : Nat) (p : Int) (dv av vv : Value) (dl : List (List Int)) (al : List (List (List (List Int)))) (vl : List (List (List (List Int)))) : Prop where
  below : Below w.heap.size w wr
  c0 : wr.cell? ⟨b, 0, none⟩ = some (.int .i64 p)
  c1 : wr.cell? ⟨b, 1, none⟩ = some (dv)
  c2 : wr.cell? ⟨b, 2, none⟩ = some (av)
  c3 : wr.cell? ⟨b, 3, none⟩ = some (vv)
  lt : b < wr.heap.size
  cx : Dc 0 wr dv av vv dl al vl
theorem BxDc.next {w wr w' : World} {b : Nat} {p : Int} {dv av vv : Value} {dl : List (List Int)} {al : List (List (List (List Int)))} {vl : List (List (List (List Int)))} (h : BxDc w wr b p dv av vv dl al vl) (hb : Below wr.heap.size wr w') : BxDc w w' b p dv av vv dl al vl :=
  ⟨h.below.trans (hb.mono h.below.size), later hb (Nat.le_refl _) h.c0, later hb (Nat.le_refl _) h.c1, later hb (Nat.le_refl _) h.c2, later hb (Nat.le_refl _) h.c3, Nat.lt_of_lt_of_le h.lt hb.size, h.cx.below hb⟩
theorem BxDc.start {w : World} {p : Int} {dv av vv : Value} {dl : List (List Int)} {al : List (List (List (List Int)))} {vl : List (List (List (List Int)))} (t : TypeId) (h : Dc 0 w dv av vv dl al vl) : BxDc w (w.alloc (.cells #[.int .i64 p, dv, av, vv] t)) w.heap.size p dv av vv dl al vl :=
  ⟨(Below.refl _ _).alloc (Nat.le_refl _) _, by simp, by simp, by simp, by simp, by simp, h.below ((Below.refl _ _).alloc (Nat.le_refl _) _)⟩
structure BqDc (wr : World) (b : Nat) (p : Int) (dv av vv : Value) (dl : List (List Int)) (al : List (List (List (List Int)))) (vl : List (List (List (List Int)))) : Prop where
  c0 : wr.cell? ⟨b, 0, none⟩ = some (.int .i64 p)
  c1 : wr.cell? ⟨b, 1, none⟩ = some (dv)
  c2 : wr.cell? ⟨b, 2, none⟩ = some (av)
  c3 : wr.cell? ⟨b, 3, none⟩ = some (vv)
  lt : b < wr.heap.size
  cx : Dc 0 wr dv av vv dl al vl
theorem BxDc.bq {w wr : World} {b : Nat} {p : Int} {dv av vv : Value} {dl : List (List Int)} {al : List (List (List (List Int)))} {vl : List (List (List (List Int)))} (h : BxDc w wr b p dv av vv dl al vl) : BqDc wr b p dv av vv dl al vl := ⟨h.c0, h.c1, h.c2, h.c3, h.lt, h.cx⟩
theorem BqDc.next {wr w' : World} {b : Nat} {p : Int} {dv av vv : Value} {dl : List (List Int)} {al : List (List (List (List Int)))} {vl : List (List (List (List Int)))} (h : BqDc wr b p dv av vv dl al vl) (hb : Below wr.heap.size wr w') : BqDc w' b p dv av vv dl al vl :=
  ⟨later hb (Nat.le_refl _) h.c0, later hb (Nat.le_refl _) h.c1, later hb (Nat.le_refl _) h.c2, later hb (Nat.le_refl _) h.c3, Nat.lt_of_lt_of_le h.lt hb.size, h.cx.below hb⟩
theorem BqDc.only {wr w' : World} {b lo hi : Nat} {p : Int} {dv av vv : Value} {dl : List (List Int)} {al : List (List (List (List Int)))} {vl : List (List (List (List Int)))} (h : BqDc wr b p dv av vv dl al vl) (ho : Only lo hi wr w') (hc : Dc 0 w' dv av vv dl al vl) (hb : b < lo ∨ hi ≤ b) : BqDc w' b p dv av vv dl al vl :=
  ⟨(ho.cell hb).trans h.c0, (ho.cell hb).trans h.c1, (ho.cell hb).trans h.c2, (ho.cell hb).trans h.c3, by have := ho.size; have := h.lt; omega, hc⟩
def ToDc (p : Int) (dl : List (List Int)) (al : List (List (List (List Int)))) (vl : List (List (List (List Int)))) (w : World) (e' : Ending) (w' : World) : Prop := ∃ dv av vv, e' = .returned (.agg #[.int .i64 p, dv, av, vv]) ∧ Dc w.heap.size w' dv av vv dl al vl ∧ Below w.heap.size w w'

set_option maxHeartbeats 1600000 in
theorem toDoublec_any (p : Int) (dv av vv : Value) (dl : List (List Int)) (al : List (List (List (List Int)))) (vl : List (List (List (List Int)))) (w : World) (h : Dc 0 w dv av vv dl al vl) (hm : DcB 1048576 dl al vl) :
    Calls Try.prog 12 #[.agg #[.int .i64 p, dv, av, vv]] w (ToDc p dl al vl w) := by
  have H := Lib.hid h
  have HM := Lib.hid hm
  clear h hm
  have hres : Try.f12.results = #[.cell 2 28] := by kernel_rfl
  have HRES := Lib.hid hres
  clear hres
  have HB0 : Hid (Below w.heap.size w (((w.alloc (.cells #[.int .i64 p, dv, av, vv] 25)).alloc (.cells #[.int .i64 0, .slice none 0 0, .slice none 0 0, .slice none 0 0] 28)).alloc (.cells #[.int .i64 p, .slice none 0 0, .slice none 0 0, .slice none 0 0] 28))) := Lib.hid ((((Below.refl _ _).alloc (Nat.le_refl _) _).alloc (by simp) _).alloc (by simp; omega) _)
  have hz0 : w.heap.size + 3 = (((w.alloc (.cells #[.int .i64 p, dv, av, vv] 25)).alloc (.cells #[.int .i64 0, .slice none 0 0, .slice none 0 0, .slice none 0 0] 28)).alloc (.cells #[.int .i64 p, .slice none 0 0, .slice none 0 0, .slice none 0 0] 28)).heap.size := by simp
  have HZ0 := Lib.hid hz0
  clear hz0
  go_enter Try.func12, Try.ntmps12
  go_wp2_with fail
  refine (to2_any dv dl _ (H.out.fd.below HB0.out) HM.out.bd).mono ?_
  rintro ee w1 ⟨u0, rfl, hr, hb⟩
  obtain ⟨ad, cd, rfl⟩ := Sl.shape hr
  have hs0 : w.heap.size + 3 ≤ w1.heap.size := by have := hb.size; simp at this; omega
  obtain ⟨hc0, hf0⟩ := bcell hb
  have HB0b := Lib.hid (HB0.out.trans (hb.mono (by first | omega | (simp; omega) | simp)))
  have HRd : Hid (L2 (w.heap.size + 1 + 1 + 1) w1 (.slice ad dl.length cd) dl) := Lib.hid (hr.lower (by first | omega | (simp; omega) | simp))
  clear hr hb
  have hzx0 : w.heap.size < w1.heap.size := by omega
  have hzz0 : w.heap.size + 1 < w1.heap.size := by omega
  have hzy0 : w.heap.size + 1 + 1 < w1.heap.size := by omega
  have HB0c : Hid (Below w.heap.size w (w1.setCell ⟨w.heap.size + 1 + 1, 1, none⟩ (.slice ad dl.length cd))) := Lib.hid (HB0b.out.setCell (by show w.heap.size ≤ w.heap.size + 1 + 1; omega) _)
  have HRd' : Hid (L2 (w.heap.size + 1 + 1 + 1) (w1.setCell ⟨w.heap.size + 1 + 1, 1, none⟩ (.slice ad dl.length cd)) (.slice ad dl.length cd) dl) := Lib.hid (stable2 _ _ _ _ _ (Keep.set _ (Nat.lt_succ_self _)) HRd.out)
  clear HRd
  have HRd := HRd'
  clear HRd'
  go_wp2_with fail
  refine (to4_any av al _ (H.out.fa.below HB0c.out) HM.out.ba).mono ?_
  rintro ee w2 ⟨u1, rfl, hr, hb⟩
  obtain ⟨aa, ca, rfl⟩ := Sl.shape hr
  have hs1 : w1.heap.size ≤ w2.heap.size := by have := hb.size; simpa using this
  obtain ⟨hc1, hf1⟩ := bcell hb
  have HB1b := Lib.hid (HB0c.out.trans (hb.mono (by first | omega | (simp; omega) | simp)))
  have HRd' := Lib.hid (HRd.out.below hb)
  clear HRd
  have HRd := HRd'
  clear HRd'
  have HRa : Hid (L4 (w.heap.size + 1 + 1 + 1) w2 (.slice aa al.length ca) al) := Lib.hid (hr.lower (by first | omega | (simp; omega) | simp))
  clear hr hb
  have hzx1 : w.heap.size < w2.heap.size := by omega
  have hzz1 : w.heap.size + 1 < w2.heap.size := by omega
  have hzy1 : w.heap.size + 1 + 1 < w2.heap.size := by omega
  have HB1c : Hid (Below w.heap.size w (w2.setCell ⟨w.heap.size + 1 + 1, 2, none⟩ (.slice aa al.length ca))) := Lib.hid (HB1b.out.setCell (by show w.heap.size ≤ w.heap.size + 1 + 1; omega) _)
  have HRd' : Hid (L2 (w.heap.size + 1 + 1 + 1) (w2.setCell ⟨w.heap.size + 1 + 1, 2, none⟩ (.slice aa al.length ca)) (.slice ad dl.length cd) dl) := Lib.hid (stable2 _ _ _ _ _ (Keep.set _ (Nat.lt_succ_self _)) HRd.out)
  clear HRd
  have HRd := HRd'
  clear HRd'
  have HRa' : Hid (L4 (w.heap.size + 1 + 1 + 1) (w2.setCell ⟨w.heap.size + 1 + 1, 2, none⟩ (.slice aa al.length ca)) (.slice aa al.length ca) al) := Lib.hid (stable4 _ _ _ _ _ (Keep.set _ (Nat.lt_succ_self _)) HRa.out)
  clear HRa
  have HRa := HRa'
  clear HRa'
  go_wp2_with fail
  refine (to5_any vv vl _ (H.out.fv.below HB1c.out) HM.out.bv).mono ?_
  rintro ee w3 ⟨u2, rfl, hr, hb⟩
  obtain ⟨av, cv, rfl⟩ := Sl.shape hr
  have hs2 : w2.heap.size ≤ w3.heap.size := by have := hb.size; simpa using this
  obtain ⟨hc2, hf2⟩ := bcell hb
  have HB2b := Lib.hid (HB1c.out.trans (hb.mono (by first | omega | (simp; omega) | simp)))
  have HRd' := Lib.hid (HRd.out.below hb)
  have HRa' := Lib.hid (HRa.out.below hb)
  clear HRd
  have HRd := HRd'
  clear HRd'
  clear HRa
  have HRa := HRa'
  clear HRa'
  have HRv : Hid (L5 (w.heap.size + 1 + 1 + 1) w3 (.slice av vl.length cv) vl) := Lib.hid (hr.lower (by first | omega | (simp; omega) | simp))
  clear hr hb
  have hzx2 : w.heap.size < w3.heap.size := by omega
  have hzz2 : w.heap.size + 1 < w3.heap.size := by omega
  have hzy2 : w.heap.size + 1 + 1 < w3.heap.size := by omega
  go_wp2
  refine bodyPost_ret (v := .agg #[.int .i64 p, .slice ad dl.length cd, .slice aa al.length ca, .slice av vl.length cv]) ?_ rfl ?_
  · simp only [results, HRES.out]
    go_simp
  · have hk : Keep (w.heap.size + 1 + 1 + 1) w3 (((((w3.setCell ⟨w.heap.size + 1 + 1, 3, none⟩ (.slice av vl.length cv)).setCell ⟨w.heap.size + 1, 0, none⟩ (.int .i64 p)).setCell ⟨w.heap.size + 1, 1, none⟩ (.slice ad dl.length cd)).setCell ⟨w.heap.size + 1, 2, none⟩ (.slice aa al.length ca)).setCell ⟨w.heap.size + 1, 3, none⟩ (.slice av vl.length cv)) := (((((Keep.set _ (by omega)).trans (Keep.set _ (by omega))).trans (Keep.set _ (by omega))).trans (Keep.set _ (by omega))).trans (Keep.set _ (by omega)))
    refine ⟨_, _, _, rfl, ⟨?_, ?_, ?_⟩, ?_⟩
    · exact (stable2 _ _ _ _ _ hk HRd.out).lower (by omega)
    · exact (stable4 _ _ _ _ _ hk HRa.out).lower (by omega)
    · exact (stable5 _ _ _ _ _ hk HRv.out).lower (by omega)
    · exact (((((HB2b.out.setCell (by show w.heap.size ≤ w.heap.size + 1 + 1; omega) _).setCell (by show w.heap.size ≤ w.heap.size + 1; omega) _).setCell (by show w.heap.size ≤ w.heap.size + 1; omega) _).setCell (by show w.heap.size ≤ w.heap.size + 1; omega) _).setCell (by show w.heap.size ≤ w.heap.size + 1; omega) _)
def ToDcW (p : Int) (dl : List (List Int)) (al : List (List (List (List Int)))) (vl : List (List (List (List Int)))) (w : World) (e' : Ending) (w' : World) : Prop := ∃ dv av vv, e' = .returned (.agg #[.int .i64 p, dv, av, vv]) ∧ DcW w.heap.size w'.heap.size w' dv av vv dl al vl ∧ Below w.heap.size w w'

set_option maxHeartbeats 1600000 in
theorem toDoublecw_any (p : Int) (dv av vv : Value) (dl : List (List Int)) (al : List (List (List (List Int)))) (vl : List (List (List (List Int)))) (w : World) (h : Dc 0 w dv av vv dl al vl) (hm : DcB 1048576 dl al vl) :
    Calls Try.prog 12 #[.agg #[.int .i64 p, dv, av, vv]] w (ToDcW p dl al vl w) := by
  have H := Lib.hid h
  have HM := Lib.hid hm
  clear h hm
  have hres : Try.f12.results = #[.cell 2 28] := by kernel_rfl
  have HRES := Lib.hid hres
  clear hres
  have HB0 : Hid (Below w.heap.size w (((w.alloc (.cells #[.int .i64 p, dv, av, vv] 25)).alloc (.cells #[.int .i64 0, .slice none 0 0, .slice none 0 0, .slice none 0 0] 28)).alloc (.cells #[.int .i64 p, .slice none 0 0, .slice none 0 0, .slice none 0 0] 28))) := Lib.hid ((((Below.refl _ _).alloc (Nat.le_refl _) _).alloc (by simp) _).alloc (by simp; omega) _)
  have hz0 : w.heap.size + 3 = (((w.alloc (.cells #[.int .i64 p, dv, av, vv] 25)).alloc (.cells #[.int .i64 0, .slice none 0 0, .slice none 0 0, .slice none 0 0] 28)).alloc (.cells #[.int .i64 p, .slice none 0 0, .slice none 0 0, .slice none 0 0] 28)).heap.size := by simp
  have HZ0 := Lib.hid hz0
  clear hz0
  go_enter Try.func12, Try.ntmps12
  go_wp2_with fail
  refine (to2w_any dv dl _ (H.out.fd.below HB0.out) HM.out.bd).mono ?_
  rintro ee w1 ⟨u0, rfl, hr, hb⟩
  obtain ⟨ad, cd, rfl⟩ := Sw.shape hr
  have hs0 : w.heap.size + 3 ≤ w1.heap.size := by have := hb.size; simp at this; omega
  obtain ⟨hc0, hf0⟩ := bcell hb
  have HB0b := Lib.hid (HB0.out.trans (hb.mono (by first | omega | (simp; omega) | simp)))
  have HRd : Hid (W2 (w.heap.size + 1 + 1 + 1) (w1.heap.size) w1 (.slice ad dl.length cd) dl) := Lib.hid (hr.wider (by first | omega | (simp; omega) | simp) (Nat.le_refl _))
  clear hr hb
  have hzx0 : w.heap.size < w1.heap.size := by omega
  have hzz0 : w.heap.size + 1 < w1.heap.size := by omega
  have hzy0 : w.heap.size + 1 + 1 < w1.heap.size := by omega
  have HB0c : Hid (Below w.heap.size w (w1.setCell ⟨w.heap.size + 1 + 1, 1, none⟩ (.slice ad dl.length cd))) := Lib.hid (HB0b.out.setCell (by show w.heap.size ≤ w.heap.size + 1 + 1; omega) _)
  have HRd' : Hid (W2 (w.heap.size + 1 + 1 + 1) (w1.heap.size) (w1.setCell ⟨w.heap.size + 1 + 1, 1, none⟩ (.slice ad dl.length cd)) (.slice ad dl.length cd) dl) := Lib.hid (HRd.out.same (Same.set _ (Or.inl (Nat.lt_succ_self _))))
  clear HRd
  have HRd := HRd'
  clear HRd'
  go_wp2_with fail
  refine (to4w_any av al _ (H.out.fa.below HB0c.out) HM.out.ba).mono ?_
  rintro ee w2 ⟨u1, rfl, hr, hb⟩
  obtain ⟨aa, ca, rfl⟩ := Sw.shape hr
  have hs1 : w1.heap.size ≤ w2.heap.size := by have := hb.size; simpa using this
  obtain ⟨hc1, hf1⟩ := bcell hb
  have HB1b := Lib.hid (HB0c.out.trans (hb.mono (by first | omega | (simp; omega) | simp)))
  have HRd' := Lib.hid (HRd.out.same (Same.of_below hb (by simp)))
  clear HRd
  have HRd := HRd'
  clear HRd'
  have HRa : Hid (W4 (w.heap.size + 1 + 1 + 1) (w2.heap.size) w2 (.slice aa al.length ca) al) := Lib.hid (hr.wider (by first | omega | (simp; omega) | simp) (Nat.le_refl _))
  clear hr hb
  have hzx1 : w.heap.size < w2.heap.size := by omega
  have hzz1 : w.heap.size + 1 < w2.heap.size := by omega
  have hzy1 : w.heap.size + 1 + 1 < w2.heap.size := by omega
  have HRd' : Hid (W2 (w.heap.size + 1 + 1 + 1) (w2.heap.size) w2 (.slice ad dl.length cd) dl) := Lib.hid (HRd.out.wider (Nat.le_refl _) (by omega))
  clear HRd
  have HRd := HRd'
  clear HRd'
  have HB1c : Hid (Below w.heap.size w (w2.setCell ⟨w.heap.size + 1 + 1, 2, none⟩ (.slice aa al.length ca))) := Lib.hid (HB1b.out.setCell (by show w.heap.size ≤ w.heap.size + 1 + 1; omega) _)
  have HRd' : Hid (W2 (w.heap.size + 1 + 1 + 1) (w2.heap.size) (w2.setCell ⟨w.heap.size + 1 + 1, 2, none⟩ (.slice aa al.length ca)) (.slice ad dl.length cd) dl) := Lib.hid (HRd.out.same (Same.set _ (Or.inl (Nat.lt_succ_self _))))
  clear HRd
  have HRd := HRd'
  clear HRd'
  have HRa' : Hid (W4 (w.heap.size + 1 + 1 + 1) (w2.heap.size) (w2.setCell ⟨w.heap.size + 1 + 1, 2, none⟩ (.slice aa al.length ca)) (.slice aa al.length ca) al) := Lib.hid (HRa.out.same (Same.set _ (Or.inl (Nat.lt_succ_self _))))
  clear HRa
  have HRa := HRa'
  clear HRa'
  go_wp2_with fail
  refine (to5w_any vv vl _ (H.out.fv.below HB1c.out) HM.out.bv).mono ?_
  rintro ee w3 ⟨u2, rfl, hr, hb⟩
  obtain ⟨av, cv, rfl⟩ := Sw.shape hr
  have hs2 : w2.heap.size ≤ w3.heap.size := by have := hb.size; simpa using this
  obtain ⟨hc2, hf2⟩ := bcell hb
  have HB2b := Lib.hid (HB1c.out.trans (hb.mono (by first | omega | (simp; omega) | simp)))
  have HRd' := Lib.hid (HRd.out.same (Same.of_below hb (by simp)))
  have HRa' := Lib.hid (HRa.out.same (Same.of_below hb (by simp)))
  clear HRd
  have HRd := HRd'
  clear HRd'
  clear HRa
  have HRa := HRa'
  clear HRa'
  have HRv : Hid (W5 (w.heap.size + 1 + 1 + 1) (w3.heap.size) w3 (.slice av vl.length cv) vl) := Lib.hid (hr.wider (by first | omega | (simp; omega) | simp) (Nat.le_refl _))
  clear hr hb
  have hzx2 : w.heap.size < w3.heap.size := by omega
  have hzz2 : w.heap.size + 1 < w3.heap.size := by omega
  have hzy2 : w.heap.size + 1 + 1 < w3.heap.size := by omega
  have HRd' : Hid (W2 (w.heap.size + 1 + 1 + 1) (w3.heap.size) w3 (.slice ad dl.length cd) dl) := Lib.hid (HRd.out.wider (Nat.le_refl _) (by omega))
  clear HRd
  have HRd := HRd'
  clear HRd'
  have HRa' : Hid (W4 (w.heap.size + 1 + 1 + 1) (w3.heap.size) w3 (.slice aa al.length ca) al) := Lib.hid (HRa.out.wider (Nat.le_refl _) (by omega))
  clear HRa
  have HRa := HRa'
  clear HRa'
  go_wp2
  refine bodyPost_ret (v := .agg #[.int .i64 p, .slice ad dl.length cd, .slice aa al.length ca, .slice av vl.length cv]) ?_ rfl ?_
  · simp only [results, HRES.out]
    go_simp
  · have hk : ∀ hi, Same (w.heap.size + 1 + 1 + 1) hi w3 (((((w3.setCell ⟨w.heap.size + 1 + 1, 3, none⟩ (.slice av vl.length cv)).setCell ⟨w.heap.size + 1, 0, none⟩ (.int .i64 p)).setCell ⟨w.heap.size + 1, 1, none⟩ (.slice ad dl.length cd)).setCell ⟨w.heap.size + 1, 2, none⟩ (.slice aa al.length ca)).setCell ⟨w.heap.size + 1, 3, none⟩ (.slice av vl.length cv)) := fun hi => (((((Same.set _ (Or.inl (by omega))).trans (Same.set _ (Or.inl (by omega)))).trans (Same.set _ (Or.inl (by omega)))).trans (Same.set _ (Or.inl (by omega)))).trans (Same.set _ (Or.inl (by omega))))
    refine ⟨_, _, _, rfl, ⟨?_, ?_, ?_⟩, ?_⟩
    · exact (HRd.out.same (hk _)).wider (by omega) (by simp)
    · exact (HRa.out.same (hk _)).wider (by omega) (by simp)
    · exact (HRv.out.same (hk _)).wider (by omega) (by simp)
    · exact (((((HB2b.out.setCell (by show w.heap.size ≤ w.heap.size + 1 + 1; omega) _).setCell (by show w.heap.size ≤ w.heap.size + 1; omega) _).setCell (by show w.heap.size ≤ w.heap.size + 1; omega) _).setCell (by show w.heap.size ≤ w.heap.size + 1; omega) _).setCell (by show w.heap.size ≤ w.heap.size + 1; omega) _)

set_option maxHeartbeats 1600000 in
theorem eqDoublec_true (p : Int) (dv av vv : Value) (dv2 av2 vv2 : Value) (dl : List (List Int)) (al : List (List (List (List Int)))) (vl : List (List (List (List Int)))) (w : World) (h : Dc 0 w dv av vv dl al vl) (h2 : Dc 0 w dv2 av2 vv2 dl al vl) (hm : DcB 1048576 dl al vl) :
    Calls Try.prog 14 #[.agg #[.int .i64 p, dv, av, vv], .agg #[.int .i64 p, dv2, av2, vv2]] w (BR (.bool true) w) := by
  have HM := Lib.hid hm
  have HB0 : Hid (Below w.heap.size w ((w.alloc (.cells #[.int .i64 p, dv, av, vv] 28)).alloc (.cells #[.int .i64 p, dv2, av2, vv2] 28))) := Lib.hid (((Below.refl _ _).alloc (Nat.le_refl _) _).alloc (by simp) _)
  have H := Lib.hid (h.below HB0.out)
  have H2 := Lib.hid (h2.below HB0.out)
  clear hm h h2
  go_enter Try.func14, Try.ntmps14
  go_wp2_with fail
  have h1 := eq2_any dv dv2 dl dl _ H.out.fd H2.out.fd HM.out.bd HM.out.bd
  rw [decide_eq_true rfl] at h1
  refine h1.mono ?_
  clear h1
  rintro ee w' ⟨rfl, m0, rfl⟩
  go_wp2_with fail
  have h1 := eq4_any av av2 al al _ (H.out.fa.below (drewN_below _ (m0))) (H2.out.fa.below (drewN_below _ (m0))) HM.out.ba HM.out.ba
  rw [decide_eq_true rfl] at h1
  refine h1.mono ?_
  clear h1
  rintro ee w' ⟨rfl, m1, rfl⟩
  go_wp2_with fail
  have h1 := eq5_any vv vv2 vl vl _ (H.out.fv.below (drewN_below _ (m0 + m1))) (H2.out.fv.below (drewN_below _ (m0 + m1))) HM.out.bv HM.out.bv
  rw [decide_eq_true rfl] at h1
  refine h1.mono ?_
  clear h1
  rintro ee w' ⟨rfl, m2, rfl⟩
  go_wp2
  go_ret
  exact ⟨rfl, HB0.out.trans ((drewN_below _ (m0 + m1 + m2)).mono HB0.out.size)⟩
theorem array4c {α : Type} {cs : Array α} (h : cs.size = 4) : ∃ c0 c1 c2 c3, cs = #[c0, c1, c2, c3] := by
  obtain ⟨l⟩ := cs
  match l, h with
  | [c0, c1, c2, c3], _ => exact ⟨c0, c1, c2, c3, rfl⟩
theorem Try.cellsDc : Try.prog.cellsOf 25 = 4 := by kernel_rfl
section
variable {H : Type} {enc : TypeId × Value → H} {P : Program} {w : World} {base : Nat} {held : Bool} {spare : Nat → Bool}
theorem trod_struct4c {t : TypeId} {f0 f1 f2 f3 : Field} {fuel : Nat} {cs : List Value} {x : DataW H × List MemPlace} (ht : P.underlying t = some (.struct #[f0, f1, f2, f3])) (h : DataW.trod enc P w base (fun _ => true) held fuel t cs = some x) :
    ∃ y0 y1 y2 y3 m, DataW.trod enc P w base (fun _ => true) held m f0.type ((cs.drop f0.offset).take (P.cellsOf f0.type)) = some y0 ∧ DataW.trod enc P w base (fun _ => true) held m f1.type ((cs.drop f1.offset).take (P.cellsOf f1.type)) = some y1 ∧ DataW.trod enc P w base (fun _ => true) held m f2.type ((cs.drop f2.offset).take (P.cellsOf f2.type)) = some y2 ∧ DataW.trod enc P w base (fun _ => true) held m f3.type ((cs.drop f3.offset).take (P.cellsOf f3.type)) = some y3 := by
  obtain ⟨xs, m, _, rfl, hl, hlen, hf⟩ := DataW.trod_struct ht h
  match xs, hlen with
  | [y0, y1, y2, y3], _ => exact ⟨y0, y1, y2, y3, m, by simpa using hf 0 f0 rfl, by simpa using hf 1 f1 rfl, by simpa using hf 2 f2 rfl, by simpa using hf 3 f3 rfl⟩
set_option maxRecDepth 100000 in
theorem doublec_of_trod {r : Reach} {b0 : Nat} {v : Value} {d' : DataW H} {p' : List MemPlace} (hv : Value.okWide Try.prog w r b0 25 v) (h : DataW.Trod enc Try.prog w base (fun _ => true) held 25 v d' p') :
    ∃ (p : Int) (dv av vv : Value) (dl : List (List Int)) (al : List (List (List (List Int)))) (vl : List (List (List (List Int)))), v = .agg #[.int .i64 p, dv, av, vv] ∧ Dc 0 w dv av vv dl al vl ∧ DcB 9223372036854775807 dl al vl := by
  obtain ⟨cs, rfl, hsz⟩ := okWide_struct Try.underlying25 hv
  obtain ⟨c0, c1, c2, c3, rfl⟩ := array4c (hsz.trans Try.cellsDc)
  obtain ⟨fuel, hf⟩ := h
  obtain ⟨y0, y1, y2, y3, m, h0, h1, h2, h3⟩ := trod_struct4c Try.underlying25 hf
  have h0' : DataW.trod enc Try.prog w base (fun _ => true) held m 2 [c0] = some y0 := h0
  have h1' : DataW.trod enc Try.prog w base (fun _ => true) held m 22 [c1] = some y1 := h1
  have h2' : DataW.trod enc Try.prog w base (fun _ => true) held m 23 [c2] = some y2 := h2
  have h3' : DataW.trod enc Try.prog w base (fun _ => true) held m 23 [c3] = some y3 := h3
  obtain ⟨q0, e0, _, _⟩ := DataW.trod_int Try.underlying2 h0'
  obtain rfl : c0 = .int .i64 q0 := by simpa using e0
  obtain ⟨x1, hx1, hy1⟩ := l2_of_trod h1'
  obtain ⟨x2, hx2, hy2⟩ := l4_of_trod h2'
  obtain ⟨x3, hx3, hy3⟩ := l5_of_trod h3'
  exact ⟨q0, c1, c2, c3, x1, x2, x3, rfl, ⟨hx1, hx2, hx3⟩, ⟨hy1, hy2, hy3⟩⟩
end
end Go.Proofs.Ytlopenephgabhaa


namespace Go.Proofs.Ytlopenephgabhaa
open Go.RowKit

def smL {α : Type} (f : α → Nat) (xs : List α) : Nat := (xs.map f).sum
theorem smL_succ {α : Type} (f : α → Nat) (xs : List α) {j : Nat} (h : j < xs.length) : smL f (xs.take (j + 1)) = smL f (xs.take j) + f xs[j] := by
  show ((xs.take (j + 1)).map f).sum = ((xs.take j).map f).sum + f xs[j]
  rw [← List.take_append_getElem h, List.map_append, List.sum_append]
  simp only [List.map_cons, List.map_nil, List.sum_cons, List.sum_nil, Nat.add_zero]
theorem smL_full {α : Type} (f : α → Nat) (xs : List α) {j : Nat} (h : j = xs.length) : smL f (xs.take j) = smL f xs := by rw [h, List.take_length]
theorem smL_take {α : Type} (f : α → Nat) (xs : List α) (j : Nat) : smL f (xs.take j) ≤ smL f xs := by
  have h : smL f xs = smL f (xs.take j) + smL f (xs.drop j) := by simp only [smL]; rw [← List.sum_append, ← List.map_append, List.take_append_drop]
  omega
theorem smL_mono {α : Type} {f g : α → Nat} (xs : List α) (h : ∀ x, f x ≤ g x) : smL f xs ≤ smL g xs := by
  induction xs with
  | nil => simp [smL]
  | cons x xs ih => have := h x; simp only [smL, List.map_cons, List.sum_cons] at ih ⊢; omega
def tot1 (xs : List Int) : Nat := xs.length
def tot2 (xs : List (List Int)) : Nat := xs.length + smL tot1 xs
def tot3 (xs : List (List (List Int))) : Nat := xs.length + smL tot2 xs
def tot4 (xs : List (List (List (List Int)))) : Nat := xs.length + smL tot3 xs
def cnt1 (xs : List Int) : Nat := xs.length
def cnt2 (xs : List (List Int)) : Nat := smL cnt1 xs
def cnt3 (xs : List (List (List Int))) : Nat := smL cnt2 xs
def cnt4 (xs : List (List (List (List Int)))) : Nat := smL cnt3 xs
theorem cnt2_le (xs : List (List Int)) : cnt2 xs ≤ tot2 xs := by unfold cnt2 tot2; have := smL_mono (f := cnt1) (g := tot1) xs (fun _ => Nat.le_refl _); omega
theorem cnt3_le (xs : List (List (List Int))) : cnt3 xs ≤ tot3 xs := by unfold cnt3 tot3; have := smL_mono (f := cnt2) (g := tot2) xs cnt2_le; omega
theorem cnt4_le (xs : List (List (List (List Int)))) : cnt4 xs ≤ tot4 xs := by unfold cnt4 tot4; have := smL_mono (f := cnt3) (g := tot3) xs cnt3_le; omega
def T4 (lo hi : Nat) := Sw lo hi (T3 lo hi)

/-- A size: what is left is told, or there was too much. -/
def SzT (left : Int) (n : Nat) (w : World) (e : Ending) (w' : World) : Prop := ∃ r : Int, e = .returned (.int .i64 r) ∧ w = w' ∧ (r = -1 ∨ 0 ≤ r ∧ r = left - (n : Int))

set_option maxHeartbeats 800000 in
theorem szt1_any {lo : Nat} (v : Value) (xs : List Int) (left : Int) (w : World) (h : L1 lo w v xs) (h0 : 0 ≤ left) (h1 : left ≤ 1048576) (hm : xs.length ≤ 9223372036854775807) :
    Calls Try.prog 73 #[v, .int .i64 left] w (SzT left (tot1 xs) w) := by
  obtain ⟨ad, cap, rfl⟩ := Sl.shape h
  by_cases hlt : left - xs.length < 0
  · go_enter Try.func73, Try.ntmps73
    go_wp2
    go_ret
    exact ⟨_, rfl, rfl, Or.inl rfl⟩
  · go_enter Try.func73, Try.ntmps73
    go_wp2
    go_ret
    exact ⟨_, rfl, rfl, Or.inr ⟨by omega, by unfold tot1; omega⟩⟩

set_option maxHeartbeats 800000 in
theorem szt2_any {lo : Nat} (v : Value) (xs : List (List Int)) (left : Int) (w : World) (h : L2 lo w v xs) (h0 : 0 ≤ left) (h1 : left ≤ 1048576) (hm : Bd2 9223372036854775807 xs) :
    Calls Try.prog 40 #[v, .int .i64 left] w (SzT left (tot2 xs) w) := by
  have hm0 : xs.length ≤ 9223372036854775807 := hm.1
  refine Sl.cases h (fun ad cap hx hv => ?_) (fun b o cap hv _ hpos hc => ?_)
  · subst hx hv
    go_enter Try.func40, Try.ntmps40
    go_wp2
    refine wp_loop_rounds 1 ?_
    rw [rounds_succ]
    go_wp2
    go_ret
    exact ⟨_, rfl, rfl, Or.inr ⟨by omega, by simp [tot2, smL]⟩⟩
  · subst hv
    clear h
    by_cases hlt : left - xs.length < 0
    · go_enter Try.func40, Try.ntmps40
      go_wp2
      go_ret
      exact ⟨_, rfl, rfl, Or.inl rfl⟩
    · have HM := Lib.hid hm
      have HC := Lib.hid hc
      clear hm hc
      go_enter Try.func40, Try.ntmps40
      go_wp2
      go_loop [1, 5] (fun l i => ∃ (k : Nat) (r : Int), k ≤ xs.length ∧ i = .int .i64 k ∧ l = .int .i64 r ∧ 0 ≤ r ∧ r ≤ left ∧ Hid (r = left - (xs.length : Int) - (smL tot1 (xs.take k) : Int))) (fun _ i => xs.length - (intOf i).toNat)
      case atStart => exact ⟨0, _, Nat.zero_le _, rfl, rfl, by omega, by omega, Lib.hid (by simp [smL])⟩
      case round =>
        obtain ⟨k, r, hk, rfl, rfl, hr0, hr1, HR1⟩ := hrel
        by_cases hlt2 : k < xs.length
        · obtain ⟨u, hu, hr⟩ := HC.out k hlt2
          have hmu : (xs[k]).length ≤ 9223372036854775807 := HM.out.2 _ (List.getElem_mem hlt2)
          go_wp2_with fail
          refine (szt1_any u xs[k] r _ hr hr0 (by omega) hmu).mono ?_
          rintro e w' ⟨r2, rfl, rfl, hpost⟩
          rcases hpost with rfl | ⟨hp0, hp1⟩
          · go_wp2
            go_ret
            exact ⟨_, rfl, rfl, Or.inl rfl⟩
          · have hrn : Hid (r2 = left - (xs.length : Int) - (smL tot1 (xs.take (k + 1)) : Int)) := Lib.hid (by have := smL_succ tot1 xs hlt2; have := HR1.out; omega)
            have hrl : r2 ≤ left := by omega
            clear hp1 HR1
            go_wp2
            go_round
            case rel => exact ⟨k + 1, r2, by omega, by go_num, rfl, hp0, hrl, hrn⟩
            case measure => simp [intOf]; omega
        · have hfin : Hid (r = left - (tot2 xs : Int)) := Lib.hid (by have := smL_full tot1 xs (show k = xs.length by omega); have := HR1.out; unfold tot2; omega)
          clear HR1
          go_wp2
          go_ret
          exact ⟨_, rfl, rfl, Or.inr ⟨hr0, hfin.out⟩⟩

set_option maxHeartbeats 800000 in
theorem szt3_any {lo : Nat} (v : Value) (xs : List (List (List Int))) (left : Int) (w : World) (h : L3 lo w v xs) (h0 : 0 ≤ left) (h1 : left ≤ 1048576) (hm : Bd3 9223372036854775807 xs) :
    Calls Try.prog 74 #[v, .int .i64 left] w (SzT left (tot3 xs) w) := by
  have hm0 : xs.length ≤ 9223372036854775807 := hm.1
  refine Sl.cases h (fun ad cap hx hv => ?_) (fun b o cap hv _ hpos hc => ?_)
  · subst hx hv
    go_enter Try.func74, Try.ntmps74
    go_wp2
    refine wp_loop_rounds 1 ?_
    rw [rounds_succ]
    go_wp2
    go_ret
    exact ⟨_, rfl, rfl, Or.inr ⟨by omega, by simp [tot3, smL]⟩⟩
  · subst hv
    clear h
    by_cases hlt : left - xs.length < 0
    · go_enter Try.func74, Try.ntmps74
      go_wp2
      go_ret
      exact ⟨_, rfl, rfl, Or.inl rfl⟩
    · have HM := Lib.hid hm
      have HC := Lib.hid hc
      clear hm hc
      go_enter Try.func74, Try.ntmps74
      go_wp2
      go_loop [1, 5] (fun l i => ∃ (k : Nat) (r : Int), k ≤ xs.length ∧ i = .int .i64 k ∧ l = .int .i64 r ∧ 0 ≤ r ∧ r ≤ left ∧ Hid (r = left - (xs.length : Int) - (smL tot2 (xs.take k) : Int))) (fun _ i => xs.length - (intOf i).toNat)
      case atStart => exact ⟨0, _, Nat.zero_le _, rfl, rfl, by omega, by omega, Lib.hid (by simp [smL])⟩
      case round =>
        obtain ⟨k, r, hk, rfl, rfl, hr0, hr1, HR1⟩ := hrel
        by_cases hlt2 : k < xs.length
        · obtain ⟨u, hu, hr⟩ := HC.out k hlt2
          have hmu : Bd2 9223372036854775807 xs[k] := HM.out.2 _ (List.getElem_mem hlt2)
          go_wp2_with fail
          refine (szt2_any u xs[k] r _ hr hr0 (by omega) hmu).mono ?_
          rintro e w' ⟨r2, rfl, rfl, hpost⟩
          rcases hpost with rfl | ⟨hp0, hp1⟩
          · go_wp2
            go_ret
            exact ⟨_, rfl, rfl, Or.inl rfl⟩
          · have hrn : Hid (r2 = left - (xs.length : Int) - (smL tot2 (xs.take (k + 1)) : Int)) := Lib.hid (by have := smL_succ tot2 xs hlt2; have := HR1.out; omega)
            have hrl : r2 ≤ left := by omega
            clear hp1 HR1
            go_wp2
            go_round
            case rel => exact ⟨k + 1, r2, by omega, by go_num, rfl, hp0, hrl, hrn⟩
            case measure => simp [intOf]; omega
        · have hfin : Hid (r = left - (tot3 xs : Int)) := Lib.hid (by have := smL_full tot2 xs (show k = xs.length by omega); have := HR1.out; unfold tot3; omega)
          clear HR1
          go_wp2
          go_ret
          exact ⟨_, rfl, rfl, Or.inr ⟨hr0, hfin.out⟩⟩

set_option maxHeartbeats 800000 in
theorem szt4_any {lo : Nat} (v : Value) (xs : List (List (List (List Int)))) (left : Int) (w : World) (h : L4 lo w v xs) (h0 : 0 ≤ left) (h1 : left ≤ 1048576) (hm : Bd4 9223372036854775807 xs) :
    Calls Try.prog 41 #[v, .int .i64 left] w (SzT left (tot4 xs) w) := by
  have hm0 : xs.length ≤ 9223372036854775807 := hm.1
  refine Sl.cases h (fun ad cap hx hv => ?_) (fun b o cap hv _ hpos hc => ?_)
  · subst hx hv
    go_enter Try.func41, Try.ntmps41
    go_wp2
    refine wp_loop_rounds 1 ?_
    rw [rounds_succ]
    go_wp2
    go_ret
    exact ⟨_, rfl, rfl, Or.inr ⟨by omega, by simp [tot4, smL]⟩⟩
  · subst hv
    clear h
    by_cases hlt : left - xs.length < 0
    · go_enter Try.func41, Try.ntmps41
      go_wp2
      go_ret
      exact ⟨_, rfl, rfl, Or.inl rfl⟩
    · have HM := Lib.hid hm
      have HC := Lib.hid hc
      clear hm hc
      go_enter Try.func41, Try.ntmps41
      go_wp2
      go_loop [1, 5] (fun l i => ∃ (k : Nat) (r : Int), k ≤ xs.length ∧ i = .int .i64 k ∧ l = .int .i64 r ∧ 0 ≤ r ∧ r ≤ left ∧ Hid (r = left - (xs.length : Int) - (smL tot3 (xs.take k) : Int))) (fun _ i => xs.length - (intOf i).toNat)
      case atStart => exact ⟨0, _, Nat.zero_le _, rfl, rfl, by omega, by omega, Lib.hid (by simp [smL])⟩
      case round =>
        obtain ⟨k, r, hk, rfl, rfl, hr0, hr1, HR1⟩ := hrel
        by_cases hlt2 : k < xs.length
        · obtain ⟨u, hu, hr⟩ := HC.out k hlt2
          have hmu : Bd3 9223372036854775807 xs[k] := HM.out.2 _ (List.getElem_mem hlt2)
          go_wp2_with fail
          refine (szt3_any u xs[k] r _ hr hr0 (by omega) hmu).mono ?_
          rintro e w' ⟨r2, rfl, rfl, hpost⟩
          rcases hpost with rfl | ⟨hp0, hp1⟩
          · go_wp2
            go_ret
            exact ⟨_, rfl, rfl, Or.inl rfl⟩
          · have hrn : Hid (r2 = left - (xs.length : Int) - (smL tot3 (xs.take (k + 1)) : Int)) := Lib.hid (by have := smL_succ tot3 xs hlt2; have := HR1.out; omega)
            have hrl : r2 ≤ left := by omega
            clear hp1 HR1
            go_wp2
            go_round
            case rel => exact ⟨k + 1, r2, by omega, by go_num, rfl, hp0, hrl, hrn⟩
            case measure => simp [intOf]; omega
        · have hfin : Hid (r = left - (tot4 xs : Int)) := Lib.hid (by have := smL_full tot3 xs (show k = xs.length by omega); have := HR1.out; unfold tot4; omega)
          clear HR1
          go_wp2
          go_ret
          exact ⟨_, rfl, rfl, Or.inr ⟨hr0, hfin.out⟩⟩

set_option maxHeartbeats 800000 in
theorem mark2t_any {lo hi : Nat} (v : Value) (xs : List (List Int)) (k : Int) (w : World) (h : T2 lo hi w v xs) (hm : Bd2 1048576 xs) (hk0 : 0 ≤ k) (hk1 : k + (cnt2 xs : Int) ≤ 4611686018427387904) :
    Calls Try.prog 27 #[v, .int .i64 k] w (MarkD lo hi k (k + (cnt2 xs : Int)) w) := by
  have hml : xs.length ≤ 1048576 := hm.1
  have HM := Lib.hid hm
  have H := Lib.hid h
  clear hm
  refine Sw.cases h (fun ad cap hx hv => ?_) (fun b o cap hv hlo hhi hpos hc hf => ?_)
  · subst hx hv
    clear h
    go_enter Try.func27, Try.ntmps27
    go_wp2
    refine wp_loop_rounds 1 ?_
    rw [rounds_succ]
    go_wp2
    go_ret
    exact ⟨k, rfl, Int.le_refl _, by simp [cnt2, smL], Only.refl _ _ _, Tame.refl _⟩
  · subst hv
    clear h
    have HC := Lib.hid hc
    clear hc hf
    go_enter Try.func27, Try.ntmps27
    go_wp2
    go_loopw [1, 5] (fun kk i wr => ∃ (j : Nat) (r : Int), j ≤ xs.length ∧ i = .int .i64 j ∧ kk = .int .i64 r ∧ k ≤ r ∧ r ≤ k + (smL cnt1 (xs.take j) : Int) ∧ Hid (Only lo hi w wr ∧ Tame w wr)) (fun _ i _ => xs.length - (intOf i).toNat)
    case atStart => exact ⟨0, k, Nat.zero_le _, rfl, rfl, Int.le_refl _, by simp [smL], Lib.hid ⟨Only.refl _ _ _, Tame.refl _⟩⟩
    case round =>
      obtain ⟨j, r, hj, rfl, rfl, hr0, hr1, HO⟩ := hrel
      by_cases hlt : j < xs.length
      · obtain ⟨u, hu, hr⟩ := HC.out j hlt
        obtain ⟨a1, c1, hu1⟩ := Sw.shape hr
        rw [hu1] at hu hr
        have hu' := HO.out.2.slices _ _ _ _ _ hu
        have HR := Lib.hid (T1.tame hr HO.out.2)
        have hmx : (xs[j]).length ≤ 1048576 := HM.out.2 _ (List.getElem_mem hlt)
        clear hu hr hu1
        have hsm := smL_succ cnt1 xs hlt
        have hst := smL_take cnt1 xs (j + 1)
        have hct : cnt2 xs = smL cnt1 xs := rfl
        have hc1 : cnt1 xs[j] = (xs[j]).length := rfl
        go_wp2_with fail
        refine (mark1_any _ xs[j] r _ HR.out hmx (by omega) (by omega)).mono ?_
        rintro e w2 ⟨rfl, ho, ht, _⟩
        have HO2 := Lib.hid (And.intro (HO.out.1.trans ho) (HO.out.2.trans ht))
        clear ho ht
        go_wp2
        go_roundw
        case rel => exact ⟨j + 1, r + ((xs[j]).length : Int), by omega, by go_num, rfl, by omega, by omega, HO2⟩
        case measure => simp [intOf]; omega
      · have hjj : Hid (j = xs.length) := Lib.hid (by omega)
        have hsf := smL_full cnt1 xs hjj.out
        have hct : cnt2 xs = smL cnt1 xs := rfl
        go_wp2
        go_ret
        exact ⟨r, rfl, hr0, by have := hjj.out; omega, HO.out.1, HO.out.2⟩

set_option maxHeartbeats 800000 in
theorem mark3t_any {lo hi : Nat} (v : Value) (xs : List (List (List Int))) (k : Int) (w : World) (h : T3 lo hi w v xs) (hm : Bd3 1048576 xs) (hk0 : 0 ≤ k) (hk1 : k + (cnt3 xs : Int) ≤ 4611686018427387904) :
    Calls Try.prog 64 #[v, .int .i64 k] w (MarkD lo hi k (k + (cnt3 xs : Int)) w) := by
  have hml : xs.length ≤ 1048576 := hm.1
  have HM := Lib.hid hm
  refine Sw.cases h (fun ad cap hx hv => ?_) (fun b o cap hv hlo hhi hpos hc hf => ?_)
  · subst hx hv
    clear h hm
    go_enter Try.func64, Try.ntmps64
    go_wp2
    refine wp_loop_rounds 1 ?_
    rw [rounds_succ]
    go_wp2
    go_ret
    exact ⟨k, rfl, Int.le_refl _, by simp [cnt3, smL], Only.refl _ _ _, Tame.refl _⟩
  · subst hv
    clear h hm
    have HC := Lib.hid hc
    clear hc hf
    go_enter Try.func64, Try.ntmps64
    go_wp2
    go_loopw [1, 5] (fun kk i wr => ∃ (j : Nat) (r : Int), j ≤ xs.length ∧ i = .int .i64 j ∧ kk = .int .i64 r ∧ k ≤ r ∧ r ≤ k + (smL cnt2 (xs.take j) : Int) ∧ Hid (Only lo hi w wr ∧ Tame w wr)) (fun _ i _ => xs.length - (intOf i).toNat)
    case atStart => exact ⟨0, k, Nat.zero_le _, rfl, rfl, Int.le_refl _, by simp [smL], Lib.hid ⟨Only.refl _ _ _, Tame.refl _⟩⟩
    case round =>
      obtain ⟨j, r, hj, rfl, rfl, hr0, hr1, HO⟩ := hrel
      by_cases hlt : j < xs.length
      · obtain ⟨u, hu, hr⟩ := HC.out j hlt
        obtain ⟨a1, c1, hu1⟩ := Sw.shape hr
        rw [hu1] at hu hr
        have hu' := HO.out.2.slices _ _ _ _ _ hu
        have HR := Lib.hid (T2.tame hr HO.out.2)
        have hmy : (xs[j]).length ≤ 1048576 := (HM.out.2 _ (List.getElem_mem hlt)).1
        clear hu hr hu1
        have hsm := smL_succ cnt2 xs hlt
        have hst := smL_take cnt2 xs (j + 1)
        have hct : cnt3 xs = smL cnt2 xs := rfl
        have hmz : (xs[j]).length ≤ 1048576 := hmy
        go_wp2_with fail
        refine (mark2t_any _ xs[j] r _ HR.out (HM.out.2 _ (List.getElem_mem hlt)) (by omega) (by omega)).mono ?_
        rintro e w2 ⟨r2, rfl, hs0, hs1, ho, ht⟩
        have HO2 := Lib.hid (And.intro (HO.out.1.trans ho) (HO.out.2.trans ht))
        clear ho ht
        go_wp2
        go_roundw
        case rel => exact ⟨j + 1, r2, by omega, by go_num, rfl, by omega, by omega, HO2⟩
        case measure => simp [intOf]; omega
      · have hjj : Hid (j = xs.length) := Lib.hid (by omega)
        have hsf := smL_full cnt2 xs hjj.out
        have hct : cnt3 xs = smL cnt2 xs := rfl
        go_wp2
        go_ret
        exact ⟨r, rfl, hr0, by have := hjj.out; omega, HO.out.1, HO.out.2⟩

theorem W4.t4 {lo hi : Nat} {w : World} {v : Value} {xs : List (List (List (List Int)))} (h : W4 lo hi w v xs) : T4 lo hi w v xs := Sw.wider (Nat.le_refl _) (Nat.le_refl _) (fun _ _ _ h => h.t3) h

set_option maxHeartbeats 800000 in
theorem mark4t_any {lo hi : Nat} (v : Value) (xs : List (List (List (List Int)))) (k : Int) (w : World) (h : T4 lo hi w v xs) (hm : Bd4 1048576 xs) (hk0 : 0 ≤ k) (hk1 : k + (cnt4 xs : Int) ≤ 4611686018427387904) :
    Calls Try.prog 52 #[v, .int .i64 k] w (MarkD lo hi k (k + (cnt4 xs : Int)) w) := by
  have hml : xs.length ≤ 1048576 := hm.1
  have HM := Lib.hid hm
  refine Sw.cases h (fun ad cap hx hv => ?_) (fun b o cap hv hlo hhi hpos hc hf => ?_)
  · subst hx hv
    clear h hm
    go_enter Try.func52, Try.ntmps52
    go_wp2
    refine wp_loop_rounds 1 ?_
    rw [rounds_succ]
    go_wp2
    go_ret
    exact ⟨k, rfl, Int.le_refl _, by simp [cnt4, smL], Only.refl _ _ _, Tame.refl _⟩
  · subst hv
    clear h hm
    have HC := Lib.hid hc
    clear hc hf
    go_enter Try.func52, Try.ntmps52
    go_wp2
    go_loopw [1, 5] (fun kk i wr => ∃ (j : Nat) (r : Int), j ≤ xs.length ∧ i = .int .i64 j ∧ kk = .int .i64 r ∧ k ≤ r ∧ r ≤ k + (smL cnt3 (xs.take j) : Int) ∧ Hid (Only lo hi w wr ∧ Tame w wr)) (fun _ i _ => xs.length - (intOf i).toNat)
    case atStart => exact ⟨0, k, Nat.zero_le _, rfl, rfl, Int.le_refl _, by simp [smL], Lib.hid ⟨Only.refl _ _ _, Tame.refl _⟩⟩
    case round =>
      obtain ⟨j, r, hj, rfl, rfl, hr0, hr1, HO⟩ := hrel
      by_cases hlt : j < xs.length
      · obtain ⟨u, hu, hr⟩ := HC.out j hlt
        obtain ⟨a1, c1, hu1⟩ := Sw.shape hr
        rw [hu1] at hu hr
        have hu' := HO.out.2.slices _ _ _ _ _ hu
        have HR := Lib.hid (T3.tame hr HO.out.2)
        have hmy : (xs[j]).length ≤ 1048576 := (HM.out.2 _ (List.getElem_mem hlt)).1
        clear hu hr hu1
        have hsm := smL_succ cnt3 xs hlt
        have hst := smL_take cnt3 xs (j + 1)
        have hct : cnt4 xs = smL cnt3 xs := rfl
        have hmz : (xs[j]).length ≤ 1048576 := hmy
        go_wp2_with fail
        refine (mark3t_any _ xs[j] r _ HR.out (HM.out.2 _ (List.getElem_mem hlt)) (by omega) (by omega)).mono ?_
        rintro e w2 ⟨r2, rfl, hs0, hs1, ho, ht⟩
        have HO2 := Lib.hid (And.intro (HO.out.1.trans ho) (HO.out.2.trans ht))
        clear ho ht
        go_wp2
        go_roundw
        case rel => exact ⟨j + 1, r2, by omega, by go_num, rfl, by omega, by omega, HO2⟩
        case measure => simp [intOf]; omega
      · have hjj : Hid (j = xs.length) := Lib.hid (by omega)
        have hsf := smL_full cnt3 xs hjj.out
        have hct : cnt4 xs = smL cnt3 xs := rfl
        go_wp2
        go_ret
        exact ⟨r, rfl, hr0, by have := hjj.out; omega, HO.out.1, HO.out.2⟩

end Go.Proofs.Ytlopenephgabhaa


namespace Go.Proofs.Ytlopenephgabhaa
open Go.RowKit
theorem smL_mem {α : Type} (f : α → Nat) {xs : List α} {x : α} (h : x ∈ xs) : f x ≤ smL f xs := by
  induction xs with
  | nil => cases h
  | cons y xs ih =>
    have e : smL f (y :: xs) = f y + smL f xs := by simp [smL]
    rcases List.mem_cons.1 h with rfl | h
    · omega
    · have := ih h; omega
theorem bd1_tot {n : Nat} {xs : List Int} (h : tot1 xs ≤ n) : Bd1 n xs := h
theorem bd2_tot {n : Nat} {xs : List (List Int)} (h : tot2 xs ≤ n) : Bd2 n xs := by
  unfold tot2 at h
  exact ⟨by omega, fun x hx => bd1_tot (by have := smL_mem tot1 hx; omega)⟩
theorem bd3_tot {n : Nat} {xs : List (List (List Int))} (h : tot3 xs ≤ n) : Bd3 n xs := by
  unfold tot3 at h
  exact ⟨by omega, fun x hx => bd2_tot (by have := smL_mem tot2 hx; omega)⟩
theorem bd4_tot {n : Nat} {xs : List (List (List (List Int)))} (h : tot4 xs ≤ n) : Bd4 n xs := by
  unfold tot4 at h
  exact ⟨by omega, fun x hx => bd3_tot (by have := smL_mem tot3 hx; omega)⟩
theorem T4.tame {lo hi : Nat} {w w' : World} {v : Value} {xs : List (List (List (List Int)))} (h : T4 lo hi w v xs) (ht : Tame w w') : T4 lo hi w' v xs :=
  tame_sw (fun _ _ x h => by obtain ⟨a, c, e⟩ := Sw.shape h; exact ⟨a, _, c, e⟩) (fun _ _ h => T3.tame h ht) h ht
def tot5 (xs : List (List (List (List Int)))) : Nat := tot4 xs
def cnt5 (xs : List (List (List (List Int)))) : Nat := cnt4 xs
theorem cnt5_le (xs : List (List (List (List Int)))) : cnt5 xs ≤ tot5 xs := cnt4_le xs
theorem bd5_tot {n : Nat} {xs : List (List (List (List Int)))} (h : tot5 xs ≤ n) : Bd5 n xs := bd4_tot h
def T5 (lo hi : Nat) := T4 lo hi
theorem T5.tame {lo hi : Nat} {w w' : World} {v : Value} {xs : List (List (List (List Int)))} (h : T5 lo hi w v xs) (ht : Tame w w') : T5 lo hi w' v xs := T4.tame h ht
theorem W5.t5 {lo hi : Nat} {w : World} {v : Value} {xs : List (List (List (List Int)))} (h : W5 lo hi w v xs) : T5 lo hi w v xs := Sw.wider (Nat.le_refl _) (Nat.le_refl _) (fun _ _ _ h => h.1.t3) h
theorem szt5_any {lo : Nat} (v : Value) (xs : List (List (List (List Int)))) (left : Int) (w : World) (h : L5 lo w v xs) (h0 : 0 ≤ left) (h1 : left ≤ 1048576) (hm : Bd5 9223372036854775807 xs) :
    Calls Try.prog 41 #[v, .int .i64 left] w (SzT left (tot5 xs) w) := szt4_any v xs left w h.l4 h0 h1 hm
theorem mark5t_any {lo hi : Nat} (v : Value) (xs : List (List (List (List Int)))) (k : Int) (w : World) (h : T5 lo hi w v xs) (hm : Bd5 1048576 xs) (hk0 : 0 ≤ k) (hk1 : k + (cnt5 xs : Int) ≤ 4611686018427387904) :
    Calls Try.prog 52 #[v, .int .i64 k] w (MarkD lo hi k (k + (cnt5 xs : Int)) w) := mark4t_any v xs k w h hm hk0 hk1
end Go.Proofs.Ytlopenephgabhaa


namespace Go.Proofs.Ytlopenephgabhaa
open Go.ChangeShapes Go.WideShapes Go.ChangeAt Go.RowKit Go.Deep

structure DcS (n : Nat) (dl : List (List Int)) (al : List (List (List (List Int)))) (vl : List (List (List (List Int)))) : Prop where
  b : DcB n dl al vl
  tot : tot2 dl + tot4 al + tot5 vl ≤ n

set_option maxHeartbeats 800000 in
theorem sztDoublec_any (p : Int) (dv av vv : Value) (dl : List (List Int)) (al : List (List (List (List Int)))) (vl : List (List (List (List Int)))) (left : Int) (w : World) (h : Dc 0 w dv av vv dl al vl) (h0 : 0 ≤ left) (h1 : left ≤ 1048576) (hml : DcB 9223372036854775807 dl al vl) :
    Calls Try.prog 10 #[.agg #[.int .i64 p, dv, av, vv], .int .i64 left] w (SzB left (DcS 1048576 dl al vl) w) := by
  have H := Lib.hid h
  have HML := Lib.hid hml
  have HB : Hid (Below w.heap.size w (w.alloc (.cells #[.int .i64 p, dv, av, vv] 25))) := Lib.hid ((Below.refl _ _).alloc (Nat.le_refl _) _)
  clear h hml
  go_enter Try.func10, Try.ntmps10
  go_wp2_with fail
  refine (szt2_any (lo := 0) dv dl left _ (H.out.fd.below HB.out) h0 (by omega) HML.out.bd).mono ?_
  rintro ee w' ⟨r0, rfl, rfl, hpost⟩
  rcases hpost with rfl | ⟨hp0, hr0⟩
  · go_wp2
    go_ret
    exact ⟨_, rfl, HB.out, Or.inl rfl⟩
  have HR0 := Lib.hid hr0
  have hq0 : r0 ≤ left := by omega
  clear hr0
  go_wp2_with fail
  refine (szt4_any (lo := 0) av al r0 _ (H.out.fa.below HB.out) hp0 (by omega) HML.out.ba).mono ?_
  rintro ee w' ⟨r1, rfl, rfl, hpost⟩
  rcases hpost with rfl | ⟨hp1, hr1⟩
  · go_wp2
    go_ret
    exact ⟨_, rfl, HB.out, Or.inl rfl⟩
  have HR1 := Lib.hid hr1
  have hq1 : r1 ≤ r0 := by omega
  clear hr1
  go_wp2_with fail
  refine (szt5_any (lo := 0) vv vl r1 _ (H.out.fv.below HB.out) hp1 (by omega) HML.out.bv).mono ?_
  rintro ee w' ⟨r2, rfl, rfl, hpost⟩
  rcases hpost with rfl | ⟨hp2, hr2⟩
  · go_wp2
    go_ret
    exact ⟨_, rfl, HB.out, Or.inl rfl⟩
  have HR2 := Lib.hid hr2
  have hq2 : r2 ≤ r1 := by omega
  clear hr2
  have HT : Hid (tot2 dl + tot4 al + tot5 vl ≤ 1048576) := Lib.hid (by have e0 := HR0.out; have e1 := HR1.out; have e2 := HR2.out; omega)
  go_wp2
  go_ret
  exact ⟨_, rfl, HB.out, Or.inr ⟨hp2, by omega, ⟨⟨bd2_tot (by have := HT.out; omega), bd4_tot (by have := HT.out; omega), bd5_tot (by have := HT.out; omega)⟩, HT.out⟩⟩⟩
structure DcT (lo hi : Nat) (w : World) (dv av vv : Value) (dl : List (List Int)) (al : List (List (List (List Int)))) (vl : List (List (List (List Int)))) : Prop where
  fd : T2 lo hi w dv dl
  fa : T4 lo hi w av al
  fv : T5 lo hi w vv vl
theorem DcW.t {lo hi : Nat} {w : World} {dv av vv : Value} {dl : List (List Int)} {al : List (List (List (List Int)))} {vl : List (List (List (List Int)))} (h : DcW lo hi w dv av vv dl al vl) : DcT lo hi w dv av vv dl al vl := ⟨h.fd.t2, h.fa.t4, h.fv.t5⟩

set_option maxHeartbeats 1600000 in
theorem markDoublecK_any {lo hi : Nat} (kk : Int) (p : Int) (dv av vv : Value) (dl : List (List Int)) (al : List (List (List (List Int)))) (vl : List (List (List (List Int)))) (w : World) (h : DcW lo hi w dv av vv dl al vl) (hh : hi ≤ w.heap.size) (hm : DcS 1048576 dl al vl) (hk0 : 0 ≤ kk) (hk1 : kk ≤ 2305843009213693952) :
    Calls Try.prog 17 #[.agg #[.int .i64 p, dv, av, vv], .int .i64 kk] w (MarkC lo hi kk w) := by
  have hcn : cnt2 dl + cnt4 al + cnt5 vl ≤ 1048576 := by have := hm.tot; have ed := cnt2_le dl; have ea := cnt4_le al; have ev := cnt5_le vl; omega
  have HM := Lib.hid hm.b
  have hb0 : Below w.heap.size w (w.alloc (.cells #[.int .i64 p, dv, av, vv] 28)) := (Below.refl _ _).alloc (Nat.le_refl _) _
  have HC := Lib.hid (h.same (Same.of_below hb0 hh)).t
  have HB0 := Lib.hid hb0
  have hmld : dl.length ≤ 1048576 := hm.b.bd.1
  have hmla : al.length ≤ 1048576 := hm.b.ba.1
  have hmlv : vl.length ≤ 1048576 := hm.b.bv.1
  clear h hm hb0
  go_enter Try.func17, Try.ntmps17
  go_wp2_with fail
  refine (mark2t_any dv dl kk _ HC.out.fd HM.out.bd (by omega) (by omega)).mono ?_
  rintro ee w1 ⟨r0, rfl, hs00, hs01, ho, ht⟩
  have c02 : w1.cell? ⟨w.heap.size, 2, none⟩ = some av := (ho.cell (Or.inr hh)).trans (by simp)
  have c03 : w1.cell? ⟨w.heap.size, 3, none⟩ = some vv := (ho.cell (Or.inr hh)).trans (by simp)
  have HO0 := Lib.hid (And.intro ho ht)
  clear ho ht
  go_wp2_with fail
  refine (mark4t_any av al r0 _ (HC.out.fa.tame HO0.out.2) HM.out.ba (by omega) (by omega)).mono ?_
  rintro ee w2 ⟨r1, rfl, hs10, hs11, ho, ht⟩
  have c13 : w2.cell? ⟨w.heap.size, 3, none⟩ = some vv := (ho.cell (Or.inr hh)).trans c03
  clear c02 c03
  have HO1 := Lib.hid (And.intro (HO0.out.1.trans ho) (HO0.out.2.trans ht))
  clear ho ht
  go_wp2_with fail
  refine (mark5t_any vv vl r1 _ (HC.out.fv.tame HO1.out.2) HM.out.bv (by omega) (by omega)).mono ?_
  rintro ee w3 ⟨r2, rfl, hs20, hs21, ho, ht⟩
  clear c13
  have HO2 := Lib.hid (And.intro (HO1.out.1.trans ho) (HO1.out.2.trans ht))
  clear ho ht
  go_wp2
  go_ret
  exact ⟨r2, _, rfl, by omega, by omega, HB0.out, HO2.out.1, HO2.out.2⟩
end Go.Proofs.Ytlopenephgabhaa


namespace Go.Proofs.Ytlopenephgabhaa
open Go.RowKit
theorem too_bd {p : Int} {ds : List (List Int)} {ac dn : List (List (List (List Int)))} (h : toCode p ds ac dn = 0) : CoB (toO p ds ac dn) := by
  obtain ⟨h1, h2⟩ := toCode_zero h
  obtain ⟨h5, h8⟩ := tg_fits h2
  refine ⟨by show (tD ds).length ≤ _; rw [tD_len]; omega, by show (tM ds ac dn).length ≤ _; rw [tM_len]; omega, fun t ht => ?_⟩
  obtain ⟨k, hk, rfl⟩ := List.getElem_of_mem ht
  have hk2 : k < ttop ds := by rw [← tM_len ds ac dn]; exact hk
  have e : (tM ds ac dn)[k] = ttab ds ac dn k := by simp [tM]
  have ht2 := ttab_ok h1.prime h1.cel h1.tbs k
  have a1 := h8 (k + 1) (by omega)
  have a2 := h8 k (by omega)
  have a3 := ht2.1
  show Bd2 _ (tM ds ac dn)[k]
  rw [e]
  refine ⟨by omega, fun x hx => ?_⟩
  have := (ht2.2 x hx).1
  show x.length ≤ _
  omega
end Go.Proofs.Ytlopenephgabhaa


namespace Go.Proofs.Ytlopenephgabhaa
open Go.RowKit

/-- Prime, dimensions, tables and levels. -/
abbrev FiO : Type := Int × List Int × List (List (List Int)) × List (List Int)
structure PtFi (lo hi : Nat) (W : World) (dv mv lv : Value) (Id Im Il : List Iv) : Prop where
  sd : S1 lo hi W dv Id
  nd : Nums lo hi W Id
  zd : ivSize Id ≤ 1048576
  sm : S3 lo hi W mv Im
  nm : Nums lo hi W Im
  dm : Disj Im
  zm : ivSize Im ≤ 1152921504606846976
  sl : S2 lo hi W lv Il
  nl : Nums lo hi W Il
  dl : Disj Il
  zl : ivSize Il ≤ 1099511627776
  adm : ∀ x ∈ Id, ∀ y ∈ Im, Apart x y
  adl : ∀ x ∈ Id, ∀ y ∈ Il, Apart x y
  aml : ∀ x ∈ Im, ∀ y ∈ Il, Apart x y
section
variable {lo hi lo' hi' : Nat} {W W' : World} {dv mv lv : Value} {Id Im Il : List Iv} {ds : List Int} {ms : List (List (List Int))} {ls : List (List Int)}
theorem PtFi.same (h : PtFi lo hi W dv mv lv Id Im Il) (s : Same lo hi W W') : PtFi lo hi W' dv mv lv Id Im Il :=
  ⟨h.sd, h.nd.same s, h.zd, h.sm.same s, h.nm.same s, h.dm, h.zm, h.sl.same s, h.nl.same s, h.dl, h.zl, h.adm, h.adl, h.aml⟩
theorem PtFi.wider (h : PtFi lo hi W dv mv lv Id Im Il) (h1 : lo' ≤ lo) (h2 : hi ≤ hi') : PtFi lo' hi' W dv mv lv Id Im Il :=
  ⟨h.sd.wider h1 h2, h.nd.wider h1 h2, h.zd, h.sm.wider h1 h2, h.nm.wider h1 h2, h.dm, h.zm, h.sl.wider h1 h2, h.nl.wider h1 h2, h.dl, h.zl, h.adm, h.adl, h.aml⟩
def RcFi (lo hi : Nat) (W : World) (dv mv lv : Value) (ds : List Int) (ms : List (List (List Int))) (ls : List (List Int)) : Prop := CxW lo hi W dv mv ds ms ∧ W2 lo hi W lv ls ∧ ∃ Id Im Il, PtFi lo hi W dv mv lv Id Im Il
theorem RcFi.same (h : RcFi lo hi W dv mv lv ds ms ls) (s : Same lo hi W W') : RcFi lo hi W' dv mv lv ds ms ls := by
  obtain ⟨h0, h1, Id, Im, Il, h2⟩ := h
  exact ⟨h0.same s, h1.same s, Id, Im, Il, h2.same s⟩
theorem RcFi.wider (h : RcFi lo hi W dv mv lv ds ms ls) (h1 : lo' ≤ lo) (h2 : hi ≤ hi') : RcFi lo' hi' W dv mv lv ds ms ls := by
  obtain ⟨a, b, Id, Im, Il, c⟩ := h
  exact ⟨⟨a.dims.wider h1 h2, a.maps.wider h1 h2⟩, b.wider h1 h2, Id, Im, Il, c.wider h1 h2⟩
theorem RcFi.cx (h : RcFi lo hi W dv mv lv ds ms ls) : Fi 0 W dv mv lv ds ms ls := ⟨h.1.cx.lower (Nat.zero_le _), h.2.1.l2.lower (Nat.zero_le _)⟩
/-- The levels behind the complex. -/
theorem RcFi.of {mid : Nat} (h : RcW lo mid W dv mv ds ms) (k : Rw2 mid hi W lv ls) (hl : lo ≤ mid) (hh : mid ≤ hi) : RcFi lo hi W dv mv lv ds ms ls := by
  obtain ⟨a, I, J, b1, b2, b3, b4, b5, b6, b7, b8⟩ := h
  obtain ⟨c, K, d1, d2, d3, d4⟩ := k
  refine ⟨⟨a.dims.wider (Nat.le_refl _) hh, a.maps.wider (Nat.le_refl _) hh⟩, c.wider hl (Nat.le_refl _), I, J, K, b1.wider (Nat.le_refl _) hh, b3.wider (Nat.le_refl _) hh, b7, b2.wider (Nat.le_refl _) hh, b4.wider (Nat.le_refl _) hh, b5, b8, d1.wider hl (Nat.le_refl _), d2.wider hl (Nat.le_refl _), d3, d4, b6, ?_, ?_⟩
  · intro x hx y hy
    exact .inl (by have := (b3 x hx).2.1; have := (d2 y hy).1; omega)
  · intro x hx y hy
    exact .inl (by have := (b4 x hx).2.1; have := (d2 y hy).1; omega)
def RwFi (lo hi : Nat) (W : World) (u : Value) (o : FiO) : Prop := ∃ ad cd am cm al cl, u = .agg #[.int .i64 o.1, .slice ad o.2.1.length cd, .slice am o.2.2.1.length cm, .slice al o.2.2.2.length cl] ∧ RcFi lo hi W (.slice ad o.2.1.length cd) (.slice am o.2.2.1.length cm) (.slice al o.2.2.2.length cl) o.2.1 o.2.2.1 o.2.2.2
def RsFi (W : World) (u : Value) (o : FiO) : Prop := ∃ ad cd am cm al cl, u = .agg #[.int .i64 o.1, .slice ad o.2.1.length cd, .slice am o.2.2.1.length cm, .slice al o.2.2.2.length cl] ∧ Fi 0 W (.slice ad o.2.1.length cd) (.slice am o.2.2.1.length cm) (.slice al o.2.2.2.length cl) o.2.1 o.2.2.1 o.2.2.2
theorem RwFi.nil (lo hi : Nat) (W : World) : RwFi lo hi W (.agg #[.int .i64 0, .slice none 0 0, .slice none 0 0, .slice none 0 0]) (0, [], [], []) :=
  ⟨none, 0, none, 0, none, 0, rfl, ⟨Or.inl ⟨rfl, _, _, rfl⟩, Or.inl ⟨rfl, _, _, rfl⟩⟩, Or.inl ⟨rfl, _, _, rfl⟩, [], [], [], ⟨Or.inl ⟨rfl, _, _, rfl⟩, fun _ h => absurd h (by simp), by simp [ivSize], ⟨none, 0, 0, fun _ => .slice none 0 0, fun _ => [], rfl, by omega, rfl, fun _ h => absurd h (Nat.not_lt_zero _), fun h => absurd h (Nat.lt_irrefl _)⟩, fun _ h => absurd h (by simp), List.Pairwise.nil, by simp [ivSize], ⟨none, 0, 0, fun _ => .slice none 0 0, fun _ => [], rfl, by omega, rfl, fun _ h => absurd h (Nat.not_lt_zero _), fun h => absurd h (Nat.lt_irrefl _)⟩, fun _ h => absurd h (by simp), List.Pairwise.nil, by simp [ivSize], fun _ h => absurd h (by simp), fun _ h => absurd h (by simp), fun _ h => absurd h (by simp)⟩⟩
theorem RsFi.nil (W : World) : RsFi W (.agg #[.int .i64 0, .slice none 0 0, .slice none 0 0, .slice none 0 0]) (0, [], [], []) := ⟨none, 0, none, 0, none, 0, rfl, ⟨Or.inl ⟨rfl, _, _, rfl⟩, Or.inl ⟨rfl, _, _, rfl⟩⟩, Or.inl ⟨rfl, _, _, rfl⟩⟩
/-- What a law asks of one that it compares. -/
def FiBo (o : FiO) : Prop := o.2.1.length ≤ 1048576 ∧ Bd3 1048576 o.2.2.1 ∧ Bd2 1048576 o.2.2.2
structure HcFi' (lo hi : Nat) (W : World) (dv mv lv : Value) (m : Int) (Id Im Il : List Iv) : Prop where
  sd : S1 lo hi W dv Id
  mmd : Marked W Id 1
  rd : ∀ x ∈ Id, lo ≤ x.1 ∧ x.1 < hi
  zd : ivSize Id ≤ 1048576
  sm : S3 lo hi W mv Im
  mmm : Marked W Im (1 + (ivSize Id : Int))
  rm : ∀ x ∈ Im, lo ≤ x.1 ∧ x.1 < hi
  zm : ivSize Im ≤ 1152921504606846976
  sl : S2 lo hi W lv Il
  mml : Marked W Il (1 + (ivSize Id : Int) + (ivSize Im : Int))
  rl : ∀ x ∈ Il, lo ≤ x.1 ∧ x.1 < hi
  zl : ivSize Il ≤ 1099511627776
  me : m = 1 + (ivSize Id : Int) + (ivSize Im : Int) + (ivSize Il : Int)
def HcFi (lo hi : Nat) (W : World) (dv mv lv : Value) (m : Int) : Prop := ∃ Id Im Il, HcFi' lo hi W dv mv lv m Id Im Il
theorem HcFi.same {m : Int} (h : HcFi lo hi W dv mv lv m) (s : Same lo hi W W') : HcFi lo hi W' dv mv lv m := by
  obtain ⟨Id, Im, Il, h⟩ := h
  exact ⟨Id, Im, Il, h.sd, h.mmd.same h.rd s, h.rd, h.zd, h.sm.same s, h.mmm.same h.rm s, h.rm, h.zm, h.sl.same s, h.mml.same h.rl s, h.rl, h.zl, h.me⟩
end
def MkRFi (lo hi : Nat) (dv mv lv : Value) (w : World) (ee : Ending) (w' : World) : Prop := ∃ (m : Int) (w1 : World), ee = .returned (.int .i64 m) ∧ 1 ≤ m ∧ m ≤ 4611686018427387904 ∧ Below w.heap.size w w1 ∧ Only lo hi w1 w' ∧ HcFi lo hi w' dv mv lv m
set_option maxHeartbeats 800000 in
theorem markRC2_any {lo hi : Nat} (p : Int) (dv mv : Value) (I J : List Iv) (w : World) (h1 : S1 lo hi w dv I) (h2 : S3 lo hi w mv J) (h3 : Nums lo hi w I) (h4 : Nums lo hi w J) (h5 : Disj J) (h6 : ∀ x ∈ I, ∀ y ∈ J, Apart x y) (h7 : ivSize I ≤ 1048576) (h8 : ivSize J ≤ 1152921504606846976) (hh : hi ≤ w.heap.size) :
    Calls Try.prog 22 #[.agg #[.int .i64 p, dv, mv], .int .i64 1] w fun e w' => ∃ w1, e = .returned (.int .i64 (1 + (ivSize I : Int) + (ivSize J : Int))) ∧ Below w.heap.size w w1 ∧ Only lo hi w1 w' ∧ Tame w1 w' ∧ OutC (I ++ J) w1 w' ∧ Marked w' I 1 ∧ Marked w' J (1 + (ivSize I : Int)) := by
  have hb0 : Below w.heap.size w (w.alloc (.cells #[.int .i64 p, dv, mv] 38)) := (Below.refl _ _).alloc (Nat.le_refl _) _
  have s : Same lo hi w (w.alloc (.cells #[.int .i64 p, dv, mv] 38)) := Same.of_below hb0 hh
  have HB0 := Lib.hid hb0
  have H1 := Lib.hid (show S1 lo hi (w.alloc (.cells #[.int .i64 p, dv, mv] 38)) dv I from h1)
  have H2 := Lib.hid (h2.same s)
  have H3 := Lib.hid (h3.same s)
  have H4 := Lib.hid (h4.same s)
  clear h1 h2 h3 h4 s hb0
  go_enter Try.func22, Try.ntmps22
  go_wp2_with fail
  refine (mark1s_any dv I 1 _ H1.out H3.out (by omega) (by omega)).mono ?_
  rintro e w1 ⟨rfl, ho, ht, hc, hm⟩
  have c2 : w1.cell? ⟨w.heap.size, 2, none⟩ = some mv := (ho.cell (Or.inr hh)).trans (by simp)
  have HO := Lib.hid (And.intro ho (And.intro ht (And.intro hc hm)))
  clear ho ht hc hm
  go_wp2_with fail
  refine (mark3s_any mv J (1 + (ivSize I : Int)) _ (H2.out.tame HO.out.2.1) (H4.out.tame HO.out.2.1) h5 (by omega) (by omega)).mono ?_
  rintro e w2 ⟨rfl, ho, ht, hc, hm⟩
  have HO2 := Lib.hid (And.intro (HO.out.1.trans ho) (And.intro (HO.out.2.1.trans ht) (And.intro (HO.out.2.2.1.trans hc) (And.intro (HO.out.2.2.2.keep hc h6) hm))))
  clear ho ht hc hm
  go_wp2
  go_ret
  exact ⟨_, rfl, HB0.out, HO2.out⟩
set_option maxHeartbeats 1600000 in
theorem markRFi_any {lo hi : Nat} (p : Int) (dv mv lv : Value) (ds : List Int) (ms : List (List (List Int))) (ls : List (List Int)) (w : World) (h : RcFi lo hi w dv mv lv ds ms ls) (hh : hi ≤ w.heap.size) :
    Calls Try.prog 34 #[.agg #[.int .i64 p, dv, mv, lv], .int .i64 1] w (MkRFi lo hi dv mv lv w) := by
  obtain ⟨_, _, Id, Im, Il, h1⟩ := h
  have hb0 : Below w.heap.size w (w.alloc (.cells #[.int .i64 p, dv, mv, lv] 50)) := (Below.refl _ _).alloc (Nat.le_refl _) _
  have HP := Lib.hid (h1.same (Same.of_below hb0 hh))
  have HB0 := Lib.hid hb0
  have hzd := h1.zd
  have hzm := h1.zm
  have hzl := h1.zl
  clear h1 hb0
  go_enter Try.func34, Try.ntmps34
  go_wp2_with fail
  refine (markRC2_any p dv mv Id Im _ HP.out.sd HP.out.sm HP.out.nd HP.out.nm HP.out.dm HP.out.adm hzd hzm (by simp; omega)).mono ?_
  rintro e w1 ⟨wM, rfl, hbM, hoM, htM, hcM, hmd, hmm⟩
  have hsM : w.heap.size + 1 ≤ wM.heap.size := by have := hbM.size; simp at this; omega
  have c3 : w1.cell? ⟨w.heap.size, 3, none⟩ = some lv := by
    rw [hoM.cell (b := w.heap.size) (Or.inr hh), (bcell hbM).1 _ _ (by simp)]
    simp
  have hsM2 : Same lo hi (w.alloc (.cells #[.int .i64 p, dv, mv, lv] 50)) wM := Same.of_below hbM (by simp; omega)
  have HS := Lib.hid ((HP.out.sl.same hsM2).tame htM)
  have HN := Lib.hid ((HP.out.nl.same hsM2).tame htM)
  have HSM := Lib.hid ((HP.out.sm.same hsM2).tame htM)
  have HBM := Lib.hid (HB0.out.trans (hbM.mono (by simp)))
  have HO := Lib.hid (And.intro hoM (And.intro hmd hmm))
  clear hbM hoM htM hcM hmd hmm hsM2
  go_wp2_with fail
  refine (mark2s_any lv Il (1 + (ivSize Id : Int) + (ivSize Im : Int)) _ HS.out HN.out HP.out.dl (by omega) (by omega)).mono ?_
  rintro e w2 ⟨rfl, ho, ht, hc, hm⟩
  have HO2 := Lib.hid (And.intro (HO.out.1.trans ho) (And.intro ht (And.intro (HO.out.2.1.keep hc HP.out.adl) (And.intro (HO.out.2.2.keep hc HP.out.aml) hm))))
  clear ho ht hc hm
  go_wp2
  go_ret
  exact ⟨_, wM, rfl, by omega, by omega, HBM.out, HO2.out.1, Id, Im, Il, ⟨HP.out.sd, HO2.out.2.2.1, fun x hx => ⟨(HP.out.nd x hx).1, (HP.out.nd x hx).2.1⟩, hzd, HSM.out.tame HO2.out.2.1, HO2.out.2.2.2.1, fun x hx => ⟨(HP.out.nm x hx).1, (HP.out.nm x hx).2.1⟩, hzm, HS.out.tame HO2.out.2.1, HO2.out.2.2.2.2, fun x hx => ⟨(HP.out.nl x hx).1, (HP.out.nl x hx).2.1⟩, hzl, rfl⟩⟩
set_option maxHeartbeats 1600000 in
theorem heldRFi_any {lo hi : Nat} (p : Int) (dv mv lv : Value) (m : Int) (w : World) (h : HcFi lo hi w dv mv lv m) (hh : hi ≤ w.heap.size) :
    Calls Try.prog 35 #[.agg #[.int .i64 p, dv, mv, lv], .int .i64 1] w (BR (.int .i64 m) w) := by
  have hb0 : Below w.heap.size w (w.alloc (.cells #[.int .i64 p, dv, mv, lv] 50)) := (Below.refl _ _).alloc (Nat.le_refl _) _
  obtain ⟨Id, Im, Il, h1⟩ := h.same (Same.of_below hb0 hh)
  have hme := h1.me
  subst hme
  have HP := Lib.hid h1
  have HB0 := Lib.hid hb0
  have hzd := h1.zd
  have hzm := h1.zm
  have hzl := h1.zl
  have hn0 : ¬ (1 + (ivSize Id : Int) + (ivSize Im : Int)) < 0 := by omega
  have hn1 : ¬ (1 + (ivSize Id : Int) + (ivSize Im : Int) + (ivSize Il : Int)) < 0 := by omega
  clear h1 hb0 h
  go_enter Try.func35, Try.ntmps35
  go_wp2_with fail
  refine (heldRC_any p dv mv (1 + (ivSize Id : Int) + (ivSize Im : Int)) _ ⟨Id, Im, HP.out.sd, HP.out.sm, HP.out.mmd, HP.out.mmm, HP.out.rd, HP.out.rm, rfl, hzd, hzm⟩ (by simp; omega)).mono ?_
  rintro e w1 ⟨rfl, hb⟩
  have hsz := hb.size
  have c3 : w1.cell? ⟨w.heap.size, 3, none⟩ = some lv := by
    rw [(bcell hb).1 _ _ (by simp)]
    simp
  have hs1 : Same lo hi (w.alloc (.cells #[.int .i64 p, dv, mv, lv] 50)) w1 := Same.of_below hb (by simp; omega)
  have HS := Lib.hid (HP.out.sl.same hs1)
  have HM := Lib.hid (HP.out.mml.same HP.out.rl hs1)
  have HB1 := Lib.hid (HB0.out.trans (hb.mono (by simp)))
  clear hb hs1
  go_wp2_with fail
  refine (held2s_any lv Il (1 + (ivSize Id : Int) + (ivSize Im : Int)) _ HS.out HM.out (by omega) (by omega)).mono ?_
  rintro e w2 ⟨rfl, rfl⟩
  go_wp2
  go_ret
  exact ⟨rfl, HB1.out⟩
/-- The cells of a box alone. -/
structure BcFi (wr : World) (b : Nat) (p : Int) (dv mv lv : Value) : Prop where
  c0 : wr.cell? ⟨b, 0, none⟩ = some (.int .i64 p)
  c1 : wr.cell? ⟨b, 1, none⟩ = some dv
  c2 : wr.cell? ⟨b, 2, none⟩ = some mv
  c3 : wr.cell? ⟨b, 3, none⟩ = some lv
  lt : b < wr.heap.size
theorem BcFi.start (w : World) (p : Int) (dv mv lv : Value) (t : TypeId) : BcFi (w.alloc (.cells #[.int .i64 p, dv, mv, lv] t)) w.heap.size p dv mv lv := ⟨by simp, by simp, by simp, by simp, by simp⟩
theorem BcFi.next {wr w' : World} {b : Nat} {p : Int} {dv mv lv : Value} (h : BcFi wr b p dv mv lv) (hb : Below wr.heap.size wr w') : BcFi w' b p dv mv lv :=
  ⟨later hb (Nat.le_refl _) h.c0, later hb (Nat.le_refl _) h.c1, later hb (Nat.le_refl _) h.c2, later hb (Nat.le_refl _) h.c3, Nat.lt_of_lt_of_le h.lt hb.size⟩
theorem BcFi.only {wr w' : World} {b lo hi : Nat} {p : Int} {dv mv lv : Value} (h : BcFi wr b p dv mv lv) (ho : Only lo hi wr w') (hb : b < lo ∨ hi ≤ b) : BcFi w' b p dv mv lv :=
  ⟨(ho.cell hb).trans h.c0, (ho.cell hb).trans h.c1, (ho.cell hb).trans h.c2, (ho.cell hb).trans h.c3, by have := ho.size; have := h.lt; omega⟩
structure BqFi (wr : World) (b : Nat) (p : Int) (dv mv lv : Value) (ds : List Int) (ms : List (List (List Int))) (ls : List (List Int)) : Prop where
  c0 : wr.cell? ⟨b, 0, none⟩ = some (.int .i64 p)
  c1 : wr.cell? ⟨b, 1, none⟩ = some dv
  c2 : wr.cell? ⟨b, 2, none⟩ = some mv
  c3 : wr.cell? ⟨b, 3, none⟩ = some lv
  lt : b < wr.heap.size
  cx : Fi 0 wr dv mv lv ds ms ls
theorem Fx.bq {w wr : World} {b : Nat} {p : Int} {dv mv lv : Value} {ds : List Int} {ms : List (List (List Int))} {ls : List (List Int)} (h : Fx w wr b p dv mv lv ds ms ls) : BqFi wr b p dv mv lv ds ms ls := ⟨h.c0, h.c1, h.c2, h.c3, h.lt, h.fi⟩
theorem BqFi.next {wr w' : World} {b : Nat} {p : Int} {dv mv lv : Value} {ds : List Int} {ms : List (List (List Int))} {ls : List (List Int)} (h : BqFi wr b p dv mv lv ds ms ls) (hb : Below wr.heap.size wr w') : BqFi w' b p dv mv lv ds ms ls :=
  ⟨later hb (Nat.le_refl _) h.c0, later hb (Nat.le_refl _) h.c1, later hb (Nat.le_refl _) h.c2, later hb (Nat.le_refl _) h.c3, Nat.lt_of_lt_of_le h.lt hb.size, h.cx.below hb⟩
end Go.Proofs.Ytlopenephgabhaa


namespace Go.Proofs.Ytlopenephgabhaa
open Go.RowKit

def Zf4 : Array Value := #[.int .i64 0, .slice none 0 0, .slice none 0 0, .slice none 0 0]
def ftO (p : Int) (b : Bool) (ds : List (List Int)) (ac dn : List (List (List (List Int)))) : FiO := (p, tD ds, tM ds ac dn, tL b ds)
theorem l03Total_any (b : Bool) (p : Int) (dv av vv : Value) (ds : List (List Int)) (ac dn : List (List (List (List Int)))) (w : World) (h : Dx 0 w dv av vv ds ac dn) (hdb : IsDb p ds ac dn) :
    Calls Try.prog 70 #[.agg #[.int .i64 p, dv, av, vv], .bool b] w (TtR b p ds ac dn w) := by
  cases b
  · exact l03TotalF_any p dv av vv ds ac dn w h hdb
  · exact l03TotalT_any p dv av vv ds ac dn w h hdb
theorem hloadCxR (W : World) {g : Nat} {x y z : Value} (h : W.heap[g]? = some (.cells #[x, y, z] 38 (0, 0))) : (Instr.loadAt 38 (.pointer (some ⟨g, 0, none⟩))).run Try.prog W = .ok (.agg #[x, y, z]) W := by
  have c0 : W.cell? ⟨g, 0, none⟩ = some x := by simp [World.cell?, h]
  have c1 : W.cell? ⟨g, 1, none⟩ = some y := by simp [World.cell?, h]
  have c2 : W.cell? ⟨g, 2, none⟩ = some z := by simp [World.cell?, h]
  go_simp
theorem hloadDoff {w w2 : World} (W : World) {g : Nat} {p : Int} {dv av vv : Value} {ds : List (List Int)} {ac dn : List (List (List (List Int)))} (h : DBx w w2 g p dv av vv ds ac dn) (k : W.heap[g]? = w2.heap[g]?) : (Instr.loadAt 28 (.pointer (some ⟨g, 0, none⟩))).run Try.prog W = .ok (.agg #[.int .i64 p, dv, av, vv]) W := by
  have hc : ∀ o, W.cell? ⟨g, o, none⟩ = w2.cell? ⟨g, o, none⟩ := fun o => World.cell?_of_block k
  have c0 := (hc 0).trans h.c0
  have c1 := (hc 1).trans h.c1
  have c2 := (hc 2).trans h.c2
  have c3 := (hc 3).trans h.c3
  clear hc k h
  go_simp
set_option maxHeartbeats 3200000 in
set_option maxRecDepth 100000 in
theorem filteredTotal_any (p : Int) (b : Bool) (dv av vv : Value) (ds : List (List Int)) (ac dn : List (List (List (List Int)))) (w : World) (h : Dx 0 w dv av vv ds ac dn) (hbd : Bd2 1048576 ds) (hba : Bd4 1048576 ac) (hbv : Bd4 1048576 dn) :
    Calls Try.prog 32 #[.agg #[.int .i64 p, dv, av, vv], .bool b] w (AnsW RwFi (fun o => o = ftO p b ds ac dn) (0, [], [], []) (toCode p ds ac dn) w) := by
  have hres : Try.f32.results = #[.cell 4 50, .tmp 5] := by kernel_rfl
  have HRES := Lib.hid hres
  obtain ⟨w0, hw0⟩ : ∃ w0, w0 = (w.alloc (.cells #[.int .i64 p, dv, av, vv] 28)).alloc (.cells #[.int .i64 0, .slice none 0 0, .slice none 0 0, .slice none 0 0] 50) := ⟨_, rfl⟩
  have HX0 : Hid (DBx w w0 w.heap.size p dv av vv ds ac dn) := Lib.hid (by rw [hw0]; exact (DBx.start 28 h).next (below_alloc1 _ _))
  have HS0 : Hid (w.heap.size + 2 ≤ w0.heap.size) := Lib.hid (by rw [hw0]; simp)
  have HR : Hid (∀ W, Below w0.heap.size w0 W → Rz W (w.heap.size + 1) 50 Zf4) := Lib.hid (fun W hb => by
    have h0 : Rz w0 (w.heap.size + 1) 50 Zf4 := by
      rw [hw0]
      have := Rz.new (w.alloc (.cells #[.int .i64 p, dv, av, vv] 28)) 50 Zf4
      have h1 : (w.alloc (.cells #[.int .i64 p, dv, av, vv] 28)).heap.size = w.heap.size + 1 := by simp
      rw [h1] at this
      exact this
    exact h0.next hb)
  have HNX : Hid (∀ W, Below w0.heap.size w0 W → DBx w W w.heap.size p dv av vv ds ac dn) := Lib.hid (fun W hb => HX0.out.next hb)
  have HW0 : Hid (∀ W, Below w0.heap.size w0 W → Below w.heap.size w W) := Lib.hid (fun W hb => (HNX.out W hb).below)
  have HID := Lib.hid (totalOf_any p dv av vv ds ac dn w0 HX0.out.dx hbd hba hbv)
  have c0 := HX0.out.c0
  have c1 := HX0.out.c1
  have c2 := HX0.out.c2
  have c3 := HX0.out.c3
  obtain ⟨cc, hcc⟩ : ∃ cc, cc = toCode p ds ac dn := ⟨_, rfl⟩
  have HCC := Lib.hid hcc
  rw [← hcc]
  clear hres h hbd hba hbv hcc
  go_enter Try.func32, Try.ntmps32
  go_upto_region 1 with fail
  rw [← hw0]
  clear hw0
  go_wp2_with fail
  refine HID.out.mono ?_
  rintro e w1 ⟨u, o, c, rfl, hrw, hb1, hout⟩
  have HB1 := Lib.hid hb1
  obtain ⟨ad, cd, am, cm, hu, hrc⟩ := hrw
  subst hu
  have hcc1 : c = cc := hout.code.trans HCC.out.symm
  subst hcc1
  have hs0 := HS0.out
  clear c0 c1 c2 c3 HID HX0
  by_cases hdb : IsDb p ds ac dn
  · by_cases hex : Exc (tD ds)
    · have hc0 := toCode_3 hdb hex
      clear hout hrc hb1
      obtain rfl : c = 3 := HCC.out.trans hc0
      have HO : Hid (∃ W2, W2 = w1.alloc (.cells #[.int .i64 o.1, .slice ad o.2.1.length cd, .slice am o.2.2.length cm] 38)) := Lib.hid ⟨_, rfl⟩
      obtain ⟨w2, hw2⟩ := HO.out
      have HB2 : Hid (Below w0.heap.size w0 w2) := Lib.hid (HB1.out.trans (by rw [hw2]; exact (below_alloc1 _ _).mono HB1.out.size))
      clear HO
      obtain ⟨nd, hnd⟩ : ∃ n, n = o.2.1.length := ⟨_, rfl⟩
      obtain ⟨nm, hnm⟩ : ∃ n, n = o.2.2.length := ⟨_, rfl⟩
      rw [← hnd, ← hnm] at hw2 ⊢
      clear hnd hnm
      go_upto_region 3 with fail
      rw [← hw2]
      clear hw2
      have HZZ : Hid (w2.heap[w.heap.size + 1]? = some (.cells Zf4 50 (0, 0))) := Lib.hid (HR.out w2 HB2.out)
      have HWR : Hid (Below w.heap.size w (w2.setRow (w.heap.size + 1) #[.int .i64 0, .slice none 0 0, .slice none 0 0, .slice none 0 0])) := Lib.hid (below_setRow (HW0.out w2 HB2.out) (Nat.le_succ _) _)
      obtain ⟨WF, hWF⟩ : ∃ WF, WF = w2.setRow (w.heap.size + 1) #[.int .i64 0, .slice none 0 0, .slice none 0 0, .slice none 0 0] := ⟨_, rfl⟩
      have hRz : Rz WF (w.heap.size + 1) 50 #[.int .i64 0, .slice none 0 0, .slice none 0 0, .slice none 0 0] := by rw [hWF]; exact Rz.set HZZ.out _
      have f0 := hRz.cell (i := 0) (v := _) rfl
      have f1 := hRz.cell (i := 1) (v := _) rfl
      have f2 := hRz.cell (i := 2) (v := _) rfl
      have f3 := hRz.cell (i := 3) (v := _) rfl
      rw [← hWF] at HWR
      have HWF := Lib.hid hWF
      clear hRz hWF
      go_wp2_with (with_reducible refine wpList_store_row rfl 50 (.tmp 4) (.tmp 15) rfl (w.heap.size + 1) #[.int .i64 0, .slice none 0 0, .slice none 0 0, .slice none 0 0] rfl rfl 50 Zf4 HZZ.out (infoFl _ _ _ _) rfl (by kernel_rfl) ?_)
      rw [← HWF.out]
      go_wp2
      refine bodyPost_ret (v := .tuple #[.agg #[.int .i64 0, .slice none 0 0, .slice none 0 0, .slice none 0 0], .int .i64 3]) ?_ rfl ?_
      · simp only [results, HRES.out]
        go_simp
      · exact ⟨_, (0, [], [], []), 3, rfl, RwFi.nil _ _ _, HWR.out, RsOut.of_no (by decide)⟩
    · have hc0 : toCode p ds ac dn = 0 := toCode_0 hdb hex
      have HDB := Lib.hid hdb
      have ho : o = toO p ds ac dn := hout.good hc0
      obtain rfl : c = 0 := HCC.out.trans hc0
      subst ho
      have HRC : Hid (RcW w0.heap.size w1.heap.size w1 (.slice ad (tD ds).length cd) (.slice am (tM ds ac dn).length cm) (tD ds) (tM ds ac dn)) := Lib.hid hrc
      have hp1 : (toO p ds ac dn).1 = p := rfl
      have hp2 : (toO p ds ac dn).2.1 = tD ds := rfl
      have hp3 : (toO p ds ac dn).2.2 = tM ds ac dn := rfl
      rw [hp1, hp2, hp3]
      obtain ⟨nd, hnd⟩ : ∃ n, n = (tD ds).length := ⟨_, rfl⟩
      obtain ⟨nm, hnm⟩ : ∃ n, n = (tM ds ac dn).length := ⟨_, rfl⟩
      rw [← hnd, ← hnm] at HRC ⊢
      have HND := Lib.hid hnd
      have HNM := Lib.hid hnm
      obtain ⟨w2, hw2⟩ : ∃ w2, w2 = w1.alloc (.cells #[.int .i64 p, .slice ad nd cd, .slice am nm cm] 38) := ⟨_, rfl⟩
      have hb2 : Below w1.heap.size w1 w2 := by rw [hw2]; exact below_alloc1 _ _
      have HB2 : Hid (Below w0.heap.size w0 w2) := Lib.hid (HB1.out.trans (hb2.mono HB1.out.size))
      have HT6 : Hid (Rz w2 w1.heap.size 38 #[.int .i64 p, .slice ad nd cd, .slice am nm cm]) := Lib.hid (by rw [hw2]; exact Rz.new _ _ _)
      have HRC2 : Hid (RcW w0.heap.size w1.heap.size w2 (.slice ad nd cd) (.slice am nm cm) (tD ds) (tM ds ac dn)) := Lib.hid (HRC.out.same (Same.of_below hb2 (Nat.le_refl _)))
      have hs2 : w1.heap.size + 1 = w2.heap.size := by rw [hw2]; simp
      have hs1 : w0.heap.size ≤ w1.heap.size := HB1.out.size
      have HLV : Hid (∀ W, Below w2.heap.size w2 W → Calls Try.prog 72 #[.agg #[.int .i64 p, dv, av, vv], .bool b] W fun e w' => ∃ u, e = .returned u ∧ Rw2 W.heap.size w'.heap.size w' u (tL b ds) ∧ Below W.heap.size W w') := Lib.hid (fun W hb => levelsOfTotal_any b p dv av vv ds ac dn W (HNX.out W (HB2.out.trans (hb.mono HB2.out.size))).dx HDB.out.cel)
      clear hout hrc hb1 hp1 hp2 hp3 hnd hnm HRC hb2
      go_upto_region 4 with fail
      rw [← hw2]
      clear hw2
      refine wp_region_held (S := fun W => Below w2.heap.size w2 W ∨ ∃ W0, Below w2.heap.size w2 W0 ∧ W0.heap.size = W.heap.size ∧ ∀ g, g ≠ w.heap.size + 1 → W.heap[g]? = W0.heap[g]?) (by kernel_rfl) ?_
      have hbd : Below w2.heap.size w2 w2.drew := (Below.refl _ _).drew
      change wpAnyH _ _ _ _ _ _ _ _ w2.drew
      obtain ⟨wd, hwd⟩ : ∃ wd, wd = w2.drew := ⟨_, rfl⟩
      rw [← hwd] at hbd ⊢
      clear hwd
      have HLD : Hid (∀ W, (Below w2.heap.size w2 W ∨ ∃ W0, Below w2.heap.size w2 W0 ∧ W0.heap.size = W.heap.size ∧ ∀ g, g ≠ w.heap.size + 1 → W.heap[g]? = W0.heap[g]?) → W.heap[w1.heap.size]? = some (.cells #[.int .i64 p, .slice ad nd cd, .slice am nm cm] 38 (0, 0)) ∧ W.heap[w.heap.size]? = w2.heap[w.heap.size]?) := Lib.hid (fun W h => by
        rcases h with h | ⟨W0, h, _, hg⟩
        · exact ⟨(h.block _ (by omega)).trans HT6.out, h.block _ (by omega)⟩
        · exact ⟨(hg _ (by omega)).trans ((h.block _ (by omega)).trans HT6.out), (hg _ (by omega)).trans (h.block _ (by omega))⟩)
      refine held_take (i := 0) (v := .agg #[.int .i64 p, .slice ad nd cd, .slice am nm cm]) (some 17) rfl rfl (by kernel_rfl) (by kernel_rfl) (by kernel_rfl) (fun _ _ _ h => h) (yieldsIf_cell (by kernel_rfl) rfl (by kernel_rfl) (fun W h => hloadCxR W (HLD.out W h).1)) (.inl hbd) ?_
      refine held_take (i := 1) (v := .agg #[.int .i64 p, dv, av, vv]) (some 18) rfl rfl (by kernel_rfl) (by kernel_rfl) (by kernel_rfl) (fun _ _ _ h => h) (yieldsIf_cell (by kernel_rfl) rfl (by kernel_rfl) (fun W h => hloadDoff W (HNX.out w2 HB2.out) (HLD.out W h).2)) (.inl hbd) ?_
      refine held_take (i := 2) (v := .bool b) (some 19) rfl rfl (by kernel_rfl) (by kernel_rfl) (by kernel_rfl) (fun _ _ _ h => h) (yieldsIf_move (by kernel_rfl) rfl (by kernel_rfl)) (.inl hbd) ?_
      refine held_enter (i := 3) (some 20) (f := 72) (args := #[.agg #[.int .i64 p, dv, av, vv], .bool b]) (by kernel_rfl) rfl rfl rfl (by kernel_rfl) (HLV.out wd hbd) ?_ (fun c w' h => by obtain ⟨_, h, _⟩ := h; cases h) (fun w' h => by obtain ⟨_, h, _⟩ := h; cases h)
      rintro u3 w3 ⟨u, hu3, hr3, hb3⟩
      injection hu3 with hu3
      subst hu3
      have hb23 : Below w2.heap.size w2 w3 := hbd.trans (hb3.mono hbd.size)
      have HR3 : Hid (Rw2 w1.heap.size w3.heap.size w3 u3 (tL b ds)) := Lib.hid (hr3.wider (by have := hbd.size; omega) (Nat.le_refl _))
      refine ⟨.inl hb23, ?_⟩
      obtain ⟨al, cl, hul⟩ := HR3.out.shape
      obtain ⟨nl, hnl⟩ : ∃ n, n = (tL b ds).length := ⟨_, rfl⟩
      have HNL := Lib.hid hnl
      rw [← hnl] at hul
      subst hul
      clear hr3 hb3 hnl
      have HB3 : Hid (Below w0.heap.size w0 w3) := Lib.hid (HB2.out.trans (hb23.mono HB2.out.size))
      refine held_take (i := 4) (v := .agg #[.int .i64 p, .slice ad nd cd, .slice am nm cm, .slice al nl cl]) (some 21) rfl rfl (by kernel_rfl) (by kernel_rfl) (by kernel_rfl) (fun _ _ _ h => h) (yieldsIf_run (by kernel_rfl) (fun W _ => by kernel_rfl)) (.inl hb23) ?_
      have HZZ : Hid (w3.heap[w.heap.size + 1]? = some (.cells Zf4 50 (0, 0))) := Lib.hid (HR.out w3 HB3.out)
      have HWR : Hid (Below w.heap.size w (w3.setRow (w.heap.size + 1) #[.int .i64 p, .slice ad nd cd, .slice am nm cm, .slice al nl cl])) := Lib.hid (below_setRow (HW0.out w3 HB3.out) (Nat.le_succ _) _)
      obtain ⟨WF, hWF⟩ : ∃ WF, WF = w3.setRow (w.heap.size + 1) #[.int .i64 p, .slice ad nd cd, .slice am nm cm, .slice al nl cl] := ⟨_, rfl⟩
      have hRz : Rz WF (w.heap.size + 1) 50 #[.int .i64 p, .slice ad nd cd, .slice am nm cm, .slice al nl cl] := by rw [hWF]; exact Rz.set HZZ.out _
      have f0 := hRz.cell (i := 0) (v := _) rfl
      have f1 := hRz.cell (i := 1) (v := _) rfl
      have f2 := hRz.cell (i := 2) (v := _) rfl
      have f3 := hRz.cell (i := 3) (v := _) rfl
      rw [← hWF] at HWR
      have HWF := Lib.hid hWF
      clear hRz hWF
      refine held_one (i := 5) (by kernel_rfl) ?_
      refine op_row (i := 5) rfl rfl rfl 50 (.tmp 4) (.tmp 21) rfl (w.heap.size + 1) #[.int .i64 p, .slice ad nd cd, .slice am nm cm, .slice al nl cl] (by kernel_rfl) (by kernel_rfl) 50 _ HZZ.out (infoFl _ _ _ _) (by kernel_rfl) (by kernel_rfl) ?_
      refine ⟨.inr ⟨w3, hb23, by simp, fun g hg => setRow_other _ _ _ _ hg⟩, ?_⟩
      refine held_take (i := 6) (v := .int .i64 0) (some 5) rfl rfl (by kernel_rfl) (by kernel_rfl) (by kernel_rfl) (fun _ _ _ h => h) (yieldsIf_assign (by kernel_rfl) rfl (by kernel_rfl)) (.inr ⟨w3, hb23, by simp, fun g hg => setRow_other _ _ _ _ hg⟩) ?_
      refine wpAnyH_done (by kernel_rfl) ?_ _
      simp only [Act.put, List.setIfInBounds_toArray, List.set_cons_zero, List.set_cons_succ]
      rw [← HWF.out]
      have HSZ : Hid (w3.heap.size ≤ WF.heap.size ∧ w2.heap.size ≤ w3.heap.size) := Lib.hid ⟨by rw [HWF.out]; simp, hb23.size⟩
      have HSM : Hid (∀ hi, Same w0.heap.size hi w3 WF) := Lib.hid (fun hi g h1 h2 => by rw [HWF.out]; exact setRow_other _ _ _ _ (by omega))
      have HRC3 := Lib.hid (HRC2.out.same (Same.of_below hb23 (by omega)))
      clear hbd hb23
      go_wp2
      refine bodyPost_ret (v := .tuple #[.agg #[.int .i64 p, .slice ad nd cd, .slice am nm cm, .slice al nl cl], .int .i64 0]) ?_ rfl ?_
      · simp only [results, HRES.out]
        go_simp
      · have hsz := HSZ.out
        have k1 := HRC3.out.same (HSM.out w1.heap.size)
        have k2 : Rw2 w1.heap.size w3.heap.size WF (.slice al nl cl) (tL b ds) := HR3.out.same (fun g h1 h2 => HSM.out w3.heap.size g (by omega) h2)
        rw [HND.out, HNM.out] at k1 ⊢
        rw [HNL.out] at k2 ⊢
        refine ⟨_, ftO p b ds ac dn, 0, rfl, ⟨ad, cd, am, cm, al, cl, rfl, ?_⟩, HWR.out, RsOut.of_yes rfl rfl⟩
        exact (RcFi.of k1 k2 hs1 (by omega)).wider (by omega) (by omega)
  · have hc0 := toCode_1 hdb
    clear hout hrc hb1
    obtain rfl : c = 1 := HCC.out.trans hc0
    have HO : Hid (∃ W2, W2 = w1.alloc (.cells #[.int .i64 o.1, .slice ad o.2.1.length cd, .slice am o.2.2.length cm] 38)) := Lib.hid ⟨_, rfl⟩
    obtain ⟨w2, hw2⟩ := HO.out
    have HB2 : Hid (Below w0.heap.size w0 w2) := Lib.hid (HB1.out.trans (by rw [hw2]; exact (below_alloc1 _ _).mono HB1.out.size))
    clear HO
    obtain ⟨nd, hnd⟩ : ∃ n, n = o.2.1.length := ⟨_, rfl⟩
    obtain ⟨nm, hnm⟩ : ∃ n, n = o.2.2.length := ⟨_, rfl⟩
    rw [← hnd, ← hnm] at hw2 ⊢
    clear hnd hnm
    go_upto_region 3 with fail
    rw [← hw2]
    clear hw2
    have HZZ : Hid (w2.heap[w.heap.size + 1]? = some (.cells Zf4 50 (0, 0))) := Lib.hid (HR.out w2 HB2.out)
    have HWR : Hid (Below w.heap.size w (w2.setRow (w.heap.size + 1) #[.int .i64 0, .slice none 0 0, .slice none 0 0, .slice none 0 0])) := Lib.hid (below_setRow (HW0.out w2 HB2.out) (Nat.le_succ _) _)
    obtain ⟨WF, hWF⟩ : ∃ WF, WF = w2.setRow (w.heap.size + 1) #[.int .i64 0, .slice none 0 0, .slice none 0 0, .slice none 0 0] := ⟨_, rfl⟩
    have hRz : Rz WF (w.heap.size + 1) 50 #[.int .i64 0, .slice none 0 0, .slice none 0 0, .slice none 0 0] := by rw [hWF]; exact Rz.set HZZ.out _
    have f0 := hRz.cell (i := 0) (v := _) rfl
    have f1 := hRz.cell (i := 1) (v := _) rfl
    have f2 := hRz.cell (i := 2) (v := _) rfl
    have f3 := hRz.cell (i := 3) (v := _) rfl
    rw [← hWF] at HWR
    have HWF := Lib.hid hWF
    clear hRz hWF
    go_wp2_with (with_reducible refine wpList_store_row rfl 50 (.tmp 4) (.tmp 15) rfl (w.heap.size + 1) #[.int .i64 0, .slice none 0 0, .slice none 0 0, .slice none 0 0] rfl rfl 50 Zf4 HZZ.out (infoFl _ _ _ _) rfl (by kernel_rfl) ?_)
    rw [← HWF.out]
    go_wp2
    refine bodyPost_ret (v := .tuple #[.agg #[.int .i64 0, .slice none 0 0, .slice none 0 0, .slice none 0 0], .int .i64 1]) ?_ rfl ?_
    · simp only [results, HRES.out]
      go_simp
    · exact ⟨_, (0, [], [], []), 1, rfl, RwFi.nil _ _ _, HWR.out, RsOut.of_no (by decide)⟩
set_option maxHeartbeats 3200000 in
set_option maxRecDepth 100000 in
theorem spFilteredTotal_any (p : Int) (b : Bool) (dv av vv : Value) (ds : List (List Int)) (ac dn : List (List (List (List Int)))) (w : World) (h : Dx 0 w dv av vv ds ac dn) (hbd : Bd2 1048576 ds) (hba : Bd4 1048576 ac) (hbv : Bd4 1048576 dn) :
    Calls Try.prog 31 #[.agg #[.int .i64 p, dv, av, vv], .bool b] w (AnsS RsFi (fun o => o = ftO p b ds ac dn) (0, [], [], []) (toCode p ds ac dn) w) := by
  have hres : Try.f31.results = #[.cell 4 50, .tmp 5] := by kernel_rfl
  have HRES := Lib.hid hres
  obtain ⟨w0, hw0⟩ : ∃ w0, w0 = (w.alloc (.cells #[.int .i64 p, dv, av, vv] 28)).alloc (.cells #[.int .i64 0, .slice none 0 0, .slice none 0 0, .slice none 0 0] 50) := ⟨_, rfl⟩
  have HX0 : Hid (DBx w w0 w.heap.size p dv av vv ds ac dn) := Lib.hid (by rw [hw0]; exact (DBx.start 28 h).next (below_alloc1 _ _))
  have HS0 : Hid (w.heap.size + 2 ≤ w0.heap.size) := Lib.hid (by rw [hw0]; simp)
  have HR : Hid (∀ W, Below w0.heap.size w0 W → Rz W (w.heap.size + 1) 50 Zf4) := Lib.hid (fun W hb => by
    have h0 : Rz w0 (w.heap.size + 1) 50 Zf4 := by
      rw [hw0]
      have := Rz.new (w.alloc (.cells #[.int .i64 p, dv, av, vv] 28)) 50 Zf4
      have h1 : (w.alloc (.cells #[.int .i64 p, dv, av, vv] 28)).heap.size = w.heap.size + 1 := by simp
      rw [h1] at this
      exact this
    exact h0.next hb)
  have HNX : Hid (∀ W, Below w0.heap.size w0 W → DBx w W w.heap.size p dv av vv ds ac dn) := Lib.hid (fun W hb => HX0.out.next hb)
  have HW0 : Hid (∀ W, Below w0.heap.size w0 W → Below w.heap.size w W) := Lib.hid (fun W hb => (HNX.out W hb).below)
  have HID := Lib.hid (l03Is_any p dv av vv ds ac dn w0 HX0.out.dx hbd hba hbv)
  have c0 := HX0.out.c0
  have c1 := HX0.out.c1
  have c2 := HX0.out.c2
  have c3 := HX0.out.c3
  obtain ⟨cc, hcc⟩ : ∃ cc, cc = toCode p ds ac dn := ⟨_, rfl⟩
  have HCC := Lib.hid hcc
  rw [← hcc]
  clear hres h hbd hba hbv hcc
  go_enter Try.func31, Try.ntmps31
  go_upto_region 1 with fail
  rw [← hw0]
  clear hw0
  go_wp2_with fail
  refine HID.out.mono ?_
  rintro e w1 ⟨bb, rfl, hb1, hbb⟩
  have HB1 := Lib.hid hb1
  have HBB := Lib.hid hbb
  clear hb1 hbb c0 c1 c2 c3 HID HX0
  cases bb with
  | false =>
    have hno : ¬ IsDb p ds ac dn := fun h => by have := HBB.out.2 h; cases this
    obtain rfl : cc = 1 := HCC.out.trans (toCode_1 hno)
    clear hno
    have HZZ : Hid (w1.heap[w.heap.size + 1]? = some (.cells Zf4 50 (0, 0))) := Lib.hid (HR.out w1 HB1.out)
    have HWR : Hid (Below w.heap.size w (w1.setRow (w.heap.size + 1) #[.int .i64 0, .slice none 0 0, .slice none 0 0, .slice none 0 0])) := Lib.hid (below_setRow (HW0.out w1 HB1.out) (Nat.le_succ _) _)
    obtain ⟨WF, hWF⟩ : ∃ WF, WF = w1.setRow (w.heap.size + 1) #[.int .i64 0, .slice none 0 0, .slice none 0 0, .slice none 0 0] := ⟨_, rfl⟩
    have hRz : Rz WF (w.heap.size + 1) 50 #[.int .i64 0, .slice none 0 0, .slice none 0 0, .slice none 0 0] := by rw [hWF]; exact Rz.set HZZ.out _
    have f0 := hRz.cell (i := 0) (v := _) rfl
    have f1 := hRz.cell (i := 1) (v := _) rfl
    have f2 := hRz.cell (i := 2) (v := _) rfl
    have f3 := hRz.cell (i := 3) (v := _) rfl
    rw [← hWF] at HWR
    have HWF := Lib.hid hWF
    clear hRz hWF
    go_wp2_with (with_reducible refine wpList_store_row rfl 50 (.tmp 4) (.tmp 11) rfl (w.heap.size + 1) #[.int .i64 0, .slice none 0 0, .slice none 0 0, .slice none 0 0] rfl rfl 50 Zf4 HZZ.out (infoFl _ _ _ _) rfl (by kernel_rfl) ?_)
    rw [← HWF.out]
    go_wp2
    refine bodyPost_ret (v := .tuple #[.agg #[.int .i64 0, .slice none 0 0, .slice none 0 0, .slice none 0 0], .int .i64 1]) ?_ rfl ?_
    · simp only [results, HRES.out]
      go_simp
    · exact ⟨_, (0, [], [], []), 1, rfl, RsFi.nil _, HWR.out, RsOut.of_no (by decide)⟩
  | true =>
    have HDB : Hid (IsDb p ds ac dn) := Lib.hid (HBB.out.1 rfl)
    have hX := HNX.out _ HB1.out
    have c0 := hX.c0
    have c1 := hX.c1
    have c2 := hX.c2
    have c3 := hX.c3
    have HT := Lib.hid (l03Total_any b p dv av vv ds ac dn w1 hX.dx HDB.out)
    clear hX HBB
    go_wp2_with fail
    refine HT.out.mono ?_
    rintro e w2 ⟨hb2, hans⟩
    have HB2 := Lib.hid (HB1.out.trans (hb2.mono HB1.out.size))
    have hs1 : w0.heap.size ≤ w1.heap.size := HB1.out.size
    clear hb2 c0 c1 c2 c3 HT
    rcases hans with ⟨hex, rfl⟩ | ⟨hne, d2, m2, l2, rfl, hgd, hgt, hgs⟩
    · obtain rfl : cc = 3 := HCC.out.trans (toCode_3 HDB.out hex)
      clear hex
      obtain ⟨w3, hw3⟩ : ∃ w3, w3 = w2.alloc (.cells #[.int .i64 0, .slice none 0 0, .slice none 0 0, .slice none 0 0] 50) := ⟨_, rfl⟩
      have HB3 : Hid (Below w0.heap.size w0 w3) := Lib.hid (HB2.out.trans (by rw [hw3]; exact (below_alloc1 _ _).mono HB2.out.size))
      go_upto_region 4 with fail
      rw [← hw3]
      clear hw3
      have HZZ : Hid (w3.heap[w.heap.size + 1]? = some (.cells Zf4 50 (0, 0))) := Lib.hid (HR.out w3 HB3.out)
      have HWR : Hid (Below w.heap.size w (w3.setRow (w.heap.size + 1) #[.int .i64 0, .slice none 0 0, .slice none 0 0, .slice none 0 0])) := Lib.hid (below_setRow (HW0.out w3 HB3.out) (Nat.le_succ _) _)
      obtain ⟨WF, hWF⟩ : ∃ WF, WF = w3.setRow (w.heap.size + 1) #[.int .i64 0, .slice none 0 0, .slice none 0 0, .slice none 0 0] := ⟨_, rfl⟩
      have hRz : Rz WF (w.heap.size + 1) 50 #[.int .i64 0, .slice none 0 0, .slice none 0 0, .slice none 0 0] := by rw [hWF]; exact Rz.set HZZ.out _
      have f0 := hRz.cell (i := 0) (v := _) rfl
      have f1 := hRz.cell (i := 1) (v := _) rfl
      have f2 := hRz.cell (i := 2) (v := _) rfl
      have f3 := hRz.cell (i := 3) (v := _) rfl
      rw [← hWF] at HWR
      have HWF := Lib.hid hWF
      clear hRz hWF
      go_wp2_with (with_reducible refine wpList_store_row rfl 50 (.tmp 4) (.tmp 20) rfl (w.heap.size + 1) #[.int .i64 0, .slice none 0 0, .slice none 0 0, .slice none 0 0] rfl rfl 50 Zf4 HZZ.out (infoFl _ _ _ _) rfl (by kernel_rfl) ?_)
      rw [← HWF.out]
      go_wp2
      refine bodyPost_ret (v := .tuple #[.agg #[.int .i64 0, .slice none 0 0, .slice none 0 0, .slice none 0 0], .int .i64 3]) ?_ rfl ?_
      · simp only [results, HRES.out]
        go_simp
      · exact ⟨_, (0, [], [], []), 3, rfl, RsFi.nil _, HWR.out, RsOut.of_no (by decide)⟩
    · obtain rfl : cc = 0 := HCC.out.trans (toCode_0 HDB.out hne)
      clear hne
      obtain ⟨ad, cd, rfl⟩ := Sl.shape hgd.l1
      obtain ⟨am, cm, rfl⟩ := Sl.shape hgt.l3
      obtain ⟨al, cl, rfl⟩ := Sl.shape hgs.l2
      obtain ⟨nl, hnl⟩ : ∃ n, n = (tL b ds).length := ⟨_, rfl⟩
      rw [← hnl] at hgs ⊢
      obtain ⟨nd, hnd⟩ : ∃ n, n = (tD ds).length := ⟨_, rfl⟩
      obtain ⟨nm, hnm⟩ : ∃ n, n = (tM ds ac dn).length := ⟨_, rfl⟩
      rw [← hnd] at hgd ⊢
      rw [← hnm] at hgt ⊢
      have HND := Lib.hid hnd
      have HNM := Lib.hid hnm
      have HNL := Lib.hid hnl
      obtain ⟨w3, hw3⟩ : ∃ w3, w3 = w2.alloc (.cells #[.int .i64 p, .slice ad nd cd, .slice am nm cm, .slice al nl cl] 50) := ⟨_, rfl⟩
      have hb3 : Below w2.heap.size w2 w3 := by rw [hw3]; exact below_alloc1 _ _
      have HB3 : Hid (Below w0.heap.size w0 w3) := Lib.hid (HB2.out.trans (hb3.mono HB2.out.size))
      have HGD := Lib.hid (hgd.below hb3)
      have HGT := Lib.hid (hgt.below hb3)
      have HGS := Lib.hid (hgs.below hb3)
      have g0 : w3.cell? ⟨w2.heap.size, 0, none⟩ = some (.int .i64 p) := by rw [hw3]; simp
      have g1 : w3.cell? ⟨w2.heap.size, 1, none⟩ = some (.slice ad nd cd) := by rw [hw3]; simp
      have g2 : w3.cell? ⟨w2.heap.size, 2, none⟩ = some (.slice am nm cm) := by rw [hw3]; simp
      have g3 : w3.cell? ⟨w2.heap.size, 3, none⟩ = some (.slice al nl cl) := by rw [hw3]; simp
      clear hgd hgt hgs hb3 hnl hnd hnm
      go_upto_region 4 with fail
      rw [← hw3]
      clear hw3
      have HZZ : Hid (w3.heap[w.heap.size + 1]? = some (.cells Zf4 50 (0, 0))) := Lib.hid (HR.out w3 HB3.out)
      have HWR : Hid (Below w.heap.size w (w3.setRow (w.heap.size + 1) #[.int .i64 p, .slice ad nd cd, .slice am nm cm, .slice al nl cl])) := Lib.hid (below_setRow (HW0.out w3 HB3.out) (Nat.le_succ _) _)
      obtain ⟨WF, hWF⟩ : ∃ WF, WF = w3.setRow (w.heap.size + 1) #[.int .i64 p, .slice ad nd cd, .slice am nm cm, .slice al nl cl] := ⟨_, rfl⟩
      have hRz : Rz WF (w.heap.size + 1) 50 #[.int .i64 p, .slice ad nd cd, .slice am nm cm, .slice al nl cl] := by rw [hWF]; exact Rz.set HZZ.out _
      have f0 := hRz.cell (i := 0) (v := _) rfl
      have f1 := hRz.cell (i := 1) (v := _) rfl
      have f2 := hRz.cell (i := 2) (v := _) rfl
      have f3 := hRz.cell (i := 3) (v := _) rfl
      rw [← hWF] at HWR
      have HWF := Lib.hid hWF
      clear hRz hWF
      go_wp2_with (with_reducible refine wpList_store_row rfl 50 (.tmp 4) (.tmp 21) rfl (w.heap.size + 1) #[.int .i64 p, .slice ad nd cd, .slice am nm cm, .slice al nl cl] rfl rfl 50 Zf4 HZZ.out (infoFl _ _ _ _) rfl (by kernel_rfl) ?_)
      rw [← HWF.out]
      go_wp2
      refine bodyPost_ret (v := .tuple #[.agg #[.int .i64 p, .slice ad nd cd, .slice am nm cm, .slice al nl cl], .int .i64 0]) ?_ rfl ?_
      · simp only [results, HRES.out]
        go_simp
      · have hk := tt_keep (base' := w1.heap.size) (c := #[.int .i64 p, .slice ad nd cd, .slice am nm cm, .slice al nl cl]) (show Rz w3 _ _ _ from HZZ.out) HGD.out HGT.out HGS.out (Nat.le_refl _)
        rw [← HWF.out, HND.out, HNM.out, HNL.out] at hk
        rw [HND.out, HNM.out, HNL.out]
        refine ⟨_, ftO p b ds ac dn, 0, rfl, ⟨ad, cd, am, cm, al, cl, rfl, ?_⟩, HWR.out, RsOut.of_yes rfl rfl⟩
        exact ⟨⟨Sl.lower (Nat.zero_le _) (fun _ _ _ h => h) hk.1.l1, Sl.lower (Nat.zero_le _) (fun _ _ _ h => h) hk.2.1.l3⟩, Sl.lower (Nat.zero_le _) (fun _ _ _ h => h) hk.2.2.l2⟩
theorem filteredTotalK_any (p : Int) (b : Bool) (dv av vv : Value) (ds : List (List Int)) (ac dn : List (List (List (List Int)))) (w : World) (h : Dc 0 w dv av vv ds ac dn) (hb : DcB 1048576 ds ac dn) :
    Calls Try.prog 32 #[.agg #[.int .i64 p, dv, av, vv], .bool b] w (AnsW RwFi (fun o => o = ftO p b ds ac dn) (0, [], [], []) (toCode p ds ac dn) w) := filteredTotal_any p b dv av vv ds ac dn w ⟨h.fd, h.fa, h.fv.l4⟩ hb.bd hb.ba hb.bv
theorem spFilteredTotalK_any (p : Int) (b : Bool) (dv av vv : Value) (ds : List (List Int)) (ac dn : List (List (List (List Int)))) (w : World) (h : Dc 0 w dv av vv ds ac dn) (hb : DcB 1048576 ds ac dn) :
    Calls Try.prog 31 #[.agg #[.int .i64 p, dv, av, vv], .bool b] w (AnsS RsFi (fun o => o = ftO p b ds ac dn) (0, [], [], []) (toCode p ds ac dn) w) := spFilteredTotal_any p b dv av vv ds ac dn w ⟨h.fd, h.fa, h.fv.l4⟩ hb.bd hb.ba hb.bv
theorem ft_bd {p : Int} {b : Bool} {ds : List (List Int)} {ac dn : List (List (List (List Int)))} (h : toCode p ds ac dn = 0) : FiBo (ftO p b ds ac dn) := by
  have h0 := too_bd h
  obtain ⟨h1, h2⟩ := toCode_zero h
  obtain ⟨h5, _⟩ := tg_fits h2
  refine ⟨h0.1, h0.2, by show (tL b ds).length ≤ _; rw [tL_len]; omega, fun y hy => ?_⟩
  obtain ⟨k, _, rfl⟩ := List.mem_map.1 hy
  have := lvt_le h1.cel b k
  show (lvt ds b k).length ≤ _
  omega
end Go.Proofs.Ytlopenephgabhaa


namespace Go.Proofs.Ytlopenephgabhaa
open Go.RowKit

set_option maxHeartbeats 6400000 in
set_option maxRecDepth 100000 in
theorem lawFtl_any (p0 : Int) (dv0 av0 vv0 : Value) (dl0 : List (List Int)) (al0 : List (List (List (List Int)))) (vl0 : List (List (List (List Int)))) (n1 : Bool) (w : World) (h0 : Dc 0 w dv0 av0 vv0 dl0 al0 vl0) (hml0 : DcB 9223372036854775807 dl0 al0 vl0) :
    Calls Try.prog 8 #[.agg #[.int .i64 p0, dv0, av0, vv0], .bool n1] w (BR (.bool true) w) := by
  obtain ⟨W0, hW0⟩ : ∃ W0, W0 = (w.alloc (.cells #[.int .i64 p0, dv0, av0, vv0] 25)) := ⟨_, rfl⟩
  have HS0 : Hid (W0.heap.size = w.heap.size + 1) := Lib.hid (by rw [hW0]; simp)
  have HZ0 : Hid (Below w.heap.size w W0) := Lib.hid (by rw [hW0]; exact below_alloc1 _ _)
  have HK0 : Hid (BxDc w W0 w.heap.size p0 dv0 av0 vv0 dl0 al0 vl0) := Lib.hid (by rw [hW0]; exact BxDc.start _ h0)
  have HN0 : Hid (∀ W, Below (w.heap.size + 1) W0 W → BxDc w W w.heap.size p0 dv0 av0 vv0 dl0 al0 vl0) := Lib.hid (fun W hb => HK0.out.next (by rw [HS0.out]; exact hb))
  have HNW : Hid (∀ W, Below (w.heap.size + 1) W0 W → Below w.heap.size w W) := Lib.hid (fun W hb => HZ0.out.trans (hb.mono (by omega)))
  have HB : Hid (Below (w.heap.size + 1) W0 W0) := Lib.hid (Below.refl _ _)
  have hs0 : w.heap.size + 1 ≤ W0.heap.size := by have := HS0.out; omega
  have HML0 := Lib.hid hml0
  clear h0 hml0 HK0
  go_enter Try.func8, Try.ntmps8
  go_upto_region 1 with fail
  rw [← hW0]
  clear hW0
  have c00 := (HN0.out _ HB.out).c0
  have c01 := (HN0.out _ HB.out).c1
  have c02 := (HN0.out _ HB.out).c2
  have c03 := (HN0.out _ HB.out).c3
  go_wp2_with fail
  refine (sztDoublec_any p0 dv0 av0 vv0 dl0 al0 vl0 1048576 _ (HN0.out _ HB.out).cx (by omega) (by omega) HML0.out).mono ?_
  rintro e wz0 ⟨sz0, rfl, hb, hpost⟩
  have hsz0 : W0.heap.size ≤ wz0.heap.size := hb.size
  have HB' := Lib.hid (HB.out.trans (hb.mono (by omega)))
  clear c00 c01 c02 c03
  clear hb HB
  have HB := HB'
  clear HB'
  rcases hpost with rfl | ⟨hp00, hp01, hpm0⟩
  · go_wp2
    go_ret
    exact ⟨rfl, HNW.out _ HB.out⟩
  have HMS0 := Lib.hid hpm0
  clear hpm0
  have c00 := (HN0.out _ HB.out).c0
  have c01 := (HN0.out _ HB.out).c1
  have c02 := (HN0.out _ HB.out).c2
  have c03 := (HN0.out _ HB.out).c3
  have HQd : Hid (Below wz0.heap.size wz0 wz0) := Lib.hid (Below.refl _ _)
  go_wp2_with fail
  refine (toDoublec_any p0 dv0 av0 vv0 dl0 al0 vl0 _ (HN0.out _ HB.out).cx HMS0.out.b).mono ?_
  rintro e wS0 ⟨xdv0S, xav0S, xvv0S, rfl, hc, hb⟩
  have hsS0 : wz0.heap.size ≤ wS0.heap.size := hb.size
  have HBS0 := Lib.hid (HB.out.trans (hb.mono (by omega)))
  have HQ0 := Lib.hid (HQd.out.trans (hb.mono (by omega)))
  have HXS0 := Lib.hid hc.zero
  clear hb hc
  clear c00 c01 c02 c03
  go_wp2_with fail
  refine (spFilteredTotalK_any p0 n1 xdv0S xav0S xvv0S dl0 al0 vl0 _ (HXS0.out) HMS0.out.b).mono ?_
  rintro e wSr ⟨uS, oS, kS, rfl, hrS, hb, hoS⟩
  have hsSr : wS0.heap.size ≤ wSr.heap.size := hb.size
  have HQr := Lib.hid (HQ0.out.trans (hb.mono (by omega)))
  have HRS := Lib.hid hrS
  have HOS := Lib.hid hoS
  clear hb hrS hoS
  have hb := HQr.out
  clear HQd HQr HQ0 HXS0 HBS0
  have HB' := Lib.hid (HB.out.trans (hb.mono (by omega)))
  clear hb HB
  have HB := HB'
  clear HB'
  obtain ⟨pS, dsS, msS, lsS⟩ := oS
  obtain ⟨aSd, cSd, aSm, cSm, aSl, cSl, huS, hcS⟩ := HRS.out
  have huS : uS = .agg #[.int .i64 pS, .slice aSd dsS.length cSd, .slice aSm msS.length cSm, .slice aSl lsS.length cSl] := huS
  subst huS
  have HXS : Hid (Fi 0 wSr (.slice aSd dsS.length cSd) (.slice aSm msS.length cSm) (.slice aSl lsS.length cSl) dsS msS lsS) := Lib.hid hcS
  clear hcS HRS
  have HBD : Hid (FiBo (pS, dsS, msS, lsS)) := Lib.hid (HOS.out.all (Q := FiBo) ⟨by simp, ⟨by simp, by simp⟩, ⟨by simp, by simp⟩⟩ (fun h0 a ha => by rw [show a = _ from ha]; exact ft_bd h0))
  have hbd1 : dsS.length ≤ 1048576 := HBD.out.1
  obtain ⟨wbS, hwb⟩ : ∃ wbS, wbS = wSr.alloc (.cells #[.int .i64 pS, .slice aSd dsS.length cSd, .slice aSm msS.length cSm, .slice aSl lsS.length cSl] 50) := ⟨_, rfl⟩
  have hb : Below wSr.heap.size wSr wbS := by rw [hwb]; exact below_alloc1 _ _
  have hsbS : wSr.heap.size + 1 = wbS.heap.size := by rw [hwb]; simp
  have hsBS : wSr.heap.size ≤ wbS.heap.size := by omega
  have HYS : Hid (BqFi wbS wSr.heap.size pS (.slice aSd dsS.length cSd) (.slice aSm msS.length cSm) (.slice aSl lsS.length cSl) dsS msS lsS) := Lib.hid (by rw [hwb]; exact (Fx.start _ HXS.out).bq)
  have HB' := Lib.hid (HB.out.trans (hb.mono (by omega)))
  clear hb HB
  have HB := HB'
  clear HB'
  go_upto_region 6 with fail
  rw [← hwb]
  clear hwb
  clear HXS
  have HK : Hid (Below wbS.heap.size wbS wbS) := Lib.hid (Below.refl _ _)
  have c00 := (HN0.out _ HB.out).c0
  have c01 := (HN0.out _ HB.out).c1
  have c02 := (HN0.out _ HB.out).c2
  have c03 := (HN0.out _ HB.out).c3
  go_wp2_with fail
  refine (toDoublecw_any p0 dv0 av0 vv0 dl0 al0 vl0 _ (HN0.out _ HB.out).cx HMS0.out.b).mono ?_
  rintro e wc0 ⟨ydv0, yav0, yvv0, rfl, hc, hb⟩
  have hsc0 : wbS.heap.size ≤ wc0.heap.size := hb.size
  clear c00 c01 c02 c03
  have HB' := Lib.hid (HB.out.trans (hb.mono (by omega)))
  have HK' := Lib.hid (HK.out.trans (hb.mono (by omega)))
  clear hb HB HK
  have HB := HB'
  have HK := HK'
  clear HB' HK'
  have HC0 := Lib.hid hc
  obtain ⟨⟨ya0d, yc0d, rfl⟩, ⟨ya0a, yc0a, rfl⟩, ⟨ya0v, yc0v, rfl⟩⟩ := hc.cx.shapes
  clear hc
  obtain ⟨wb0, hwb⟩ : ∃ wb0, wb0 = wc0.alloc (.cells #[.int .i64 p0, .slice ya0d dl0.length yc0d, .slice ya0a al0.length yc0a, .slice ya0v vl0.length yc0v] 28) := ⟨_, rfl⟩
  have hb : Below wc0.heap.size wc0 wb0 := by rw [hwb]; exact below_alloc1 _ _
  have hsb0 : wc0.heap.size + 1 = wb0.heap.size := by rw [hwb]; simp
  have hsB0 : wc0.heap.size ≤ wb0.heap.size := by omega
  have HY0 : Hid (BqDc wb0 wc0.heap.size p0 (.slice ya0d dl0.length yc0d) (.slice ya0a al0.length yc0a) (.slice ya0v vl0.length yc0v) dl0 al0 vl0) := Lib.hid (by rw [hwb]; exact (BxDc.start _ HC0.out.cx.zero).bq)
  have HB' := Lib.hid (HB.out.trans (hb.mono (by omega)))
  have HK' := Lib.hid (HK.out.trans (hb.mono (by omega)))
  have HC0' := Lib.hid (HC0.out.same (Same.of_below hb (by omega)))
  clear hb HB HK HC0
  have HB := HB'
  have HK := HK'
  have HC0 := HC0'
  clear HB' HK' HC0'
  go_upto_region 7 with fail
  rw [← hwb]
  clear hwb
  have d00 := HY0.out.c0
  have d01 := HY0.out.c1
  have d02 := HY0.out.c2
  have d03 := HY0.out.c3
  go_wp2_with fail
  refine (filteredTotalK_any p0 n1 _ _ _ dl0 al0 vl0 _ (HC0.out.cx.zero) HMS0.out.b).mono ?_
  rintro e w7 ⟨u7, o7, k7, rfl, hw7, hb, hout7⟩
  obtain ⟨rfl, rfl⟩ := RsOut.unique (fun _ a b ha hb => ha.trans hb.symm) HOS.out hout7
  have hs7 : wb0.heap.size ≤ w7.heap.size := hb.size
  clear d00 d01 d02 d03
  have HB' := Lib.hid (HB.out.trans (hb.mono (by omega)))
  have HK' := Lib.hid (HK.out.trans (hb.mono (by omega)))
  have HC0' := Lib.hid (HC0.out.same (Same.of_below hb (by omega)))
  have HY0' := Lib.hid (HY0.out.next hb)
  clear hb HB HK HC0 HY0
  have HB := HB'
  have HK := HK'
  have HC0 := HC0'
  have HY0 := HY0'
  clear HB' HK' HC0' HY0'
  obtain ⟨aGd, cGd, aGm, cGm, aGl, cGl, hu7, hG⟩ := hw7
  have hu7 : u7 = .agg #[.int .i64 pS, .slice aGd dsS.length cGd, .slice aGm msS.length cGm, .slice aGl lsS.length cGl] := hu7
  subst hu7
  have HG : Hid (RcFi wb0.heap.size w7.heap.size w7 (.slice aGd dsS.length cGd) (.slice aGm msS.length cGm) (.slice aGl lsS.length cGl) dsS msS lsS) := Lib.hid hG
  clear hG hout7
  obtain ⟨wbG, hwb⟩ : ∃ wbG, wbG = w7.alloc (.cells #[.int .i64 pS, .slice aGd dsS.length cGd, .slice aGm msS.length cGm, .slice aGl lsS.length cGl] 50) := ⟨_, rfl⟩
  have hb : Below w7.heap.size w7 wbG := by rw [hwb]; exact below_alloc1 _ _
  have hsbG : w7.heap.size + 1 = wbG.heap.size := by rw [hwb]; simp
  have hsBG : w7.heap.size ≤ wbG.heap.size := by omega
  have HCG0 : Hid (BcFi wbG w7.heap.size pS (.slice aGd dsS.length cGd) (.slice aGm msS.length cGm) (.slice aGl lsS.length cGl)) := Lib.hid (by rw [hwb]; exact BcFi.start _ _ _ _ _ _)
  have HB' := Lib.hid (HB.out.trans (hb.mono (by omega)))
  have HK' := Lib.hid (HK.out.trans (hb.mono (by omega)))
  have HC0' := Lib.hid (HC0.out.same (Same.of_below hb (by omega)))
  have HY0' := Lib.hid (HY0.out.next hb)
  have HG' := Lib.hid (HG.out.same (Same.of_below hb (by omega)))
  clear hb HB HK HC0 HY0 HG
  have HB := HB'
  have HK := HK'
  have HC0 := HC0'
  have HY0 := HY0'
  have HG := HG'
  clear HB' HK' HC0' HY0' HG'
  have HCG := HCG0
  clear HCG0
  go_upto_region 8 with fail
  rw [← hwb]
  clear hwb
  have hcode : (kS != kS) = false := by simp
  have s0 := (HYS.out.next HK.out).c0
  have s1 := (HYS.out.next HK.out).c1
  have s2 := (HYS.out.next HK.out).c2
  have s3 := (HYS.out.next HK.out).c3
  have g0 := HCG.out.c0
  have g1 := HCG.out.c1
  have g2 := HCG.out.c2
  have g3 := HCG.out.c3
  go_wp2_with fail
  refine (eqFiltered_true pS _ _ _ _ _ _ dsS msS lsS _ HG.out.cx (HYS.out.next HK.out).cx hbd1 HBD.out.2.1 HBD.out.2.2).mono ?_
  rintro e we1 ⟨rfl, hb⟩
  have hse1 : wbG.heap.size ≤ we1.heap.size := hb.size
  clear s0 s1 s2 s3 g0 g1 g2 g3
  have HB' := Lib.hid (HB.out.trans (hb.mono (by omega)))
  have HK' := Lib.hid (HK.out.trans (hb.mono (by omega)))
  have HC0' := Lib.hid (HC0.out.same (Same.of_below hb (by omega)))
  have HY0' := Lib.hid (HY0.out.next hb)
  have HG' := Lib.hid (HG.out.same (Same.of_below hb (by omega)))
  have HCG' := Lib.hid (HCG.out.next hb)
  clear hb HB HK HC0 HY0 HG HCG
  have HB := HB'
  have HK := HK'
  have HC0 := HC0'
  have HY0 := HY0'
  have HG := HG'
  have HCG := HCG'
  clear HB' HK' HC0' HY0' HG' HCG'
  have c00 := (HN0.out _ HB.out).c0
  have c01 := (HN0.out _ HB.out).c1
  have c02 := (HN0.out _ HB.out).c2
  have c03 := (HN0.out _ HB.out).c3
  have d00 := HY0.out.c0
  have d01 := HY0.out.c1
  have d02 := HY0.out.c2
  have d03 := HY0.out.c3
  have HCX := Lib.hid ((HN0.out _ HB.out).cx.below (Below.refl _ _).drew)
  have HCC := Lib.hid (HY0.out.cx.below (Below.refl _ _).drew)
  go_wp2_with fail
  go_region_held3 (fun w' => w'.cell? ⟨w.heap.size, 0, none⟩ = some (.int .i64 p0) ∧ w'.cell? ⟨w.heap.size, 1, none⟩ = some (dv0) ∧ w'.cell? ⟨w.heap.size, 2, none⟩ = some (av0) ∧ w'.cell? ⟨w.heap.size, 3, none⟩ = some (vv0) ∧ w'.cell? ⟨wc0.heap.size, 0, none⟩ = some (.int .i64 p0) ∧ w'.cell? ⟨wc0.heap.size, 1, none⟩ = some (.slice ya0d dl0.length yc0d) ∧ w'.cell? ⟨wc0.heap.size, 2, none⟩ = some (.slice ya0a al0.length yc0a) ∧ w'.cell? ⟨wc0.heap.size, 3, none⟩ = some (.slice ya0v vl0.length yc0v))
    (first | exact ⟨c00, c01, c02, c03, d00, d01, d02, d03⟩ | exact HS9.out | exact HSA.out | go_keep)
    (first
      | (go_at_call 12; refine (toDoublec_any p0 dv0 av0 vv0 dl0 al0 vl0 _ HCX.out HMS0.out.b).mono ?_; rintro e w9 ⟨dv09, av09, vv09, rfl, hcx9, hb9⟩; have HS9 := Lib.hid (And.intro (later hb9 (Nat.le_refl _) c00) (And.intro (later hb9 (Nat.le_refl _) c01) (And.intro (later hb9 (Nat.le_refl _) c02) (And.intro (later hb9 (Nat.le_refl _) c03) (And.intro (later hb9 (Nat.le_refl _) d00) (And.intro (later hb9 (Nat.le_refl _) d01) (And.intro (later hb9 (Nat.le_refl _) d02) (later hb9 (Nat.le_refl _) d03)))))))); have HX9 := Lib.hid (And.intro hcx9 (And.intro (HCC.out.below hb9) (Below.trans ((Below.refl we1.heap.size we1).drew) hb9))); clear hcx9 hb9)
      | (go_at_call 14; refine (eqDoublec_true p0 _ _ _ dv09 av09 vv09 dl0 al0 vl0 _ HX9.out.2.1 HX9.out.1.zero HMS0.out.b).mono ?_; rintro e wA0 ⟨rfl, hbA⟩; have HSA := Lib.hid (And.intro (later hbA (Nat.le_refl _) HS9.out.1) (And.intro (later hbA (Nat.le_refl _) HS9.out.2.1) (And.intro (later hbA (Nat.le_refl _) HS9.out.2.2.1) (And.intro (later hbA (Nat.le_refl _) HS9.out.2.2.2.1) (And.intro (later hbA (Nat.le_refl _) HS9.out.2.2.2.2.1) (And.intro (later hbA (Nat.le_refl _) HS9.out.2.2.2.2.2.1) (And.intro (later hbA (Nat.le_refl _) HS9.out.2.2.2.2.2.2.1) (later hbA (Nat.le_refl _) HS9.out.2.2.2.2.2.2.2)))))))); have HXA := Lib.hid (Below.trans HX9.out.2.2 (hbA.mono HX9.out.2.2.size)); clear hbA))
  have hsa0 : we1.heap.size ≤ wA0.heap.size := HXA.out.size
  have hb := HXA.out
  clear c00 c01 c02 c03
  clear d00 d01 d02 d03
  clear HXA HSA HS9 HX9 HCX HCC
  have HB' := Lib.hid (HB.out.trans (hb.mono (by omega)))
  have HK' := Lib.hid (HK.out.trans (hb.mono (by omega)))
  have HC0' := Lib.hid (HC0.out.same (Same.of_below hb (by omega)))
  have HY0' := Lib.hid (HY0.out.next hb)
  have HG' := Lib.hid (HG.out.same (Same.of_below hb (by omega)))
  have HCG' := Lib.hid (HCG.out.next hb)
  clear hb HB HK HC0 HY0 HG HCG
  have HB := HB'
  have HK := HK'
  have HC0 := HC0'
  have HY0 := HY0'
  have HG := HG'
  have HCG := HCG'
  clear HB' HK' HC0' HY0' HG' HCG'
  have d00 := HY0.out.c0
  have d01 := HY0.out.c1
  have d02 := HY0.out.c2
  have d03 := HY0.out.c3
  go_wp2_with fail
  refine (markDoublecK_any 1 p0 _ _ _ dl0 al0 vl0 _ HC0.out (by omega) HMS0.out (by omega) (by omega)).mono ?_
  rintro e wD0 ⟨r0, wM, rfl, hr00, hr01, hb, hoM, htM⟩
  have hsM0 : wA0.heap.size ≤ wM.heap.size := hb.size
  have hsD0 : wD0.heap.size = wM.heap.size := hoM.size
  have hsE0 : wA0.heap.size ≤ wD0.heap.size := by omega
  clear d00 d01 d02 d03
  have HB' := Lib.hid ((HB.out.trans (hb.mono (by omega))).trans (hoM.below (by omega)))
  have HK' := Lib.hid ((HK.out.trans (hb.mono (by omega))).trans (hoM.below (by omega)))
  have HG' := Lib.hid (HG.out.same ((Same.of_below hb (by omega)).trans (hoM.same (by omega))))
  have HCG' := Lib.hid ((HCG.out.next hb).only hoM (by omega))
  clear hoM htM hb HC0 HY0 HB HK HG HCG
  have HB := HB'
  have HK := HK'
  have HG := HG'
  have HCG := HCG'
  clear HB' HK' HG' HCG'
  have hneg0 : ¬ r0 < 0 := by omega
  have s0 := (HYS.out.next HK.out).c0
  have s1 := (HYS.out.next HK.out).c1
  have s2 := (HYS.out.next HK.out).c2
  have s3 := (HYS.out.next HK.out).c3
  have g0 := HCG.out.c0
  have g1 := HCG.out.c1
  have g2 := HCG.out.c2
  have g3 := HCG.out.c3
  go_wp2_with fail
  refine (eqFiltered_true pS _ _ _ _ _ _ dsS msS lsS _ HG.out.cx (HYS.out.next HK.out).cx hbd1 HBD.out.2.1 HBD.out.2.2).mono ?_
  rintro e we2 ⟨rfl, hb⟩
  have hse2 : wD0.heap.size ≤ we2.heap.size := hb.size
  clear s0 s1 s2 s3 g0 g1 g2 g3
  have HB' := Lib.hid (HB.out.trans (hb.mono (by omega)))
  have HK' := Lib.hid (HK.out.trans (hb.mono (by omega)))
  have HG' := Lib.hid (HG.out.same (Same.of_below hb (by omega)))
  have HCG' := Lib.hid (HCG.out.next hb)
  clear hb HB HK HG HCG
  have HB := HB'
  have HK := HK'
  have HG := HG'
  have HCG := HCG'
  clear HB' HK' HG' HCG'
  have g0 := HCG.out.c0
  have g1 := HCG.out.c1
  have g2 := HCG.out.c2
  have g3 := HCG.out.c3
  go_wp2_with fail
  refine (markRFi_any pS _ _ _ dsS msS lsS _ HG.out (by omega)).mono ?_
  rintro e wG ⟨mm, wM2, rfl, hm0, hm1, hb, hoG, hmk⟩
  have hsM2 : we2.heap.size ≤ wM2.heap.size := hb.size
  have hsG0 : wG.heap.size = wM2.heap.size := hoG.size
  have hsG : we2.heap.size ≤ wG.heap.size := by omega
  clear g0 g1 g2 g3
  have HB' := Lib.hid ((HB.out.trans (hb.mono (by omega))).trans (hoG.below (by omega)))
  have HK' := Lib.hid ((HK.out.trans (hb.mono (by omega))).trans (hoG.below (by omega)))
  have HCG' := Lib.hid ((HCG.out.next hb).only hoG (by omega))
  have HG' := Lib.hid hmk
  clear hoG hmk hb HB HK HG HCG
  have HB := HB'
  have HK := HK'
  have HG := HG'
  have HCG := HCG'
  clear HB' HK' HG' HCG'
  have hneg : ¬ mm < 0 := by omega
  have hsum : (mm != mm) = false := by simp
  have g0 := HCG.out.c0
  have g1 := HCG.out.c1
  have g2 := HCG.out.c2
  have g3 := HCG.out.c3
  go_wp2_with fail
  refine (heldRFi_any pS _ _ _ mm _ HG.out (by omega)).mono ?_
  rintro e wH1 ⟨rfl, hb⟩
  have hsH1 : wG.heap.size ≤ wH1.heap.size := hb.size
  clear g0 g1 g2 g3
  have HB' := Lib.hid (HB.out.trans (hb.mono (by omega)))
  have HK' := Lib.hid (HK.out.trans (hb.mono (by omega)))
  have HG' := Lib.hid (HG.out.same (Same.of_below hb (by omega)))
  have HCG' := Lib.hid (HCG.out.next hb)
  clear hb HB HK HG HCG
  have HB := HB'
  have HK := HK'
  have HG := HG'
  have HCG := HCG'
  clear HB' HK' HG' HCG'
  have c00 := (HN0.out _ HB.out).c0
  have c01 := (HN0.out _ HB.out).c1
  have c02 := (HN0.out _ HB.out).c2
  have c03 := (HN0.out _ HB.out).c3
  have HQd : Hid (Below wH1.heap.size wH1 wH1) := Lib.hid (Below.refl _ _)
  go_wp2_with fail
  refine (toDoublec_any p0 dv0 av0 vv0 dl0 al0 vl0 _ (HN0.out _ HB.out).cx HMS0.out.b).mono ?_
  rintro e wJ0 ⟨xdv0J, xav0J, xvv0J, rfl, hc, hb⟩
  have hsJ0 : wH1.heap.size ≤ wJ0.heap.size := hb.size
  have HBJ0 := Lib.hid (HB.out.trans (hb.mono (by omega)))
  have HQ0 := Lib.hid (HQd.out.trans (hb.mono (by omega)))
  have HXJ0 := Lib.hid hc.zero
  clear hb hc
  clear c00 c01 c02 c03
  go_wp2_with fail
  refine (filteredTotalK_any p0 n1 xdv0J xav0J xvv0J dl0 al0 vl0 _ (HXJ0.out) HMS0.out.b).mono ?_
  rintro e wJr ⟨uJ, oJ, kJ, rfl, hrJ, hb, hoJ⟩
  have hsJr : wJ0.heap.size ≤ wJr.heap.size := hb.size
  have HQr := Lib.hid (HQ0.out.trans (hb.mono (by omega)))
  have HRJ := Lib.hid hrJ
  have HOJ := Lib.hid hoJ
  clear hb hrJ hoJ
  have hb := HQr.out
  clear HQd HQr HQ0 HXJ0 HBJ0
  have HB' := Lib.hid (HB.out.trans (hb.mono (by omega)))
  have HK' := Lib.hid (HK.out.trans (hb.mono (by omega)))
  have HG' := Lib.hid (HG.out.same (Same.of_below hb (by omega)))
  have HCG' := Lib.hid (HCG.out.next hb)
  clear hb HB HK HG HCG
  have HB := HB'
  have HK := HK'
  have HG := HG'
  have HCG := HCG'
  clear HB' HK' HG' HCG'
  obtain ⟨rfl, rfl⟩ := RsOut.unique (fun _ a b ha hb => ha.trans hb.symm) HOS.out HOJ.out
  obtain ⟨aJd, cJd, aJm, cJm, aJl, cJl, huJ, hcJ⟩ := HRJ.out
  have huJ : uJ = .agg #[.int .i64 pS, .slice aJd dsS.length cJd, .slice aJm msS.length cJm, .slice aJl lsS.length cJl] := huJ
  subst huJ
  have HXJ : Hid (Fi 0 wJr (.slice aJd dsS.length cJd) (.slice aJm msS.length cJm) (.slice aJl lsS.length cJl) dsS msS lsS) := Lib.hid hcJ.cx
  clear hcJ HRJ HOJ
  obtain ⟨wbJ, hwb⟩ : ∃ wbJ, wbJ = wJr.alloc (.cells #[.int .i64 pS, .slice aJd dsS.length cJd, .slice aJm msS.length cJm, .slice aJl lsS.length cJl] 50) := ⟨_, rfl⟩
  have hb : Below wJr.heap.size wJr wbJ := by rw [hwb]; exact below_alloc1 _ _
  have hsbJ : wJr.heap.size + 1 = wbJ.heap.size := by rw [hwb]; simp
  have hsBJ : wJr.heap.size ≤ wbJ.heap.size := by omega
  have HYJ : Hid (BqFi wbJ wJr.heap.size pS (.slice aJd dsS.length cJd) (.slice aJm msS.length cJm) (.slice aJl lsS.length cJl) dsS msS lsS) := Lib.hid (by rw [hwb]; exact (Fx.start _ HXJ.out).bq)
  have HB' := Lib.hid (HB.out.trans (hb.mono (by omega)))
  have HK' := Lib.hid (HK.out.trans (hb.mono (by omega)))
  have HG' := Lib.hid (HG.out.same (Same.of_below hb (by omega)))
  have HCG' := Lib.hid (HCG.out.next hb)
  clear hb HB HK HG HCG
  have HB := HB'
  have HK := HK'
  have HG := HG'
  have HCG := HCG'
  clear HB' HK' HG' HCG'
  go_upto_region 25 with fail
  rw [← hwb]
  clear hwb
  clear HXJ
  have s0 := (HYS.out.next HK.out).c0
  have s1 := (HYS.out.next HK.out).c1
  have s2 := (HYS.out.next HK.out).c2
  have s3 := (HYS.out.next HK.out).c3
  have j0 := HYJ.out.c0
  have j1 := HYJ.out.c1
  have j2 := HYJ.out.c2
  have j3 := HYJ.out.c3
  go_wp2_with fail
  refine (eqFiltered_true pS _ _ _ _ _ _ dsS msS lsS _ HYJ.out.cx (HYS.out.next HK.out).cx hbd1 HBD.out.2.1 HBD.out.2.2).mono ?_
  rintro e wK ⟨rfl, hb⟩
  have hsK : wbJ.heap.size ≤ wK.heap.size := hb.size
  clear s0 s1 s2 s3 j0 j1 j2 j3
  clear HYJ
  have HB' := Lib.hid (HB.out.trans (hb.mono (by omega)))
  have HK' := Lib.hid (HK.out.trans (hb.mono (by omega)))
  have HG' := Lib.hid (HG.out.same (Same.of_below hb (by omega)))
  have HCG' := Lib.hid (HCG.out.next hb)
  clear hb HB HK HG HCG
  have HB := HB'
  have HK := HK'
  have HG := HG'
  have HCG := HCG'
  clear HB' HK' HG' HCG'
  have g0 := HCG.out.c0
  have g1 := HCG.out.c1
  have g2 := HCG.out.c2
  have g3 := HCG.out.c3
  go_wp2_with fail
  refine (heldRFi_any pS _ _ _ mm _ HG.out (by omega)).mono ?_
  rintro e wH2 ⟨rfl, hb⟩
  have hsH2 : wK.heap.size ≤ wH2.heap.size := hb.size
  clear g0 g1 g2 g3
  have HB' := Lib.hid (HB.out.trans (hb.mono (by omega)))
  have HK' := Lib.hid (HK.out.trans (hb.mono (by omega)))
  have HG' := Lib.hid (HG.out.same (Same.of_below hb (by omega)))
  have HCG' := Lib.hid (HCG.out.next hb)
  clear hb HB HK HG HCG
  have HB := HB'
  have HK := HK'
  have HG := HG'
  have HCG := HCG'
  clear HB' HK' HG' HCG'
  go_wp2
  go_ret
  exact ⟨rfl, HNW.out _ HB.out⟩
end Go.Proofs.Ytlopenephgabhaa

