/-
  Texts that ProofPzl needs, part 5.
-/
import Derived.Test.YtckkbojankfdfaaDoorZg4
import Derived.Deep.Strs
import Derived.Deep.RegionHeld3
import Derived.BigRegion
import Derived.Deep.Cut
import Derived.Deep.CutRange
import Derived.StillTailTactics
import Derived.Deep.AppendLies
namespace Go.Proofs.YtckkbojankfdfaaDoor
open Go.ChangeShapes Go.WideShapes Go.ChangeAt Go.RowKit Go.Deep

structure Cp (lo : Nat) (w : World) (iv jv kv : Value) (il : List (List Int)) (jl : List (List Int)) (kl : List (List Int)) : Prop where
  fi : L2 lo w iv il
  fj : L2 lo w jv jl
  fk : L2 lo w kv kl
theorem Cp.below {lo : Nat} {w w' : World} {iv jv kv : Value} {il : List (List Int)} {jl : List (List Int)} {kl : List (List Int)} (h : Cp lo w iv jv kv il jl kl) (hb : Below w.heap.size w w') : Cp lo w' iv jv kv il jl kl := ⟨h.fi.below hb, h.fj.below hb, h.fk.below hb⟩
theorem Cp.lower {lo lo' : Nat} (hl : lo' ≤ lo) {w : World} {iv jv kv : Value} {il : List (List Int)} {jl : List (List Int)} {kl : List (List Int)} (h : Cp lo w iv jv kv il jl kl) : Cp lo' w iv jv kv il jl kl := ⟨h.fi.lower hl, h.fj.lower hl, h.fk.lower hl⟩
theorem Cp.zero {lo : Nat} {w : World} {iv jv kv : Value} {il : List (List Int)} {jl : List (List Int)} {kl : List (List Int)} (h : Cp lo w iv jv kv il jl kl) : Cp 0 w iv jv kv il jl kl := h.lower (Nat.zero_le _)
theorem Cp.drew {lo : Nat} {w : World} {iv jv kv : Value} {il : List (List Int)} {jl : List (List Int)} {kl : List (List Int)} (h : Cp lo w iv jv kv il jl kl) : Cp lo w.drew iv jv kv il jl kl := h.below (Below.refl _ _).drew
theorem Cp.shapes {lo : Nat} {w : World} {iv jv kv : Value} {il : List (List Int)} {jl : List (List Int)} {kl : List (List Int)} (h : Cp lo w iv jv kv il jl kl) : (∃ a c, iv = .slice a il.length c) ∧ (∃ a c, jv = .slice a jl.length c) ∧ (∃ a c, kv = .slice a kl.length c) := ⟨Sl.shape h.fi, Sl.shape h.fj, Sl.shape h.fk⟩
structure CpB (n : Nat) (il : List (List Int)) (jl : List (List Int)) (kl : List (List Int)) : Prop where
  bi : Bd2 n il
  bj : Bd2 n jl
  bk : Bd2 n kl
structure CpW (lo hi : Nat) (w : World) (iv jv kv : Value) (il : List (List Int)) (jl : List (List Int)) (kl : List (List Int)) : Prop where
  fi : W2 lo hi w iv il
  fj : W2 lo hi w jv jl
  fk : W2 lo hi w kv kl
theorem CpW.same {lo hi : Nat} {w w' : World} {iv jv kv : Value} {il : List (List Int)} {jl : List (List Int)} {kl : List (List Int)} (h : CpW lo hi w iv jv kv il jl kl) (s : Same lo hi w w') : CpW lo hi w' iv jv kv il jl kl := ⟨h.fi.same s, h.fj.same s, h.fk.same s⟩
theorem CpW.cx {lo hi : Nat} {w : World} {iv jv kv : Value} {il : List (List Int)} {jl : List (List Int)} {kl : List (List Int)} (h : CpW lo hi w iv jv kv il jl kl) : Cp lo w iv jv kv il jl kl := ⟨h.fi.l2, h.fj.l2, h.fk.l2⟩
/-- The box of one, in whatever later world. -/
structure BxCp (w wr : World) (b : Nat) (p d e : Int) (iv jv kv : Value) (il : List (List Int)) (jl : List (List Int)) (kl : List (List Int)) : Prop where
  below : Below w.heap.size w wr
  c0 : wr.cell? ⟨b, 0, none⟩ = some (.int .i64 p)
  c1 : wr.cell? ⟨b, 1, none⟩ = some (.int .i64 d)
  c2 : wr.cell? ⟨b, 2, none⟩ = some (.int .i64 e)
  c3 : wr.cell? ⟨b, 3, none⟩ = some (iv)
  c4 : wr.cell? ⟨b, 4, none⟩ = some (jv)
  c5 : wr.cell? ⟨b, 5, none⟩ = some (kv)
  lt : b < wr.heap.size
  cx : Cp 0 wr iv jv kv il jl kl
theorem BxCp.next {w wr w' : World} {b : Nat} {p d e : Int} {iv jv kv : Value} {il : List (List Int)} {jl : List (List Int)} {kl : List (List Int)} (h : BxCp w wr b p d e iv jv kv il jl kl) (hb : Below wr.heap.size wr w') : BxCp w w' b p d e iv jv kv il jl kl :=
  ⟨h.below.trans (hb.mono h.below.size), later hb (Nat.le_refl _) h.c0, later hb (Nat.le_refl _) h.c1, later hb (Nat.le_refl _) h.c2, later hb (Nat.le_refl _) h.c3, later hb (Nat.le_refl _) h.c4, later hb (Nat.le_refl _) h.c5, Nat.lt_of_lt_of_le h.lt hb.size, h.cx.below hb⟩
theorem BxCp.start {w : World} {p d e : Int} {iv jv kv : Value} {il : List (List Int)} {jl : List (List Int)} {kl : List (List Int)} (t : TypeId) (h : Cp 0 w iv jv kv il jl kl) : BxCp w (w.alloc (.cells #[.int .i64 p, .int .i64 d, .int .i64 e, iv, jv, kv] t)) w.heap.size p d e iv jv kv il jl kl :=
  ⟨(Below.refl _ _).alloc (Nat.le_refl _) _, by simp, by simp, by simp, by simp, by simp, by simp, by simp, h.below ((Below.refl _ _).alloc (Nat.le_refl _) _)⟩
structure BqCp (wr : World) (b : Nat) (p d e : Int) (iv jv kv : Value) (il : List (List Int)) (jl : List (List Int)) (kl : List (List Int)) : Prop where
  c0 : wr.cell? ⟨b, 0, none⟩ = some (.int .i64 p)
  c1 : wr.cell? ⟨b, 1, none⟩ = some (.int .i64 d)
  c2 : wr.cell? ⟨b, 2, none⟩ = some (.int .i64 e)
  c3 : wr.cell? ⟨b, 3, none⟩ = some (iv)
  c4 : wr.cell? ⟨b, 4, none⟩ = some (jv)
  c5 : wr.cell? ⟨b, 5, none⟩ = some (kv)
  lt : b < wr.heap.size
  cx : Cp 0 wr iv jv kv il jl kl
theorem BxCp.bq {w wr : World} {b : Nat} {p d e : Int} {iv jv kv : Value} {il : List (List Int)} {jl : List (List Int)} {kl : List (List Int)} (h : BxCp w wr b p d e iv jv kv il jl kl) : BqCp wr b p d e iv jv kv il jl kl := ⟨h.c0, h.c1, h.c2, h.c3, h.c4, h.c5, h.lt, h.cx⟩
theorem BqCp.next {wr w' : World} {b : Nat} {p d e : Int} {iv jv kv : Value} {il : List (List Int)} {jl : List (List Int)} {kl : List (List Int)} (h : BqCp wr b p d e iv jv kv il jl kl) (hb : Below wr.heap.size wr w') : BqCp w' b p d e iv jv kv il jl kl :=
  ⟨later hb (Nat.le_refl _) h.c0, later hb (Nat.le_refl _) h.c1, later hb (Nat.le_refl _) h.c2, later hb (Nat.le_refl _) h.c3, later hb (Nat.le_refl _) h.c4, later hb (Nat.le_refl _) h.c5, Nat.lt_of_lt_of_le h.lt hb.size, h.cx.below hb⟩
theorem BqCp.only {wr w' : World} {b lo hi : Nat} {p d e : Int} {iv jv kv : Value} {il : List (List Int)} {jl : List (List Int)} {kl : List (List Int)} (h : BqCp wr b p d e iv jv kv il jl kl) (ho : Only lo hi wr w') (hc : Cp 0 w' iv jv kv il jl kl) (hb : b < lo ∨ hi ≤ b) : BqCp w' b p d e iv jv kv il jl kl :=
  ⟨(ho.cell hb).trans h.c0, (ho.cell hb).trans h.c1, (ho.cell hb).trans h.c2, (ho.cell hb).trans h.c3, (ho.cell hb).trans h.c4, (ho.cell hb).trans h.c5, by have := ho.size; have := h.lt; omega, hc⟩
set_option maxHeartbeats 800000 in
theorem szCouple_any (p d e : Int) (iv jv kv : Value) (il : List (List Int)) (jl : List (List Int)) (kl : List (List Int)) (left : Int) (w : World) (h : Cp 0 w iv jv kv il jl kl) (h0 : 0 ≤ left) (h1 : left ≤ 1048576) (hml : CpB 9223372036854775807 il jl kl) :
    Calls Tryd.prog 6 #[.agg #[.int .i64 p, .int .i64 d, .int .i64 e, iv, jv, kv], .int .i64 left] w (SzB left (CpB 1048576 il jl kl) w) := by
  have H := Lib.hid h
  have HML := Lib.hid hml
  have HB : Hid (Below w.heap.size w (w.alloc (.cells #[.int .i64 p, .int .i64 d, .int .i64 e, iv, jv, kv] 24))) := Lib.hid ((Below.refl _ _).alloc (Nat.le_refl _) _)
  clear h hml
  go_enter Tryd.func6, Tryd.ntmps6
  go_wp2_with fail
  refine (sz2_any (lo := 0) iv il left _ (H.out.fi.below HB.out) h0 (by omega) HML.out.bi).mono ?_
  rintro ee w' ⟨r0, rfl, rfl, hpost⟩
  rcases hpost with rfl | ⟨hp0, hq0, hbb⟩
  · go_wp2
    go_ret
    exact ⟨_, rfl, HB.out, Or.inl rfl⟩
  have HBB0 := Lib.hid hbb
  clear hbb
  go_wp2_with fail
  refine (sz2_any (lo := 0) jv jl r0 _ (H.out.fj.below HB.out) hp0 (by omega) HML.out.bj).mono ?_
  rintro ee w' ⟨r1, rfl, rfl, hpost⟩
  rcases hpost with rfl | ⟨hp1, hq1, hbb⟩
  · go_wp2
    go_ret
    exact ⟨_, rfl, HB.out, Or.inl rfl⟩
  have HBB1 := Lib.hid hbb
  clear hbb
  go_wp2_with fail
  refine (sz2_any (lo := 0) kv kl r1 _ (H.out.fk.below HB.out) hp1 (by omega) HML.out.bk).mono ?_
  rintro ee w' ⟨r2, rfl, rfl, hpost⟩
  rcases hpost with rfl | ⟨hp2, hq2, hbb⟩
  · go_wp2
    go_ret
    exact ⟨_, rfl, HB.out, Or.inl rfl⟩
  have HBB2 := Lib.hid hbb
  clear hbb
  go_wp2
  go_ret
  exact ⟨_, rfl, HB.out, Or.inr ⟨hp2, by omega, ⟨HBB0.out, HBB1.out, HBB2.out⟩⟩⟩
def ToCp (p d e : Int) (il : List (List Int)) (jl : List (List Int)) (kl : List (List Int)) (w : World) (e' : Ending) (w' : World) : Prop := ∃ iv jv kv, e' = .returned (.agg #[.int .i64 p, .int .i64 d, .int .i64 e, iv, jv, kv]) ∧ Cp w.heap.size w' iv jv kv il jl kl ∧ Below w.heap.size w w'

set_option maxHeartbeats 1600000 in
theorem toCouple_any (p d e : Int) (iv jv kv : Value) (il : List (List Int)) (jl : List (List Int)) (kl : List (List Int)) (w : World) (h : Cp 0 w iv jv kv il jl kl) (hm : CpB 1048576 il jl kl) :
    Calls Tryd.prog 8 #[.agg #[.int .i64 p, .int .i64 d, .int .i64 e, iv, jv, kv]] w (ToCp p d e il jl kl w) := by
  have H := Lib.hid h
  have HM := Lib.hid hm
  clear h hm
  have hres : Tryd.f8.results = #[.cell 2 26] := by kernel_rfl
  have HRES := Lib.hid hres
  clear hres
  have HB0 : Hid (Below w.heap.size w (((w.alloc (.cells #[.int .i64 p, .int .i64 d, .int .i64 e, iv, jv, kv] 24)).alloc (.cells #[.int .i64 0, .int .i64 0, .int .i64 0, .slice none 0 0, .slice none 0 0, .slice none 0 0] 26)).alloc (.cells #[.int .i64 p, .int .i64 d, .int .i64 e, .slice none 0 0, .slice none 0 0, .slice none 0 0] 26))) := Lib.hid ((((Below.refl _ _).alloc (Nat.le_refl _) _).alloc (by simp) _).alloc (by simp; omega) _)
  have hz0 : w.heap.size + 3 = (((w.alloc (.cells #[.int .i64 p, .int .i64 d, .int .i64 e, iv, jv, kv] 24)).alloc (.cells #[.int .i64 0, .int .i64 0, .int .i64 0, .slice none 0 0, .slice none 0 0, .slice none 0 0] 26)).alloc (.cells #[.int .i64 p, .int .i64 d, .int .i64 e, .slice none 0 0, .slice none 0 0, .slice none 0 0] 26)).heap.size := by simp
  have HZ0 := Lib.hid hz0
  clear hz0
  go_enter Tryd.func8, Tryd.ntmps8
  go_wp2_with fail
  refine (to2_any iv il _ (H.out.fi.below HB0.out) HM.out.bi).mono ?_
  rintro ee w1 ⟨u0, rfl, hr, hb⟩
  obtain ⟨ai, ci, rfl⟩ := Sl.shape hr
  have hs0 : w.heap.size + 3 ≤ w1.heap.size := by have := hb.size; simp at this; omega
  obtain ⟨hc0, hf0⟩ := bcell hb
  have HB0b := Lib.hid (HB0.out.trans (hb.mono (by first | omega | (simp; omega) | simp)))
  have HRi : Hid (L2 (w.heap.size + 1 + 1 + 1) w1 (.slice ai il.length ci) il) := Lib.hid (hr.lower (by first | omega | (simp; omega) | simp))
  clear hr hb
  have hzx0 : w.heap.size < w1.heap.size := by omega
  have hzz0 : w.heap.size + 1 < w1.heap.size := by omega
  have hzy0 : w.heap.size + 1 + 1 < w1.heap.size := by omega
  have HB0c : Hid (Below w.heap.size w (w1.setCell ⟨w.heap.size + 1 + 1, 3, none⟩ (.slice ai il.length ci))) := Lib.hid (HB0b.out.setCell (by show w.heap.size ≤ w.heap.size + 1 + 1; omega) _)
  have HRi' : Hid (L2 (w.heap.size + 1 + 1 + 1) (w1.setCell ⟨w.heap.size + 1 + 1, 3, none⟩ (.slice ai il.length ci)) (.slice ai il.length ci) il) := Lib.hid (stable2 _ _ _ _ _ (Keep.set _ (Nat.lt_succ_self _)) HRi.out)
  clear HRi
  have HRi := HRi'
  clear HRi'
  go_wp2_with fail
  refine (to2_any jv jl _ (H.out.fj.below HB0c.out) HM.out.bj).mono ?_
  rintro ee w2 ⟨u1, rfl, hr, hb⟩
  obtain ⟨aj, cj, rfl⟩ := Sl.shape hr
  have hs1 : w1.heap.size ≤ w2.heap.size := by have := hb.size; simpa using this
  obtain ⟨hc1, hf1⟩ := bcell hb
  have HB1b := Lib.hid (HB0c.out.trans (hb.mono (by first | omega | (simp; omega) | simp)))
  have HRi' := Lib.hid (HRi.out.below hb)
  clear HRi
  have HRi := HRi'
  clear HRi'
  have HRj : Hid (L2 (w.heap.size + 1 + 1 + 1) w2 (.slice aj jl.length cj) jl) := Lib.hid (hr.lower (by first | omega | (simp; omega) | simp))
  clear hr hb
  have hzx1 : w.heap.size < w2.heap.size := by omega
  have hzz1 : w.heap.size + 1 < w2.heap.size := by omega
  have hzy1 : w.heap.size + 1 + 1 < w2.heap.size := by omega
  have HB1c : Hid (Below w.heap.size w (w2.setCell ⟨w.heap.size + 1 + 1, 4, none⟩ (.slice aj jl.length cj))) := Lib.hid (HB1b.out.setCell (by show w.heap.size ≤ w.heap.size + 1 + 1; omega) _)
  have HRi' : Hid (L2 (w.heap.size + 1 + 1 + 1) (w2.setCell ⟨w.heap.size + 1 + 1, 4, none⟩ (.slice aj jl.length cj)) (.slice ai il.length ci) il) := Lib.hid (stable2 _ _ _ _ _ (Keep.set _ (Nat.lt_succ_self _)) HRi.out)
  clear HRi
  have HRi := HRi'
  clear HRi'
  have HRj' : Hid (L2 (w.heap.size + 1 + 1 + 1) (w2.setCell ⟨w.heap.size + 1 + 1, 4, none⟩ (.slice aj jl.length cj)) (.slice aj jl.length cj) jl) := Lib.hid (stable2 _ _ _ _ _ (Keep.set _ (Nat.lt_succ_self _)) HRj.out)
  clear HRj
  have HRj := HRj'
  clear HRj'
  go_wp2_with fail
  refine (to2_any kv kl _ (H.out.fk.below HB1c.out) HM.out.bk).mono ?_
  rintro ee w3 ⟨u2, rfl, hr, hb⟩
  obtain ⟨ak, ck, rfl⟩ := Sl.shape hr
  have hs2 : w2.heap.size ≤ w3.heap.size := by have := hb.size; simpa using this
  obtain ⟨hc2, hf2⟩ := bcell hb
  have HB2b := Lib.hid (HB1c.out.trans (hb.mono (by first | omega | (simp; omega) | simp)))
  have HRi' := Lib.hid (HRi.out.below hb)
  have HRj' := Lib.hid (HRj.out.below hb)
  clear HRi
  have HRi := HRi'
  clear HRi'
  clear HRj
  have HRj := HRj'
  clear HRj'
  have HRk : Hid (L2 (w.heap.size + 1 + 1 + 1) w3 (.slice ak kl.length ck) kl) := Lib.hid (hr.lower (by first | omega | (simp; omega) | simp))
  clear hr hb
  have hzx2 : w.heap.size < w3.heap.size := by omega
  have hzz2 : w.heap.size + 1 < w3.heap.size := by omega
  have hzy2 : w.heap.size + 1 + 1 < w3.heap.size := by omega
  go_wp2
  refine bodyPost_ret (v := .agg #[.int .i64 p, .int .i64 d, .int .i64 e, .slice ai il.length ci, .slice aj jl.length cj, .slice ak kl.length ck]) ?_ rfl ?_
  · simp only [results, HRES.out]
    go_simp
  · have hk : Keep (w.heap.size + 1 + 1 + 1) w3 (((((((w3.setCell ⟨w.heap.size + 1 + 1, 5, none⟩ (.slice ak kl.length ck)).setCell ⟨w.heap.size + 1, 0, none⟩ (.int .i64 p)).setCell ⟨w.heap.size + 1, 1, none⟩ (.int .i64 d)).setCell ⟨w.heap.size + 1, 2, none⟩ (.int .i64 e)).setCell ⟨w.heap.size + 1, 3, none⟩ (.slice ai il.length ci)).setCell ⟨w.heap.size + 1, 4, none⟩ (.slice aj jl.length cj)).setCell ⟨w.heap.size + 1, 5, none⟩ (.slice ak kl.length ck)) := (((((((Keep.set _ (by omega)).trans (Keep.set _ (by omega))).trans (Keep.set _ (by omega))).trans (Keep.set _ (by omega))).trans (Keep.set _ (by omega))).trans (Keep.set _ (by omega))).trans (Keep.set _ (by omega)))
    refine ⟨_, _, _, rfl, ⟨?_, ?_, ?_⟩, ?_⟩
    · exact (stable2 _ _ _ _ _ hk HRi.out).lower (by omega)
    · exact (stable2 _ _ _ _ _ hk HRj.out).lower (by omega)
    · exact (stable2 _ _ _ _ _ hk HRk.out).lower (by omega)
    · exact (((((((HB2b.out.setCell (by show w.heap.size ≤ w.heap.size + 1 + 1; omega) _).setCell (by show w.heap.size ≤ w.heap.size + 1; omega) _).setCell (by show w.heap.size ≤ w.heap.size + 1; omega) _).setCell (by show w.heap.size ≤ w.heap.size + 1; omega) _).setCell (by show w.heap.size ≤ w.heap.size + 1; omega) _).setCell (by show w.heap.size ≤ w.heap.size + 1; omega) _).setCell (by show w.heap.size ≤ w.heap.size + 1; omega) _)
def ToCpW (p d e : Int) (il : List (List Int)) (jl : List (List Int)) (kl : List (List Int)) (w : World) (e' : Ending) (w' : World) : Prop := ∃ iv jv kv, e' = .returned (.agg #[.int .i64 p, .int .i64 d, .int .i64 e, iv, jv, kv]) ∧ CpW w.heap.size w'.heap.size w' iv jv kv il jl kl ∧ Below w.heap.size w w'

set_option maxHeartbeats 1600000 in
theorem toCouplew_any (p d e : Int) (iv jv kv : Value) (il : List (List Int)) (jl : List (List Int)) (kl : List (List Int)) (w : World) (h : Cp 0 w iv jv kv il jl kl) (hm : CpB 1048576 il jl kl) :
    Calls Tryd.prog 8 #[.agg #[.int .i64 p, .int .i64 d, .int .i64 e, iv, jv, kv]] w (ToCpW p d e il jl kl w) := by
  have H := Lib.hid h
  have HM := Lib.hid hm
  clear h hm
  have hres : Tryd.f8.results = #[.cell 2 26] := by kernel_rfl
  have HRES := Lib.hid hres
  clear hres
  have HB0 : Hid (Below w.heap.size w (((w.alloc (.cells #[.int .i64 p, .int .i64 d, .int .i64 e, iv, jv, kv] 24)).alloc (.cells #[.int .i64 0, .int .i64 0, .int .i64 0, .slice none 0 0, .slice none 0 0, .slice none 0 0] 26)).alloc (.cells #[.int .i64 p, .int .i64 d, .int .i64 e, .slice none 0 0, .slice none 0 0, .slice none 0 0] 26))) := Lib.hid ((((Below.refl _ _).alloc (Nat.le_refl _) _).alloc (by simp) _).alloc (by simp; omega) _)
  have hz0 : w.heap.size + 3 = (((w.alloc (.cells #[.int .i64 p, .int .i64 d, .int .i64 e, iv, jv, kv] 24)).alloc (.cells #[.int .i64 0, .int .i64 0, .int .i64 0, .slice none 0 0, .slice none 0 0, .slice none 0 0] 26)).alloc (.cells #[.int .i64 p, .int .i64 d, .int .i64 e, .slice none 0 0, .slice none 0 0, .slice none 0 0] 26)).heap.size := by simp
  have HZ0 := Lib.hid hz0
  clear hz0
  go_enter Tryd.func8, Tryd.ntmps8
  go_wp2_with fail
  refine (to2w_any iv il _ (H.out.fi.below HB0.out) HM.out.bi).mono ?_
  rintro ee w1 ⟨u0, rfl, hr, hb⟩
  obtain ⟨ai, ci, rfl⟩ := Sw.shape hr
  have hs0 : w.heap.size + 3 ≤ w1.heap.size := by have := hb.size; simp at this; omega
  obtain ⟨hc0, hf0⟩ := bcell hb
  have HB0b := Lib.hid (HB0.out.trans (hb.mono (by first | omega | (simp; omega) | simp)))
  have HRi : Hid (W2 (w.heap.size + 1 + 1 + 1) (w1.heap.size) w1 (.slice ai il.length ci) il) := Lib.hid (hr.wider (by first | omega | (simp; omega) | simp) (Nat.le_refl _))
  clear hr hb
  have hzx0 : w.heap.size < w1.heap.size := by omega
  have hzz0 : w.heap.size + 1 < w1.heap.size := by omega
  have hzy0 : w.heap.size + 1 + 1 < w1.heap.size := by omega
  have HB0c : Hid (Below w.heap.size w (w1.setCell ⟨w.heap.size + 1 + 1, 3, none⟩ (.slice ai il.length ci))) := Lib.hid (HB0b.out.setCell (by show w.heap.size ≤ w.heap.size + 1 + 1; omega) _)
  have HRi' : Hid (W2 (w.heap.size + 1 + 1 + 1) (w1.heap.size) (w1.setCell ⟨w.heap.size + 1 + 1, 3, none⟩ (.slice ai il.length ci)) (.slice ai il.length ci) il) := Lib.hid (HRi.out.same (Same.set _ (Or.inl (Nat.lt_succ_self _))))
  clear HRi
  have HRi := HRi'
  clear HRi'
  go_wp2_with fail
  refine (to2w_any jv jl _ (H.out.fj.below HB0c.out) HM.out.bj).mono ?_
  rintro ee w2 ⟨u1, rfl, hr, hb⟩
  obtain ⟨aj, cj, rfl⟩ := Sw.shape hr
  have hs1 : w1.heap.size ≤ w2.heap.size := by have := hb.size; simpa using this
  obtain ⟨hc1, hf1⟩ := bcell hb
  have HB1b := Lib.hid (HB0c.out.trans (hb.mono (by first | omega | (simp; omega) | simp)))
  have HRi' := Lib.hid (HRi.out.same (Same.of_below hb (by simp)))
  clear HRi
  have HRi := HRi'
  clear HRi'
  have HRj : Hid (W2 (w.heap.size + 1 + 1 + 1) (w2.heap.size) w2 (.slice aj jl.length cj) jl) := Lib.hid (hr.wider (by first | omega | (simp; omega) | simp) (Nat.le_refl _))
  clear hr hb
  have hzx1 : w.heap.size < w2.heap.size := by omega
  have hzz1 : w.heap.size + 1 < w2.heap.size := by omega
  have hzy1 : w.heap.size + 1 + 1 < w2.heap.size := by omega
  have HRi' : Hid (W2 (w.heap.size + 1 + 1 + 1) (w2.heap.size) w2 (.slice ai il.length ci) il) := Lib.hid (HRi.out.wider (Nat.le_refl _) (by omega))
  clear HRi
  have HRi := HRi'
  clear HRi'
  have HB1c : Hid (Below w.heap.size w (w2.setCell ⟨w.heap.size + 1 + 1, 4, none⟩ (.slice aj jl.length cj))) := Lib.hid (HB1b.out.setCell (by show w.heap.size ≤ w.heap.size + 1 + 1; omega) _)
  have HRi' : Hid (W2 (w.heap.size + 1 + 1 + 1) (w2.heap.size) (w2.setCell ⟨w.heap.size + 1 + 1, 4, none⟩ (.slice aj jl.length cj)) (.slice ai il.length ci) il) := Lib.hid (HRi.out.same (Same.set _ (Or.inl (Nat.lt_succ_self _))))
  clear HRi
  have HRi := HRi'
  clear HRi'
  have HRj' : Hid (W2 (w.heap.size + 1 + 1 + 1) (w2.heap.size) (w2.setCell ⟨w.heap.size + 1 + 1, 4, none⟩ (.slice aj jl.length cj)) (.slice aj jl.length cj) jl) := Lib.hid (HRj.out.same (Same.set _ (Or.inl (Nat.lt_succ_self _))))
  clear HRj
  have HRj := HRj'
  clear HRj'
  go_wp2_with fail
  refine (to2w_any kv kl _ (H.out.fk.below HB1c.out) HM.out.bk).mono ?_
  rintro ee w3 ⟨u2, rfl, hr, hb⟩
  obtain ⟨ak, ck, rfl⟩ := Sw.shape hr
  have hs2 : w2.heap.size ≤ w3.heap.size := by have := hb.size; simpa using this
  obtain ⟨hc2, hf2⟩ := bcell hb
  have HB2b := Lib.hid (HB1c.out.trans (hb.mono (by first | omega | (simp; omega) | simp)))
  have HRi' := Lib.hid (HRi.out.same (Same.of_below hb (by simp)))
  have HRj' := Lib.hid (HRj.out.same (Same.of_below hb (by simp)))
  clear HRi
  have HRi := HRi'
  clear HRi'
  clear HRj
  have HRj := HRj'
  clear HRj'
  have HRk : Hid (W2 (w.heap.size + 1 + 1 + 1) (w3.heap.size) w3 (.slice ak kl.length ck) kl) := Lib.hid (hr.wider (by first | omega | (simp; omega) | simp) (Nat.le_refl _))
  clear hr hb
  have hzx2 : w.heap.size < w3.heap.size := by omega
  have hzz2 : w.heap.size + 1 < w3.heap.size := by omega
  have hzy2 : w.heap.size + 1 + 1 < w3.heap.size := by omega
  have HRi' : Hid (W2 (w.heap.size + 1 + 1 + 1) (w3.heap.size) w3 (.slice ai il.length ci) il) := Lib.hid (HRi.out.wider (Nat.le_refl _) (by omega))
  clear HRi
  have HRi := HRi'
  clear HRi'
  have HRj' : Hid (W2 (w.heap.size + 1 + 1 + 1) (w3.heap.size) w3 (.slice aj jl.length cj) jl) := Lib.hid (HRj.out.wider (Nat.le_refl _) (by omega))
  clear HRj
  have HRj := HRj'
  clear HRj'
  go_wp2
  refine bodyPost_ret (v := .agg #[.int .i64 p, .int .i64 d, .int .i64 e, .slice ai il.length ci, .slice aj jl.length cj, .slice ak kl.length ck]) ?_ rfl ?_
  · simp only [results, HRES.out]
    go_simp
  · have hk : ∀ hi, Same (w.heap.size + 1 + 1 + 1) hi w3 (((((((w3.setCell ⟨w.heap.size + 1 + 1, 5, none⟩ (.slice ak kl.length ck)).setCell ⟨w.heap.size + 1, 0, none⟩ (.int .i64 p)).setCell ⟨w.heap.size + 1, 1, none⟩ (.int .i64 d)).setCell ⟨w.heap.size + 1, 2, none⟩ (.int .i64 e)).setCell ⟨w.heap.size + 1, 3, none⟩ (.slice ai il.length ci)).setCell ⟨w.heap.size + 1, 4, none⟩ (.slice aj jl.length cj)).setCell ⟨w.heap.size + 1, 5, none⟩ (.slice ak kl.length ck)) := fun hi => (((((((Same.set _ (Or.inl (by omega))).trans (Same.set _ (Or.inl (by omega)))).trans (Same.set _ (Or.inl (by omega)))).trans (Same.set _ (Or.inl (by omega)))).trans (Same.set _ (Or.inl (by omega)))).trans (Same.set _ (Or.inl (by omega)))).trans (Same.set _ (Or.inl (by omega))))
    refine ⟨_, _, _, rfl, ⟨?_, ?_, ?_⟩, ?_⟩
    · exact (HRi.out.same (hk _)).wider (by omega) (by simp)
    · exact (HRj.out.same (hk _)).wider (by omega) (by simp)
    · exact (HRk.out.same (hk _)).wider (by omega) (by simp)
    · exact (((((((HB2b.out.setCell (by show w.heap.size ≤ w.heap.size + 1 + 1; omega) _).setCell (by show w.heap.size ≤ w.heap.size + 1; omega) _).setCell (by show w.heap.size ≤ w.heap.size + 1; omega) _).setCell (by show w.heap.size ≤ w.heap.size + 1; omega) _).setCell (by show w.heap.size ≤ w.heap.size + 1; omega) _).setCell (by show w.heap.size ≤ w.heap.size + 1; omega) _).setCell (by show w.heap.size ≤ w.heap.size + 1; omega) _)

set_option maxHeartbeats 1600000 in
theorem eqCouple_true (p d e : Int) (iv jv kv : Value) (iv2 jv2 kv2 : Value) (il : List (List Int)) (jl : List (List Int)) (kl : List (List Int)) (w : World) (h : Cp 0 w iv jv kv il jl kl) (h2 : Cp 0 w iv2 jv2 kv2 il jl kl) (hm : CpB 1048576 il jl kl) :
    Calls Tryd.prog 10 #[.agg #[.int .i64 p, .int .i64 d, .int .i64 e, iv, jv, kv], .agg #[.int .i64 p, .int .i64 d, .int .i64 e, iv2, jv2, kv2]] w (BR (.bool true) w) := by
  have HM := Lib.hid hm
  have HB0 : Hid (Below w.heap.size w ((w.alloc (.cells #[.int .i64 p, .int .i64 d, .int .i64 e, iv, jv, kv] 26)).alloc (.cells #[.int .i64 p, .int .i64 d, .int .i64 e, iv2, jv2, kv2] 26))) := Lib.hid (((Below.refl _ _).alloc (Nat.le_refl _) _).alloc (by simp) _)
  have H := Lib.hid (h.below HB0.out)
  have H2 := Lib.hid (h2.below HB0.out)
  clear hm h h2
  go_enter Tryd.func10, Tryd.ntmps10
  go_wp2_with fail
  have h1 := eq2_any iv iv2 il il _ H.out.fi H2.out.fi HM.out.bi HM.out.bi
  rw [decide_eq_true rfl] at h1
  refine h1.mono ?_
  clear h1
  rintro ee w' ⟨rfl, m0, rfl⟩
  go_wp2_with fail
  have h1 := eq2_any jv jv2 jl jl _ (H.out.fj.below (drewN_below _ (m0))) (H2.out.fj.below (drewN_below _ (m0))) HM.out.bj HM.out.bj
  rw [decide_eq_true rfl] at h1
  refine h1.mono ?_
  clear h1
  rintro ee w' ⟨rfl, m1, rfl⟩
  go_wp2_with fail
  have h1 := eq2_any kv kv2 kl kl _ (H.out.fk.below (drewN_below _ (m0 + m1))) (H2.out.fk.below (drewN_below _ (m0 + m1))) HM.out.bk HM.out.bk
  rw [decide_eq_true rfl] at h1
  refine h1.mono ?_
  clear h1
  rintro ee w' ⟨rfl, m2, rfl⟩
  go_wp2
  go_ret
  exact ⟨rfl, HB0.out.trans ((drewN_below _ (m0 + m1 + m2)).mono HB0.out.size)⟩
structure CpT (lo hi : Nat) (w : World) (iv jv kv : Value) (il : List (List Int)) (jl : List (List Int)) (kl : List (List Int)) : Prop where
  fi : T2 lo hi w iv il
  fj : T2 lo hi w jv jl
  fk : T2 lo hi w kv kl
theorem CpW.t {lo hi : Nat} {w : World} {iv jv kv : Value} {il : List (List Int)} {jl : List (List Int)} {kl : List (List Int)} (h : CpW lo hi w iv jv kv il jl kl) : CpT lo hi w iv jv kv il jl kl := ⟨h.fi.t2, h.fj.t2, h.fk.t2⟩

set_option maxHeartbeats 1600000 in
theorem markCoupleK_any {lo hi : Nat} (kk : Int) (p d e : Int) (iv jv kv : Value) (il : List (List Int)) (jl : List (List Int)) (kl : List (List Int)) (w : World) (h : CpW lo hi w iv jv kv il jl kl) (hh : hi ≤ w.heap.size) (hm : CpB 1048576 il jl kl) (hk0 : 0 ≤ kk) (hk1 : kk ≤ 4611686018427387904) :
    Calls Tryd.prog 11 #[.agg #[.int .i64 p, .int .i64 d, .int .i64 e, iv, jv, kv], .int .i64 kk] w (MarkC lo hi kk w) := by
  have HM := Lib.hid hm
  have hb0 : Below w.heap.size w (w.alloc (.cells #[.int .i64 p, .int .i64 d, .int .i64 e, iv, jv, kv] 26)) := (Below.refl _ _).alloc (Nat.le_refl _) _
  have HC := Lib.hid (h.same (Same.of_below hb0 hh)).t
  have HB0 := Lib.hid hb0
  have hmli : il.length ≤ 1048576 := hm.bi.1
  have hmlj : jl.length ≤ 1048576 := hm.bj.1
  have hmlk : kl.length ≤ 1048576 := hm.bk.1
  clear h hm hb0
  go_enter Tryd.func11, Tryd.ntmps11
  go_wp2_with fail
  refine (mark2_any iv il kk _ HC.out.fi HM.out.bi (by omega) (by omega)).mono ?_
  rintro ee w1 ⟨r0, rfl, hs00, hs01, ho, ht⟩
  have c04 : w1.cell? ⟨w.heap.size, 4, none⟩ = some jv := (ho.cell (Or.inr hh)).trans (by simp)
  have c05 : w1.cell? ⟨w.heap.size, 5, none⟩ = some kv := (ho.cell (Or.inr hh)).trans (by simp)
  have HO0 := Lib.hid (And.intro ho ht)
  clear ho ht
  go_wp2_with fail
  refine (mark2_any jv jl r0 _ (HC.out.fj.tame HO0.out.2) HM.out.bj (by omega) (by omega)).mono ?_
  rintro ee w2 ⟨r1, rfl, hs10, hs11, ho, ht⟩
  have c15 : w2.cell? ⟨w.heap.size, 5, none⟩ = some kv := (ho.cell (Or.inr hh)).trans c05
  clear c04 c05
  have HO1 := Lib.hid (And.intro (HO0.out.1.trans ho) (HO0.out.2.trans ht))
  clear ho ht
  go_wp2_with fail
  refine (mark2_any kv kl r1 _ (HC.out.fk.tame HO1.out.2) HM.out.bk (by omega) (by omega)).mono ?_
  rintro ee w3 ⟨r2, rfl, hs20, hs21, ho, ht⟩
  clear c15
  have HO2 := Lib.hid (And.intro (HO1.out.1.trans ho) (HO1.out.2.trans ht))
  clear ho ht
  go_wp2
  go_ret
  exact ⟨r2, _, rfl, by omega, by omega, HB0.out, HO2.out.1, HO2.out.2⟩
theorem array6x {α : Type} {cs : Array α} (h : cs.size = 6) : ∃ c0 c1 c2 c3 c4 c5, cs = #[c0, c1, c2, c3, c4, c5] := by
  obtain ⟨l⟩ := cs
  match l, h with
  | [c0, c1, c2, c3, c4, c5], _ => exact ⟨c0, c1, c2, c3, c4, c5, rfl⟩
theorem Tryd.cellsCp : Tryd.prog.cellsOf 24 = 6 := by kernel_rfl
section
variable {H : Type} {enc : TypeId × Value → H} {P : Program} {w : World} {base : Nat} {held : Bool} {spare : Nat → Bool}
theorem trod_struct6x {t : TypeId} {f0 f1 f2 f3 f4 f5 : Field} {fuel : Nat} {cs : List Value} {x : DataW H × List MemPlace} (ht : P.underlying t = some (.struct #[f0, f1, f2, f3, f4, f5])) (h : DataW.trod enc P w base (fun _ => true) held fuel t cs = some x) :
    ∃ y0 y1 y2 y3 y4 y5 m, DataW.trod enc P w base (fun _ => true) held m f0.type ((cs.drop f0.offset).take (P.cellsOf f0.type)) = some y0 ∧ DataW.trod enc P w base (fun _ => true) held m f1.type ((cs.drop f1.offset).take (P.cellsOf f1.type)) = some y1 ∧ DataW.trod enc P w base (fun _ => true) held m f2.type ((cs.drop f2.offset).take (P.cellsOf f2.type)) = some y2 ∧ DataW.trod enc P w base (fun _ => true) held m f3.type ((cs.drop f3.offset).take (P.cellsOf f3.type)) = some y3 ∧ DataW.trod enc P w base (fun _ => true) held m f4.type ((cs.drop f4.offset).take (P.cellsOf f4.type)) = some y4 ∧ DataW.trod enc P w base (fun _ => true) held m f5.type ((cs.drop f5.offset).take (P.cellsOf f5.type)) = some y5 := by
  obtain ⟨xs, m, _, rfl, hl, hlen, hf⟩ := DataW.trod_struct ht h
  match xs, hlen with
  | [y0, y1, y2, y3, y4, y5], _ => exact ⟨y0, y1, y2, y3, y4, y5, m, by simpa using hf 0 f0 rfl, by simpa using hf 1 f1 rfl, by simpa using hf 2 f2 rfl, by simpa using hf 3 f3 rfl, by simpa using hf 4 f4 rfl, by simpa using hf 5 f5 rfl⟩
set_option maxRecDepth 100000 in
theorem couple_of_trod {r : Reach} {b0 : Nat} {v : Value} {d' : DataW H} {p' : List MemPlace} (hv : Value.okWide Tryd.prog w r b0 24 v) (h : DataW.Trod enc Tryd.prog w base (fun _ => true) held 24 v d' p') :
    ∃ (p d e : Int) (iv jv kv : Value) (il : List (List Int)) (jl : List (List Int)) (kl : List (List Int)), v = .agg #[.int .i64 p, .int .i64 d, .int .i64 e, iv, jv, kv] ∧ Cp 0 w iv jv kv il jl kl ∧ CpB 9223372036854775807 il jl kl := by
  obtain ⟨cs, rfl, hsz⟩ := okWide_struct Tryd.underlying24 hv
  obtain ⟨c0, c1, c2, c3, c4, c5, rfl⟩ := array6x (hsz.trans Tryd.cellsCp)
  obtain ⟨fuel, hf⟩ := h
  obtain ⟨y0, y1, y2, y3, y4, y5, m, h0, h1, h2, h3, h4, h5⟩ := trod_struct6x Tryd.underlying24 hf
  have h0' : DataW.trod enc Tryd.prog w base (fun _ => true) held m 2 [c0] = some y0 := h0
  have h1' : DataW.trod enc Tryd.prog w base (fun _ => true) held m 2 [c1] = some y1 := h1
  have h2' : DataW.trod enc Tryd.prog w base (fun _ => true) held m 2 [c2] = some y2 := h2
  have h3' : DataW.trod enc Tryd.prog w base (fun _ => true) held m 22 [c3] = some y3 := h3
  have h4' : DataW.trod enc Tryd.prog w base (fun _ => true) held m 22 [c4] = some y4 := h4
  have h5' : DataW.trod enc Tryd.prog w base (fun _ => true) held m 22 [c5] = some y5 := h5
  obtain ⟨q0, e0, _, _⟩ := DataW.trod_int Tryd.underlying2 h0'
  obtain rfl : c0 = .int .i64 q0 := by simpa using e0
  obtain ⟨q1, e1, _, _⟩ := DataW.trod_int Tryd.underlying2 h1'
  obtain rfl : c1 = .int .i64 q1 := by simpa using e1
  obtain ⟨q2, e2, _, _⟩ := DataW.trod_int Tryd.underlying2 h2'
  obtain rfl : c2 = .int .i64 q2 := by simpa using e2
  obtain ⟨x3, hx3, hy3⟩ := l2_of_trod h3'
  obtain ⟨x4, hx4, hy4⟩ := l2_of_trod h4'
  obtain ⟨x5, hx5, hy5⟩ := l2_of_trod h5'
  exact ⟨q0, q1, q2, c3, c4, c5, x3, x4, x5, rfl, ⟨hx3, hx4, hx5⟩, ⟨hy3, hy4, hy5⟩⟩
end
end Go.Proofs.YtckkbojankfdfaaDoor


namespace Go.Proofs.YtckkbojankfdfaaDoor
open Go.RowKit
def VrB (P : Bool → Prop) (w : World) (e : Ending) (w' : World) : Prop := ∃ b, e = .returned (.bool b) ∧ Below w.heap.size w w' ∧ P b
end Go.Proofs.YtckkbojankfdfaaDoor


namespace Go.Proofs.YtckkbojankfdfaaDoor
open Go.RowKit

/-- An interval of cells: block, offset, length. -/
abbrev Iv := Nat × Nat × Nat
def ivSize (I : List Iv) : Nat := (I.map (·.2.2)).sum
theorem ivSize_append (A B : List Iv) : ivSize (A ++ B) = ivSize A + ivSize B := by simp [ivSize]
def Apart (x y : Iv) : Prop := x.1 ≠ y.1 ∨ x.2.1 + x.2.2 ≤ y.2.1 ∨ y.2.1 + y.2.2 ≤ x.2.1
def Disj (I : List Iv) : Prop := I.Pairwise Apart
def InIv (I : List Iv) (b o : Nat) : Prop := ∃ x ∈ I, x.1 = b ∧ x.2.1 ≤ o ∧ o < x.2.1 + x.2.2
/-- Numbers stand there that may be written. -/
def Nums (lo hi : Nat) (w : World) (I : List Iv) : Prop := ∀ x ∈ I, lo ≤ x.1 ∧ x.1 < hi ∧ ∀ i, i < x.2.2 → (∃ z : Int, w.cell? ⟨x.1, x.2.1 + i, none⟩ = some (.int .i64 z)) ∧ w.frozen? ⟨x.1, x.2.1 + i, none⟩ = false
/-- Outside of the intervals all cells are as they were. -/
def OutC (I : List Iv) (w w' : World) : Prop := ∀ b o, ¬ InIv I b o → w'.cell? ⟨b, o, none⟩ = w.cell? ⟨b, o, none⟩
/-- The numbers from k on stand there. -/
def Marked (w : World) : List Iv → Int → Prop
  | [], _ => True
  | x :: I, k => (∀ i, i < x.2.2 → w.cell? ⟨x.1, x.2.1 + i, none⟩ = some (.int .i64 (k + (i : Int)))) ∧ Marked w I (k + (x.2.2 : Int))
theorem Nums.tame {lo hi : Nat} {w w' : World} {I : List Iv} (h : Nums lo hi w I) (t : Tame w w') : Nums lo hi w' I := fun x hx => ⟨(h x hx).1, (h x hx).2.1, fun i hi => by
  obtain ⟨⟨z, hz⟩, hf⟩ := (h x hx).2.2 i hi
  exact ⟨t.nums _ _ _ hz, (t.frozen _ _).trans hf⟩⟩
theorem Nums.same {lo hi : Nat} {w w' : World} {I : List Iv} (h : Nums lo hi w I) (s : Same lo hi w w') : Nums lo hi w' I := fun x hx => ⟨(h x hx).1, (h x hx).2.1, fun i hi => by
  obtain ⟨⟨z, hz⟩, hf⟩ := (h x hx).2.2 i hi
  have hb := s x.1 (h x hx).1 (h x hx).2.1
  exact ⟨⟨z, (World.cell?_of_block (w := w) (a := ⟨x.1, x.2.1 + i, none⟩) hb).trans hz⟩, (World.frozen?_of_block (w := w) (a := ⟨x.1, x.2.1 + i, none⟩) hb).trans hf⟩⟩
theorem Nums.sub {lo hi : Nat} {w : World} {I J : List Iv} (h : Nums lo hi w I) (s : ∀ x ∈ J, x ∈ I) : Nums lo hi w J := fun x hx => h x (s x hx)
theorem Nums.append {lo hi : Nat} {w : World} {I J : List Iv} (h : Nums lo hi w I) (k : Nums lo hi w J) : Nums lo hi w (I ++ J) := fun x hx => (List.mem_append.1 hx).elim (h x) (k x)
theorem Nums.wider {lo hi lo' hi' : Nat} {w : World} {I : List Iv} (h : Nums lo hi w I) (h1 : lo' ≤ lo) (h2 : hi ≤ hi') : Nums lo' hi' w I := fun x hx => ⟨by have := (h x hx).1; omega, by have := (h x hx).2.1; omega, (h x hx).2.2⟩
theorem OutC.refl (I : List Iv) (w : World) : OutC I w w := fun _ _ _ => rfl
theorem OutC.trans {A B : List Iv} {a b c : World} (h : OutC A a b) (k : OutC B b c) : OutC (A ++ B) a c := fun x o hn => by
  rw [k x o (fun ⟨y, hy, e⟩ => hn ⟨y, List.mem_append_right _ hy, e⟩), h x o (fun ⟨y, hy, e⟩ => hn ⟨y, List.mem_append_left _ hy, e⟩)]
theorem Marked.append {w : World} {A B : List Iv} {k : Int} (h : Marked w A k) (h2 : Marked w B (k + (ivSize A : Int))) : Marked w (A ++ B) k := by
  induction A generalizing k with
  | nil => simpa [ivSize] using h2
  | cons x A ih =>
    refine ⟨h.1, ih h.2 ?_⟩
    have : k + (x.2.2 : Int) + (ivSize A : Int) = k + (ivSize (x :: A) : Int) := by simp [ivSize]; omega
    rw [this]
    exact h2
theorem Marked.parts {w : World} {A B : List Iv} {k : Int} (h : Marked w (A ++ B) k) : Marked w A k ∧ Marked w B (k + (ivSize A : Int)) := by
  induction A generalizing k with
  | nil => exact ⟨trivial, by simpa [ivSize] using h⟩
  | cons x A ih =>
    obtain ⟨h1, h2⟩ := ih h.2
    refine ⟨⟨h.1, h1⟩, ?_⟩
    have : k + (x.2.2 : Int) + (ivSize A : Int) = k + (ivSize (x :: A) : Int) := by simp [ivSize]; omega
    rw [← this]
    exact h2
theorem Marked.keep {w w' : World} {A B : List Iv} {k : Int} (h : Marked w A k) (o : OutC B w w') (d : ∀ x ∈ A, ∀ y ∈ B, Apart x y) : Marked w' A k := by
  induction A generalizing k with
  | nil => trivial
  | cons x A ih =>
    refine ⟨fun i hi => ?_, ih h.2 (fun y hy => d y (List.mem_cons_of_mem _ hy))⟩
    rw [o x.1 (x.2.1 + i) (fun ⟨y, hy, e1, e2, e3⟩ => by have := d x List.mem_cons_self y hy; unfold Apart at this; omega)]
    exact h.1 i hi
theorem Marked.same {lo hi : Nat} {w w' : World} {I : List Iv} {k : Int} (h : Marked w I k) (hI : ∀ x ∈ I, lo ≤ x.1 ∧ x.1 < hi) (s : Same lo hi w w') : Marked w' I k := by
  induction I generalizing k with
  | nil => trivial
  | cons x A ih =>
    refine ⟨fun i hi => ?_, ih h.2 (fun y hy => hI y (List.mem_cons_of_mem _ hy))⟩
    have hb := s x.1 (hI x List.mem_cons_self).1 (hI x List.mem_cons_self).2
    exact (World.cell?_of_block (w := w) (a := ⟨x.1, x.2.1 + i, none⟩) hb).trans (h.1 i hi)

/-- The slice v is an interval, or empty. -/
def S1 (lo hi : Nat) (_ : World) (v : Value) (I : List Iv) : Prop :=
  (I = [] ∧ ∃ ad cap, v = .slice ad 0 cap) ∨ ∃ b o n cap, I = [(b, o, n)] ∧ 0 < n ∧ n ≤ 1048576 ∧ lo ≤ b ∧ b < hi ∧ v = .slice (some ⟨b, o, none⟩) n cap
def flat (J : Nat → List Iv) (m : Nat) : List Iv := (List.range m).flatMap J
theorem flat_succ (J : Nat → List Iv) (m : Nat) : flat J (m + 1) = flat J m ++ J m := by simp [flat, List.range_succ]
theorem flat_mem {J : Nat → List Iv} {j m : Nat} (h : j < m) : ∀ x ∈ J j, x ∈ flat J m := fun _ hx => List.mem_flatMap.2 ⟨j, List.mem_range.2 h, hx⟩
/-- A slice of such slices. -/
def SS (S : World → Value → List Iv → Prop) (lo hi : Nat) (w : World) (v : Value) (I : List Iv) : Prop :=
  ∃ (ad : Option Addr) (m cap : Nat) (f : Nat → Value) (J : Nat → List Iv), v = .slice ad m cap ∧ m ≤ 1048576 ∧ I = flat J m ∧ (∀ j, j < m → S w (f j) (J j)) ∧ (0 < m → ∃ b o, ad = some ⟨b, o, none⟩ ∧ lo ≤ b ∧ b < hi ∧ ∀ j, j < m → w.cell? ⟨b, o + j, none⟩ = some (f j))
def S2 (lo hi : Nat) := SS (S1 lo hi) lo hi
def S3 (lo hi : Nat) := SS (S2 lo hi) lo hi
theorem S1.shape {lo hi : Nat} {w : World} {v : Value} {I : List Iv} (h : S1 lo hi w v I) : ∃ a n c, v = .slice a n c := by
  rcases h with ⟨_, ad, cap, h⟩ | ⟨b, o, n, cap, _, _, _, _, _, h⟩
  · exact ⟨ad, 0, cap, h⟩
  · exact ⟨_, n, cap, h⟩
theorem SS.shape {S : World → Value → List Iv → Prop} {lo hi : Nat} {w : World} {v : Value} {I : List Iv} (h : SS S lo hi w v I) : ∃ a n c, v = .slice a n c := by
  obtain ⟨ad, m, cap, _, _, h, _⟩ := h
  exact ⟨ad, m, cap, h⟩
theorem SS.keep {S : World → Value → List Iv → Prop} {lo hi : Nat} {w w' : World} {v : Value} {I : List Iv} (h : SS S lo hi w v I) (hS : ∀ v I, S w v I → S w' v I) (hc : ∀ b o v, lo ≤ b → b < hi → (∃ a n c, v = .slice a n c) → w.cell? ⟨b, o, none⟩ = some v → w'.cell? ⟨b, o, none⟩ = some v)
    (hs : ∀ v I, S w v I → ∃ a n c, v = .slice a n c) : SS S lo hi w' v I := by
  obtain ⟨ad, m, cap, f, J, h1, h2, h3, h4, h5⟩ := h
  refine ⟨ad, m, cap, f, J, h1, h2, h3, fun j hj => hS _ _ (h4 j hj), fun hm => ?_⟩
  obtain ⟨b, o, e, hb, hb2, hcl⟩ := h5 hm
  exact ⟨b, o, e, hb, hb2, fun j hj => hc _ _ _ hb hb2 (hs _ _ (h4 j hj)) (hcl j hj)⟩
theorem S1.keep {lo hi : Nat} {w w' : World} {v : Value} {I : List Iv} (h : S1 lo hi w v I) : S1 lo hi w' v I := h
theorem S2.tame {lo hi : Nat} {w w' : World} {v : Value} {I : List Iv} (h : S2 lo hi w v I) (t : Tame w w') : S2 lo hi w' v I :=
  SS.keep h (fun _ _ h => h) (fun b o v _ _ ⟨a, n, c, e⟩ hc => by subst e; exact t.slices _ _ _ _ _ hc) (fun _ _ h => S1.shape h)
theorem S3.tame {lo hi : Nat} {w w' : World} {v : Value} {I : List Iv} (h : S3 lo hi w v I) (t : Tame w w') : S3 lo hi w' v I :=
  SS.keep h (fun _ _ h => S2.tame h t) (fun b o v _ _ ⟨a, n, c, e⟩ hc => by subst e; exact t.slices _ _ _ _ _ hc) (fun _ _ h => SS.shape h)
theorem S2.same {lo hi : Nat} {w w' : World} {v : Value} {I : List Iv} (h : S2 lo hi w v I) (s : Same lo hi w w') : S2 lo hi w' v I :=
  SS.keep h (fun _ _ h => h) (fun b o _ hb hb2 _ hc => (World.cell?_of_block (w := w) (a := ⟨b, o, none⟩) (s b hb hb2)).trans hc) (fun _ _ h => S1.shape h)
theorem S3.same {lo hi : Nat} {w w' : World} {v : Value} {I : List Iv} (h : S3 lo hi w v I) (s : Same lo hi w w') : S3 lo hi w' v I :=
  SS.keep h (fun _ _ h => S2.same h s) (fun b o _ hb hb2 _ hc => (World.cell?_of_block (w := w) (a := ⟨b, o, none⟩) (s b hb hb2)).trans hc) (fun _ _ h => SS.shape h)

def MarkS (lo hi : Nat) (I : List Iv) (k : Int) (w : World) (e : Ending) (w' : World) : Prop := e = .returned (.int .i64 (k + (ivSize I : Int))) ∧ Only lo hi w w' ∧ Tame w w' ∧ OutC I w w' ∧ Marked w' I k

set_option maxHeartbeats 800000 in
theorem mark1s_any {lo hi : Nat} (v : Value) (I : List Iv) (k : Int) (w : World) (h : S1 lo hi w v I) (hn : Nums lo hi w I) (hk0 : 0 ≤ k) (hk1 : k ≤ 4611686018427387904) :
    Calls Tryd.prog 16 #[v, .int .i64 k] w (MarkS lo hi I k w) := by
  rcases h with ⟨rfl, ad, cap, rfl⟩ | ⟨b, o, n, cap, rfl, hpos, hm, hlo, hhi, rfl⟩
  · go_enter Tryd.func16, Tryd.ntmps16
    go_wp2
    refine wp_loop_rounds 1 ?_
    rw [rounds_succ]
    go_wp2
    go_ret
    exact ⟨ret_int (by simp [ivSize]), Only.refl _ _ _, Tame.refl _, OutC.refl _ _, trivial⟩
  · have HN := Lib.hid (hn (b, o, n) (by simp)).2.2
    clear hn
    go_enter Tryd.func16, Tryd.ntmps16
    go_wp2
    go_loopw [1, 5] (fun kk i wr => ∃ (j : Nat), j ≤ n ∧ i = .int .i64 j ∧ kk = .int .i64 (k + (j : Int)) ∧ Hid (Only lo hi w wr ∧ Tame w wr ∧ OutC [(b, o, n)] w wr) ∧ Hid (∀ q, q < n → ∃ x, wr.cell? ⟨b, o + q, none⟩ = some (.int .i64 x) ∧ (q < j → x = k + (q : Int))) ∧ Hid (∀ q, q < n → wr.frozen? ⟨b, o + q, none⟩ = false)) (fun _ i _ => n - (intOf i).toNat)
    case atStart => exact ⟨0, Nat.zero_le _, rfl, by simp, Lib.hid ⟨Only.refl _ _ _, Tame.refl _, OutC.refl _ _⟩, Lib.hid (fun q hq => by
      obtain ⟨⟨x, hx⟩, _⟩ := HN.out q hq
      exact ⟨x, hx, fun h => absurd h (Nat.not_lt_zero _)⟩), Lib.hid (fun q hq => (HN.out q hq).2)⟩
    case round =>
      clear HN
      obtain ⟨j, hj, rfl, rfl, HO, HX, HZ⟩ := hrel
      by_cases hlt : j < n
      · obtain ⟨x, hx, _⟩ := HX.out j hlt
        have hz := HZ.out j hlt
        have HN : Hid (∀ q, q < n → ∃ x, (wr.setCell ⟨b, o + j, none⟩ (.int .i64 (k + (j : Int)))).cell? ⟨b, o + q, none⟩ = some (.int .i64 x) ∧ (q < j + 1 → x = k + (q : Int))) := Lib.hid (fun q hq => by
          obtain ⟨y, hy, hy2⟩ := HX.out q hq
          by_cases e : q = j
          · subst e
            exact ⟨k + (q : Int), World.cell?_setCell_same _ _ _ hy, fun _ => rfl⟩
          · refine ⟨y, ?_, fun h => hy2 (by omega)⟩
            rw [World.cell?_setCell_other _ _ _ _ (fun hh => e (by have h2 := congrArg Addr.off hh; exact (Nat.add_left_cancel h2).symm))]
            exact hy)
        have HZ2 : Hid (∀ q, q < n → (wr.setCell ⟨b, o + j, none⟩ (.int .i64 (k + (j : Int)))).frozen? ⟨b, o + q, none⟩ = false) := Lib.hid (fun q hq => by rw [World.frozen?_setCell]; exact HZ.out q hq)
        have HO2 : Hid (Only lo hi w (wr.setCell ⟨b, o + j, none⟩ (.int .i64 (k + (j : Int)))) ∧ Tame w (wr.setCell ⟨b, o + j, none⟩ (.int .i64 (k + (j : Int)))) ∧ OutC [(b, o, n)] w (wr.setCell ⟨b, o + j, none⟩ (.int .i64 (k + (j : Int))))) := Lib.hid ⟨HO.out.1.trans (Only.set _ hlo hhi), HO.out.2.1.trans (Tame.set hx), fun b2 o2 hn2 => by
          rw [World.cell?_setCell_other _ _ _ _ (fun hh => hn2 (by
            have h1 := congrArg Addr.block hh
            have h2 := congrArg Addr.off hh
            simp only at h1 h2
            exact ⟨(b, o, n), by simp, h1, by show o ≤ o2; omega, by show o2 < o + n; omega⟩))]
          exact HO.out.2.2 b2 o2 hn2⟩
        go_wp2
        go_roundw
        case rel => exact ⟨j + 1, by omega, by go_num, by go_num, HO2, HN, HZ2⟩
        case measure => simp [intOf]; omega
      · have hjj : Hid (j = n) := Lib.hid (by omega)
        go_wp2
        go_ret
        refine ⟨ret_int (by rw [hjj.out]; simp [ivSize]), HO.out.1, HO.out.2.1, HO.out.2.2, fun q hq => ?_, trivial⟩
        obtain ⟨x, hx, hx2⟩ := HX.out q hq
        rw [hx, hx2 (by have := hjj.out; simp only at hq; omega)]

set_option maxHeartbeats 800000 in
theorem held1s_any {lo hi : Nat} (v : Value) (I : List Iv) (k : Int) (w : World) (h : S1 lo hi w v I) (hm : Marked w I k) (hk0 : 0 ≤ k) (hk1 : k ≤ 4611686018427387904) :
    Calls Tryd.prog 17 #[v, .int .i64 k] w (QW (.int .i64 (k + (ivSize I : Int))) w) := by
  rcases h with ⟨rfl, ad, cap, rfl⟩ | ⟨b, o, n, cap, rfl, hpos, hn, hlo, hhi, rfl⟩
  · have := held1_any (lo := 0) (.slice ad 0 cap) 0 k w (Or.inl ⟨rfl, _, _, rfl⟩) (by omega) hk0 hk1
    simpa [ivSize] using this
  · have := held1_any (lo := 0) (.slice (some ⟨b, o, none⟩) n cap) n k w (Or.inr ⟨b, o, cap, by rw [upFrom_length], Nat.zero_le _, by rw [upFrom_length]; exact hpos, fun q hq => by
      rw [upFrom_length] at hq
      refine ⟨_, hm.1 q hq, ?_⟩
      simp only [IsI, upFrom, List.getElem_map, List.getElem_range]⟩) hn hk0 hk1
    simpa [ivSize] using this

end Go.Proofs.YtckkbojankfdfaaDoor


namespace Go.Proofs.YtckkbojankfdfaaDoor
open Go.RowKit

/-- The table at block g: its row of rows there, row j at block g + 1 + j, number i of it Z j i. -/
structure Tb (W : World) (g r c : Nat) (Z : Nat → Nat → Int) : Prop where
  top : W.rowIs g 33 r (fun j => .slice (some ⟨g + 1 + j, 0, none⟩) c c)
  rows : ∀ j, j < r → W.rowIs (g + 1 + j) 2 c (fun i => .int .i64 (Z j i))
  lt : g + 1 + r ≤ W.heap.size
theorem Mat.tb {w w' : World} {r c : Nat} {Z : Nat → Nat → Int} (h : Mat w w' r c Z) : Tb w' w.heap.size r c Z := ⟨h.top, h.rows, by rw [h.size]; omega⟩
theorem Tb.below {W W' : World} {g r c : Nat} {Z : Nat → Nat → Int} (h : Tb W g r c Z) (hb : Below W.heap.size W W') : Tb W' g r c Z :=
  ⟨h.top.of_block (hb.block _ h.top.lt), fun j hj => (h.rows j hj).of_block (hb.block _ (h.rows j hj).lt), Nat.le_trans h.lt hb.size⟩
theorem Tb.out {W : World} {g r c : Nat} {Z : Nat → Nat → Int} (h : Tb W g r c Z) {a : Addr} (ha : a.block < g ∨ g + 1 + r ≤ a.block) (v : Value) : Tb (W.setCell a v) g r c Z :=
  ⟨h.top.setOther (by omega) v, fun j hj => (h.rows j hj).setOther (by omega) v, by simpa using h.lt⟩
theorem Tb.put {W : World} {g r c : Nat} {Z : Nat → Nat → Int} (h : Tb W g r c Z) {j i : Nat} (hj : j < r) (x : Int) :
    Tb (W.setCell ⟨g + 1 + j, i, none⟩ (.int .i64 x)) g r c (fun j2 i2 => if j2 = j ∧ i2 = i then x else Z j2 i2) := by
  refine ⟨h.top.setOther (by show g ≠ g + 1 + j; omega) _, fun j2 hj2 => ?_, by simpa using h.lt⟩
  by_cases e : j2 = j
  · subst e
    exact ((h.rows j2 hj2).set i _).congr (fun i2 _ => by by_cases e2 : i2 = i <;> simp [e2])
  · exact ((h.rows j2 hj2).setOther (by show g + 1 + j2 ≠ g + 1 + j; omega) _).congr (fun i2 _ => by simp [e])
theorem Tb.congr {W : World} {g r c : Nat} {Z Z' : Nat → Nat → Int} (h : Tb W g r c Z) (e : ∀ j, j < r → ∀ i, i < c → Z j i = Z' j i) : Tb W g r c Z' :=
  ⟨h.top, fun j hj => (h.rows j hj).congr (fun i hi => by rw [e j hj i hi]), h.lt⟩
theorem Tb.tab {W : World} {g r c : Nat} {Z : Nat → Nat → Int} (h : Tb W g r c Z) : TabW W g r c Z := by
  refine ⟨fun j hj => h.top.cell hj, fun j hj => ?_⟩
  by_cases hc : c = 0
  · subst hc
    exact Or.inl ⟨rfl, _, _, rfl⟩
  · refine Or.inr ⟨g + 1 + j, 0, c, by rw [rowZ_length], Nat.le_refl _, by omega, by rw [rowZ_length]; omega, fun i hi => ?_, fun i _ => (h.rows j hj).frozen _⟩
    have hi' : i < c := by rwa [rowZ_length] at hi
    refine ⟨_, by rw [Nat.zero_add]; exact (h.rows j hj).cell hi', ?_⟩
    simp only [IsI, rowZ, List.getElem_map, List.getElem_range]
end Go.Proofs.YtckkbojankfdfaaDoor


namespace Go.Proofs.YtckkbojankfdfaaDoor
open Go.RowKit

theorem S1.wider {lo hi lo' hi' : Nat} {W : World} {u : Value} {I : List Iv} (h : S1 lo hi W u I) (h1 : lo' ≤ lo) (h2 : hi ≤ hi') : S1 lo' hi' W u I := by
  rcases h with h | ⟨b, o, n, cap, e, a, b1, c, d, f⟩
  · exact Or.inl h
  · exact Or.inr ⟨b, o, n, cap, e, a, b1, by omega, by omega, f⟩
theorem SS.wider {S S' : World → Value → List Iv → Prop} {lo hi lo' hi' : Nat} {W : World} {u : Value} {I : List Iv} (h : SS S lo hi W u I) (hS : ∀ v I, S W v I → S' W v I) (h1 : lo' ≤ lo) (h2 : hi ≤ hi') : SS S' lo' hi' W u I := by
  obtain ⟨ad, m, cap, f, J, a, b, c, d, e⟩ := h
  refine ⟨ad, m, cap, f, J, a, b, c, fun j hj => hS _ _ (d j hj), fun hm => ?_⟩
  obtain ⟨b, o, x1, x2, x3, x4⟩ := e hm
  exact ⟨b, o, x1, by omega, by omega, x4⟩
theorem S2.wider {lo hi lo' hi' : Nat} {W : World} {u : Value} {I : List Iv} (h : S2 lo hi W u I) (h1 : lo' ≤ lo) (h2 : hi ≤ hi') : S2 lo' hi' W u I := SS.wider h (fun _ _ k => S1.wider k h1 h2) h1 h2
theorem S3.wider {lo hi lo' hi' : Nat} {W : World} {u : Value} {I : List Iv} (h : S3 lo hi W u I) (h1 : lo' ≤ lo) (h2 : hi ≤ hi') : S3 lo' hi' W u I := SS.wider h (fun _ _ k => S2.wider k h1 h2) h1 h2

/-- A result of 1 level(s) in blocks from lo up to hi, its numbers apart from each other. -/
def Rw1 (lo hi : Nat) (W : World) (u : Value) (out : List Int) : Prop := W1 lo hi W u out ∧ ∃ I, S1 lo hi W u I ∧ Nums lo hi W I ∧ Disj I ∧ ivSize I ≤ 1048576
theorem Rw1.same {lo hi : Nat} {W W' : World} {u : Value} {out : List Int} (h : Rw1 lo hi W u out) (s : Same lo hi W W') : Rw1 lo hi W' u out := by
  obtain ⟨h1, I, h2, h3, h4, h5⟩ := h
  exact ⟨h1.same s, I, h2, h3.same s, h4, h5⟩
theorem Rw1.next {lo hi : Nat} {W W' : World} {u : Value} {out : List Int} (h : Rw1 lo hi W u out) (hb : Below W.heap.size W W') (hh : hi ≤ W.heap.size) : Rw1 lo hi W' u out := h.same (Same.of_below hb hh)
theorem Rw1.wider {lo hi lo' hi' : Nat} {W : World} {u : Value} {out : List Int} (h : Rw1 lo hi W u out) (h1 : lo' ≤ lo) (h2 : hi ≤ hi') : Rw1 lo' hi' W u out := by
  obtain ⟨a, I, b, c, d, e⟩ := h
  exact ⟨a.wider h1 h2, I, b.wider h1 h2, c.wider h1 h2, d, e⟩
theorem Rw1.l {lo hi : Nat} {W : World} {u : Value} {out : List Int} (h : Rw1 lo hi W u out) : L1 0 W u out := h.1.l1.lower (Nat.zero_le _)
theorem Rw1.shape {lo hi : Nat} {W : World} {u : Value} {out : List Int} (h : Rw1 lo hi W u out) : ∃ ad cap, u = .slice ad out.length cap := Sw.shape h.1
theorem Rw1.nil (lo hi : Nat) (W : World) : Rw1 lo hi W (.slice none 0 0) [] := ⟨Or.inl ⟨rfl, _, _, rfl⟩, [], Or.inl ⟨rfl, _, _, rfl⟩, fun _ h => absurd h (by simp), List.Pairwise.nil, by simp [ivSize]⟩
/-- The same with the marks from 1 on in it. -/
def Hw1 (lo hi : Nat) (W : World) (u : Value) (m : Int) : Prop := ∃ I, S1 lo hi W u I ∧ Marked W I 1 ∧ (∀ x ∈ I, lo ≤ x.1 ∧ x.1 < hi) ∧ m = 1 + (ivSize I : Int) ∧ ivSize I ≤ 1048576
theorem Hw1.same {lo hi : Nat} {W W' : World} {u : Value} {m : Int} (h : Hw1 lo hi W u m) (s : Same lo hi W W') : Hw1 lo hi W' u m := by
  obtain ⟨I, h2, h3, h4, h5⟩ := h
  exact ⟨I, h2, h3.same h4 s, h4, h5⟩
theorem Hw1.next {lo hi : Nat} {W W' : World} {u : Value} {m : Int} (h : Hw1 lo hi W u m) (hb : Below W.heap.size W W') (hh : hi ≤ W.heap.size) : Hw1 lo hi W' u m := h.same (Same.of_below hb hh)
/-- What the mark of a result leaves. -/
def MkR1 (lo hi : Nat) (u : Value) (w : World) (e : Ending) (w' : World) : Prop := ∃ m : Int, e = .returned (.int .i64 m) ∧ 1 ≤ m ∧ m ≤ 4611686018427387904 ∧ Only lo hi w w' ∧ Hw1 lo hi w' u m
theorem markR1_any {lo hi : Nat} {u : Value} {out : List Int} {w : World} (h : Rw1 lo hi w u out) : Calls Tryd.prog 16 #[u, .int .i64 1] w (MkR1 lo hi u w) := by
  obtain ⟨_, I, h2, h3, h4, h5⟩ := h
  refine (mark1s_any u I 1 w h2 h3 (by omega) (by omega)).mono fun e w' ⟨he, ho, ht, _, hm⟩ => ⟨_, he, by omega, by omega, ho, I, h2, hm, fun x hx => ⟨(h3 x hx).1, (h3 x hx).2.1⟩, rfl, h5⟩
theorem heldR1_any {lo hi : Nat} {u : Value} {m : Int} {w : World} (h : Hw1 lo hi w u m) : Calls Tryd.prog 17 #[u, .int .i64 1] w (QW (.int .i64 m) w) := by
  obtain ⟨I, h2, h3, _, rfl, h5⟩ := h
  exact held1s_any u I 1 w h2 h3 (by omega) (by omega)

/-- A result of 2 level(s) in blocks from lo up to hi, its numbers apart from each other. -/
def Rw2 (lo hi : Nat) (W : World) (u : Value) (out : List (List Int)) : Prop := W2 lo hi W u out ∧ ∃ I, S2 lo hi W u I ∧ Nums lo hi W I ∧ Disj I ∧ ivSize I ≤ 1099511627776
theorem Rw2.same {lo hi : Nat} {W W' : World} {u : Value} {out : List (List Int)} (h : Rw2 lo hi W u out) (s : Same lo hi W W') : Rw2 lo hi W' u out := by
  obtain ⟨h1, I, h2, h3, h4, h5⟩ := h
  exact ⟨h1.same s, I, h2.same s, h3.same s, h4, h5⟩
theorem Rw2.next {lo hi : Nat} {W W' : World} {u : Value} {out : List (List Int)} (h : Rw2 lo hi W u out) (hb : Below W.heap.size W W') (hh : hi ≤ W.heap.size) : Rw2 lo hi W' u out := h.same (Same.of_below hb hh)
theorem Rw2.wider {lo hi lo' hi' : Nat} {W : World} {u : Value} {out : List (List Int)} (h : Rw2 lo hi W u out) (h1 : lo' ≤ lo) (h2 : hi ≤ hi') : Rw2 lo' hi' W u out := by
  obtain ⟨a, I, b, c, d, e⟩ := h
  exact ⟨a.wider h1 h2, I, b.wider h1 h2, c.wider h1 h2, d, e⟩
theorem Rw2.l {lo hi : Nat} {W : World} {u : Value} {out : List (List Int)} (h : Rw2 lo hi W u out) : L2 0 W u out := h.1.l2.lower (Nat.zero_le _)
theorem Rw2.shape {lo hi : Nat} {W : World} {u : Value} {out : List (List Int)} (h : Rw2 lo hi W u out) : ∃ ad cap, u = .slice ad out.length cap := Sw.shape h.1
theorem Rw2.nil (lo hi : Nat) (W : World) : Rw2 lo hi W (.slice none 0 0) [] := ⟨Or.inl ⟨rfl, _, _, rfl⟩, [], ⟨none, 0, 0, fun _ => .slice none 0 0, fun _ => [], rfl, by omega, rfl, fun _ h => absurd h (Nat.not_lt_zero _), fun h => absurd h (Nat.lt_irrefl _)⟩, fun _ h => absurd h (by simp), List.Pairwise.nil, by simp [ivSize]⟩
/-- The same with the marks from 1 on in it. -/
def Hw2 (lo hi : Nat) (W : World) (u : Value) (m : Int) : Prop := ∃ I, S2 lo hi W u I ∧ Marked W I 1 ∧ (∀ x ∈ I, lo ≤ x.1 ∧ x.1 < hi) ∧ m = 1 + (ivSize I : Int) ∧ ivSize I ≤ 1099511627776
theorem Hw2.same {lo hi : Nat} {W W' : World} {u : Value} {m : Int} (h : Hw2 lo hi W u m) (s : Same lo hi W W') : Hw2 lo hi W' u m := by
  obtain ⟨I, h2, h3, h4, h5⟩ := h
  exact ⟨I, h2.same s, h3.same h4 s, h4, h5⟩
theorem Hw2.next {lo hi : Nat} {W W' : World} {u : Value} {m : Int} (h : Hw2 lo hi W u m) (hb : Below W.heap.size W W') (hh : hi ≤ W.heap.size) : Hw2 lo hi W' u m := h.same (Same.of_below hb hh)
/-- A result of 3 level(s) in blocks from lo up to hi, its numbers apart from each other. -/
def Rw3 (lo hi : Nat) (W : World) (u : Value) (out : List (List (List Int))) : Prop := W3 lo hi W u out ∧ ∃ I, S3 lo hi W u I ∧ Nums lo hi W I ∧ Disj I ∧ ivSize I ≤ 1152921504606846976
theorem Rw3.same {lo hi : Nat} {W W' : World} {u : Value} {out : List (List (List Int))} (h : Rw3 lo hi W u out) (s : Same lo hi W W') : Rw3 lo hi W' u out := by
  obtain ⟨h1, I, h2, h3, h4, h5⟩ := h
  exact ⟨h1.same s, I, h2.same s, h3.same s, h4, h5⟩
theorem Rw3.next {lo hi : Nat} {W W' : World} {u : Value} {out : List (List (List Int))} (h : Rw3 lo hi W u out) (hb : Below W.heap.size W W') (hh : hi ≤ W.heap.size) : Rw3 lo hi W' u out := h.same (Same.of_below hb hh)
theorem Rw3.wider {lo hi lo' hi' : Nat} {W : World} {u : Value} {out : List (List (List Int))} (h : Rw3 lo hi W u out) (h1 : lo' ≤ lo) (h2 : hi ≤ hi') : Rw3 lo' hi' W u out := by
  obtain ⟨a, I, b, c, d, e⟩ := h
  exact ⟨a.wider h1 h2, I, b.wider h1 h2, c.wider h1 h2, d, e⟩
theorem Rw3.l {lo hi : Nat} {W : World} {u : Value} {out : List (List (List Int))} (h : Rw3 lo hi W u out) : L3 0 W u out := h.1.l3.lower (Nat.zero_le _)
theorem Rw3.shape {lo hi : Nat} {W : World} {u : Value} {out : List (List (List Int))} (h : Rw3 lo hi W u out) : ∃ ad cap, u = .slice ad out.length cap := Sw.shape h.1
theorem Rw3.nil (lo hi : Nat) (W : World) : Rw3 lo hi W (.slice none 0 0) [] := ⟨Or.inl ⟨rfl, _, _, rfl⟩, [], ⟨none, 0, 0, fun _ => .slice none 0 0, fun _ => [], rfl, by omega, rfl, fun _ h => absurd h (Nat.not_lt_zero _), fun h => absurd h (Nat.lt_irrefl _)⟩, fun _ h => absurd h (by simp), List.Pairwise.nil, by simp [ivSize]⟩
/-- The same with the marks from 1 on in it. -/
def Hw3 (lo hi : Nat) (W : World) (u : Value) (m : Int) : Prop := ∃ I, S3 lo hi W u I ∧ Marked W I 1 ∧ (∀ x ∈ I, lo ≤ x.1 ∧ x.1 < hi) ∧ m = 1 + (ivSize I : Int) ∧ ivSize I ≤ 1152921504606846976
theorem Hw3.same {lo hi : Nat} {W W' : World} {u : Value} {m : Int} (h : Hw3 lo hi W u m) (s : Same lo hi W W') : Hw3 lo hi W' u m := by
  obtain ⟨I, h2, h3, h4, h5⟩ := h
  exact ⟨I, h2.same s, h3.same h4 s, h4, h5⟩
theorem Hw3.next {lo hi : Nat} {W W' : World} {u : Value} {m : Int} (h : Hw3 lo hi W u m) (hb : Below W.heap.size W W') (hh : hi ≤ W.heap.size) : Hw3 lo hi W' u m := h.same (Same.of_below hb hh)
/-- Lists of intervals in spans of blocks one behind the other are apart. -/
theorem disj_spans {J : Nat → List Iv} {b : Nat → Nat} {n : Nat} (hi : ∀ j, j < n → b j ≤ b (j + 1)) (hJ : ∀ j, j < n → ∀ x ∈ J j, b j ≤ x.1 ∧ x.1 < b (j + 1)) (hd : ∀ j, j < n → Disj (J j)) : Disj (flat J n) ∧ ∀ x ∈ flat J n, x.1 < b n := by
  induction n with
  | zero => exact ⟨List.Pairwise.nil, fun x hx => absurd hx (by simp [flat])⟩
  | succ n ih =>
    obtain ⟨h1, h2⟩ := ih (fun j hj => hi j (by omega)) (fun j hj => hJ j (by omega)) (fun j hj => hd j (by omega))
    rw [flat_succ]
    refine ⟨List.pairwise_append.2 ⟨h1, hd n (by omega), fun x hx y hy => Or.inl ?_⟩, fun x hx => ?_⟩
    · have a := h2 x hx
      have c := (hJ n (by omega) y hy).1
      omega
    · rcases List.mem_append.1 hx with h | h
      · have a := h2 x h
        have c := hi n (by omega)
        omega
      · exact (hJ n (by omega) x h).2
theorem size_spans {J : Nat → List Iv} {n B : Nat} (h : ∀ j, j < n → ivSize (J j) ≤ B) : ivSize (flat J n) ≤ B * n := by
  induction n with
  | zero => simp [flat, ivSize]
  | succ n ih =>
    have h1 := ih (fun j hj => h j (by omega))
    have h2 := h n (by omega)
    rw [flat_succ, ivSize_append, Nat.mul_succ]
    omega
theorem nums_flat {lo hi : Nat} {W : World} {J : Nat → List Iv} {n : Nat} (h : ∀ j, j < n → Nums lo hi W (J j)) : Nums lo hi W (flat J n) := fun x hx => by
  obtain ⟨j, hj, hx⟩ := List.mem_flatMap.1 hx
  exact h j (List.mem_range.1 hj) x hx
theorem choose2 {α : Type} [Inhabited α] {P : Nat → α → Prop} {n : Nat} (h : ∀ j, j < n → ∃ a, P j a) : ∃ f : Nat → α, ∀ j, j < n → P j (f j) :=
  ⟨fun j => if hj : j < n then Classical.choose (h j hj) else default, fun j hj => by simp only [dif_pos hj]; exact Classical.choose_spec (h j hj)⟩

/-- A table in blocks of its own. -/
theorem Tb.rw2 {lo : Nat} {W : World} {g r c : Nat} {Z : Nat → Nat → Int} (h : Tb W g r c Z) (hl : lo ≤ g) (hr : r ≤ 1048576) (hc : c ≤ 1048576) : Rw2 lo W.heap.size W (.slice (some ⟨g, 0, none⟩) r r) (tableOf r c Z) := by
  have hlt := h.lt
  refine ⟨?_, ?_⟩
  · by_cases h0 : r = 0
    · subst h0
      exact Or.inl ⟨rfl, _, _, rfl⟩
    · refine Or.inr ⟨g, 0, r, by simp [tableOf], hl, by omega, by simp [tableOf]; omega, fun k hk => ?_, fun k _ => h.top.frozen _⟩
      have hk' : k < r := by simpa [tableOf] using hk
      refine ⟨_, by rw [Nat.zero_add]; exact h.top.cell hk', ?_⟩
      simp only [tableOf, List.getElem_map, List.getElem_range]
      by_cases hc : c = 0
      · subst hc
        exact Or.inl ⟨rfl, _, _, rfl⟩
      · refine Or.inr ⟨g + 1 + k, 0, c, by simp, by omega, by omega, by simp; omega, fun i hi => ?_, fun i _ => (h.rows k hk').frozen _⟩
        have hi' : i < c := by simpa using hi
        refine ⟨_, by rw [Nat.zero_add]; exact (h.rows k hk').cell hi', ?_⟩
        simp only [IsI, List.getElem_map, List.getElem_range]
  · refine ⟨flat (fun j => if c = 0 then [] else [(g + 1 + j, 0, c)]) r, ⟨some ⟨g, 0, none⟩, r, r, fun j => .slice (some ⟨g + 1 + j, 0, none⟩) c c, fun j => if c = 0 then [] else [(g + 1 + j, 0, c)], rfl, hr, rfl, fun j hj => ?_, fun _ => ⟨g, 0, rfl, hl, by omega, fun j hj => by rw [Nat.zero_add]; exact h.top.cell hj⟩⟩, nums_flat (fun j hj => ?_), ?_, ?_⟩
    · by_cases hc0 : c = 0
      · subst hc0
        exact Or.inl ⟨by simp, _, _, rfl⟩
      · exact Or.inr ⟨g + 1 + j, 0, c, c, if_neg hc0, by omega, hc, by omega, by omega, rfl⟩
    · intro x hx
      by_cases hc0 : c = 0
      · rw [if_pos hc0] at hx; simp at hx
      · rw [if_neg hc0] at hx
        obtain rfl : x = (g + 1 + j, 0, c) := by simpa using hx
        exact ⟨by show lo ≤ g + 1 + j; omega, by show g + 1 + j < _; omega, fun i hi => ⟨⟨Z j i, by rw [Nat.zero_add]; exact (h.rows j hj).cell hi⟩, (h.rows j hj).frozen _⟩⟩
    · refine (disj_spans (b := fun j => g + 1 + j) (fun j _ => by omega) (fun j _ x hx => ?_) (fun j _ => ?_)).1
      · by_cases hc0 : c = 0
        · rw [if_pos hc0] at hx; simp at hx
        · rw [if_neg hc0] at hx
          obtain rfl : x = (g + 1 + j, 0, c) := by simpa using hx
          exact ⟨Nat.le_refl _, by show g + 1 + j < g + 1 + (j + 1); omega⟩
      · by_cases hc0 : c = 0
        · rw [if_pos hc0]; exact List.Pairwise.nil
        · rw [if_neg hc0]; exact List.pairwise_singleton _ _
    · have := size_spans (J := fun j => if c = 0 then [] else [(g + 1 + j, 0, c)]) (n := r) (B := c) (fun j _ => by
        by_cases hc0 : c = 0
        · simp [hc0, ivSize]
        · simp [hc0, ivSize])
      have h2 : c * r ≤ 1048576 * 1048576 := Nat.mul_le_mul hc hr
      omega
theorem Mat.rw2 {lo : Nat} {w w' : World} {r c : Nat} {Z : Nat → Nat → Int} (h : Mat w w' r c Z) (hl : lo ≤ w.heap.size) (hr : r ≤ 1048576) (hc : c ≤ 1048576) : Rw2 lo w'.heap.size w' (.slice (some ⟨w.heap.size, 0, none⟩) r r) (tableOf r c Z) := h.tb.rw2 hl hr hc

/-- Tables while they are laid into a row of tables at block g: k of them are there. -/
structure Fill3 (wr : World) (g n k : Nat) (f : Nat → Value) (b : Nat → Nat) (ts : List (List (List Int))) : Prop where
  row : wr.rowIs g 22 n f
  lo : g < b 0
  inc : ∀ j, j < k → b j ≤ b (j + 1)
  hi : b k ≤ wr.heap.size
  at' : ∀ j (h : j < ts.length), j < k → Rw2 (b j) (b (j + 1)) wr (f j) ts[j]
theorem Fill3.start {wr : World} {g n : Nat} {f : Nat → Value} (h : wr.rowIs g 22 n f) (hg : g + 1 ≤ wr.heap.size) (ts : List (List (List Int))) : Fill3 wr g n 0 f (fun _ => g + 1) ts :=
  ⟨h, Nat.lt_succ_self _, fun _ h => absurd h (Nat.not_lt_zero _), hg, fun _ _ h => absurd h (Nat.not_lt_zero _)⟩
theorem Fill3.next {wr w' : World} {g n k : Nat} {f : Nat → Value} {b : Nat → Nat} {ts : List (List (List Int))} (h : Fill3 wr g n k f b ts) (hb : Below wr.heap.size wr w') (hm : ∀ j, j < k → b (j + 1) ≤ b k) : Fill3 w' g n k f b ts :=
  ⟨h.row.of_block (hb.block _ h.row.lt), h.lo, h.inc, Nat.le_trans h.hi hb.size, fun j hj hk => (h.at' j hj hk).next hb (Nat.le_trans (hm j hk) h.hi)⟩
theorem inc_le {b : Nat → Nat} {k : Nat} (h : ∀ j, j < k → b j ≤ b (j + 1)) : ∀ j, j ≤ k → b j ≤ b k := by
  intro j hj
  induction k with
  | zero => rw [show j = 0 by omega]; exact Nat.le_refl _
  | succ k ih =>
    by_cases e : j = k + 1
    · rw [e]; exact Nat.le_refl _
    · exact Nat.le_trans (ih (fun i hi => h i (by omega)) (by omega)) (h k (by omega))
theorem Fill3.below {wr w' : World} {g n k : Nat} {f : Nat → Value} {b : Nat → Nat} {ts : List (List (List Int))} (h : Fill3 wr g n k f b ts) (hb : Below wr.heap.size wr w') : Fill3 w' g n k f b ts := h.next hb (fun j hj => inc_le h.inc (j + 1) hj)
theorem Fill3.out {wr : World} {g n k : Nat} {f : Nat → Value} {b : Nat → Nat} {ts : List (List (List Int))} (h : Fill3 wr g n k f b ts) {a : Addr} (ha : a.block < g) (v : Value) : Fill3 (wr.setCell a v) g n k f b ts :=
  ⟨h.row.setOther (by omega) v, h.lo, h.inc, by simpa using h.hi, fun j hj hk => (h.at' j hj hk).same (fun x hx _ => Below.heap_setCell wr a v x (by have := h.lo; have := inc_le (b := b) (k := j) (fun i hi => h.inc i (by omega)) 0 (Nat.zero_le _); omega))⟩
theorem Fill3.step {wr w1 : World} {g n k : Nat} {f : Nat → Value} {b : Nat → Nat} {ts : List (List (List Int))} {u : Value} (h : Fill3 wr g n k f b ts) (hb : Below wr.heap.size wr w1) (hk : k < ts.length) (hu : Rw2 wr.heap.size w1.heap.size w1 u ts[k]) :
    Fill3 (w1.setCell ⟨g, k, none⟩ u) g n (k + 1) (fun j => if j = k then u else f j) (fun j => if j < k then b j else if j = k then wr.heap.size else w1.heap.size) ts := by
  have hlt := h.row.lt
  have hr : w1.rowIs g 22 n f := h.row.of_block (hb.block _ hlt)
  have hsm : ∀ lo hi, g < lo → Same lo hi w1 (w1.setCell ⟨g, k, none⟩ u) := fun lo hi hl => Same.set u (Or.inl hl)
  refine ⟨hr.set k u, ?_, fun j hj => ?_, ?_, fun j hj hjk => ?_⟩
  · by_cases e : 0 < k
    · simp only [if_pos e]; exact h.lo
    · simp only [if_neg e, if_pos (show 0 = k by omega)]; exact hlt
  · by_cases e : j < k
    · simp only [if_pos e]
      by_cases e2 : j + 1 < k
      · simp only [if_pos e2]; exact h.inc j e
      · simp only [if_neg e2, if_pos (show j + 1 = k by omega)]
        have := inc_le h.inc j (by omega)
        have := h.hi
        omega
    · simp only [if_neg e, if_pos (show j = k by omega), if_neg (show ¬ j + 1 < k by omega), if_neg (show ¬ j + 1 = k by omega)]
      exact hb.size
  · simp only [if_neg (show ¬ k + 1 < k by omega), if_neg (show ¬ k + 1 = k by omega)]
    simp
  · by_cases e : j = k
    · subst e
      simp only [if_neg (show ¬ j < j by omega), if_neg (show ¬ j + 1 < j by omega), if_neg (show ¬ j + 1 = j by omega), if_true]
      exact hu.same (hsm _ _ hlt)
    · have hj' : j < k := by omega
      have hh := inc_le h.inc (j + 1) hj'
      have h0 := inc_le (b := b) (k := j) (fun i hi => h.inc i (by omega)) 0 (Nat.zero_le _)
      have hl0 := h.lo
      have ht := ((h.at' j hj hj').next hb (Nat.le_trans hh h.hi)).same (hsm _ _ (by omega))
      simp only [if_neg e, if_pos hj']
      by_cases e2 : j + 1 < k
      · simp only [if_pos e2]; exact ht
      · simp only [if_neg e2, if_pos (show j + 1 = k by omega)]
        exact ht.wider (Nat.le_refl _) (Nat.le_trans hh h.hi)
/-- What a function answers beside a code. -/
structure RsOut {α : Type} (P : α → Prop) (z : α) (c0 : Int) (out : α) (c : Int) : Prop where
  good : c0 = 0 → P out
  bad : c0 ≠ 0 → out = z
  code : c = c0
theorem RsOut.unique {α : Type} {P : α → Prop} {z : α} {c0 : Int} {o1 o2 : α} {c1 c2 : Int} (hu : c0 = 0 → ∀ a b, P a → P b → a = b) (h1 : RsOut P z c0 o1 c1) (h2 : RsOut P z c0 o2 c2) : o1 = o2 ∧ c1 = c2 := by
  refine ⟨?_, h1.code.trans h2.code.symm⟩
  by_cases h0 : c0 = 0
  · exact hu h0 _ _ (h1.good h0) (h2.good h0)
  · rw [h1.bad h0, h2.bad h0]
theorem RsOut.all {α : Type} {P : α → Prop} {z : α} {c0 : Int} {o : α} {c : Int} (h : RsOut P z c0 o c) {Q : α → Prop} (hz : Q z) (hb : c0 = 0 → ∀ a, P a → Q a) : Q o := by
  by_cases h0 : c0 = 0
  · exact hb h0 _ (h.good h0)
  · rw [h.bad h0]
    exact hz
theorem RsOut.of_no {α : Type} {P : α → Prop} {z : α} {c0 : Int} (h : c0 ≠ 0) : RsOut P z c0 z c0 := ⟨fun h0 => absurd h0 h, fun _ => rfl, rfl⟩
theorem RsOut.of_yes {α : Type} {P : α → Prop} {z : α} {c0 : Int} {o : α} (h : c0 = 0) (hp : P o) : RsOut P z c0 o 0 := ⟨fun _ => hp, fun hh => absurd h hh, h.symm⟩
/-- The answer of the program: a result in memory of its own, and a code; and that of the model. -/
def AnsW {α : Type} (R : Nat → Nat → World → Value → α → Prop) (P : α → Prop) (z : α) (c0 : Int) (w : World) (e : Ending) (w' : World) : Prop :=
  ∃ (u : Value) (out : α) (c : Int), e = .returned (.tuple #[u, .int .i64 c]) ∧ R w.heap.size w'.heap.size w' u out ∧ Below w.heap.size w w' ∧ RsOut P z c0 out c
def AnsS {α : Type} (R : World → Value → α → Prop) (P : α → Prop) (z : α) (c0 : Int) (w : World) (e : Ending) (w' : World) : Prop :=
  ∃ (u : Value) (out : α) (c : Int), e = .returned (.tuple #[u, .int .i64 c]) ∧ R w' u out ∧ Below w.heap.size w w' ∧ RsOut P z c0 out c
end Go.Proofs.YtckkbojankfdfaaDoor


namespace Go.Proofs.YtckkbojankfdfaaDoor
open Go.RowKit

theorem Ap.doneW {w wr : World} {ty : TypeId} {p : Int} {c : Nat} {v : List Int} {t : List (List Int)} (ok : ApOk p c v t) (h : Ap w wr ty p c v t v.length 0) : W1 w.heap.size wr.heap.size wr (.slice (some ⟨w.heap.size, 0, none⟩) c c) (apT p c v t) := by
  have hl := apTo_length ok (Nat.le_refl _)
  by_cases h0 : c = 0
  · subst h0
    exact Or.inl ⟨List.eq_nil_of_length_eq_zero hl, _, _, rfl⟩
  · refine Or.inr ⟨w.heap.size, 0, c, by rw [apT, hl], Nat.le_refl _, h.row.lt, by rw [apT, hl]; omega, fun j hj => ⟨_, h.row.cell (by rw [apT, hl] at hj; omega), ?_⟩, fun j _ => h.row.frozen _⟩
    have hj' : j < (apTo p c v t v.length).length := hj
    simp only [apCell, IsI, Nat.not_lt_zero, if_false, apT, Nat.zero_add]
    rw [getD_of_lt _ hj']

def ApW (p : Int) (c : Nat) (v : List Int) (t : List (List Int)) (w : World) (e : Ending) (w' : World) : Prop := ∃ u, e = .returned u ∧ W1 w.heap.size w'.heap.size w' u (apT p c v t) ∧ Below w.heap.size w w'

set_option maxHeartbeats 1600000 in
theorem applyTablew_any (p : Int) (c : Nat) (va vt : Value) (v : List Int) (t : List (List Int)) (w : World) (ok : ApOk p c v t) (ha : L1 0 w va v) (ht : L2 0 w vt t) (hv : v.length ≤ 1048576) (hc : c ≤ 1048576) :
    Calls Tryd.prog 79 #[.int .i64 p, va, vt, .int .i64 c] w (ApW p c v t w) := by
  have hmk := run_make_row' (P := Tryd.prog) 33 2 (.int .i64 0) 8 Tryd.underlying33 Tryd.infoI rfl .i64 .i64 c (by omega) (by omega)
  have hp0 := ok.prime.lo
  have hp1 := ok.prime.hi
  have OK := Lib.hid ok
  clear ok
  refine Sl.cases ha (fun ad cap hx hv' => ?_) (fun b o cap hv' _ hpos hcl => ?_)
  · subst hx hv'
    clear ha ht
    go_enter Tryd.func79, Tryd.ntmps79
    go_wp2
    refine wp_loop_rounds 1 ?_
    rw [rounds_succ]
    go_wp2
    go_ret
    exact ⟨_, rfl, Ap.doneW OK.out (Ap.start _ _ _ _ _ _), (Below.refl _ _).alloc (Nat.le_refl _) _⟩
  · refine Sl.cases ht (fun ad2 cap2 hx2 hv2 => absurd OK.out.len (by subst hx2; simp only [List.length_nil]; omega)) (fun b2 o2 cap2 hv2 _ hpos2 hcl2 => ?_)
    subst hv' hv2
    clear ha ht
    have hlen := OK.out.len
    have HC := Lib.hid hcl
    have HC2 := Lib.hid hcl2
    clear hcl hcl2
    go_enter Tryd.func79, Tryd.ntmps79
    go_wp2
    clear hmk
    go_loopw [18] (fun i wr => ∃ (k : Nat), k ≤ v.length ∧ i = .int .i64 k ∧ Ap w wr 2 p c v t k 0) (fun i _ => v.length - (intOf i).toNat)
    case atStart => exact ⟨0, Nat.zero_le _, rfl, Ap.start _ _ _ _ _ _⟩
    case round =>
      obtain ⟨k, hk, rfl, HA⟩ := hrel
      by_cases hlt2 : k < v.length
      · have hlt3 : k < t.length := by omega
        obtain ⟨u, hu, hr⟩ := HC.out k hlt2
        obtain ⟨u2, hu2, hr2⟩ := HC2.out k hlt3
        have hnum := OK.out.num hlt2
        have hrow := OK.out.row hlt2
        rw [getD_of_lt _ hlt2] at hnum
        rw [getD_of_lt _ hlt3] at hrow
        obtain ⟨f, hf⟩ : ∃ f, f = v[k] := ⟨_, rfl⟩
        obtain ⟨ys, hy⟩ : ∃ ys, ys = t[k] := ⟨_, rfl⟩
        rw [← hf] at hnum
        rw [← hy] at hrow hr2
        obtain ⟨hf0, hf1⟩ := hnum
        have hu' : wr.cell? ⟨b, o + k, none⟩ = some (.int .i64 f) := by rw [HA.below.cell (p := ⟨b, o + k, none⟩) (cell_lt hu), hu, hr, hf]
        have hu2' : wr.cell? ⟨b2, o2 + k, none⟩ = some u2 := by rw [HA.below.cell (p := ⟨b2, o2 + k, none⟩) (cell_lt hu2), hu2]
        have HF := Lib.hid hf
        have HY := Lib.hid hy
        have HROW := Lib.hid hrow
        have HA' := Lib.hid HA
        clear hf hy hrow HA hu hr hu2
        refine Sl.cases hr2 (fun ad3 cap3 hx3 hv3 => ?_) (fun b3 o3 cap3 hv3 _ hpos3 hcl3 => ?_)
        · subst hv3
          have hc0 : Hid (c = 0) := Lib.hid (by have := HROW.out.1; rw [hx3] at this; simpa using this.symm)
          clear hx3 hr2
          go_wp2
          refine wp_loop_rounds 1 ?_
          rw [rounds_succ]
          go_wp2
          go_roundw
          case rel => exact ⟨k + 1, by omega, by go_num, Ap.next (by rw [hc0.out]; have := HA'.out; rwa [hc0.out] at this)⟩
          case measure => simp [intOf]; omega
        · subst hv3
          have hyc : ys.length = c := by have := HROW.out.1; omega
          have HYC := Lib.hid hyc
          have HC3 := Lib.hid hcl3
          clear hyc hr2 hcl3
          obtain ⟨wo, hwo⟩ : ∃ wo : World, wo = wr := ⟨_, rfl⟩
          have HWO := Lib.hid hwo
          clear hwo
          go_wp2
          go_loopw [28] (fun i wr => ∃ (q : Nat), q ≤ ys.length ∧ i = .int .i64 q ∧ Ap w wr 2 p c v t k q) (fun i _ => ys.length - (intOf i).toNat)
          case atStart => exact ⟨0, Nat.zero_le _, rfl, HA'.out⟩
          case round =>
            obtain ⟨q, hq, rfl, HB⟩ := hrel
            by_cases hlt4 : q < ys.length
            · have hqc : q < c := by have := HYC.out; omega
              obtain ⟨u3, hu3, hr3⟩ := HC3.out q hlt4
              have hx := HROW.out.2 _ (List.getElem_mem hlt4)
              obtain ⟨x, hxx⟩ : ∃ x, x = ys[q] := ⟨_, rfl⟩
              obtain ⟨a, haa⟩ : ∃ a, a = (apTo p c v t k).getD q 0 := ⟨_, rfl⟩
              have hab := apTo_mod OK.out (Nat.le_of_lt hlt2) q
              have hac := HB.cell hqc
              have hfz := HB.row.frozen q
              rw [← haa] at hab hac
              rw [← hxx] at hx
              obtain ⟨hx0, hx1⟩ := hx
              obtain ⟨ha0, ha1⟩ := hab
              have hu3' : wr.cell? ⟨b3, o3 + q, none⟩ = some (.int .i64 x) := by rw [HB.below.cell (p := ⟨b3, o3 + q, none⟩) (cell_lt hu3), hu3, hr3, hxx]
              have m0 : 0 ≤ f * x := Int.mul_nonneg hf0 hx0
              have m1 : f * x ≤ 36 := Int.le_trans (Int.mul_le_mul (show f ≤ 6 by omega) (show x ≤ 6 by omega) hx0 (by omega)) (by omega)
              have HS := Lib.hid (HB.step OK.out hlt2 hqc (x := (a + f * x) % p) (by rw [haa, HF.out, hxx, getD_of_lt _ hlt2, getD_of_lt _ hlt3, ← HY.out, getD_of_lt _ hlt4]))
              clear HB hu3 hr3 haa hxx
              go_wp2
              go_roundw
              case rel => exact ⟨q + 1, by omega, by go_num, HS.out⟩
              case measure => simp [intOf]; omega
            · have HB' := Lib.hid HB
              have hqc : Hid (q = c) := Lib.hid (by have := HYC.out; omega)
              clear HB
              go_wp2
              go_roundw
              case rel => exact ⟨k + 1, by omega, by go_num, Ap.next (by have := HB'.out; rwa [hqc.out] at this)⟩
              case measure => simp [intOf]; omega
      · have hkk : k = v.length := by omega
        subst hkk
        have HA' := Lib.hid HA
        clear HA
        go_wp2
        go_ret
        exact ⟨_, rfl, Ap.doneW OK.out HA'.out, HA'.out.below⟩

/-- The differential of a vector of the degree n. -/
def difOf (p : Int) (ds : List Int) (ms : List (List (List Int))) (n : Int) (vs : List Int) : List Int := if n = 0 then [] else apT p (ds.getD (n.toNat - 1) 0).toNat vs (ms.getD (n.toNat - 1) [])
def InDeg (ds : List Int) (n : Int) : Prop := 0 ≤ n ∧ n ≤ (ds.length : Int) - 1
/-- What DifferentialOf answers: a list and a code. -/
structure DifOut (p : Int) (ds : List Int) (ms : List (List (List Int))) (n : Int) (vs out : List Int) (c : Int) : Prop where
  bad : ¬ IsCx p ds ms → out = [] ∧ c = 1
  far : IsCx p ds ms → ¬ InDeg ds n → out = [] ∧ c = 2
  row : IsCx p ds ms → InDeg ds n → ¬ RowOk p (ds.getD n.toNat 0) vs → out = [] ∧ c = 2
  good : IsCx p ds ms → InDeg ds n → RowOk p (ds.getD n.toNat 0) vs → out = difOf p ds ms n vs ∧ c = 0
theorem DifOut.unique {p : Int} {ds : List Int} {ms : List (List (List Int))} {n : Int} {vs o1 o2 : List Int} {c1 c2 : Int} (h1 : DifOut p ds ms n vs o1 c1) (h2 : DifOut p ds ms n vs o2 c2) : o1 = o2 ∧ c1 = c2 := by
  by_cases a : IsCx p ds ms
  · by_cases b : InDeg ds n
    · by_cases c : RowOk p (ds.getD n.toNat 0) vs
      · have x := h1.good a b c
        have y := h2.good a b c
        exact ⟨x.1.trans y.1.symm, x.2.trans y.2.symm⟩
      · have x := h1.row a b c
        have y := h2.row a b c
        exact ⟨x.1.trans y.1.symm, x.2.trans y.2.symm⟩
    · have x := h1.far a b
      have y := h2.far a b
      exact ⟨x.1.trans y.1.symm, x.2.trans y.2.symm⟩
  · have x := h1.bad a
    have y := h2.bad a
    exact ⟨x.1.trans y.1.symm, x.2.trans y.2.symm⟩
theorem w1_rw1 {lo hi : Nat} {w : World} {v : Value} {xs : List Int} (h : W1 lo hi w v xs) (hl : xs.length ≤ 1048576) : Rw1 lo hi w v xs := by
  refine ⟨h, ?_⟩
  rcases h with ⟨hx, ad, cap, hv⟩ | ⟨b, o, cap, hv, hlo, hhi, hpos, hc, hf⟩
  · exact ⟨[], Or.inl ⟨rfl, ad, cap, hv⟩, fun _ hx => absurd hx (by simp), List.Pairwise.nil, by simp [ivSize]⟩
  · refine ⟨[(b, o, xs.length)], Or.inr ⟨b, o, xs.length, cap, rfl, hpos, hl, hlo, hhi, hv⟩, fun x hx => ?_, List.pairwise_singleton _ _, by simpa [ivSize] using hl⟩
    obtain rfl : x = (b, o, xs.length) := by simpa using hx
    refine ⟨hlo, hhi, fun i hi => ?_⟩
    obtain ⟨u, hu, hr⟩ := hc i hi
    exact ⟨⟨xs[i]'hi, by rw [hu, hr]⟩, hf i hi⟩
theorem apT_length' {p : Int} {c : Nat} {v : List Int} {t : List (List Int)} (ok : ApOk p c v t) : (apT p c v t).length = c := apTo_length ok (Nat.le_refl _)
end Go.Proofs.YtckkbojankfdfaaDoor


namespace Go.Proofs.YtckkbojankfdfaaDoor
open Go.RowKit

/-- The slice u holds tables, in a row of its own. -/
def Gt (base : Nat) (w : World) (u : Value) (ts : List (List (List Int))) : Prop := ∃ vs, w.ownsRow base 22 1 u ts.length vs ∧ ∀ k (h1 : k < vs.length) (h2 : k < ts.length), Gs 0 w vs[k] ts[k]
theorem Gt.below {base : Nat} {w w' : World} {u : Value} {ts : List (List (List Int))} (h : Gt base w u ts) (hb : Below w.heap.size w w') : Gt base w' u ts := by
  obtain ⟨vs, ho, hr⟩ := h
  exact ⟨vs, owns_below ho hb, fun k h1 h2 => (hr k h1 h2).below hb⟩
theorem Gt.l3 {base : Nat} {w : World} {u : Value} {ts : List (List (List Int))} (h : Gt base w u ts) : L3 0 w u ts := by
  obtain ⟨vs, ho, hr⟩ := h
  exact sl_of_owns ho (Nat.zero_le _) rfl (fun k h1 h2 => (hr k h2 h1).l2)
theorem Gt.lt {base : Nat} {w : World} {v : Value} {ts : List (List (List Int))} (h : Gt base w v ts) : ∀ k, v.ownBlock = some k → base ≤ k ∧ k < w.heap.size := by
  obtain ⟨vs, ho, _⟩ := h
  exact World.ownsRow.lt ho
theorem Gt.new {base : Nat} (w : World) (hb : base ≤ w.heap.size) : Gt base (w.alloc (.cells #[] 22)) (.slice (some ⟨w.heap.size, 0, none⟩) 0 0) [] :=
  ⟨[], by simpa using World.ownsRow_made (base := base) (e := 22) (size := 1) w #[] 0 hb (by unfold maxLen; omega) (by simp), fun k h1 _ => absurd h1 (Nat.not_lt_zero _)⟩
theorem Gs.new {base : Nat} (w : World) (hb : base ≤ w.heap.size) : Gs base (w.alloc (.cells #[] 33)) (.slice (some ⟨w.heap.size, 0, none⟩) 0 0) [] :=
  ⟨[], by simpa using World.ownsRow_made (base := base) (e := 33) (size := 1) w #[] 0 hb (by unfold maxLen; omega) (by simp), fun k h1 _ => absurd h1 (Nat.not_lt_zero _)⟩
theorem Gb.new {base : Nat} (w : World) (hb : base ≤ w.heap.size) : Gb base (w.alloc (.cells #[] 2)) (.slice (some ⟨w.heap.size, 0, none⟩) 0 0) [] := by
  have := World.ownsRow_made (base := base) (e := 2) (size := 1) w #[] 0 hb (by unfold maxLen; omega) (by simp)
  simpa [Gb] using this
theorem Gs.grown {w w3 : World} {base base' n : Nat} {u v : Value} {t : List (List Int)} {vs : List Value} (h : Gs base' w u t) (ho : w.ownsRow base 22 1 v n vs) (hg : w.grownBy w3 v.ownBlock) : Gs base' w3 u t := by
  obtain ⟨us, hu, hr⟩ := h
  exact ⟨us, owns_grown hu ho (by decide) hg, fun k h1 h2 => owns_grown (hr k h1 h2) ho (by decide) hg⟩
theorem Gt.push {base : Nat} {w w3 : World} {v v' row : Value} {ts : List (List (List Int))} {vs : List Value} {x : List (List Int)} (ho : w.ownsRow base 22 1 v ts.length vs) (hr : ∀ k (h1 : k < vs.length) (h2 : k < ts.length), Gs 0 w vs[k] ts[k]) (hx : Gs 0 w row x)
    (ho3 : w3.ownsRow base 22 1 v' (ts.length + 1) (vs ++ [row])) (hg : w.grownBy w3 v.ownBlock) : Gt base w3 v' (ts ++ [x]) := by
  have hvl : vs.length = ts.length := by have := ho.1; omega
  refine ⟨vs ++ [row], by simpa using ho3, fun k h1 h2 => ?_⟩
  by_cases e : k < vs.length
  · rw [List.getElem_append_left e, List.getElem_append_left (by omega)]
    exact (hr k e (by omega)).grown ho hg
  · have e2 : k = vs.length := by simp at h1; omega
    subst e2
    rw [List.getElem_append_right (by omega), List.getElem_append_right (by omega)]
    simp only [hvl, Nat.sub_self, List.getElem_cons_zero]
    exact hx.grown ho hg
section
variable {ops : Array Oper} {rest : List Oper} {Q : Exit → Act → World → Prop}
end
end Go.Proofs.YtckkbojankfdfaaDoor


namespace Go.Proofs.YtckkbojankfdfaaDoor
open Go.RowKit

/-- A couple. -/
def IsCp (p d e : Int) (il jl kl : List (List Int)) : Prop := IsP p ∧ (0 ≤ d ∧ d ≤ 24) ∧ (0 ≤ e ∧ e ≤ 24) ∧ TabOk p d d il ∧ TabOk p d e jl ∧ TabOk p e d kl
open Classical in
noncomputable def cpCode (p d e : Int) (il jl kl : List (List Int)) : Int := if IsCp p d e il jl kl then 0 else 1
theorem no_iff {P : Prop} (h : ¬ P) : (false = true ↔ P) := ⟨fun k => (by cases k), fun k => absurd k h⟩
theorem yes_iff {P : Prop} (h : P) : (true = true ↔ P) := ⟨fun _ => h, fun _ => rfl⟩
/-- The table of the differential. -/
def cdT (p e : Int) (jl kl : List (List Int)) : List (List Int) := kl.map fun v => apT p e.toNat v jl
theorem IsCp.ap {p d e : Int} {il jl kl : List (List Int)} (h : IsCp p d e il jl kl) {v : List Int} (hv : v ∈ kl) : ApOk p e.toNat v jl := by
  obtain ⟨hp, hd, he, hi, hj, hk⟩ := h
  have h1 := (hk.2 v hv)
  have h2 := hj.1
  refine ⟨hp, by have := h1.1; omega, h1.2, fun r hr => ?_⟩
  have := hj.2 r hr
  rw [Int.toNat_of_nonneg he.1]
  exact this
set_option maxHeartbeats 3200000 in
set_option maxRecDepth 100000 in
theorem l05Is_any (p d e : Int) (iv jv kv : Value) (il jl kl : List (List Int)) (w : World) (h : Cp 0 w iv jv kv il jl kl) (hm : CpB 1048576 il jl kl) :
    Calls Tryd.prog 39 #[.agg #[.int .i64 p, .int .i64 d, .int .i64 e, iv, jv, kv]] w (BB (IsCp p d e il jl kl) w) := by
  have HM := Lib.hid hm
  obtain ⟨w1, hw1⟩ : ∃ w1, w1 = w.alloc (.cells #[.int .i64 p, .int .i64 d, .int .i64 e, iv, jv, kv] 26) := ⟨_, rfl⟩
  have hs1 : w1.heap.size = w.heap.size + 1 := by rw [hw1]; simp
  have HX : Hid (BxCp w w1 w.heap.size p d e iv jv kv il jl kl) := Lib.hid (by rw [hw1]; exact BxCp.start 26 h)
  clear h hm
  have c0 := HX.out.c0
  have c1 := HX.out.c1
  have c2 := HX.out.c2
  have c3 := HX.out.c3
  have c4 := HX.out.c4
  have c5 := HX.out.c5
  go_enter Tryd.func39, Tryd.ntmps39
  go_upto_region 1 with fail
  rw [← hw1]
  clear hw1
  by_cases hp : IsP p
  · have HP := Lib.hid hp
    clear hp
    go_wp2_with fail
    refine (spprime_yes HP.out _).mono ?_
    rintro ee w' ⟨rfl, rfl⟩
    by_cases hd : 0 ≤ d ∧ d ≤ 24
    · have HD := Lib.hid hd
      clear hd
      go_wp2_with fail
      refine (spin_yes HD.out _).mono ?_
      rintro ee w' ⟨rfl, rfl⟩
      by_cases he : 0 ≤ e ∧ e ≤ 24
      · have HE := Lib.hid he
        clear he
        go_wp2_with fail
        refine (spin_yes HE.out _).mono ?_
        rintro ee w' ⟨rfl, rfl⟩
        go_wp2_with fail
        refine (l01Table_any p d d iv il _ HP.out HX.out.cx.fi HM.out.bi).mono ?_
        rintro ee w' ⟨b1, rfl, rfl, hb1⟩
        by_cases hi : TabOk p d d il
        · obtain rfl : b1 = true := hb1.2 hi
          have HI := Lib.hid hi
          clear hb1 hi
          go_wp2_with fail
          refine (l01Table_any p d e jv jl _ HP.out HX.out.cx.fj HM.out.bj).mono ?_
          rintro ee w' ⟨b2, rfl, rfl, hb2⟩
          by_cases hj : TabOk p d e jl
          · obtain rfl : b2 = true := hb2.2 hj
            have HJ := Lib.hid hj
            clear hb2 hj
            go_wp2_with fail
            refine (l01Table_any p e d kv kl _ HP.out HX.out.cx.fk HM.out.bk).mono ?_
            rintro ee w' ⟨b3, rfl, rfl, hb3⟩
            have HB3 := Lib.hid hb3
            clear hb3
            go_wp2
            go_ret
            exact ⟨b3, rfl, HX.out.below, HB3.out.trans ⟨fun h => ⟨HP.out, HD.out, HE.out, HI.out, HJ.out, h⟩, fun h => h.2.2.2.2.2⟩⟩
          · obtain rfl : b2 = false := bb_no hb2 hj
            have HJ := Lib.hid hj
            clear hb2 hj
            go_wp2
            go_ret
            exact ⟨false, rfl, HX.out.below, no_iff fun h => HJ.out h.2.2.2.2.1⟩
        · obtain rfl : b1 = false := bb_no hb1 hi
          have HI := Lib.hid hi
          clear hb1 hi
          go_wp2
          go_ret
          exact ⟨false, rfl, HX.out.below, no_iff fun h => HI.out h.2.2.2.1⟩
      · have HE := Lib.hid he
        clear he
        go_wp2_with fail
        refine (spin_no HE.out _).mono ?_
        rintro ee w' ⟨rfl, rfl⟩
        go_wp2
        go_ret
        exact ⟨false, rfl, HX.out.below, no_iff fun h => HE.out h.2.2.1⟩
    · have HD := Lib.hid hd
      clear hd
      go_wp2_with fail
      refine (spin_no HD.out _).mono ?_
      rintro ee w' ⟨rfl, rfl⟩
      go_wp2
      go_ret
      exact ⟨false, rfl, HX.out.below, no_iff fun h => HD.out h.2.1⟩
  · have HP := Lib.hid hp
    clear hp
    go_wp2_with fail
    refine (spprime_no HP.out _).mono ?_
    rintro ee w' ⟨rfl, rfl⟩
    go_wp2
    go_ret
    exact ⟨false, rfl, HX.out.below, no_iff fun h => HP.out h.1⟩

theorem hload6 (w : World) {b : Nat} {p d e : Int} {iv jv kv : Value} (c0 : w.cell? ⟨b, 0, none⟩ = some (.int .i64 p)) (c1 : w.cell? ⟨b, 1, none⟩ = some (.int .i64 d)) (c2 : w.cell? ⟨b, 2, none⟩ = some (.int .i64 e)) (c3 : w.cell? ⟨b, 3, none⟩ = some iv) (c4 : w.cell? ⟨b, 4, none⟩ = some jv) (c5 : w.cell? ⟨b, 5, none⟩ = some kv) :
    (Instr.loadAt 26 (.pointer (some ⟨b, 0, none⟩))).run Tryd.prog w = .ok (.agg #[.int .i64 p, .int .i64 d, .int .i64 e, iv, jv, kv]) w := by go_simp
theorem hloadSSc (w : World) {b o : Nat} {x : Value} (h : w.cell? ⟨b, o, none⟩ = some x) : (Instr.loadAt 22 (.pointer (some ⟨b, o, none⟩))).run Tryd.prog w = .ok x w := by go_simp

set_option maxHeartbeats 3200000 in
set_option maxRecDepth 100000 in
theorem l05Differential_any (p d e : Int) (iv jv kv : Value) (il jl kl : List (List Int)) (w : World) (h : Cp 0 w iv jv kv il jl kl) (hm : CpB 1048576 il jl kl) (hc : IsCp p d e il jl kl) :
    Calls Tryd.prog 41 #[.agg #[.int .i64 p, .int .i64 d, .int .i64 e, iv, jv, kv]] w (GsR (cdT p e jl kl) w) := by
  have HM := Lib.hid hm
  obtain ⟨w1, hw1⟩ : ∃ w1, w1 = w.alloc (.cells #[.int .i64 p, .int .i64 d, .int .i64 e, iv, jv, kv] 26) := ⟨_, rfl⟩
  have hs1 : w1.heap.size = w.heap.size + 1 := by rw [hw1]; simp
  have HX : Hid (BxCp w w1 w.heap.size p d e iv jv kv il jl kl) := Lib.hid (by rw [hw1]; exact BxCp.start 26 h)
  clear h hm
  have HC := Lib.hid hc
  obtain ⟨c, hce⟩ : ∃ c, c = e.toNat := ⟨_, rfl⟩
  have hec : e = (c : Int) := by have := hc.2.2.1; omega
  have hc24 : c ≤ 24 := by have := hc.2.2.1; omega
  have hkl : kl.length ≤ 24 := by have := hc.2.2.1; have := hc.2.2.2.2.2.1; omega
  have HNX : Hid (∀ W, Below w1.heap.size w1 W → BxCp w W w.heap.size p d e iv jv kv il jl kl) := Lib.hid (fun W h => HX.out.next h)
  obtain ⟨⟨ai, ci, rfl⟩, ⟨aj, cj, rfl⟩, ⟨ak, ck, rfl⟩⟩ := HX.out.cx.shapes
  have HT0 := Lib.hid (Gs.new (base := w1.heap.size) w1 (Nat.le_refl _))
  have HCD : Hid (∀ k (hk : k < kl.length), (cdT p e jl kl).take (k + 1) = (cdT p e jl kl).take k ++ [apT p c kl[k] jl]) := Lib.hid (fun k hk => by
    rw [List.take_succ_eq_append_getElem (by unfold cdT; rw [List.length_map]; exact hk)]
    simp [cdT, hce])
  have HCL : Hid ((cdT p e jl kl).length = kl.length) := Lib.hid (by simp [cdT])
  have HAP : Hid (∀ k (hk : k < kl.length), ApOk p c kl[k] jl) := Lib.hid (fun k hk => by rw [hce]; exact hc.ap (List.getElem_mem hk))
  clear hc hce
  subst hec
  have c5 := HX.out.c5
  go_enter Tryd.func41, Tryd.ntmps41
  go_upto_region 1 with fail
  rw [← hw1]
  clear hw1
  go_wp2
  go_loopw [3, 4] (fun ov i wr => ∃ (k : Nat), k ≤ kl.length ∧ i = .int .i64 k ∧ Hid (Below w1.heap.size w1 wr) ∧ Hid (Gs w1.heap.size wr ov ((cdT p (c : Int) jl kl).take k))) (fun _ i _ => kl.length - (intOf i).toNat)
  case atStart => exact ⟨0, Nat.zero_le _, rfl, Lib.hid (below_alloc1 _ _), Lib.hid (by rw [List.take_zero]; have := HT0.out; simpa [hs1] using this)⟩
  case round =>
    clear HT0 c5
    obtain ⟨k, hk, rfl, HB, HG⟩ := hrel
    obtain ⟨wx, hwx⟩ : ∃ wx : World, wx = wr := ⟨_, rfl⟩
    subst hwx
    have hsx : w1.heap.size ≤ wx.heap.size := HB.out.size
    have hgl : ((cdT p (c : Int) jl kl).take k).length = k := by rw [List.length_take, HCL.out]; omega
    obtain ⟨ao, co, hov⟩ := Sl.shape HG.out.l2
    rw [hgl] at hov
    subst hov
    have HGN := Lib.hid hgl
    clear hgl
    have c5 := (HNX.out wx HB.out).c5
    by_cases hlt : k < kl.length
    · refine Sl.cases HX.out.cx.fk (fun _ _ hx _ => absurd hlt (by simp [hx])) (fun b o c2 hvv _ _ hcl => ?_)
      injection hvv with e1 e2 e3
      clear e2
      subst e1 e3
      obtain ⟨ur, hur, hrr⟩ := hcl k hlt
      obtain ⟨y, hy⟩ : ∃ y, y = kl[k] := ⟨_, rfl⟩
      rw [← hy] at hrr
      have HTK : Hid ((cdT p (c : Int) jl kl).take (k + 1) = (cdT p (c : Int) jl kl).take k ++ [apT p c y jl]) := Lib.hid (by rw [hy]; exact HCD.out k hlt)
      have hok := HAP.out k hlt
      rw [← hy] at hok
      have HOK := Lib.hid hok
      have HYL : Hid (y.length ≤ 1048576) := Lib.hid (by have := HM.out.bk.2 y (by rw [hy]; exact List.getElem_mem hlt); exact this)
      have HRR := Lib.hid hrr
      have HUR : Hid (∀ W, Below w1.heap.size w1 W → W.cell? ⟨b, o + k, none⟩ = some ur) := Lib.hid (fun W h => later h (Nat.le_refl _) hur)
      have hlk : (k : Int) < (kl.length : Int) := by omega
      clear hcl hur hrr hy hok
      go_wp2
      clear c5
      refine wp_region_held (S := fun W => Below w1.heap.size w1 W) (by kernel_rfl) ?_
      have S0 : Below w1.heap.size w1 wx.drew := HB.out.drew
      have HGD := Lib.hid (HG.out.below (Below.refl wx.heap.size wx).drew)
      have hsd : w1.heap.size ≤ wx.drew.heap.size := hsx
      change wpAnyH _ _ _ _ _ _ _ _ wx.drew
      clear HG HB
      generalize wx.drew = wd at *
      refine held_take (i := 0) (v := .slice ao k co) (some 13) rfl rfl (by kernel_rfl) (by kernel_rfl) (by kernel_rfl) (fun _ _ _ h => h) (yieldsIf_move (by kernel_rfl) rfl (by kernel_rfl)) S0 ?_
      refine held_take (i := 1) (v := .pointer (some ⟨w.heap.size, 0, none⟩)) (some 14) rfl rfl (by kernel_rfl) (by kernel_rfl) (by kernel_rfl) (fun _ _ _ h => h) (yieldsIf_run (by kernel_rfl) (fun W _ => by kernel_rfl)) S0 ?_
      refine held_take (i := 2) (v := .int .i64 p) (some 15) rfl rfl (by kernel_rfl) (by kernel_rfl) (by kernel_rfl) (fun _ _ _ h => h) (yieldsIf_cell (by kernel_rfl) rfl (by kernel_rfl) (fun W h => hload W ((HNX.out W h).c0))) S0 ?_
      refine held_take (i := 3) (v := .pointer (some ⟨w.heap.size, 4, none⟩)) (some 16) rfl rfl (by kernel_rfl) (by kernel_rfl) (by kernel_rfl) (fun _ _ _ h => h) (yieldsIf_run (by kernel_rfl) (fun W _ => by kernel_rfl)) S0 ?_
      refine held_take (i := 4) (v := .slice aj jl.length cj) (some 17) rfl rfl (by kernel_rfl) (by kernel_rfl) (by kernel_rfl) (fun _ _ _ h => h) (yieldsIf_cell (by kernel_rfl) rfl (by kernel_rfl) (fun W h => hloadSSc W ((HNX.out W h).c4))) S0 ?_
      refine held_take (i := 5) (v := .pointer (some ⟨w.heap.size, 5, none⟩)) (some 18) rfl rfl (by kernel_rfl) (by kernel_rfl) (by kernel_rfl) (fun _ _ _ h => h) (yieldsIf_run (by kernel_rfl) (fun W _ => by kernel_rfl)) S0 ?_
      refine held_take (i := 6) (v := .slice (some ⟨b, o, none⟩) kl.length ck) (some 19) rfl rfl (by kernel_rfl) (by kernel_rfl) (by kernel_rfl) (fun _ _ _ h => h) (yieldsIf_cell (by kernel_rfl) rfl (by kernel_rfl) (fun W h => hloadSSc W ((HNX.out W h).c5))) S0 ?_
      refine held_take (i := 7) (v := .int .i64 (k : Int)) (some 20) rfl rfl (by kernel_rfl) (by kernel_rfl) (by kernel_rfl) (fun _ _ _ h => h) (yieldsIf_move (by kernel_rfl) rfl (by kernel_rfl)) S0 ?_
      refine held_take (i := 8) (v := .pointer (some ⟨b, o + k, none⟩)) (some 21) rfl rfl (by kernel_rfl) (by kernel_rfl) (by kernel_rfl) (fun _ _ _ h => h) (yieldsIf_index (by kernel_rfl) rfl (by kernel_rfl) (by kernel_rfl) (hidxS b o ck hlt)) S0 ?_
      refine held_take (i := 9) (v := ur) (some 22) rfl rfl (by kernel_rfl) (by kernel_rfl) (by kernel_rfl) (fun _ _ _ h => h) (yieldsIf_cell (by kernel_rfl) rfl (by kernel_rfl) (fun W h => hloadS W (HUR.out W h))) S0 ?_
      refine held_take (i := 10) (v := .pointer (some ⟨w.heap.size, 2, none⟩)) (some 23) rfl rfl (by kernel_rfl) (by kernel_rfl) (by kernel_rfl) (fun _ _ _ h => h) (yieldsIf_run (by kernel_rfl) (fun W _ => by kernel_rfl)) S0 ?_
      refine held_take (i := 11) (v := .int .i64 (c : Int)) (some 24) rfl rfl (by kernel_rfl) (by kernel_rfl) (by kernel_rfl) (fun _ _ _ h => h) (yieldsIf_cell (by kernel_rfl) rfl (by kernel_rfl) (fun W h => hload W ((HNX.out W h).c2))) S0 ?_
      refine held_enter (i := 12) (some 25) (f := 46) (args := #[.int .i64 p, .slice aj jl.length cj, ur, .int .i64 (c : Int)]) (by kernel_rfl) rfl rfl rfl (by kernel_rfl) (l01ApplyG_any p c ur (.slice aj jl.length cj) y jl wd HOK.out (HRR.out.below S0) (HNX.out wd S0).cx.fj HYL.out (by omega)) ?_ (fun c w' h => by obtain ⟨_, h, _⟩ := h; cases h) (fun w' h => by obtain ⟨_, h, _⟩ := h; cases h)
      rintro e6 W6 ⟨u6, he6, hg6, hb6⟩
      injection he6 with he6
      subst he6
      have S3 : Below w1.heap.size w1 W6 := S0.trans (hb6.mono hsd)
      have HG6 := Lib.hid (HGD.out.below hb6)
      obtain ⟨a6, n6, c6, hv6⟩ : ∃ a n c, e6 = .slice a n c := by obtain ⟨a, cc, ee⟩ := Sl.shape hg6.l1; exact ⟨a, _, cc, ee⟩
      subst hv6
      have HR6 := Lib.hid hg6
      refine ⟨S3, ?_⟩
      have hba : Below W6.heap.size W6 (W6.alloc (.cells #[.slice a6 n6 c6] 33)) := below_alloc1 _ _
      have S4 : Below w1.heap.size w1 (W6.alloc (.cells #[.slice a6 n6 c6] 33)) := S3.trans (hba.mono S3.size)
      refine held_buildS (i := 13) (some 26) (by kernel_rfl) rfl rfl rfl (.tmp 25) a6 n6 c6 rfl (by kernel_rfl) ⟨S4, ?_⟩
      refine held_appendG (i := 14) (some 27) (by kernel_rfl) rfl rfl rfl (.tmp 13) (.tmp 26) rfl w1.heap.size (.slice ao k co) _ (by kernel_rfl) (HG6.out.below hba) W6.heap.size a6 n6 c6 (by kernel_rfl) (cell_alloc1 W6 _ _) (apT p c y jl) (HR6.out.below hba) (by rw [HGN.out]; omega) S4.size ?_
      intro v7 W7 hg7 hb7
      have S5 : Below w1.heap.size w1 W7 := S4.trans hb7
      have HG7 : Hid (Gs w1.heap.size W7 v7 ((cdT p (c : Int) jl kl).take (k + 1))) := Lib.hid (by rw [HTK.out]; exact hg7)
      have HB7 := Lib.hid S5
      refine ⟨S5, ?_⟩
      refine held_take (i := 15) (v := v7) (some 3) rfl rfl (by kernel_rfl) (by kernel_rfl) (by kernel_rfl) (fun _ _ _ h => h) (yieldsIf_assign (by kernel_rfl) rfl (by kernel_rfl)) S5 ?_
      refine wpAnyH_done (by kernel_rfl) ?_ _
      simp only [Act.put, List.setIfInBounds_toArray, List.set_cons_zero, List.set_cons_succ]
      clear S0 S3 S4 S5 hb6 hg6 hba hg7 hb7 hsd
      go_wp2
      go_roundw
      case rel => exact ⟨k + 1, by omega, by go_num, HB7, HG7⟩
      case measure => simp [intOf]; omega
    · have HKK : Hid ((cdT p (c : Int) jl kl).take k = cdT p (c : Int) jl kl) := Lib.hid (List.take_of_length_le (by rw [HCL.out]; omega))
      have hlk : ¬ (k : Int) < (kl.length : Int) := by omega
      go_wp2
      go_ret
      exact ⟨_, rfl, by have h := HG.out; rw [HKK.out] at h; exact h.mono (by omega), (HNX.out _ HB.out).below⟩

end Go.Proofs.YtckkbojankfdfaaDoor


namespace Go.Proofs.YtckkbojankfdfaaDoor.Lin

/-- Vectors that differ by a vector of the space have one rest. -/
theorem RestE.shift {p : Int} {L : List V} {v v' b r : V} (hv : Md p v) (hb : Sp p L b) (e : v' = add p v 1 b) (h : RestE p L v' L.length r) : RestE p L v L.length r := by
  obtain ⟨s, hs, hr⟩ := h.by'
  have hp : ∀ {x : V}, Md p x → 0 < p := fun hx => by have := hx 0; omega
  have hp0 := hp hv
  have hbs : Sp p L (add p b 1 s) := Sp.add 1 (Sp.md hp0 hb) hb hs
  have e2 : r = add p v 1 (add p b 1 s) := by rw [add_add, ← e, hr, Int.mul_one]
  have hbs' : ∀ u, Sp p (u :: L) (add p b 1 s) := fun u => Sp.mono (fun w hw => List.mem_cons_of_mem _ hw) hbs
  refine ⟨⟨h.rest.md, h.rest.off, ?_, ?_⟩, add p b 1 s, hbs, e2⟩
  · rw [e2]
    exact Sp.add 1 hv (Sp.mem (List.mem_cons_self ..) hv) (hbs' v)
  · have e3 : v = add p r (-1) (add p b 1 s) := by rw [e2, add_back hv]
    rw [e3]
    have h1 := Sp.add (p := p) (L := r :: L) (-1) h.rest.md (Sp.mem (List.mem_cons_self ..) h.rest.md) (hbs' r)
    rwa [← e3] at h1 ⊢
end Go.Proofs.YtckkbojankfdfaaDoor.Lin
namespace Go.Proofs.YtckkbojankfdfaaDoor
open Go.RowKit

/-- What a table makes 0 of. -/
theorem cyc_dimg {p : Int} {n m : Nat} {t : List (List Int)} (htl : t.length = n) (htr : ∀ r ∈ t, RowOk p (m : Int) r) {v : Lin.V} : CycS p n m t v ↔ Lin.Md p v ∧ Lin.Wd n v ∧ dimg p n t v = Lin.zv := by
  have e : rowsV (t.map ofL) = fun i => ofL (t.getD i []) := rowsV_ofL t
  constructor
  · rintro ⟨h1, h2, h3⟩
    refine ⟨h1, h2, funext fun j => ?_⟩
    by_cases hj : j < m
    · show Lin.dot n (Lin.col (rowsV (t.map ofL)) j) v % p = 0
      rw [e]
      exact h3 j hj
    · exact dimg_wd htl htr v j (by omega)
  · rintro ⟨h1, h2, h3⟩
    refine ⟨h1, h2, fun j _ => ?_⟩
    have := congrFun h3 j
    rw [← e]
    exact this
/-- What a table makes lies in the space of its rows. -/
theorem dimg_row {p : Int} {n : Nat} {t : List (List Int)} (htl : t.length = n) (v : Lin.V) : Lin.Sp p (t.map ofL) (dimg p n t v) :=
  img_sp v (fun i hi => by
    have h : i < (t.map ofL).length := by rw [List.length_map]; omega
    show (t.map ofL).getD i Lin.zv ∈ t.map ofL
    rw [getD_of_lt _ h]
    exact List.getElem_mem h)
section
variable {p : Int} {dn en : Nat} {il jl kl : List (List Int)}
/-- The rows of the differential of a couple. -/
theorem cd_rows (hc : IsCp p dn en il jl kl) : (cdT p en jl kl).map ofL = (kl.map ofL).map (dimg p dn jl) := by
  obtain ⟨hp, hd, he, hi, hj, hk⟩ := hc
  unfold cdT
  rw [List.map_map, List.map_map]
  refine List.map_congr_left fun r hr => ?_
  have h1 := hk.2 r hr
  have hl : r.length = dn := by have := h1.1; omega
  have hm : Lin.Md p (ofL r) := ofL_md (by have := hp.lo; omega) h1
  have h2 := dimg_apT (u := ofL r) (d := dn) (c := en) hp (by have := hj.1; omega) hj.2 hm
  have e : toL dn (ofL r) = r := toL_ofL hl
  rw [e] at h2
  show ofL (apT p (en : Int).toNat r jl) = dimg p dn jl (ofL r)
  rw [Int.toNat_natCast, h2.2, ofL_toL (dimg_wd (by have := hj.1; omega) hj.2 _)]
/-- What is made of vectors that go to 0 lies in the space of the differential's rows. -/
theorem cd_ker (hc : IsCp p dn en il jl kl) (hx : ExOk p dn en il jl kl) {v : Lin.V} (h1 : Lin.Md p v) (h2 : Lin.Wd dn v) (h3 : dimg p dn il v = Lin.zv) : Lin.Sp p ((cdT p en jl kl).map ofL) (dimg p dn jl v) := by
  have hi := hc.2.2.2.1
  have hk := (hx.2.2 v).2 ((cyc_dimg (m := dn) (by have := hi.1; omega) hi.2).2 ⟨h1, h2, h3⟩)
  rw [cd_rows hc]
  exact dimg_sp hk
/-- The table of a map in numbers of a basis. -/
noncomputable def dcI (p : Int) (n : Nat) (t : List (List Int)) (W R : List Lin.V) : List (List Int) := W.map fun v => leadRow R (dimg p n t v)
/-- The classes of what is made of sources. -/
structure DcJ (p : Int) (dn : Nat) (il jl : List (List Int)) (R B rs : List Lin.V) : Prop where
  len : rs.length = R.length
  at' : ∀ q (h : q < R.length) (h' : q < rs.length), ∃ s, Lin.Md p s ∧ Lin.Wd dn s ∧ dimg p dn il s = R[q] ∧ Lin.RestE p B (dimg p dn jl s) B.length rs[q]
theorem DcJ.unique (hc : IsCp p dn en il jl kl) (hx : ExOk p dn en il jl kl) {R B rs rs' : List Lin.V} (hB : Lin.Red p B) (hBe : Lin.Eqv p B ((cdT p en jl kl).map ofL)) (h : DcJ p dn il jl R B rs) (h' : DcJ p dn il jl R B rs') : rs = rs' := by
  have hp1 := hc.1.lo
  have hp0 : 0 < p := by omega
  refine List.ext_getElem (by rw [h.len, h'.len]) fun q h1 h2 => ?_
  have hq : q < R.length := by rw [← h.len]; exact h1
  obtain ⟨s, a1, a2, a3, a4⟩ := h.at' q hq h1
  obtain ⟨t, b1, b2, b3, b4⟩ := h'.at' q hq h2
  have hz : dimg p dn il (Lin.add p t (-1) s) = Lin.zv := by
    rw [dimg_add, a3, b3]
    funext i
    show (R[q] i + -1 * R[q] i) % p = 0
    rw [show R[q] i + -1 * R[q] i = 0 by omega]
    rfl
  have hs := (hBe _).2 (cd_ker hc hx (Lin.add_md hp0 t (-1) s) (Lin.add_wd (-1) b2 a2) hz)
  rw [dimg_add] at hs
  have e : dimg p dn jl t = Lin.add p (dimg p dn jl s) 1 (Lin.add p (dimg p dn jl t) (-1) (dimg p dn jl s)) := by
    have hm := dimg_md hp0 dn jl t
    funext i
    show dimg p dn jl t i = (dimg p dn jl s i + 1 * ((dimg p dn jl t i + -1 * dimg p dn jl s i) % p)) % p
    rw [Lin.add_mul_mod, show dimg p dn jl s i + 1 * (dimg p dn jl t i + -1 * dimg p dn jl s i) = dimg p dn jl t i by omega]
    exact (Lin.md_mod (hm i).1 (hm i).2).symm
  exact Lin.RestE.unique hp0 hB a4 (Lin.RestE.shift (dimg_md hp0 dn jl s) hs e b4)
end
end Go.Proofs.YtckkbojankfdfaaDoor


namespace Go.Proofs.YtckkbojankfdfaaDoor.Lin

/-- A linear map. -/
structure Map (p : Int) (f : V → V) : Prop where
  add : ∀ x c y, f (add p x c y) = Lin.add p (f x) c (f y)
  zv : f zv = zv
section
variable {p : Int} {f g h : V → V}
theorem Map.sp (hf : Map p f) {L : List V} {v : V} (hv : Sp p L v) : Sp p (L.map f) (f v) := by
  induction hv with
  | zero => rw [hf.zv]; exact .zero
  | step c _ hw ih => rw [hf.add]; exact .step c ih (List.mem_map.2 ⟨_, hw, rfl⟩)
theorem Map.of (hf : Map p f) {L : List V} {u : V} (hu : Sp p (L.map f) u) : ∃ v, Sp p L v ∧ u = f v := by
  induction hu with
  | zero => exact ⟨Lin.zv, .zero, hf.zv.symm⟩
  | step c _ hw ih =>
    obtain ⟨v, hv, rfl⟩ := ih
    obtain ⟨x, hx, rfl⟩ := List.mem_map.1 hw
    exact ⟨_, .step c hv hx, (hf.add _ _ _).symm⟩
theorem Map.none (hf : Map p f) {L : List V} (h0 : ∀ u ∈ L, f u = Lin.zv) (hp : 0 < p) {v : V} (hv : Sp p L v) : f v = Lin.zv := by
  induction hv with
  | zero => exact hf.zv
  | step c _ hw ih => rw [hf.add, ih, h0 _ hw]; exact add_zv (zv_md hp) c
theorem Map.comp (hf : Map p f) (hg : Map p g) : Map p (fun v => g (f v)) := ⟨fun x c y => by rw [hf.add, hg.add], by rw [hf.zv, hg.zv]⟩
theorem crd_lin (p : Int) (W : List V) : Map p (crd W) := ⟨fun x c y => crd_add p W x c y, crd_zv W⟩
theorem rowsV_map (f : V → V) {L : List V} {i : Nat} (hi : i < L.length) : rowsV (L.map f) i = f (rowsV L i) := by
  rw [rowsV_at (by rw [List.length_map]; exact hi), rowsV_at hi, List.getElem_map]
theorem Map.img (hf : Map p f) (L : List V) (x : V) : ∀ n, n ≤ L.length → img p n (rowsV (L.map f)) x = f (Go.Proofs.YtckkbojankfdfaaDoor.img p n (rowsV L) x)
  | 0, _ => by rw [img_zero, img_zero, hf.zv]
  | n + 1, hn => by rw [img_succ, img_succ, hf.img L x n (by omega), hf.add, rowsV_map f (by omega)]
/-- The numbers of a combination of a reduced list. -/
theorem crd_img (hp : 1 < p) {R : List V} (hR : Red p R) {x : V} (hx : Md p x) (hw : Wd R.length x) : crd R (Go.Proofs.YtckkbojankfdfaaDoor.img p R.length (rowsV R) x) = x := by
  have hp0 : 0 < p := by omega
  funext k
  by_cases hk : k < R.length
  · simp only [crd, dif_pos hk]
    show dot R.length (col (rowsV R) (ld R[k])) x % p = x k
    rw [dot_one hk (fun i hi hne => ?_)]
    · simp only [col]
      rw [rowsV_at hk, hR.one _ (List.getElem_mem hk), Int.one_mul]
      exact md_mod (hx k).1 (hx k).2
    · simp only [col]
      rw [rowsV_at hi, hR.off _ (List.getElem_mem hi) _ (List.getElem_mem hk) (fun e => hne (by
        have := List.pairwise_iff_getElem.1 hR.inc
        rcases Nat.lt_trichotomy i k with h | h | h
        · have := this i k hi hk h; omega
        · exact h
        · have := this k i hk hi h; omega)), Int.zero_mul]
  · simp only [crd, dif_neg hk]
    exact (hw k (by omega)).symm
theorem img_crd (hp : 1 < p) {R : List V} (hR : Red p R) {v : V} (hv : Sp p R v) : Go.Proofs.YtckkbojankfdfaaDoor.img p R.length (rowsV R) (crd R v) = v :=
  img_leads hp hR hv (fun i hi => by simp [crd, hi])
theorem crd_md (hp : 0 < p) (W : List V) {v : V} (hv : Md p v) : Md p (crd W v) := fun k => by
  by_cases h : k < W.length
  · simp only [crd, dif_pos h]; exact hv _
  · simp only [crd, dif_neg h]; exact ⟨Int.le_refl _, hp⟩
theorem crd_wd (W : List V) (v : V) : Wd W.length (crd W v) := fun k hk => by simp [crd, show ¬ k < W.length by omega]
theorem crd_none (hp : 0 < p) {R : List V} (hR : Red p R) {v : V} (hv : Sp p R v) (h0 : crd R v = Lin.zv) : v = Lin.zv :=
  hR.zero_of hp hv (fun w hw => by
    obtain ⟨k, hk, rfl⟩ := List.getElem_of_mem hw
    have := congrFun h0 k
    simpa [crd, hk, Lin.zv] using this)
theorem add_four (p : Int) (a b c d : V) (x : Int) : add p (add p a 1 b) x (add p c 1 d) = add p (add p a x c) 1 (add p b x d) := by
  funext i
  simp only [add, add_mul_mod, mod_add_mod]
  exact congrArg (· % p) (by grind)
theorem sub_self (p : Int) (v : V) : add p v (-1) v = Lin.zv := by
  funext i
  show (v i + -1 * v i) % p = 0
  rw [show v i + -1 * v i = 0 by omega]
  rfl
end

/-- An exact couple of maps, a basis of what the first one makes, one of the differentials, one of the classes, and the classes of sources. -/
structure Drv (p : Int) (f g k : V → V) (D E : V → Prop) (R B C rs : List V) : Prop where
  hp : 1 < p
  lf : Map p f
  lg : Map p g
  lk : Map p k
  dmd : ∀ {v}, D v → Md p v
  emd : ∀ {v}, E v → Md p v
  dadd : ∀ {u v} (c : Int), D u → D v → D (add p u c v)
  eadd : ∀ {u v} (c : Int), E u → E v → E (add p u c v)
  fd : ∀ {v}, D v → D (f v)
  ge : ∀ {v}, D v → E (g v)
  kd : ∀ {v}, E v → D (k v)
  fg : ∀ v, D v → (g v = zv ↔ ∃ s, D s ∧ f s = v)
  gk : ∀ v, E v → (k v = zv ↔ ∃ s, D s ∧ g s = v)
  kf : ∀ v, D v → (f v = zv ↔ ∃ s, E s ∧ k s = v)
  dz : D zv
  ez : E zv
  rR : Red p R
  rB : Red p B
  rC : Red p C
  sR : ∀ v, Sp p R v ↔ ∃ s, D s ∧ f s = v
  sB : ∀ v, Sp p B v ↔ ∃ e, E e ∧ g (k e) = v
  sC : ∀ v, Sp p C v ↔ (E v ∧ g (k v) = zv) ∧ ∀ w ∈ B, v (ld w) = 0
  len : rs.length = R.length
  src : ∀ q (h : q < R.length) (h' : q < rs.length), ∃ s, D s ∧ f s = R[q] ∧ RestE p B (g s) B.length rs[q]
namespace Drv
variable {p : Int} {f g k : V → V} {D E : V → Prop} {R B C rs : List V}
theorem hp0 (h : Drv p f g k D E R B C rs) : 0 < p := by have := h.hp; omega
theorem kg (h : Drv p f g k D E R B C rs) {s : V} (hs : D s) : k (g s) = zv := (h.gk _ (h.ge hs)).2 ⟨s, hs, rfl⟩
theorem fk (h : Drv p f g k D E R B C rs) {e : V} (he : E e) : f (k e) = zv := (h.kf _ (h.kd he)).2 ⟨e, he, rfl⟩
theorem eB (h : Drv p f g k D E R B C rs) {b : V} (hb : Sp p B b) : E b ∧ k b = zv := by
  obtain ⟨e, he, rfl⟩ := (h.sB b).1 hb
  exact ⟨h.ge (h.kd he), h.kg (h.kd he)⟩
theorem dR (h : Drv p f g k D E R B C rs) {v : V} (hv : Sp p R v) : D v := by
  obtain ⟨s, hs, rfl⟩ := (h.sR v).1 hv
  exact h.fd hs
/-- Sources of one vector have differences of differentials. -/
theorem two (h : Drv p f g k D E R B C rs) {s t : V} (hs : D s) (ht : D t) (e : f s = f t) : Sp p B (add p (g s) (-1) (g t)) := by
  have h1 : f (add p s (-1) t) = zv := by rw [h.lf.add, e, sub_self]
  obtain ⟨x, hx, hk⟩ := (h.kf _ (h.dadd (-1) hs ht)).1 h1
  exact (h.sB _).2 ⟨x, hx, by rw [hk, h.lg.add]⟩
theorem one (h : Drv p f g k D E R B C rs) {c d : V} (hc : Sp p C c) (hd : Sp p C d) (hs : Sp p B (add p c (-1) d)) : c = d := by
  refine eq_of_add (Sp.md h.hp0 hc) (Sp.md h.hp0 hd) (h.rB.zero_of h.hp0 hs (fun w hw => ?_))
  simp [add, ((h.sC c).1 hc).2 w hw, ((h.sC d).1 hd).2 w hw]
theorem zeroB (h : Drv p f g k D E R B C rs) {c : V} (hc : Sp p C c) (hs : Sp p B c) : c = zv := h.rB.zero_of h.hp0 hs ((h.sC c).1 hc).2
/-- What is made of a source, less a differential, is a class. -/
theorem cls (h : Drv p f g k D E R B C rs) {s b v : V} (hs : D s) (hb : Sp p B b) (e : v = add p (g s) 1 b) (h0 : ∀ w ∈ B, v (ld w) = 0) : Sp p C v ∧ k v = zv := by
  have h1 := h.eB hb
  have h2 : k v = zv := by rw [e, h.lk.add, h.kg hs, h1.2]; exact add_zv (zv_md h.hp0) 1
  refine ⟨(h.sC v).2 ⟨⟨?_, by rw [h2, h.lg.zv]⟩, h0⟩, h2⟩
  rw [e]
  exact h.eadd 1 (h.ge hs) h1.1
theorem part (h : Drv p f g k D E R B C rs) (x : V) : ∀ n, n ≤ R.length → ∃ s, D s ∧ f s = img p n (rowsV R) x ∧ ∃ b, Sp p B b ∧ img p n (rowsV rs) x = add p (g s) 1 b ∧ ∀ w ∈ B, img p n (rowsV rs) x (ld w) = 0
  | 0, _ => ⟨zv, h.dz, by rw [img_zero, h.lf.zv], zv, .zero, by rw [img_zero, h.lg.zv, add_zv (zv_md h.hp0)], fun w _ => by rw [img_zero]; rfl⟩
  | n + 1, hn => by
    obtain ⟨s, h1, h2, b, h3, h4, h5⟩ := h.part x n (by omega)
    have hq : n < R.length := by omega
    have hq' : n < rs.length := by rw [h.len]; exact hq
    obtain ⟨t, k1, k2, k3⟩ := h.src n hq hq'
    obtain ⟨c, hc, e⟩ := k3.by'
    refine ⟨add p s (x n) t, h.dadd _ h1 k1, by rw [h.lf.add, h2, k2, img_succ, rowsV_at hq], add p b (x n) c, Sp.add _ (Sp.md h.hp0 h3) h3 hc, ?_, fun w hw => ?_⟩
    · rw [img_succ, rowsV_at hq', h4, e, h.lg.add, add_four]
    · have h6 := k3.rest.off w (by rw [List.take_length]; exact hw)
      rw [img_succ, rowsV_at hq']
      simp [add, h5 w hw, h6]
theorem full (h : Drv p f g k D E R B C rs) (x : V) : ∃ s, D s ∧ f s = img p R.length (rowsV R) x ∧ (∃ b, Sp p B b ∧ img p R.length (rowsV rs) x = add p (g s) 1 b) ∧ Sp p C (img p R.length (rowsV rs) x) := by
  obtain ⟨s, h1, h2, b, h3, h4, h5⟩ := h.part x R.length (Nat.le_refl _)
  exact ⟨s, h1, h2, ⟨b, h3, h4⟩, (h.cls h1 h3 h4 h5).1⟩
theorem jimg (h : Drv p f g k D E R B C rs) (x : V) : img p R.length (rowsV (rs.map (crd C))) x = crd C (img p R.length (rowsV rs) x) := (crd_lin p C).img rs x R.length (by rw [h.len]; exact Nat.le_refl _)
/-- What the first map makes in numbers is what the second one makes 0 of. -/
theorem ex1 (h : Drv p f g k D E R B C rs) (x : V) : Sp p (R.map fun v => crd R (f v)) x ↔ Md p x ∧ Wd R.length x ∧ img p R.length (rowsV (rs.map (crd C))) x = zv := by
  have e : (R.map fun v => crd R (f v)) = (R.map f).map (crd R) := by rw [List.map_map]; rfl
  rw [h.jimg]
  obtain ⟨s, h1, h2, ⟨b, h3, h4⟩, h5⟩ := h.full x
  constructor
  · intro hx
    rw [e] at hx
    obtain ⟨v, hv, rfl⟩ := crd_of hx
    obtain ⟨r, hr, rfl⟩ := h.lf.of hv
    have hrD := h.dR hr
    have hvR : Sp p R (f r) := (h.sR _).2 ⟨r, hrD, rfl⟩
    refine ⟨crd_md h.hp0 R (Sp.md h.hp0 hvR), crd_wd R _, ?_⟩
    rw [img_crd h.hp h.rR hvR] at h2
    have h6 := h.two h1 hrD h2
    have h7 : g r = zv := (h.fg r hrD).2 ((h.sR r).1 hr)
    rw [h7, add_zv (h.emd (h.ge h1))] at h6
    have h8 : Sp p B (img p R.length (rowsV rs) (crd R (f r))) := by rw [h4]; exact Sp.add 1 (Sp.md h.hp0 h6) h6 h3
    rw [h.zeroB h5 h8, crd_zv]
  · rintro ⟨hm, hw, hz⟩
    have h6 := crd_none h.hp0 h.rC h5 hz
    rw [h6] at h4
    have h7 : g s = add p zv (-1) b := by rw [h4, add_back (h.emd (h.ge h1))]
    have h8 : Sp p B (g s) := by rw [h7]; exact Sp.add (-1) (zv_md h.hp0) .zero h3
    obtain ⟨y, hy, hgy⟩ := (h.sB _).1 h8
    have hky := h.kd hy
    obtain ⟨t, ht, hft⟩ := (h.fg _ (h.dadd (-1) h1 hky)).1 (by rw [h.lg.add, hgy, sub_self])
    have h9 : img p R.length (rowsV R) x = f (f t) := by rw [hft, h.lf.add, h.fk hy, add_zv (h.dmd (h.fd h1)), h2]
    have h10 : Sp p R (f t) := (h.sR _).2 ⟨t, ht, rfl⟩
    rw [e, ← crd_img h.hp h.rR hm hw, h9]
    exact crd_sp (h.lf.sp h10)
theorem ex2 (h : Drv p f g k D E R B C rs) (y : V) : Sp p (rs.map (crd C)) y ↔ Md p y ∧ Wd C.length y ∧ img p C.length (rowsV (C.map fun c => crd R (k c))) y = zv := by
  have hk : img p C.length (rowsV (C.map fun c => crd R (k c))) y = crd R (k (img p C.length (rowsV C) y)) := (h.lk.comp (crd_lin p R)).img C y C.length (Nat.le_refl _)
  have hrs : ∀ u ∈ rs, Sp p C u ∧ k u = zv := fun u hu => by
    obtain ⟨q, hq, rfl⟩ := List.getElem_of_mem hu
    obtain ⟨s, k1, k2, k3⟩ := h.src q (by rw [← h.len]; exact hq) hq
    obtain ⟨c, hc, e⟩ := k3.by'
    exact h.cls k1 hc e (fun w hw => k3.rest.off w (by rw [List.take_length]; exact hw))
  rw [hk]
  constructor
  · intro hy
    obtain ⟨v, hv, rfl⟩ := crd_of hy
    have hvC : Sp p C v := Sp.trans h.hp0 (fun u hu => (hrs u hu).1) hv
    refine ⟨crd_md h.hp0 C (Sp.md h.hp0 hvC), crd_wd C _, ?_⟩
    rw [img_crd h.hp h.rC hvC, h.lk.none (fun u hu => (hrs u hu).2) h.hp0 hv, crd_zv]
  · rintro ⟨hm, hw, hz⟩
    have hc := img_sp (p := p) (E := C) (rows := rowsV C) y (a := C.length) (fun i hi => rowsV_mem hi)
    have hcC := (h.sC _).1 hc
    have hkR : Sp p R (k (img p C.length (rowsV C) y)) := (h.sR _).2 ((h.fg _ (h.kd hcC.1.1)).1 hcC.1.2)
    have hk0 := crd_none h.hp0 h.rR hkR hz
    obtain ⟨s, hs, hgs⟩ := (h.gk _ hcC.1.1).1 hk0
    have hvR : Sp p R (f s) := (h.sR _).2 ⟨s, hs, rfl⟩
    obtain ⟨t, h1, h2, ⟨b, h3, h4⟩, h5⟩ := h.full (crd R (f s))
    rw [img_crd h.hp h.rR hvR] at h2
    have h6 := h.two hs h1 h2.symm
    have h7 : img p C.length (rowsV C) y = img p R.length (rowsV rs) (crd R (f s)) := by
      refine h.one hc h5 ?_
      rw [h4, ← hgs]
      have h8 : add p (g s) (-1) (add p (g t) 1 b) = add p (add p (g s) (-1) (g t)) (-1) b := by rw [add_add, Int.mul_one]
      rw [h8]
      exact Sp.add (-1) (Sp.md h.hp0 h6) h6 h3
    have h9 : Sp p rs (img p R.length (rowsV rs) (crd R (f s))) := img_sp _ (fun i hi => rowsV_mem (by rw [h.len]; exact hi))
    rw [← crd_img h.hp h.rC hm hw, h7]
    exact crd_sp h9
theorem ex3 (h : Drv p f g k D E R B C rs) (hrest : ∀ v, Md p v → ∃ r, RestE p B v B.length r) (x : V) : Sp p (C.map fun c => crd R (k c)) x ↔ Md p x ∧ Wd R.length x ∧ img p R.length (rowsV (R.map fun v => crd R (f v))) x = zv := by
  have e : (C.map fun c => crd R (k c)) = (C.map k).map (crd R) := by rw [List.map_map]; rfl
  have hk : img p R.length (rowsV (R.map fun v => crd R (f v))) x = crd R (f (img p R.length (rowsV R) x)) := (h.lf.comp (crd_lin p R)).img R x R.length (Nat.le_refl _)
  rw [hk]
  constructor
  · intro hx
    rw [e] at hx
    obtain ⟨v, hv, rfl⟩ := crd_of hx
    obtain ⟨c, hc, rfl⟩ := h.lk.of hv
    have hcC := (h.sC _).1 hc
    have hvR : Sp p R (k c) := (h.sR _).2 ((h.fg _ (h.kd hcC.1.1)).1 hcC.1.2)
    refine ⟨crd_md h.hp0 R (Sp.md h.hp0 hvR), crd_wd R _, ?_⟩
    rw [img_crd h.hp h.rR hvR, h.fk hcC.1.1, crd_zv]
  · rintro ⟨hm, hw, hz⟩
    have hv := img_sp (p := p) (E := R) (rows := rowsV R) x (a := R.length) (fun i hi => rowsV_mem hi)
    have hvD := h.dR hv
    have hfR : Sp p R (f (img p R.length (rowsV R) x)) := (h.sR _).2 ⟨_, hvD, rfl⟩
    have hf0 := crd_none h.hp0 h.rR hfR hz
    obtain ⟨y, hy, hky⟩ := (h.kf _ hvD).1 hf0
    have hg0 : g (img p R.length (rowsV R) x) = zv := (h.fg _ hvD).2 ((h.sR _).1 hv)
    obtain ⟨c, hc⟩ := hrest y (h.emd hy)
    obtain ⟨b, hb, hcb⟩ := hc.by'
    have hkb := h.eB hb
    have hkc : k c = img p R.length (rowsV R) x := by rw [hcb, h.lk.add, hkb.2, add_zv (h.dmd (h.kd hy)), hky]
    have hcC : Sp p C c := (h.sC c).2 ⟨⟨by rw [hcb]; exact h.eadd 1 hy hkb.1, by rw [hkc, hg0]⟩, fun w hw => hc.rest.off w (by rw [List.take_length]; exact hw)⟩
    rw [e, ← crd_img h.hp h.rR hm hw, ← hkc]
    exact crd_sp (h.lk.sp hcC)
end Drv
end Go.Proofs.YtckkbojankfdfaaDoor.Lin


namespace Go.Proofs.YtckkbojankfdfaaDoor
open Go.RowKit

/-- A table in blocks of its own. -/
theorem Tb.rw2h {lo hi : Nat} {W : World} {g r c : Nat} {Z : Nat → Nat → Int} (h : Tb W g r c Z) (hl : lo ≤ g) (hh : g + 1 + r ≤ hi) (hr : r ≤ 1048576) (hc : c ≤ 1048576) : Rw2 lo hi W (.slice (some ⟨g, 0, none⟩) r r) (tableOf r c Z) := by
  have hlt := hh
  refine ⟨?_, ?_⟩
  · by_cases h0 : r = 0
    · subst h0
      exact Or.inl ⟨rfl, _, _, rfl⟩
    · refine Or.inr ⟨g, 0, r, by simp [tableOf], hl, by omega, by simp [tableOf]; omega, fun k hk => ?_, fun k _ => h.top.frozen _⟩
      have hk' : k < r := by simpa [tableOf] using hk
      refine ⟨_, by rw [Nat.zero_add]; exact h.top.cell hk', ?_⟩
      simp only [tableOf, List.getElem_map, List.getElem_range]
      by_cases hc : c = 0
      · subst hc
        exact Or.inl ⟨rfl, _, _, rfl⟩
      · refine Or.inr ⟨g + 1 + k, 0, c, by simp, by omega, by omega, by simp; omega, fun i hi => ?_, fun i _ => (h.rows k hk').frozen _⟩
        have hi' : i < c := by simpa using hi
        refine ⟨_, by rw [Nat.zero_add]; exact (h.rows k hk').cell hi', ?_⟩
        simp only [IsI, List.getElem_map, List.getElem_range]
  · refine ⟨flat (fun j => if c = 0 then [] else [(g + 1 + j, 0, c)]) r, ⟨some ⟨g, 0, none⟩, r, r, fun j => .slice (some ⟨g + 1 + j, 0, none⟩) c c, fun j => if c = 0 then [] else [(g + 1 + j, 0, c)], rfl, hr, rfl, fun j hj => ?_, fun _ => ⟨g, 0, rfl, hl, by omega, fun j hj => by rw [Nat.zero_add]; exact h.top.cell hj⟩⟩, nums_flat (fun j hj => ?_), ?_, ?_⟩
    · by_cases hc0 : c = 0
      · subst hc0
        exact Or.inl ⟨by simp, _, _, rfl⟩
      · exact Or.inr ⟨g + 1 + j, 0, c, c, if_neg hc0, by omega, hc, by omega, by omega, rfl⟩
    · intro x hx
      by_cases hc0 : c = 0
      · rw [if_pos hc0] at hx; simp at hx
      · rw [if_neg hc0] at hx
        obtain rfl : x = (g + 1 + j, 0, c) := by simpa using hx
        exact ⟨by show lo ≤ g + 1 + j; omega, by show g + 1 + j < _; omega, fun i hi => ⟨⟨Z j i, by rw [Nat.zero_add]; exact (h.rows j hj).cell hi⟩, (h.rows j hj).frozen _⟩⟩
    · refine (disj_spans (b := fun j => g + 1 + j) (fun j _ => by omega) (fun j _ x hx => ?_) (fun j _ => ?_)).1
      · by_cases hc0 : c = 0
        · rw [if_pos hc0] at hx; simp at hx
        · rw [if_neg hc0] at hx
          obtain rfl : x = (g + 1 + j, 0, c) := by simpa using hx
          exact ⟨Nat.le_refl _, by show g + 1 + j < g + 1 + (j + 1); omega⟩
      · by_cases hc0 : c = 0
        · rw [if_pos hc0]; exact List.Pairwise.nil
        · rw [if_neg hc0]; exact List.pairwise_singleton _ _
    · have := size_spans (J := fun j => if c = 0 then [] else [(g + 1 + j, 0, c)]) (n := r) (B := c) (fun j _ => by
        by_cases hc0 : c = 0
        · simp [hc0, ivSize]
        · simp [hc0, ivSize])
      have h2 : c * r ≤ 1048576 * 1048576 := Nat.mul_le_mul hc hr
      omega
theorem Fill3.parts {wr : World} {g n : Nat} {f : Nat → Value} {b : Nat → Nat} {ts : List (List (List Int))} (h : Fill3 wr g n n f b ts) (hn : n = ts.length) (hs : n ≤ 1048576) : W3 g wr.heap.size wr (.slice (some ⟨g, 0, none⟩) n n) ts ∧ ∃ J, S3 g wr.heap.size wr (.slice (some ⟨g, 0, none⟩) n n) J ∧ Nums (b 0) wr.heap.size wr J ∧ Disj J ∧ ivSize J ≤ 1152921504606846976 := by
  have hlt := h.row.lt
  have h1 : ∀ j, j < n → Rw2 g wr.heap.size wr (f j) (ts.getD j []) := fun j hj => by
    rw [getD_of_lt _ (by omega)]
    have a1 := inc_le h.inc (j + 1) hj
    have a2 := inc_le (b := b) (k := j) (fun i hi => h.inc i (by omega)) 0 (Nat.zero_le _)
    have a3 := h.lo
    exact (h.at' j (by omega) hj).wider (by omega) (Nat.le_trans a1 h.hi)
  refine ⟨?_, ?_⟩
  · by_cases h0 : n = 0
    · exact Or.inl ⟨List.eq_nil_of_length_eq_zero (by omega), _, _, by rw [h0]⟩
    · refine Or.inr ⟨g, 0, n, by rw [hn], Nat.le_refl _, hlt, by omega, fun k hk => ?_, fun k _ => h.row.frozen _⟩
      refine ⟨f k, by rw [Nat.zero_add]; exact h.row.cell (by omega), ?_⟩
      have := (h1 k (by omega)).1
      rwa [getD_of_lt _ hk] at this
  · have hex : ∀ j, j < n → ∃ I, S2 (b j) (b (j + 1)) wr (f j) I ∧ Nums (b j) (b (j + 1)) wr I ∧ Disj I ∧ ivSize I ≤ 1099511627776 := fun j hj => (h.at' j (by omega) hj).2
    obtain ⟨J, hJ⟩ := choose2 hex
    have hw : ∀ j, j < n → g ≤ b j ∧ b (j + 1) ≤ wr.heap.size := fun j hj => by
      have a1 := inc_le h.inc (j + 1) hj
      have a2 := inc_le (b := b) (k := j) (fun i hi => h.inc i (by omega)) 0 (Nat.zero_le _)
      have a3 := h.lo
      have a4 := h.hi
      omega
    refine ⟨flat J n, ⟨some ⟨g, 0, none⟩, n, n, f, J, rfl, hs, rfl, fun j hj => (hJ j hj).1.wider (hw j hj).1 (hw j hj).2, fun _ => ⟨g, 0, rfl, Nat.le_refl _, hlt, fun j hj => by rw [Nat.zero_add]; exact h.row.cell hj⟩⟩, nums_flat (fun j hj => (hJ j hj).2.1.wider (inc_le (b := b) (k := j) (fun i hi => h.inc i (by omega)) 0 (Nat.zero_le _)) (hw j hj).2), (disj_spans h.inc (fun j hj x hx => ⟨((hJ j hj).2.1 x hx).1, ((hJ j hj).2.1 x hx).2.1⟩) (fun j hj => (hJ j hj).2.2.1)).1, ?_⟩
    have h2 := size_spans (J := J) (n := n) (B := 1099511627776) (fun j hj => (hJ j hj).2.2.2)
    have h3 : 1099511627776 * n ≤ 1099511627776 * 1048576 := Nat.mul_le_mul (Nat.le_refl _) hs
    omega


/-- A complex that a function answers: numbers in blocks from lo up to hi, apart from each other. -/
def RcW (lo hi : Nat) (W : World) (dv mv : Value) (ds : List Int) (ms : List (List (List Int))) : Prop :=
  CxW lo hi W dv mv ds ms ∧ ∃ I J, S1 lo hi W dv I ∧ S3 lo hi W mv J ∧ Nums lo hi W I ∧ Nums lo hi W J ∧ Disj J ∧ (∀ x ∈ I, ∀ y ∈ J, Apart x y) ∧ ivSize I ≤ 1048576 ∧ ivSize J ≤ 1152921504606846976
theorem RcW.same {lo hi : Nat} {W W' : World} {dv mv : Value} {ds : List Int} {ms : List (List (List Int))} (h : RcW lo hi W dv mv ds ms) (s : Same lo hi W W') : RcW lo hi W' dv mv ds ms := by
  obtain ⟨h0, I, J, h1, h2, h3, h4, h5⟩ := h
  exact ⟨h0.same s, I, J, h1, h2.same s, h3.same s, h4.same s, h5⟩
theorem RcW.cx {lo hi : Nat} {W : World} {dv mv : Value} {ds : List Int} {ms : List (List (List Int))} (h : RcW lo hi W dv mv ds ms) : Cx 0 W dv mv ds ms := h.1.cx.lower (Nat.zero_le _)
theorem RcW.wider {lo hi lo' hi' : Nat} {W : World} {dv mv : Value} {ds : List Int} {ms : List (List (List Int))} (h : RcW lo hi W dv mv ds ms) (h1 : lo' ≤ lo) (h2 : hi ≤ hi') : RcW lo' hi' W dv mv ds ms := by
  obtain ⟨h0, I, J, a, b, c, d, e⟩ := h
  exact ⟨⟨h0.dims.wider h1 h2, h0.maps.wider h1 h2⟩, I, J, a.wider h1 h2, b.wider h1 h2, c.wider h1 h2, d.wider h1 h2, e⟩
theorem RcW.nil (lo hi : Nat) (W : World) : RcW lo hi W (.slice none 0 0) (.slice none 0 0) [] [] :=
  ⟨⟨Or.inl ⟨rfl, _, _, rfl⟩, Or.inl ⟨rfl, _, _, rfl⟩⟩, [], [], Or.inl ⟨rfl, _, _, rfl⟩, ⟨none, 0, 0, fun _ => .slice none 0 0, fun _ => [], rfl, by omega, rfl, fun _ h => absurd h (Nat.not_lt_zero _), fun h => absurd h (Nat.lt_irrefl _)⟩, fun _ h => absurd h (by simp), fun _ h => absurd h (by simp), List.Pairwise.nil, fun _ h => absurd h (by simp), by simp [ivSize], by simp [ivSize]⟩
/-- Prime, dimensions and tables of a complex. -/
abbrev Co := Int × List Int × List (List (List Int))
def RwC (lo hi : Nat) (W : World) (u : Value) (o : Co) : Prop := ∃ ad cd am cm, u = .agg #[.int .i64 o.1, .slice ad o.2.1.length cd, .slice am o.2.2.length cm] ∧ RcW lo hi W (.slice ad o.2.1.length cd) (.slice am o.2.2.length cm) o.2.1 o.2.2
def RsC (W : World) (u : Value) (o : Co) : Prop := ∃ ad cd am cm, u = .agg #[.int .i64 o.1, .slice ad o.2.1.length cd, .slice am o.2.2.length cm] ∧ Cx 0 W (.slice ad o.2.1.length cd) (.slice am o.2.2.length cm) o.2.1 o.2.2
theorem RwC.nil (lo hi : Nat) (W : World) : RwC lo hi W (.agg #[.int .i64 0, .slice none 0 0, .slice none 0 0]) (0, [], []) := ⟨none, 0, none, 0, rfl, RcW.nil _ _ _⟩
theorem RsC.nil (W : World) : RsC W (.agg #[.int .i64 0, .slice none 0 0, .slice none 0 0]) (0, [], []) := ⟨none, 0, none, 0, rfl, ⟨Or.inl ⟨rfl, _, _, rfl⟩, Or.inl ⟨rfl, _, _, rfl⟩⟩⟩
/-- The same with the marks from 1 on in it. -/
def HcW (lo hi : Nat) (W : World) (dv mv : Value) (m : Int) : Prop :=
  ∃ I J, S1 lo hi W dv I ∧ S3 lo hi W mv J ∧ Marked W I 1 ∧ Marked W J (1 + (ivSize I : Int)) ∧ (∀ x ∈ I, lo ≤ x.1 ∧ x.1 < hi) ∧ (∀ x ∈ J, lo ≤ x.1 ∧ x.1 < hi) ∧ m = 1 + (ivSize I : Int) + (ivSize J : Int) ∧ ivSize I ≤ 1048576 ∧ ivSize J ≤ 1152921504606846976
theorem HcW.same {lo hi : Nat} {W W' : World} {dv mv : Value} {m : Int} (h : HcW lo hi W dv mv m) (s : Same lo hi W W') : HcW lo hi W' dv mv m := by
  obtain ⟨I, J, h1, h2, h3, h4, h5, h6, h7⟩ := h
  exact ⟨I, J, h1, h2.same s, h3.same h5 s, h4.same h6 s, h5, h6, h7⟩
/-- The box of a complex, its three cells alone. -/
structure Bc (wr : World) (b : Nat) (p : Int) (dv mv : Value) : Prop where
  c0 : wr.cell? ⟨b, 0, none⟩ = some (.int .i64 p)
  c1 : wr.cell? ⟨b, 1, none⟩ = some dv
  c2 : wr.cell? ⟨b, 2, none⟩ = some mv
  lt : b < wr.heap.size
theorem Bc.start (w : World) (p : Int) (dv mv : Value) (t : TypeId) : Bc (w.alloc (.cells #[.int .i64 p, dv, mv] t)) w.heap.size p dv mv := ⟨by simp, by simp, by simp, by simp⟩
theorem Bc.next {wr w' : World} {b : Nat} {p : Int} {dv mv : Value} (h : Bc wr b p dv mv) (hb : Below wr.heap.size wr w') : Bc w' b p dv mv :=
  ⟨later hb (Nat.le_refl _) h.c0, later hb (Nat.le_refl _) h.c1, later hb (Nat.le_refl _) h.c2, Nat.lt_of_lt_of_le h.lt hb.size⟩
theorem Bc.only {wr w' : World} {b lo hi : Nat} {p : Int} {dv mv : Value} (h : Bc wr b p dv mv) (ho : Only lo hi wr w') (hb : b < lo ∨ hi ≤ b) : Bc w' b p dv mv :=
  ⟨(ho.cell hb).trans h.c0, (ho.cell hb).trans h.c1, (ho.cell hb).trans h.c2, by have := ho.size; have := h.lt; omega⟩

/-- A row of numbers in a block of its own. -/
theorem row_rc {W : World} {g n lo : Nat} {f : Nat → Value} {xs : List Int} (h : W.rowIs g 2 n f) (hl : xs.length = n) (hf : ∀ i (h : i < xs.length), f i = .int .i64 xs[i]) (hn : n ≤ 1048576) (hb : lo ≤ g) :
    W1 lo W.heap.size W (.slice (some ⟨g, 0, none⟩) n n) xs ∧ ∃ I, S1 lo W.heap.size W (.slice (some ⟨g, 0, none⟩) n n) I ∧ Nums lo W.heap.size W I ∧ (∀ x ∈ I, x.1 = g) ∧ ivSize I ≤ 1048576 := by
  have hlt := h.lt
  by_cases h0 : n = 0
  · subst h0
    exact ⟨Or.inl ⟨List.eq_nil_of_length_eq_zero hl, _, _, rfl⟩, [], Or.inl ⟨rfl, _, _, rfl⟩, fun _ hx => absurd hx (by simp), fun _ hx => absurd hx (by simp), by simp [ivSize]⟩
  · refine ⟨Or.inr ⟨g, 0, n, by rw [hl], hb, hlt, by omega, fun k hk => ⟨f k, by rw [Nat.zero_add]; exact h.cell (by omega), hf k hk⟩, fun k _ => h.frozen _⟩, [(g, 0, n)], Or.inr ⟨g, 0, n, n, rfl, by omega, hn, hb, hlt, rfl⟩, fun x hx => ?_, fun x hx => ?_, by simpa [ivSize] using hn⟩
    · obtain rfl : x = (g, 0, n) := by simpa using hx
      exact ⟨hb, hlt, fun i hi => ⟨⟨xs[i]'(by rw [hl]; exact hi), by rw [Nat.zero_add, ← hf i (by rw [hl]; exact hi)]; exact h.cell hi⟩, h.frozen _⟩⟩
    · obtain rfl : x = (g, 0, n) := by simpa using hx
      rfl
end Go.Proofs.YtckkbojankfdfaaDoor


namespace Go.Proofs.YtckkbojankfdfaaDoor
open Go.RowKit

/-- The numbers of a class, in a row of their own. -/
def ClsR (p : Int) (B Wl : List Lin.V) (v : Lin.V) (w : World) (e : Ending) (w' : World) : Prop :=
  ∃ (u : Value) (x : Lin.V), e = .returned u ∧ Rw1 w.heap.size w'.heap.size w' u (leadRow Wl x) ∧ Below w.heap.size w w' ∧ Lin.RestE p B v B.length x

set_option maxHeartbeats 6400000 in
set_option maxRecDepth 100000 in
theorem classNumbers_any (p : Int) (v : Lin.V) (sb sw : Value) (B Wl : List Lin.V) (w : World) (hp : IsP p) (hm : Lin.Md p v) (hw : Lin.Wd 40 v) (hB : Vs 0 w sb B) (hBr : Lin.Red p B) (hBw : ∀ u ∈ B, Lin.Wd 40 u) (hBl : B.length ≤ 1048576) (hW : Vs 0 w sw Wl) (hWr : Lin.Red p Wl) (hWw : ∀ u ∈ Wl, Lin.Wd 40 u) (hWl : Wl.length ≤ 40) :
    Calls Tryd.prog 71 #[.int .i64 p, vv v, sb, sw] w (ClsR p B Wl v w) := by
  have HP := Lib.hid hp
  have HM := Lib.hid hm
  have HVW := Lib.hid hw
  have HSB := Lib.hid hB
  have HSW := Lib.hid hW
  have HBR := Lib.hid hBr
  have HBW := Lib.hid hBw
  have HWR := Lib.hid hWr
  have HWW := Lib.hid hWw
  have HIV := Lib.hid (Tryd.infoVl v)
  obtain ⟨aw, cw, rfl⟩ := Vs.shape hW
  have hmk := run_make_row' (P := Tryd.prog) 33 2 (.int .i64 0) 8 Tryd.underlying33 Tryd.infoI rfl .i64 .i64 Wl.length (by omega) (by omega)
  clear hp hm hw hB hBr hBw hW hWr hWw
  unfold vv
  go_enter Tryd.func71, Tryd.ntmps71
  go_upto_region 1 with fail
  refine forget_wp (fun W => Hid (At W w.heap.size 0 v ∧ Below w.heap.size w W)) (Lib.hid ⟨at_alloc w v _, below_alloc1 _ _⟩) ?_
  intro W3 HS3
  have HREST := Lib.hid (restModuloE_any p v sb B W3 HP.out HM.out HVW.out (HSB.out.below HS3.out.2) HBR.out HBW.out hBl)
  go_wp2_with (with_reducible refine wpList_load_mid rfl 82 (.tmp 5) rfl w.heap.size 0 rfl (vl v) _ HS3.out.1.range Tryd.underlyingV rfl HIV.out ?_)
  refine HREST.out.mono ?_
  rintro e W4 ⟨x, rfl, hb4, hr4, hxw⟩
  have HR4 := Lib.hid hr4
  have HXW := Lib.hid hxw
  have HB4 := Lib.hid (HS3.out.2.trans (hb4.mono HS3.out.2.size))
  have HIX := Lib.hid (Tryd.infoVl x)
  have HIX2 : Hid ((Tryd.prog.info? 82).map (·.size) = some (vl x).toArray.size) := Lib.hid (by have := HIX.out; simpa using this)
  unfold vv
  clear hb4 hr4 hxw HREST HS3
  go_upto_region 2 with (first | (with_reducible refine wpList_allocV rfl (some 9) rfl rfl ?_; intro W5 hn5; have HN5 := Lib.hid hn5; have HT5 : Hid (W5.there W4.heap.size 0 (vl x).toArray.size) := (Lib.hid (by have := hn5.there; simpa [vl_length] using this)); clear hn5) | (with_reducible refine wpList_store_mid rfl 82 (.tmp 9) (.tmp 16) rfl W4.heap.size 0 (vl x).toArray rfl rfl HT5.out HIX2.out (vl_all _) ?_))
  refine forget_wp (fun W => Hid (At W W4.heap.size 0 x ∧ Below W4.heap.size W4 W)) (Lib.hid ?_) ?_
  · have hp2 := HN5.out.put x
    exact ⟨hp2.2.1, hp2.1⟩
  intro W6 HS6
  clear HN5 HT5 HIX2
  have HB6 := Lib.hid (HB4.out.trans (HS6.out.2.mono HB4.out.size))
  have HX6 : Hid (At W6 W4.heap.size 0 x) := Lib.hid HS6.out.1
  have hs46 : W4.heap.size < W6.heap.size := HS6.out.1.lt
  clear HB4 HS6
  obtain ⟨n, hn⟩ : ∃ n, n = Wl.length := ⟨_, rfl⟩
  have HN := Lib.hid hn
  rw [← hn] at hmk hWl
  rw [← hn]
  clear hn
  obtain ⟨Z, hZ⟩ : ∃ Z : Nat → Int, Z = fun j => x (Lin.ld (Wl.getD j Lin.zv)) := ⟨_, rfl⟩
  have HZ := Lib.hid hZ
  clear hZ
  go_wp2
  clear hmk
  have HROW0 : Hid ((W6.alloc (.cells (madeCells #[.int .i64 0] n) 2)).rowIs W6.heap.size 2 n (fun j => .int .i64 (if j < 0 then Z j else 0))) := Lib.hid ((World.rowIs_made W6 (.int .i64 0) n 2).congr (fun j _ => by simp))
  go_loopw [22] (fun i wr => ∃ k : Nat, k ≤ n ∧ i = .int .i64 k ∧ Hid (Below W6.heap.size W6 wr) ∧ Hid (wr.rowIs W6.heap.size 2 n (fun j => .int .i64 (if j < k then Z j else 0)))) (fun i _ => n - (intOf i).toNat)
  case atStart => exact ⟨0, Nat.zero_le _, rfl, Lib.hid (below_alloc1 _ _), HROW0⟩
  case round =>
    clear HROW0
    obtain ⟨k, hk, rfl, HB, HROW⟩ := hrel
    obtain ⟨wx, hwx⟩ : ∃ wx : World, wx = wr := ⟨_, rfl⟩
    subst hwx
    by_cases hlt : k < n
    · refine Vs.cases ((HSW.out.below HB6.out).below HB.out) (fun _ _ hx _ => absurd hlt (by rw [HN.out, hx]; simp)) (fun b o cap2 hv _ _ hc => ?_)
      obtain ⟨rfl, rfl⟩ : aw = some ⟨b, o, none⟩ ∧ cw = cap2 := by simpa using hv
      have hlt2 : k < Wl.length := by have := HN.out; omega
      obtain ⟨t, ht⟩ : ∃ t, t = Wl[k] := ⟨_, rfl⟩
      have HVT : Hid (At wx b (o + k * 40) t) := Lib.hid (by rw [ht]; exact hc k hlt2)
      have HI2T := Lib.hid (Tryd.infoVl t)
      have HIT : Hid ((Tryd.prog.info? 82).map (·.size) = some (vl t).toArray.size) := Lib.hid (by have := HI2T.out; simpa using this)
      have HTW : Hid (Lin.Wd 40 t) := Lib.hid (by rw [ht]; exact HWW.out _ (List.getElem_mem hlt2))
      have HTN : Hid (t ≠ Lin.zv) := Lib.hid (by rw [ht]; exact HWR.out.ne (List.getElem_mem hlt2))
      obtain ⟨hd40, _, _⟩ := ld_lt HTW.out HTN.out
      obtain ⟨d, hd⟩ : ∃ d, d = Lin.ld t := ⟨_, rfl⟩
      have HD := Lib.hid hd
      rw [← hd] at hd40
      obtain ⟨f, hf⟩ : ∃ f, f = Z k := ⟨_, rfl⟩
      have HF := Lib.hid hf
      have HFD : Hid (f = x d) := Lib.hid (by
        rw [hf, HZ.out, hd, ht]
        show x (Lin.ld (Wl.getD k Lin.zv)) = _
        rw [getD_of_lt _ hlt2])
      have hsy : W6.heap.size < wx.heap.size := HROW.out.lt
      have hkn : (k : Int) < (n : Int) := by omega
      clear hv hc ht hd hf
      go_upto_region 6 with (first | (with_reducible refine wpList_load_mid rfl 82 (.tmp 25) rfl b (o + k * 40) rfl (vl t) _ HVT.out.range Tryd.underlyingV rfl HI2T.out ?_) | (with_reducible refine wpList_allocV rfl (some 12) rfl rfl ?_; intro W7 hn7; have HN7 := Lib.hid hn7; have HT7 : Hid (W7.there wx.heap.size 0 (vl t).toArray.size) := (Lib.hid (by have := hn7.there; simpa [vl_length] using this)); clear hn7) | (with_reducible refine wpList_store_mid rfl 82 (.tmp 12) (.tmp 26) rfl wx.heap.size 0 (vl t).toArray rfl rfl HT7.out HIT.out (vl_all _) ?_))
      refine forget_wp (fun W => Hid (At W wx.heap.size 0 t ∧ Below wx.heap.size wx W)) (Lib.hid ?_) ?_
      · have hp2 := HN7.out.put t
        exact ⟨hp2.2.1, hp2.1⟩
      intro W8 HS8
      clear HN7 HT7 HVT HIT
      have HB8 := Lib.hid (HB.out.trans (HS8.out.2.mono HB.out.size))
      have HR8 : Hid (W8.rowIs W6.heap.size 2 n (fun j => .int .i64 (if j < k then Z j else 0))) := Lib.hid (HROW.out.of_block (HS8.out.2.block _ HROW.out.lt))
      have HX8 : Hid (At W8 W4.heap.size 0 x) := Lib.hid ((HX6.out.later HB.out).later HS8.out.2)
      go_wp2_with (with_reducible refine wpList_load_mid rfl 82 (.tmp 12) rfl wx.heap.size 0 rfl (vl t) _ HS8.out.1.range Tryd.underlyingV rfl HI2T.out ?_)
      refine (leadOf_any t _ HTW.out HTN.out).mono ?_
      rw [← HD.out]
      rintro ee W9 ⟨rfl, hb9⟩
      have HB9 := Lib.hid (HB8.out.trans (hb9.mono HB8.out.size))
      have hr9 : W9.rowIs W6.heap.size 2 n (fun j => .int .i64 (if j < k then Z j else 0)) := HR8.out.of_block (hb9.block _ HR8.out.lt)
      have hxc : W9.cell? ⟨W4.heap.size, d, none⟩ = some (.int .i64 f) := by rw [HFD.out]; have := (HX8.out.later hb9).cell hd40; rwa [Nat.zero_add] at this
      have hcell := hr9.cell hlt
      have hfz := hr9.frozen k
      have HB10 : Hid (Below W6.heap.size W6 (W9.setCell ⟨W6.heap.size, k, none⟩ (.int .i64 f))) := Lib.hid (HB9.out.setCell (Nat.le_refl _) _)
      have HR10 : Hid ((W9.setCell ⟨W6.heap.size, k, none⟩ (.int .i64 f)).rowIs W6.heap.size 2 n (fun j => .int .i64 (if j < k + 1 then Z j else 0))) := Lib.hid ((hr9.set k (.int .i64 f)).congr (fun j _ => by
        by_cases e : j = k
        · subst e; rw [if_pos rfl, if_pos (Nat.lt_succ_self _), HF.out]
        · rw [if_neg e]
          by_cases e2 : j < k
          · rw [if_pos e2, if_pos (by omega)]
          · rw [if_neg e2, if_neg (by omega)]))
      have hd1 : (d : Int) < 40 := by omega
      have hd2 : ¬ (40 : Int) ≤ (d : Int) := by omega
      clear hb9 hr9 HS8 HB8 HR8 HX8 HF HFD
      go_wp2
      go_roundw
      case rel => exact ⟨k + 1, by omega, by go_num, HB10, HR10⟩
      case measure => simp [intOf]; omega
    · have hK : k = n := by omega
      subst hK
      have hlk : ¬ (k : Int) < (k : Int) := by omega
      have hgl := HROW.out.lt
      have hBB := HB6.out.trans (HB.out.mono HB6.out.size)
      have hle : w.heap.size ≤ W6.heap.size := HB6.out.size
      have hlen : (leadRow Wl x).length = k := by simp [leadRow, HN.out]
      have HRW : Hid (Rw1 w.heap.size wx.heap.size wx (.slice (some ⟨W6.heap.size, 0, none⟩) k k) (leadRow Wl x)) := Lib.hid (w1_rw1 (row_rc (xs := leadRow Wl x) (lo := w.heap.size) HROW.out hlen (fun i hi => by
        have hi' : i < k := by omega
        have hi2 : i < Wl.length := by have := HN.out; omega
        simp only [if_pos hi', HZ.out, leadRow, List.getElem_map, getD_of_lt _ hi2]) (by omega) hle).1 (by omega))
      have HBB := Lib.hid hBB
      clear hBB
      go_wp2
      go_ret
      exact ⟨_, x, rfl, HRW.out, HBB.out, HR4.out⟩
end Go.Proofs.YtckkbojankfdfaaDoor


namespace Go.Proofs.YtckkbojankfdfaaDoor
open Go.RowKit

structure Fill2 (wr : World) (g n k : Nat) (f : Nat → Value) (b : Nat → Nat) (ts : List (List Int)) : Prop where
  row : wr.rowIs g 33 n f
  lo : g < b 0
  inc : ∀ j, j < k → b j ≤ b (j + 1)
  hi : b k ≤ wr.heap.size
  at' : ∀ j (h : j < ts.length), j < k → Rw1 (b j) (b (j + 1)) wr (f j) ts[j]
theorem Fill2.start {wr : World} {g n : Nat} {f : Nat → Value} (h : wr.rowIs g 33 n f) (hg : g + 1 ≤ wr.heap.size) (ts : List (List Int)) : Fill2 wr g n 0 f (fun _ => g + 1) ts :=
  ⟨h, Nat.lt_succ_self _, fun _ h => absurd h (Nat.not_lt_zero _), hg, fun _ _ h => absurd h (Nat.not_lt_zero _)⟩
theorem Fill2.next {wr w' : World} {g n k : Nat} {f : Nat → Value} {b : Nat → Nat} {ts : List (List Int)} (h : Fill2 wr g n k f b ts) (hb : Below wr.heap.size wr w') (hm : ∀ j, j < k → b (j + 1) ≤ b k) : Fill2 w' g n k f b ts :=
  ⟨h.row.of_block (hb.block _ h.row.lt), h.lo, h.inc, Nat.le_trans h.hi hb.size, fun j hj hk => (h.at' j hj hk).next hb (Nat.le_trans (hm j hk) h.hi)⟩
theorem Fill2.below {wr w' : World} {g n k : Nat} {f : Nat → Value} {b : Nat → Nat} {ts : List (List Int)} (h : Fill2 wr g n k f b ts) (hb : Below wr.heap.size wr w') : Fill2 w' g n k f b ts := h.next hb (fun j hj => inc_le h.inc (j + 1) hj)
theorem Fill2.out {wr : World} {g n k : Nat} {f : Nat → Value} {b : Nat → Nat} {ts : List (List Int)} (h : Fill2 wr g n k f b ts) {a : Addr} (ha : a.block < g) (v : Value) : Fill2 (wr.setCell a v) g n k f b ts :=
  ⟨h.row.setOther (by omega) v, h.lo, h.inc, by simpa using h.hi, fun j hj hk => (h.at' j hj hk).same (fun x hx _ => Below.heap_setCell wr a v x (by have := h.lo; have := inc_le (b := b) (k := j) (fun i hi => h.inc i (by omega)) 0 (Nat.zero_le _); omega))⟩
theorem Fill2.step {wr w1 : World} {g n k : Nat} {f : Nat → Value} {b : Nat → Nat} {ts : List (List Int)} {u : Value} (h : Fill2 wr g n k f b ts) (hb : Below wr.heap.size wr w1) (hk : k < ts.length) (hu : Rw1 wr.heap.size w1.heap.size w1 u ts[k]) :
    Fill2 (w1.setCell ⟨g, k, none⟩ u) g n (k + 1) (fun j => if j = k then u else f j) (fun j => if j < k then b j else if j = k then wr.heap.size else w1.heap.size) ts := by
  have hlt := h.row.lt
  have hr : w1.rowIs g 33 n f := h.row.of_block (hb.block _ hlt)
  have hsm : ∀ lo hi, g < lo → Same lo hi w1 (w1.setCell ⟨g, k, none⟩ u) := fun lo hi hl => Same.set u (Or.inl hl)
  refine ⟨hr.set k u, ?_, fun j hj => ?_, ?_, fun j hj hjk => ?_⟩
  · by_cases e : 0 < k
    · simp only [if_pos e]; exact h.lo
    · simp only [if_neg e, if_pos (show 0 = k by omega)]; exact hlt
  · by_cases e : j < k
    · simp only [if_pos e]
      by_cases e2 : j + 1 < k
      · simp only [if_pos e2]; exact h.inc j e
      · simp only [if_neg e2, if_pos (show j + 1 = k by omega)]
        have := inc_le h.inc j (by omega)
        have := h.hi
        omega
    · simp only [if_neg e, if_pos (show j = k by omega), if_neg (show ¬ j + 1 < k by omega), if_neg (show ¬ j + 1 = k by omega)]
      exact hb.size
  · simp only [if_neg (show ¬ k + 1 < k by omega), if_neg (show ¬ k + 1 = k by omega)]
    simp
  · by_cases e : j = k
    · subst e
      simp only [if_neg (show ¬ j < j by omega), if_neg (show ¬ j + 1 < j by omega), if_neg (show ¬ j + 1 = j by omega), if_true]
      exact hu.same (hsm _ _ hlt)
    · have hj' : j < k := by omega
      have hh := inc_le h.inc (j + 1) hj'
      have h0 := inc_le (b := b) (k := j) (fun i hi => h.inc i (by omega)) 0 (Nat.zero_le _)
      have hl0 := h.lo
      have ht := ((h.at' j hj hj').next hb (Nat.le_trans hh h.hi)).same (hsm _ _ (by omega))
      simp only [if_neg e, if_pos hj']
      by_cases e2 : j + 1 < k
      · simp only [if_pos e2]; exact ht
      · simp only [if_neg e2, if_pos (show j + 1 = k by omega)]
        exact ht.wider (Nat.le_refl _) (Nat.le_trans hh h.hi)
theorem Fill2.rw2 {wr : World} {g n : Nat} {f : Nat → Value} {b : Nat → Nat} {ts : List (List Int)} (h : Fill2 wr g n n f b ts) (hn : n = ts.length) (hs : n ≤ 1048576) : Rw2 g wr.heap.size wr (.slice (some ⟨g, 0, none⟩) n n) ts := by
  have hlt := h.row.lt
  have h1 : ∀ j, j < n → Rw1 g wr.heap.size wr (f j) (ts.getD j []) := fun j hj => by
    rw [getD_of_lt _ (by omega)]
    have a1 := inc_le h.inc (j + 1) hj
    have a2 := inc_le (b := b) (k := j) (fun i hi => h.inc i (by omega)) 0 (Nat.zero_le _)
    have a3 := h.lo
    exact (h.at' j (by omega) hj).wider (by omega) (Nat.le_trans a1 h.hi)
  refine ⟨?_, ?_⟩
  · by_cases h0 : n = 0
    · exact Or.inl ⟨List.eq_nil_of_length_eq_zero (by omega), _, _, by rw [h0]⟩
    · refine Or.inr ⟨g, 0, n, by rw [hn], Nat.le_refl _, hlt, by omega, fun k hk => ?_, fun k _ => h.row.frozen _⟩
      refine ⟨f k, by rw [Nat.zero_add]; exact h.row.cell (by omega), ?_⟩
      have := (h1 k (by omega)).1
      rwa [getD_of_lt _ hk] at this
  · have hex : ∀ j, j < n → ∃ I, S1 (b j) (b (j + 1)) wr (f j) I ∧ Nums (b j) (b (j + 1)) wr I ∧ Disj I ∧ ivSize I ≤ 1048576 := fun j hj => (h.at' j (by omega) hj).2
    obtain ⟨J, hJ⟩ := choose2 hex
    have hw : ∀ j, j < n → g ≤ b j ∧ b (j + 1) ≤ wr.heap.size := fun j hj => by
      have a1 := inc_le h.inc (j + 1) hj
      have a2 := inc_le (b := b) (k := j) (fun i hi => h.inc i (by omega)) 0 (Nat.zero_le _)
      have a3 := h.lo
      have a4 := h.hi
      omega
    refine ⟨flat J n, ⟨some ⟨g, 0, none⟩, n, n, f, J, rfl, hs, rfl, fun j hj => (hJ j hj).1.wider (hw j hj).1 (hw j hj).2, fun _ => ⟨g, 0, rfl, Nat.le_refl _, hlt, fun j hj => by rw [Nat.zero_add]; exact h.row.cell hj⟩⟩, nums_flat (fun j hj => (hJ j hj).2.1.wider (hw j hj).1 (hw j hj).2), (disj_spans h.inc (fun j hj x hx => ⟨((hJ j hj).2.1 x hx).1, ((hJ j hj).2.1 x hx).2.1⟩) (fun j hj => (hJ j hj).2.2.1)).1, ?_⟩
    have h2 := size_spans (J := J) (n := n) (B := 1048576) (fun j hj => (hJ j hj).2.2.2)
    have h3 : 1048576 * n ≤ 1048576 * 1048576 := Nat.mul_le_mul (Nat.le_refl _) hs
    omega
end Go.Proofs.YtckkbojankfdfaaDoor


namespace Go.Proofs.YtckkbojankfdfaaDoor
open Go.RowKit

theorem restE_ex {p : Int} (hp : 0 < p) {L : List Lin.V} (hL : Lin.Red p L) {v : Lin.V} (hv : Lin.Md p v) : ∀ k, k ≤ L.length → ∃ r, Lin.RestE p L v k r := by
  intro k
  induction k with
  | zero => exact fun _ => ⟨v, Lin.RestE.start hv⟩
  | succ k ih =>
    intro hk
    obtain ⟨r, hr⟩ := ih (by omega)
    exact ⟨_, hr.step hp hL (by omega)⟩
end Go.Proofs.YtckkbojankfdfaaDoor


namespace Go.Proofs.YtckkbojankfdfaaDoor
open Go.RowKit

theorem img_delta {p : Int} {rows : Nat → Lin.V} {i a : Nat} (hi : i < a) (hm : Lin.Md p (rows i)) : img p a rows (fun x => if x = i then 1 else 0) = rows i := funext fun j => by
  show Lin.dot a (Lin.col rows j) (fun x => if x = i then 1 else 0) % p = rows i j
  rw [Lin.dot_one hi (fun k _ hne => by simp [hne])]
  simp only [Lin.col, if_true, Int.mul_one]
  exact Lin.md_mod (hm j).1 (hm j).2
/-- A vector of the space of a table's rows has a source. -/
theorem sp_pre {p : Int} (hp : 1 < p) {n : Nat} {t : List (List Int)} (htl : t.length = n) (hm : ∀ u ∈ t.map ofL, Lin.Md p u) {v : Lin.V} : Lin.Sp p (t.map ofL) v ↔ ∃ s, (Lin.Md p s ∧ Lin.Wd n s) ∧ dimg p n t s = v := by
  have hp0 : 0 < p := by omega
  constructor
  · intro h
    induction h with
    | zero => exact ⟨Lin.zv, ⟨Lin.zv_md hp0, Lin.zv_wd n⟩, dimg_zv p n t⟩
    | step c _ hw ih =>
      obtain ⟨s, ⟨h1, h2⟩, rfl⟩ := ih
      obtain ⟨i, hi, rfl⟩ := List.getElem_of_mem hw
      have hi' : i < n := by simpa [htl] using hi
      refine ⟨Lin.add p s c (fun x => if x = i then 1 else 0), ⟨Lin.add_md hp0 _ _ _, Lin.add_wd c h2 (fun x hx => by simp; omega)⟩, ?_⟩
      rw [dimg_add]
      congr 1
      show img p n (rowsV (t.map ofL)) _ = _
      rw [img_delta hi' (by rw [rowsV_at hi]; exact hm _ (List.getElem_mem hi)), rowsV_at hi]
  · rintro ⟨s, _, rfl⟩
    exact dimg_row htl s
theorem dimg_map (p : Int) (n : Nat) (t : List (List Int)) : Lin.Map p (dimg p n t) := ⟨fun x c y => dimg_add p n t x c y, dimg_zv p n t⟩
section
variable {p : Int} {dn en : Nat} {il jl kl : List (List Int)}
theorem cd_comp (hc : IsCp p dn en il jl kl) (v : Lin.V) : dimg p en (cdT p en jl kl) v = dimg p dn jl (dimg p en kl v) := by
  show img p en (rowsV ((cdT p en jl kl).map ofL)) v = _
  rw [cd_rows hc]
  exact (dimg_map p dn jl).img (kl.map ofL) v en (by rw [List.length_map]; have := hc.2.2.2.2.2.1; omega)
theorem IsCp.mi (hc : IsCp p dn en il jl kl) : ∀ u ∈ il.map ofL, Lin.Md p u := vecs_md (by have := hc.1.lo; omega) hc.2.2.2.1.2
theorem IsCp.mj (hc : IsCp p dn en il jl kl) : ∀ u ∈ jl.map ofL, Lin.Md p u := vecs_md (by have := hc.1.lo; omega) hc.2.2.2.2.1.2
theorem IsCp.mk' (hc : IsCp p dn en il jl kl) : ∀ u ∈ kl.map ofL, Lin.Md p u := vecs_md (by have := hc.1.lo; omega) hc.2.2.2.2.2.2
theorem IsCp.li (hc : IsCp p dn en il jl kl) : il.length = dn := by have := hc.2.2.2.1.1; omega
theorem IsCp.lj (hc : IsCp p dn en il jl kl) : jl.length = dn := by have := hc.2.2.2.2.1.1; omega
theorem IsCp.lk (hc : IsCp p dn en il jl kl) : kl.length = en := by have := hc.2.2.2.2.2.1; omega
theorem IsCp.d24 (hc : IsCp p dn en il jl kl) : dn ≤ 24 ∧ en ≤ 24 := by have h1 := hc.2.1; have h2 := hc.2.2.1; omega
theorem IsCp.ld (hc : IsCp p dn en il jl kl) : (cdT p en jl kl).length = en := by unfold cdT; rw [List.length_map]; exact hc.lk
theorem IsCp.rd (hc : IsCp p dn en il jl kl) : ∀ r ∈ cdT p en jl kl, RowOk p (en : Int) r := fun r hr => by
  obtain ⟨v, hv, rfl⟩ := List.mem_map.1 hr
  have hok := hc.ap hv
  have := hc.2.2.2.2.1
  have hl := apT_length' hok
  rw [Int.toNat_natCast] at hl hok
  have h1 := hc.2.2.2.2.2.2 v hv
  have h2 := dimg_apT (u := ofL v) (d := dn) (c := en) hc.1 hc.lj this.2 (ofL_md (by have := hc.1.lo; omega) h1)
  have e : toL dn (ofL v) = v := toL_ofL (by have := h1.1; omega)
  rw [e] at h2
  rw [Int.toNat_natCast, h2.2]
  have hm := dimg_md (p := p) (by have := hc.1.lo; omega) dn jl (ofL v)
  refine ⟨by simp [toL], fun x hx => ?_⟩
  obtain ⟨i, _, rfl⟩ := List.mem_map.1 (show x ∈ (List.range en).map (fun i => dimg p dn jl (ofL v) i) from hx)
  have := hm i
  omega
/-- The derived couple. -/
structure DcIs (p : Int) (dn en : Nat) (il jl kl : List (List Int)) (d' e' : Nat) (il' jl' kl' : List (List Int)) : Prop where
  of : ∃ R B Y C tt rs, Lin.Red p R ∧ Lin.Eqv p R (il.map ofL) ∧ Lin.Red p B ∧ Lin.Eqv p B ((cdT p en jl kl).map ofL) ∧ SpF p en (CycS p en en (cdT p en jl kl)) Y ∧ RestsOf p en B Y tt ∧ tt.length = Y.length ∧ Lin.Red p C ∧ Lin.Eqv p C tt ∧ DcJ p dn il jl R B rs ∧ d' = R.length ∧ e' = C.length ∧ il' = dcI p dn il R R ∧ jl' = rs.map (leadRow C) ∧ kl' = dcI p en kl C R
theorem rests_eqv (hp : 1 < p) {n : Nat} {B Y tt tt' : List Lin.V} (hB : Lin.Red p B) (h : RestsOf p n B Y tt) (hl : tt.length = Y.length) (h' : RestsOf p n B Y tt') (hl' : tt'.length = Y.length) : Lin.Eqv p tt tt' := fun v => (rests_sp hp hB h hl v).trans (rests_sp hp hB h' hl' v).symm
theorem DcIs.unique (hc : IsCp p dn en il jl kl) (hx : ExOk p dn en il jl kl) {d1 e1 d2 e2 : Nat} {i1 j1 k1 i2 j2 k2 : List (List Int)} (h : DcIs p dn en il jl kl d1 e1 i1 j1 k1) (h' : DcIs p dn en il jl kl d2 e2 i2 j2 k2) : d1 = d2 ∧ e1 = e2 ∧ i1 = i2 ∧ j1 = j2 ∧ k1 = k2 := by
  have hp : 1 < p := by have := hc.1.lo; omega
  obtain ⟨R, B, Y, C, tt, rs, a1, a2, a3, a4, a5, a6, a7, a8, a9, a10, rfl, rfl, rfl, rfl, rfl⟩ := h.of
  obtain ⟨R', B', Y', C', tt', rs', b1, b2, b3, b4, b5, b6, b7, b8, b9, b10, rfl, rfl, rfl, rfl, rfl⟩ := h'.of
  obtain rfl : R = R' := Lin.Red.unique hp a1 b1 (a2.trans b2.symm)
  obtain rfl : B = B' := Lin.Red.unique hp a3 b3 (a4.trans b4.symm)
  obtain rfl : Y = Y' := Lin.Red.unique hp a5.1 b5.1 (fun v => (a5.2.2 v).trans (b5.2.2 v).symm)
  obtain rfl : C = C' := Lin.Red.unique hp a8 b8 (a9.trans ((rests_eqv hp a3 a6 a7 b6 b7).trans b9.symm))
  obtain rfl : rs = rs' := a10.unique hc hx a3 a4 b10
  exact ⟨rfl, rfl, rfl, rfl, rfl⟩
/-- The couple and its bases as maps. -/
theorem drv_of (hc : IsCp p dn en il jl kl) (hx : ExOk p dn en il jl kl) {R B Y C tt rs : List Lin.V} (a1 : Lin.Red p R) (a2 : Lin.Eqv p R (il.map ofL)) (a3 : Lin.Red p B) (a4 : Lin.Eqv p B ((cdT p en jl kl).map ofL)) (a5 : SpF p en (CycS p en en (cdT p en jl kl)) Y) (a6 : RestsOf p en B Y tt) (a7 : tt.length = Y.length) (a8 : Lin.Red p C) (a9 : Lin.Eqv p C tt) (a10 : DcJ p dn il jl R B rs) :
    Lin.Drv p (dimg p dn il) (dimg p dn jl) (dimg p en kl) (fun v => Lin.Md p v ∧ Lin.Wd dn v) (fun v => Lin.Md p v ∧ Lin.Wd en v) R B C rs := by
  have hp : 1 < p := by have := hc.1.lo; omega
  have hp0 : 0 < p := by omega
  have hgd : ∀ v, Lin.Md p (dimg p dn jl v) ∧ Lin.Wd en (dimg p dn jl v) := fun v => ⟨dimg_md hp0 _ _ _, dimg_wd hc.lj hc.2.2.2.2.1.2 v⟩
  have hkd : ∀ v, Lin.Md p (dimg p en kl v) ∧ Lin.Wd dn (dimg p en kl v) := fun v => ⟨dimg_md hp0 _ _ _, dimg_wd hc.lk hc.2.2.2.2.2.2 v⟩
  have hfd : ∀ v, Lin.Md p (dimg p dn il v) ∧ Lin.Wd dn (dimg p dn il v) := fun v => ⟨dimg_md hp0 _ _ _, dimg_wd hc.li hc.2.2.2.1.2 v⟩
  have hB : ∀ v, Lin.Sp p B v ↔ ∃ e, (Lin.Md p e ∧ Lin.Wd en e) ∧ dimg p dn jl (dimg p en kl e) = v := fun v => by
    rw [a4 v, sp_pre hp hc.ld (vecs_md hp0 hc.rd)]
    constructor
    · rintro ⟨e, he, rfl⟩; exact ⟨e, he, (cd_comp hc e).symm⟩
    · rintro ⟨e, he, rfl⟩; exact ⟨e, he, cd_comp hc e⟩
  have hgk : ∀ v, Lin.Md p v ∧ Lin.Wd en v → (dimg p en kl v = Lin.zv ↔ ∃ s, (Lin.Md p s ∧ Lin.Wd dn s) ∧ dimg p dn jl s = v) := fun v hv => by
    rw [← sp_pre hp hc.lj hc.mj, hx.2.1 v, cyc_dimg (m := dn) hc.lk hc.2.2.2.2.2.2]
    exact ⟨fun h => ⟨hv.1, hv.2, h⟩, fun h => h.2.2⟩
  refine {
    hp := hp, lf := dimg_map p dn il, lg := dimg_map p dn jl, lk := dimg_map p en kl
    dmd := fun h => h.1, emd := fun h => h.1
    dadd := fun c hu hv => ⟨Lin.add_md hp0 _ _ _, Lin.add_wd c hu.2 hv.2⟩
    eadd := fun c hu hv => ⟨Lin.add_md hp0 _ _ _, Lin.add_wd c hu.2 hv.2⟩
    fd := fun _ => hfd _, ge := fun _ => hgd _, kd := fun _ => hkd _
    fg := fun v hv => ?_, gk := hgk, kf := fun v hv => ?_
    dz := ⟨Lin.zv_md hp0, Lin.zv_wd _⟩, ez := ⟨Lin.zv_md hp0, Lin.zv_wd _⟩
    rR := a1, rB := a3, rC := a8
    sR := fun v => (a2 v).trans (sp_pre hp hc.li hc.mi), sB := hB, sC := fun v => ?_
    len := a10.len, src := fun q h h' => ?_ }
  · rw [← sp_pre hp hc.li hc.mi, hx.1 v, cyc_dimg (m := en) hc.lj hc.2.2.2.2.1.2]
    exact ⟨fun h => ⟨hv.1, hv.2, h⟩, fun h => h.2.2⟩
  · rw [← sp_pre hp hc.lk hc.mk', hx.2.2 v, cyc_dimg (m := dn) hc.li hc.2.2.2.1.2]
    exact ⟨fun h => ⟨hv.1, hv.2, h⟩, fun h => h.2.2⟩
  · rw [a9 v, rests_sp hp a3 a6 a7 v]
    refine and_congr_left fun _ => ?_
    constructor
    · intro h
      obtain ⟨t, b, h1, h2, rfl⟩ := sp_parts hp0 h
      have ht := (cyc_dimg (m := en) hc.ld hc.rd).1 ((a5.2.2 t).1 h1)
      obtain ⟨e, he, rfl⟩ := (hB b).1 h2
      have hkb : dimg p en kl (dimg p dn jl (dimg p en kl e)) = Lin.zv := (hgk _ (hgd _)).2 ⟨_, hkd e, rfl⟩
      refine ⟨⟨Lin.add_md hp0 _ _ _, Lin.add_wd 1 ht.2.1 (hgd _).2⟩, ?_⟩
      rw [dimg_add, hkb, Lin.add_zv (hkd t).1, ← cd_comp hc, ht.2.2]
    · rintro ⟨h1, h2⟩
      refine Lin.Sp.mono (fun w hw => List.mem_append_left _ hw) ((a5.2.2 v).2 ((cyc_dimg (m := en) hc.ld hc.rd).2 ⟨h1.1, h1.2, ?_⟩))
      rw [cd_comp hc, h2]
  · obtain ⟨s, s1, s2, s3, s4⟩ := a10.at' q h h'
    exact ⟨s, ⟨s1, s2⟩, s3, s4⟩
theorem leadRow_row (W : List Lin.V) {v : Lin.V} (hv : Lin.Md p v) : RowOk p (W.length : Int) (leadRow W v) := by
  refine ⟨by simp [leadRow], fun x hx => ?_⟩
  obtain ⟨w, _, rfl⟩ := List.mem_map.1 hx
  have := hv (Lin.ld w)
  omega
theorem dcI_ofL (p : Int) (n : Nat) (t : List (List Int)) (W R : List Lin.V) : (dcI p n t W R).map ofL = W.map fun v => Lin.crd R (dimg p n t v) := by
  unfold dcI
  rw [List.map_map]
  exact List.map_congr_left fun v _ => ofL_leadRow R _
theorem DcIs.ok (hc : IsCp p dn en il jl kl) (hx : ExOk p dn en il jl kl) {d1 e1 : Nat} {i1 j1 k1 : List (List Int)} (h : DcIs p dn en il jl kl d1 e1 i1 j1 k1) : IsCp p d1 e1 i1 j1 k1 ∧ ExOk p d1 e1 i1 j1 k1 ∧ d1 ≤ dn ∧ e1 ≤ en := by
  have hp : 1 < p := by have := hc.1.lo; omega
  have hp0 : 0 < p := by omega
  obtain ⟨R, B, Y, C, tt, rs, a1, a2, a3, a4, a5, a6, a7, a8, a9, a10, rfl, rfl, rfl, rfl, rfl⟩ := h.of
  have hd := drv_of hc hx a1 a2 a3 a4 a5 a6 a7 a8 a9 a10
  have hRw : ∀ u ∈ R, Lin.Wd dn u := fun u hu => (hd.dR (Lin.Sp.mem hu (a1.md u hu))).2
  have hCw : ∀ u ∈ C, Lin.Wd en u := fun u hu => ((hd.sC u).1 (Lin.Sp.mem hu (a8.md u hu))).1.1.2
  have hRl : R.length ≤ dn := SpF.short (p := p) (n := dn) (S := Lin.Sp p R) ⟨a1, hRw, fun _ => Iff.rfl⟩
  have hCl : C.length ≤ en := SpF.short (p := p) (n := en) (S := Lin.Sp p C) ⟨a8, hCw, fun _ => Iff.rfl⟩
  have hrs : ∀ u ∈ rs, Lin.Md p u := fun u hu => by
    obtain ⟨q, hq, rfl⟩ := List.getElem_of_mem hu
    obtain ⟨s, _, _, _, s4⟩ := a10.at' q (by rw [← a10.len]; exact hq) hq
    exact s4.rest.md
  have h24 := hc.d24
  have hti : TabOk p R.length R.length (dcI p dn il R R) := ⟨by simp [dcI], fun r hr => by
    obtain ⟨v, _, rfl⟩ := List.mem_map.1 hr
    exact leadRow_row R (dimg_md hp0 _ _ _)⟩
  have htj : TabOk p R.length C.length (rs.map (leadRow C)) := ⟨by simp [a10.len], fun r hr => by
    obtain ⟨v, hv, rfl⟩ := List.mem_map.1 hr
    exact leadRow_row C (hrs v hv)⟩
  have htk : TabOk p C.length R.length (dcI p en kl C R) := ⟨by simp [dcI], fun r hr => by
    obtain ⟨v, _, rfl⟩ := List.mem_map.1 hr
    exact leadRow_row R (dimg_md hp0 _ _ _)⟩
  have ei : (dcI p dn il R R).map ofL = R.map fun v => Lin.crd R (dimg p dn il v) := dcI_ofL _ _ _ _ _
  have ek : (dcI p en kl C R).map ofL = C.map fun v => Lin.crd R (dimg p en kl v) := dcI_ofL _ _ _ _ _
  have ej : (rs.map (leadRow C)).map ofL = rs.map (Lin.crd C) := by
    rw [List.map_map]
    exact List.map_congr_left fun v _ => ofL_leadRow C _
  refine ⟨⟨hc.1, by omega, by omega, hti, htj, htk⟩, ⟨fun v => ?_, fun v => ?_, fun v => ?_⟩, hRl, hCl⟩
  · rw [ei, hd.ex1 v, cyc_dimg (m := C.length) (by have := htj.1; omega) htj.2]
    show _ ↔ _ ∧ _ ∧ img p R.length (rowsV ((rs.map (leadRow C)).map ofL)) v = _
    rw [ej]
  · rw [ej, hd.ex2 v, cyc_dimg (m := R.length) (by have := htk.1; omega) htk.2]
    show _ ↔ _ ∧ _ ∧ img p C.length (rowsV ((dcI p en kl C R).map ofL)) v = _
    rw [ek]
  · rw [ek, hd.ex3 (fun v hv => restE_ex hp0 a3 hv B.length (Nat.le_refl _)) v, cyc_dimg (m := R.length) (by have := hti.1; omega) hti.2]
    show _ ↔ _ ∧ _ ∧ img p R.length (rowsV ((dcI p dn il R R).map ofL)) v = _
    rw [ei]
end
end Go.Proofs.YtckkbojankfdfaaDoor


namespace Go.Proofs.YtckkbojankfdfaaDoor
open Go.RowKit

/-- A linear map's box, a vector's box behind it, a place for a vector behind that. -/
structure LdB (w W : World) (p : Int) (d c : Nat) (tv : Value) (t : List (List Int)) (v : Lin.V) : Prop where
  below : Below w.heap.size w W
  c0 : W.cell? ⟨w.heap.size, 0, none⟩ = some (.int .i64 p)
  c1 : W.cell? ⟨w.heap.size, 1, none⟩ = some (.int .i64 (d : Int))
  c2 : W.cell? ⟨w.heap.size, 2, none⟩ = some (.int .i64 (c : Int))
  c3 : W.cell? ⟨w.heap.size, 3, none⟩ = some tv
  lt : w.heap.size + 2 < W.heap.size
  vec : At W (w.heap.size + 1) 0 v
  res : W.there (w.heap.size + 2) 0 40
  tab : L2 0 W tv t
theorem LdB.next {w W W' : World} {p : Int} {d c : Nat} {tv : Value} {t : List (List Int)} {v : Lin.V} (h : LdB w W p d c tv t v) (hb : Below W.heap.size W W') : LdB w W' p d c tv t v :=
  ⟨h.below.trans (hb.mono h.below.size), later hb (Nat.le_refl _) h.c0, later hb (Nat.le_refl _) h.c1, later hb (Nat.le_refl _) h.c2, later hb (Nat.le_refl _) h.c3, Nat.lt_of_lt_of_le h.lt hb.size, h.vec.later hb, there_below h.res hb h.lt, h.tab.below hb⟩
theorem LdB.start (w : World) (p : Int) (d c : Nat) (tv : Value) (t : List (List Int)) (v : Lin.V) (h : L2 0 w tv t) (C : Array Value) (hC : 40 ≤ C.size) (t1 t2 t3 : TypeId) :
    LdB w (((w.alloc (.cells #[.int .i64 p, .int .i64 (d : Int), .int .i64 (c : Int), tv] t1)).alloc (.cells (vl v).toArray t2)).alloc (.cells C t3)) p d c tv t v := by
  have b1 := below_alloc1 w (.cells #[.int .i64 p, .int .i64 (d : Int), .int .i64 (c : Int), tv] t1)
  obtain ⟨w1, hw1⟩ : ∃ w1, w1 = w.alloc (.cells #[.int .i64 p, .int .i64 (d : Int), .int .i64 (c : Int), tv] t1) := ⟨_, rfl⟩
  rw [← hw1] at b1 ⊢
  have s1 : w1.heap.size = w.heap.size + 1 := by rw [hw1]; simp
  have b2 := below_two w1 (.cells (vl v).toArray t2) (.cells C t3)
  have c0 : w1.cell? ⟨w.heap.size, 0, none⟩ = some (.int .i64 p) := by rw [hw1]; simp
  have c1 : w1.cell? ⟨w.heap.size, 1, none⟩ = some (.int .i64 (d : Int)) := by rw [hw1]; simp
  have c2 : w1.cell? ⟨w.heap.size, 2, none⟩ = some (.int .i64 (c : Int)) := by rw [hw1]; simp
  have c3 : w1.cell? ⟨w.heap.size, 3, none⟩ = some tv := by rw [hw1]; simp
  have hv := (at_alloc w1 v t2).later (below_alloc1 _ (.cells C t3))
  have hr := there_new (w1.alloc (.cells (vl v).toArray t2)) C t3 hC
  have hsz : (w1.alloc (.cells (vl v).toArray t2)).heap.size = w.heap.size + 2 := by simp [s1]
  rw [s1] at hv
  rw [hsz] at hr
  exact ⟨b1.trans (b2.mono b1.size), later b2 (Nat.le_refl _) c0, later b2 (Nat.le_refl _) c1, later b2 (Nat.le_refl _) c2, later b2 (Nat.le_refl _) c3, by simp [s1], hv, hr, (h.below b1).below b2⟩

set_option maxHeartbeats 3200000 in
set_option maxRecDepth 100000 in
theorem lead_any (p : Int) (d c : Nat) (v : Lin.V) (tv : Value) (t : List (List Int)) (w : World) (hp : IsP p) (h : L2 0 w tv t) (htl : t.length = d) (hrow : ∀ r ∈ t, RowOk p (c : Int) r) (hd : d ≤ 40) (hc : c ≤ 40) (hm : Lin.Md p v) :
    Calls Tryd.prog 72 #[.agg #[.int .i64 p, .int .i64 (d : Int), .int .i64 (c : Int), tv], vv v] w (BR (vv (dimg p d t v)) w) := by
  have hres : Tryd.f72.results = #[.cell 4 82] := by kernel_rfl
  have HRES := Lib.hid hres
  obtain ⟨av, cv, rfl⟩ := Sl.shape h
  have HAP := Lib.hid (dimg_apT (u := v) hp htl hrow hm)
  have HWD : Hid (Lin.Wd 40 (dimg p d t v)) := Lib.hid (fun i hi => dimg_wd htl hrow v i (by omega))
  have HWC : Hid (Lin.Wd c (dimg p d t v)) := Lib.hid (dimg_wd htl hrow v)
  have HT := Lib.hid h
  obtain ⟨r, hr⟩ : ∃ r, r = dimg p d t v := ⟨_, rfl⟩
  rw [← hr] at HAP HWD HWC
  rw [← hr]
  clear hres hp htl hrow hm h hr
  unfold vv
  go_enter Tryd.func72, Tryd.ntmps72
  go_upto_region 1 with fail
  refine forget_wp (fun W => LdB w W p d c (.slice av t.length cv) t v) (LdB.start w p d c _ t v HT.out _ (by exact Nat.le_refl 40) _ _ _) ?_
  intro W hx
  have HX := Lib.hid hx
  clear hx HT
  have HNX : Hid (∀ W', Below W.heap.size W W' → LdB w W' p d c (.slice av t.length cv) t v) := Lib.hid (fun W' h => HX.out.next h)
  have hsl := hsliceV (w.heap.size + 1) d (by omega)
  refine wp_region_last (fun W' => Below W.heap.size W W') 11 (by kernel_rfl) rfl (by kernel_rfl) ?_
  have S0 : Below W.heap.size W W.drew := (Below.refl _ _).drew
  change wpAnyH _ _ _ _ _ _ _ _ W.drew
  generalize W.drew = wd at *
  refine held_take (i := 0) (v := .pointer (some ⟨w.heap.size, 0, none⟩)) (some 5) rfl rfl (by kernel_rfl) (by kernel_rfl) (by kernel_rfl) (fun _ _ _ h => h) (yieldsIf_run (by kernel_rfl) (fun W _ => by kernel_rfl)) S0 ?_
  refine held_take (i := 1) (v := .int .i64 p) (some 6) rfl rfl (by kernel_rfl) (by kernel_rfl) (by kernel_rfl) (fun _ _ _ h => h) (yieldsIf_cell (by kernel_rfl) rfl (by kernel_rfl) (fun W h => hload W ((fun W h => (HNX.out W h).c0) W h))) S0 ?_
  refine held_take (i := 2) (v := .pointer (some ⟨w.heap.size, 1, none⟩)) (some 7) rfl rfl (by kernel_rfl) (by kernel_rfl) (by kernel_rfl) (fun _ _ _ h => h) (yieldsIf_run (by kernel_rfl) (fun W _ => by kernel_rfl)) S0 ?_
  refine held_take (i := 3) (v := .int .i64 (d : Int)) (some 8) rfl rfl (by kernel_rfl) (by kernel_rfl) (by kernel_rfl) (fun _ _ _ h => h) (yieldsIf_cell (by kernel_rfl) rfl (by kernel_rfl) (fun W h => hload W ((fun W h => (HNX.out W h).c1) W h))) S0 ?_
  refine held_take (i := 4) (v := .slice (some ⟨w.heap.size + 1, 0, none⟩) d 40) (some 9) rfl rfl (by kernel_rfl) (by kernel_rfl) (by kernel_rfl) (fun _ _ _ h => h) (yieldsIf_slice (by kernel_rfl) rfl (by kernel_rfl) (by kernel_rfl) hsl) S0 ?_
  refine held_take (i := 5) (v := .pointer (some ⟨w.heap.size, 3, none⟩)) (some 10) rfl rfl (by kernel_rfl) (by kernel_rfl) (by kernel_rfl) (fun _ _ _ h => h) (yieldsIf_run (by kernel_rfl) (fun W _ => by kernel_rfl)) S0 ?_
  refine held_take (i := 6) (v := .slice av t.length cv) (some 11) rfl rfl (by kernel_rfl) (by kernel_rfl) (by kernel_rfl) (fun _ _ _ h => h) (yieldsIf_cell (by kernel_rfl) rfl (by kernel_rfl) (fun W h => hloadT W ((fun W h => (HNX.out W h).c3) W h))) S0 ?_
  refine held_take (i := 7) (v := .pointer (some ⟨w.heap.size, 2, none⟩)) (some 12) rfl rfl (by kernel_rfl) (by kernel_rfl) (by kernel_rfl) (fun _ _ _ h => h) (yieldsIf_run (by kernel_rfl) (fun W _ => by kernel_rfl)) S0 ?_
  refine held_take (i := 8) (v := .int .i64 (c : Int)) (some 13) rfl rfl (by kernel_rfl) (by kernel_rfl) (by kernel_rfl) (fun _ _ _ h => h) (yieldsIf_cell (by kernel_rfl) rfl (by kernel_rfl) (fun W h => hload W ((fun W h => (HNX.out W h).c2) W h))) S0 ?_
  refine held_enter (i := 9) (some 14) (f := 79) (args := #[.int .i64 p, .slice (some ⟨w.heap.size + 1, 0, none⟩) d 40, .slice av t.length cv, .int .i64 (c : Int)]) (by kernel_rfl) rfl rfl rfl (by kernel_rfl) (applyTable_any p c _ _ (toL d v) t wd HAP.out.1 (at_l1 (HNX.out _ S0).vec (by omega)) (HNX.out _ S0).tab (by rw [toL_length]; omega) (by omega)) ?_ (fun c w' h => by obtain ⟨_, h, _⟩ := h; cases h) (fun w' h => by obtain ⟨_, h, _⟩ := h; cases h)
  rintro e4 W4 ⟨u4, he4, hl4, hb4⟩
  injection he4 with he4
  subst he4
  rw [HAP.out.2] at hl4
  have S1 : Below W.heap.size W W4 := S0.trans (hb4.mono S0.size)
  have HL4 := Lib.hid (hl4.lower (Nat.zero_le _))
  refine ⟨S1, ?_⟩
  refine held_enter (i := 10) (some 15) (f := 82) (args := #[e4]) (by kernel_rfl) rfl rfl rfl (by kernel_rfl) (vectorOf_any e4 (toL c r) W4 HL4.out (by rw [toL_length]; omega)) ?_ (fun c w' h => by cases h.1) (fun w' h => by cases h.1)
  rw [ints_ofL (by rw [toL_length]; omega), ofL_toL HWC.out]
  rintro e5 W5 ⟨he5, hb5⟩
  injection he5 with he5
  subst he5
  have S2 : Below W.heap.size W W5 := S1.trans (hb5.mono S1.size)
  refine ⟨S2, ?_⟩
  have HIr := Lib.hid (Tryd.infoVl r)
  have HI2 : Hid ((Tryd.prog.info? 82).map (·.size) = some (vl r).toArray.size) := Lib.hid (by have := HIr.out; simpa using this)
  have HX5 := Lib.hid (HNX.out _ S2)
  have HTH : Hid (W5.there (w.heap.size + 2) 0 (vl r).toArray.size) := Lib.hid (by have := HX5.out.res; simpa [vl_length] using this)
  have HA6 : Hid (At (W5.setCells (w.heap.size + 2) 0 (vl r)) (w.heap.size + 2) 0 r) := Lib.hid (at_setCells _ _ _ _ HX5.out.res)
  have HB6 : Hid (Below w.heap.size w (W5.setCells (w.heap.size + 2) 0 (vl r))) := Lib.hid (below_setCells _ (by omega) _ _ _ HX5.out.below)
  refine held_none (i := 11) (v := .bool false) rfl rfl (by kernel_rfl) (by kernel_rfl) (by kernel_rfl) (fun _ _ _ h => h) (yieldsIf_move (by kernel_rfl) rfl (by kernel_rfl)) S2 ?_
  refine wpAnyH_done (by kernel_rfl) (lastQ_store rfl (by kernel_rfl) (by kernel_rfl) 82 (.tmp 4) (.tmp 15) (by kernel_rfl) (w.heap.size + 2) 0 (vl r).toArray (by kernel_rfl) (by kernel_rfl) HTH.out HI2.out (vl_all _) ?_) _
  simp only [Act.put, List.setIfInBounds_toArray, List.set_cons_zero, List.set_cons_succ]
  go_wp2
  exact bodyPost_ret (v := vv r) (results_cell_at HRES.out _ _ (w.heap.size + 2) r _ rfl HA6.out Tryd.underlyingV rfl HIr.out) rfl ⟨rfl, HB6.out⟩
end Go.Proofs.YtckkbojankfdfaaDoor


namespace Go.Proofs.YtckkbojankfdfaaDoor
open Go.RowKit

section
variable {p : Int} {d c : Nat} {t : List (List Int)} {v : Lin.V}
theorem src_dot (htl : t.length = d) (hv : Lin.Wd c v) (x : Lin.V) (j : Nat) :
    Lin.dot (d + 1) (Lin.col (fun i => ofL ((toL c v :: t).getD i [])) j) x = v j * x 0 + Lin.dot d (Lin.col (rowsV (t.map ofL)) j) (fun i => x (i + 1)) := by
  rw [Nat.add_comm d 1, dot_split]
  congr 1
  · simp [Lin.dot, Lin.col, ofL_toL hv]
  · have e : (fun i => x (1 + i)) = fun i => x (i + 1) := funext fun i => by rw [Nat.add_comm]
    rw [e]
    refine Lin.dot_congr (fun i hi => ?_)
    have hi' : i < t.length := by omega
    simp only [Lin.col]
    rw [rowsV_at (by rw [List.length_map]; exact hi'), List.getElem_map, Nat.add_comm 1 i, List.getD_cons_succ, getD_of_lt _ hi']
theorem dot_neg (u x : Lin.V) (n : Nat) : Lin.dot n u (Lin.add p Lin.zv (-1) x) % p = (-(Lin.dot n u x)) % p := by
  rw [Lin.dot_add, Lin.dot_nil (fun i _ => by simp [Lin.zv])]
  congr 1
  omega
theorem src_in (hp : 1 < p) (htl : t.length = d) (hv : Lin.Wd c v) {u0 : Lin.V} (hw : Lin.Wd d u0) (hu : dimg p d t u0 = v) :
    CycS p (d + 1) c (toL c v :: t) (fun i => if i = 0 then 1 else Lin.add p Lin.zv (-1) u0 (i - 1)) := by
  refine ⟨fun i => ?_, fun i hi => ?_, fun j _ => ?_⟩
  · by_cases h : i = 0
    · simp [h]; omega
    · simp only [if_neg h]
      exact Lin.add_md (by omega) _ _ _ _
  · simp only [if_neg (show ¬ i = 0 by omega), Lin.add]
    rw [hw _ (by omega)]
    simp [Lin.zv]
  · rw [src_dot htl hv]
    have e : (fun i => (fun i => if i = 0 then (1 : Int) else Lin.add p Lin.zv (-1) u0 (i - 1)) (i + 1)) = Lin.add p Lin.zv (-1) u0 := funext fun i => by simp
    rw [e, if_pos rfl, Int.mul_one, Int.add_emod, dot_neg, ← Int.add_emod]
    have hj : v j = Lin.dot d (Lin.col (rowsV (t.map ofL)) j) u0 % p := by rw [← hu]; rfl
    rw [hj, Int.emod_add_emod, Int.add_right_neg, Int.zero_emod]
/-- The program's source. -/
theorem src_of (hp : 1 < p) (htl : t.length = d) (htr : ∀ r ∈ t, RowOk p (c : Int) r) (hvm : Lin.Md p v) (hv : Lin.Wd c v) {R : List Lin.V} (hR : SpF p (d + 1) (CycS p (d + 1) c (toL c v :: t)) R)
    {u0 : Lin.V} (hw : Lin.Wd d u0) (hu : dimg p d t u0 = v) :
    ∃ a L, R = a :: L ∧ Lin.Md p a ∧ Lin.Wd (d + 1) a ∧ Lin.Wd d (Lin.add p Lin.zv (-1) (fun i => a (i + 1))) ∧ dimg p d t (Lin.add p Lin.zv (-1) (fun i => a (i + 1))) = v := by
  have hp0 : 0 < p := by omega
  obtain ⟨x, hx⟩ : ∃ x : Lin.V, x = fun i => if i = 0 then 1 else Lin.add p Lin.zv (-1) u0 (i - 1) := ⟨_, rfl⟩
  have hin := src_in hp htl hv hw hu
  rw [← hx] at hin
  have hx0 : x 0 = 1 := by rw [hx]; simp
  have hne : x ≠ Lin.zv := fun e => by rw [e] at hx0; simp [Lin.zv] at hx0
  have hld : Lin.ld x = 0 := Lin.ld_at (by rw [hx0]; decide) (fun j hj => absurd hj (Nat.not_lt_zero _))
  obtain ⟨w, hw1, hw2⟩ := Lin.Red.lead hp0 hR.1 ((hR.2.2 x).2 hin) hne
  rw [hld] at hw2
  match R, hR, hw1 with
  | a :: L, hR, hw1 =>
    have ha : Lin.ld a = 0 := by
      rcases List.mem_cons.1 hw1 with rfl | h
      · exact hw2
      · have := (List.pairwise_cons.1 hR.1.inc).1 w h
        omega
    have hmem : a ∈ a :: L := List.mem_cons_self
    have ha1 : a 0 = 1 := by have := hR.1.one a hmem; rw [ha] at this; exact this
    have ham := hR.1.md a hmem
    have hcy := (hR.2.2 a).1 (Lin.Sp.mem hmem ham)
    have haw := hR.2.1 a hmem
    refine ⟨a, L, rfl, ham, haw, fun i hi => ?_, ?_⟩
    · simp only [Lin.add]
      rw [haw _ (by omega)]
      simp [Lin.zv]
    · funext j
      by_cases hj : j < c
      · have h0 := hcy.2.2 j hj
        rw [src_dot htl hv, ha1, Int.mul_one] at h0
        show Lin.dot d (Lin.col (rowsV (t.map ofL)) j) _ % p = v j
        rw [dot_neg]
        have hb := hvm j
        obtain ⟨D, hD⟩ : ∃ D, D = Lin.dot d (Lin.col (rowsV (t.map ofL)) j) (fun i => a (i + 1)) := ⟨_, rfl⟩
        rw [← hD] at h0 ⊢
        obtain ⟨q, hq⟩ := Int.dvd_of_emod_eq_zero h0
        rw [show -D = v j + p * (-q) by rw [Int.mul_neg, ← hq]; omega, Int.add_mul_emod_self_left, Int.emod_eq_of_lt hb.1 hb.2]
      · rw [dimg_wd htl htr _ j (by omega), hv j (by omega)]
end
end Go.Proofs.YtckkbojankfdfaaDoor


namespace Go.Proofs.YtckkbojankfdfaaDoor
open Go.RowKit

section
variable {p : Int} {d c : Nat} {t : List (List Int)} {v : Lin.V}
theorem bef_dot (htl : t.length = d) (hv : Lin.Wd c v) (x : Lin.V) (j : Nat) :
    Lin.dot (d + 1) (Lin.col (fun i => ofL ((t ++ [toL c v]).getD i [])) j) x = Lin.dot d (Lin.col (rowsV (t.map ofL)) j) x + v j * x d := by
  rw [Lin.dot]
  congr 1
  · refine Lin.dot_congr (fun i hi => ?_)
    have hi' : i < t.length := by omega
    simp only [Lin.col]
    rw [rowsV_at (by rw [List.length_map]; exact hi'), List.getElem_map, getD_of_lt _ (by rw [List.length_append]; omega), List.getElem_append_left hi']
  · simp only [Lin.col]
    rw [getD_of_lt _ (by rw [List.length_append, htl]; simp), List.getElem_append_right (by omega)]
    simp [htl, ofL_toL hv]
theorem bef_in (hp : 1 < p) (htl : t.length = d) (hv : Lin.Wd c v) {u0 : Lin.V} (hw : Lin.Wd d u0) (hu : dimg p d t u0 = v) :
    CycS p (d + 1) c (t ++ [toL c v]) (fun i => if i = d then 1 else Lin.add p Lin.zv (-1) u0 i) := by
  refine ⟨fun i => ?_, fun i hi => ?_, fun j _ => ?_⟩
  · by_cases h : i = d
    · simp [h]; omega
    · simp only [if_neg h]
      exact Lin.add_md (by omega) _ _ _ _
  · simp only [if_neg (show ¬ i = d by omega), Lin.add]
    rw [hw _ (by omega)]
    simp [Lin.zv]
  · rw [bef_dot htl hv, if_pos rfl, Int.mul_one]
    rw [Lin.dot_congr (v' := Lin.add p Lin.zv (-1) u0) (u' := Lin.col (rowsV (t.map ofL)) j) (fun i hi => by rw [if_neg (show ¬ i = d by omega)])]
    rw [Int.add_emod, dot_neg, ← Int.add_emod]
    have hj : v j = Lin.dot d (Lin.col (rowsV (t.map ofL)) j) u0 % p := by rw [← hu]; rfl
    rw [hj, Int.add_emod_emod, Int.add_left_neg, Int.zero_emod]
/-- Some vector of the list has a number there. -/
theorem bef_some (hp : 1 < p) (htl : t.length = d) (hv : Lin.Wd c v) {R : List Lin.V} (hR : SpF p (d + 1) (CycS p (d + 1) c (t ++ [toL c v])) R)
    {u0 : Lin.V} (hw : Lin.Wd d u0) (hu : dimg p d t u0 = v) (h0 : ∀ x ∈ R, x d = 0) : False := by
  have h := (hR.2.2 _).2 (bef_in hp htl hv hw hu)
  have key : ∀ x, Lin.Sp p R x → x d = 0 := by
    intro x hx
    induction hx with
    | zero => rfl
    | step k _ hw ih => simp only [Lin.add]; rw [ih, h0 _ hw]; simp
  have := key _ h
  simp at this
/-- The model's source. -/
def befV (p : Int) (d : Nat) (f : Int) (x : Lin.V) : Lin.V := fun i => if i < d then x i * f % p else 0
theorem bef_of (hp : 1 < p) (htl : t.length = d) (htr : ∀ r ∈ t, RowOk p (c : Int) r) (hvm : Lin.Md p v) (hv : Lin.Wd c v) {x : Lin.V} (hx : CycS p (d + 1) c (t ++ [toL c v]) x) {k : Int} (hk : k * x d % p = 1) :
    Lin.Md p (befV p d ((-k) % p) x) ∧ Lin.Wd d (befV p d ((-k) % p) x) ∧ dimg p d t (befV p d ((-k) % p) x) = v := by
  refine ⟨fun i => ?_, fun i hi => ?_, funext fun j => ?_⟩
  · unfold befV
    by_cases h : i < d
    · rw [if_pos h]
      exact ⟨Int.emod_nonneg _ (by omega), Int.emod_lt_of_pos _ (by omega)⟩
    · rw [if_neg h]; omega
  · unfold befV
    rw [if_neg (by omega)]
  · by_cases hj : j < c
    · have h0 := hx.2.2 j hj
      rw [bef_dot htl hv] at h0
      show Lin.dot d (Lin.col (rowsV (t.map ofL)) j) _ % p = v j
      rw [Lin.dot_congr (v' := Lin.add p Lin.zv ((-k) % p) x) (u' := Lin.col (rowsV (t.map ofL)) j) (fun i hi => by simp [befV, if_pos hi, Lin.add, Lin.zv, Int.mul_comm (x i)])]
      rw [Lin.dot_add, Lin.dot_nil (fun i _ => by simp [Lin.zv])]
      have hb := hvm j
      obtain ⟨D, hD⟩ : ∃ D, D = Lin.dot d (Lin.col (rowsV (t.map ofL)) j) x := ⟨_, rfl⟩
      rw [← hD] at h0 ⊢
      obtain ⟨q, hq⟩ := Int.dvd_of_emod_eq_zero h0
      have hk2 := Lin.mod_sub p (k * x d)
      rw [hk] at hk2
      obtain ⟨r, hr⟩ : ∃ r, r = k * x d / p := ⟨_, rfl⟩
      rw [← hr] at hk2
      rw [Lin.mod_sub p (-k)]
      obtain ⟨m, hm⟩ : ∃ m, m = (-k) / p := ⟨_, rfl⟩
      rw [← hm]
      have hDe : D = p * q - v j * x d := by omega
      rw [Lin.cg (b := v j) (v j * r - k * q + m * (v j * x d) - m * (p * q)) (by
        have h1 : k * x d = 1 + p * r := by omega
        subst hDe
        grind), Int.emod_eq_of_lt hb.1 hb.2]
    · rw [dimg_wd htl htr _ j (by omega), hv j (by omega)]
end
end Go.Proofs.YtckkbojankfdfaaDoor


namespace Go.Proofs.YtckkbojankfdfaaDoor
open Go.RowKit

/-- The values that lie in a slice of slices. -/
structure Rv (w : World) (u : Value) (ys : List Value) : Prop where
  one : ∀ y ∈ ys, y.oneCell' = true
  lies : (∃ ad cap, ys = [] ∧ u = .slice ad 0 cap) ∨ ∃ b o cap, u = .slice (some ⟨b, o, none⟩) ys.length cap ∧ 0 < ys.length ∧ ∀ j y, ys[j]? = some y → w.cell? ⟨b, o + j, none⟩ = some y
theorem Rv.below {w w' : World} {u : Value} {ys : List Value} (h : Rv w u ys) (hb : Below w.heap.size w w') : Rv w' u ys :=
  ⟨h.one, h.lies.imp id (fun ⟨b, o, cap, h1, h2, h3⟩ => ⟨b, o, cap, h1, h2, fun j y hj => later hb (Nat.le_refl _) (h3 j y hj)⟩)⟩
theorem Rv.shape {w : World} {u : Value} {ys : List Value} (h : Rv w u ys) : ∃ ad cap, u = .slice ad ys.length cap := by
  rcases h.lies with ⟨ad, cap, rfl, rfl⟩ | ⟨b, o, cap, rfl, _, _⟩
  · exact ⟨ad, cap, rfl⟩
  · exact ⟨_, cap, rfl⟩
theorem Rv.of_l2 {w : World} {u : Value} {t : List (List Int)} (h : L2 0 w u t) : ∃ ys : List Value, ys.length = t.length ∧ Rv w u ys ∧ ∀ k (h1 : k < ys.length) (h2 : k < t.length), L1 0 w ys[k] t[k] := by
  refine Sl.cases h (fun ad cap hx hv => ?_) (fun b o cap hv _ hpos hc => ?_)
  · subst hx hv
    exact ⟨[], rfl, ⟨by simp, Or.inl ⟨ad, cap, rfl, rfl⟩⟩, fun k h1 => absurd h1 (Nat.not_lt_zero _)⟩
  · obtain ⟨ys, hl, hy⟩ : ∃ ys : List Value, ys.length = t.length ∧ ∀ k (h1 : k < ys.length) (h2 : k < t.length), w.cell? ⟨b, o + k, none⟩ = some ys[k] ∧ L1 0 w ys[k] t[k] := by
      refine ⟨List.ofFn (fun k : Fin t.length => (hc k.1 k.2).choose), by simp, fun k h1 h2 => ?_⟩
      rw [List.getElem_ofFn]
      exact (hc k h2).choose_spec
    subst hv
    refine ⟨ys, hl, ⟨fun y hy' => ?_, Or.inr ⟨b, o, cap, by rw [hl], by omega, fun j y hj => ?_⟩⟩, fun k h1 h2 => (hy k h1 h2).2⟩
    · obtain ⟨k, hk, rfl⟩ := List.getElem_of_mem hy'
      obtain ⟨ad, c, e⟩ := Sl.shape (hy k hk (by omega)).2
      rw [e]
      rfl
    · obtain ⟨hk, rfl⟩ := List.getElem?_eq_some_iff.1 hj
      exact (hy j hk (by omega)).1
/-- append of a table's rows to a table that the call owns. -/
theorem wpList_appendRv {ops : Array Oper} {rest : List Oper} {o : Oper} {a : Act} {w : World} {Q : Exit → Act → World → Prop} (hgd : o.guard = none) (dst : Option Tmp) (hdst : o.dst = dst) (s x : Operand)
    (ho : o.op = .call { callee := .builtin .append, args := #[s, x], argTypes := #[22, 22] }) (base : Nat) (v u : Value) (xs ys : List Value) (hs : a.eval s = v) (hx : a.eval x = u) (hown : w.ownsRow base 33 1 v xs.length xs) (hB : Rv w u ys)
    (hl : xs.length + ys.length ≤ 2097152) (hb : base ≤ w.heap.size)
    (h : ∀ v' w', w'.ownsRow base 33 1 v' (xs ++ ys).length (xs ++ ys) → w.grownBy w' v.ownBlock → wpList Tryd.prog ops Q rest (a.put dst v') w') : wpList Tryd.prog ops Q (o :: rest) a w := by
  obtain ⟨i, hi, hz, hs1, hb1⟩ := info_parts Tryd.infoS
  subst hdst
  rcases hB.lies with ⟨ad, cap, hB0, hu⟩ | ⟨b, o', cap, hu, hpos, hc⟩
  · subst hB0 hu
    refine Lib.wpList_append_run _ hgd s x _ _ ho _ _ hs hx _ _ (run_append_none' w _ _ _ i Tryd.underlying22 hi hown ad cap) ?_
    rw [List.append_nil] at h
    exact h v w hown ⟨rfl, rfl, rfl, Nat.le_refl _, fun _ _ _ => rfl⟩
  · subst hu
    refine wpList_append_own w hgd s x 22 ho base 33 i (.slice none 0 0) 1 24 Tryd.underlying22 hi hz hs1 hb1 rfl (by decide) v xs.length xs hs hown ⟨b, o', none⟩ ys.length cap ys hx (by omega) ?_ hB.one (by unfold maxLen; omega) (by omega) hb (fun v' w' h1 h2 _ => h v' w' (by rw [List.length_append]; exact h1) h2)
    intro j y hj
    rw [Addr.add_mid]
    exact hc j y hj

def RwO (xs : List Value) (w : World) (e : Ending) (w' : World) : Prop := ∃ v, e = .returned v ∧ Below w.heap.size w w' ∧ w'.ownsRow w.heap.size 33 1 v xs.length xs
set_option maxHeartbeats 800000 in
set_option maxRecDepth 100000 in
theorem growRow_any (n : Nat) (w : World) (hn : n ≤ 2097152) : Calls Tryd.prog 90 #[.slice none 0 0, .int .i64 n] w (RwO [] w) := by
  obtain ⟨i, hi, hz, hs1, hb1⟩ := info_parts Tryd.infoS
  by_cases h0 : n = 0
  · subst h0
    go_enter Tryd.func90, Tryd.ntmps90
    go_wp2
    go_ret
    exact ⟨_, rfl, Below.refl _ _, rfl, Or.inl ⟨rfl, rfl⟩⟩
  · have hpos : 0 < n := by omega
    have hpos2 : (0 : Int) < (n : Int) := by omega
    have hrun := fun ty => Lib.run_append_nil_zeros w 22 3 ty 33 i _ .i64 .i64 Tryd.underlying22 Tryd.underlying3 hi hz n hpos (by rw [hs1]; decide) (by omega) (by rw [hb1]; omega)
    obtain ⟨G, hG⟩ : ∃ G, G = grownCap w n 0 33 := ⟨_, rfl⟩
    rw [← hG] at hrun
    have hGn : n ≤ G := by rw [hG]; exact grownCap_ge w _ _ _
    have hGm : G ≤ maxLen := by rw [hG]; exact grownCap_le_maxLen w n 0 _ (by unfold maxLen; omega)
    obtain ⟨ROW, hROW⟩ : ∃ ROW : Array Value, ROW = Builtin.zeroCells (Value.slice none 0 0).cells n ++ Builtin.zeroCells (Value.slice none 0 0).cells (G - n) := ⟨_, rfl⟩
    rw [← hROW] at hrun
    have hsz : ROW.size = G * 1 := by
      rw [hROW]
      simp [Builtin.zeroCells, Value.cells]
      omega
    have HOW : Hid ((w.drew.alloc (.cells ROW 33)).ownsRow w.heap.size 33 1 (.slice (some ⟨w.heap.size, 0, none⟩) 0 G) 0 []) := Lib.hid (World.ownsRow_made (base := w.heap.size) (e := 33) (size := 1) w.drew ROW G (Nat.le_refl _) hGm hsz)
    have HBE : Hid (Below w.heap.size w (w.drew.alloc (.cells ROW 33))) := Lib.hid ((Below.refl _ _).drew.alloc (Nat.le_refl _) _)
    clear hROW hsz hG
    go_enter Tryd.func90, Tryd.ntmps90
    go_wp2_with (at_builtin; refine Lib.wpList_append_run _ rfl (.tmp 20) (.tmp 21) 22 3 rfl _ _ rfl rfl _ _ (hrun _) ?_)
    go_wp2
    go_ret
    exact ⟨_, rfl, HBE.out, HOW.out⟩

set_option maxHeartbeats 1600000 in
set_option maxRecDepth 100000 in
theorem concatRow_any (g : Nat) (sa sb : Value) (A B : List Value) (w : World) (h0 : w.cell? ⟨g, 0, none⟩ = some sa) (h1 : w.cell? ⟨g, 1, none⟩ = some sb) (hA : Rv w sa A) (hB : Rv w sb B) (hl : A.length + B.length ≤ 2097152) :
    Calls Tryd.prog 83 #[.slice (some ⟨g, 0, none⟩) 2 2] w (RwO (A ++ B) w) := by
  have HA := Lib.hid hA
  have HB := Lib.hid hB
  obtain ⟨aa, ca, rfl⟩ := Rv.shape hA
  obtain ⟨ab, cb, rfl⟩ := Rv.shape hB
  have hgl : g < w.heap.size := cell_lt h0
  have hgr := growRow_any (A.length + B.length) w hl
  rw [Int.natCast_add] at hgr
  have HG := Lib.hid hgr
  have n0 : ¬ ((A.length : Int) < 0) := by omega
  have n1 : ¬ ((A.length : Int) + (B.length : Int) < 0) := by omega
  clear hgr
  clear hA hB
  go_enter Tryd.func83, Tryd.ntmps83
  go_wp2
  refine wp_loop_rounds 3 ?_
  rw [rounds_succ]
  go_wp2
  rw [rounds_succ]
  go_wp2
  rw [rounds_succ]
  go_wp2_with fail
  refine HG.out.mono ?_
  rintro e w1 ⟨s6, rfl, hb1, ho1⟩
  have HB1 := Lib.hid hb1
  have HO1 := Lib.hid ho1
  have h0' := later hb1 (Nat.le_refl _) h0
  have h1' := later hb1 (Nat.le_refl _) h1
  have HA1 := Lib.hid (HA.out.below hb1)
  clear hb1 ho1 HG h0 h1 n0 n1
  go_wp2
  refine wp_loop_rounds 3 ?_
  rw [rounds_succ]
  go_wp2_with (at_builtin; refine wpList_appendRv rfl (some 33) rfl (.tmp 31) (.tmp 32) rfl w.heap.size _ _ [] A rfl rfl HO1.out HA1.out ?c1 ?c2 ?_)
  case c1 => simp; omega
  case c2 => exact HB1.out.size
  rw [List.nil_append]
  intro v2 w2 ho2 hg2
  have HB2 : Hid (Below w.heap.size w w2) := Lib.hid (HB1.out.grown hg2 HB1.out.size (fun g hg => ((World.ownsRow.lt HO1.out) g hg).1))
  have HO2 := Lib.hid ho2
  have h1'' : w2.cell? ⟨g, 1, none⟩ = some (.slice ab B.length cb) := by rw [World.grownBy.cell hg2 h1' (fun e => by have := ((World.ownsRow.lt HO1.out) g e.symm).1; omega)]
  have HB2b := Lib.hid (HB.out.below HB2.out)
  clear ho2 hg2 h0' h1' HA1 HO1 HB1
  go_wp2
  rw [rounds_succ]
  go_wp2_with (at_builtin; refine wpList_appendRv rfl (some 33) rfl (.tmp 31) (.tmp 32) rfl w.heap.size _ _ A B rfl rfl HO2.out HB2b.out ?c1 ?c2 ?_)
  case c1 => exact hl
  case c2 => exact HB2.out.size
  intro v3 w3 ho3 hg3
  have HB3 : Hid (Below w.heap.size w w3) := Lib.hid (HB2.out.grown hg3 HB2.out.size (fun g hg => ((World.ownsRow.lt HO2.out) g hg).1))
  have HO3 := Lib.hid ho3
  clear ho3 hg3 h1''
  go_wp2
  rw [rounds_succ]
  go_wp2
  go_ret
  exact ⟨_, rfl, HB3.out, HO3.out⟩

/-- Two tables behind each other: the rows stay where they are. -/
def TwR (t : List (List Int)) (w : World) (e : Ending) (w' : World) : Prop := ∃ v, e = .returned v ∧ Below w.heap.size w w' ∧ L2 0 w' v t
theorem concatT_any (g : Nat) (sa sb : Value) (A B : List (List Int)) (w : World) (h0 : w.cell? ⟨g, 0, none⟩ = some sa) (h1 : w.cell? ⟨g, 1, none⟩ = some sb) (hA : L2 0 w sa A) (hB : L2 0 w sb B) (hl : A.length + B.length ≤ 2097152) :
    Calls Tryd.prog 83 #[.slice (some ⟨g, 0, none⟩) 2 2] w (TwR (A ++ B) w) := by
  obtain ⟨xs, hxl, hx, hxr⟩ := Rv.of_l2 hA
  obtain ⟨ys, hyl, hy, hyr⟩ := Rv.of_l2 hB
  refine (concatRow_any g sa sb xs ys w h0 h1 hx hy (by omega)).mono ?_
  rintro e w' ⟨v, rfl, hb, ho⟩
  refine ⟨v, rfl, hb, sl_of_owns ho (Nat.zero_le _) (by simp; omega) (fun k hk hk2 => ?_)⟩
  by_cases e : k < xs.length
  · rw [List.getElem_append_left e, List.getElem_append_left (by omega)]
    exact (hxr k e (by omega)).below hb
  · rw [List.getElem_append_right (by omega), List.getElem_append_right (by omega)]
    have h3 : k - xs.length < ys.length := by rw [List.length_append] at hk2; omega
    have := (hyr (k - xs.length) h3 (by omega)).below hb
    simpa [hxl] using this
end Go.Proofs.YtckkbojankfdfaaDoor


namespace Go.Proofs.YtckkbojankfdfaaDoor
open Go.RowKit

section
variable {ops : Array Oper} {rest : List Oper} {Q : Exit → Act → World → Prop}
/-- append of one number to a row that the call gathers. -/
theorem wpList_appendTl {o : Oper} {a : Act} {w : World} (hgd : o.guard = none) (dst : Option Tmp) (hdst : o.dst = dst) (s x : Operand)
    (ho : o.op = .call { callee := .builtin .append, args := #[s, x], argTypes := #[33, 33] }) (base : Nat) (v : Value) (xs : List Int) (hs : a.eval s = v) (b cap : Nat) (z : Int) (hx : a.eval x = .slice (some ⟨b, 0, none⟩) 1 cap) (hown : Gb base w v xs) (hc : w.cell? ⟨b, 0, none⟩ = some (.int .i64 z))
    (hl : xs.length ≤ 2097152) (hb : base ≤ w.heap.size)
    (h : ∀ v' w', Gb base w' v' (xs ++ [z]) → w.grownBy w' v.ownBlock → wpList Tryd.prog ops Q rest (a.put dst v') w') : wpList Tryd.prog ops Q (o :: rest) a w := by
  obtain ⟨i, hi, hz, hs1, hb1⟩ := info_parts Tryd.infoI
  subst hdst
  refine wpList_append_own w hgd s x 33 ho base 2 i _ 1 8 Tryd.underlying33 hi hz hs1 hb1 rfl (by decide) v xs.length (xs.map (Value.int .i64)) hs hown ⟨b, 0, none⟩ 1 cap [.int .i64 z] hx (by simp) ?_ ?_ (by unfold maxLen; omega) (by omega) hb (fun v' w' h1 h2 _ => h v' w' ?_ h2)
  · intro j y hj
    have hj' : j = 0 := by have := (List.getElem?_eq_some_iff.1 hj).1; simpa using this
    subst hj'
    simp only [List.getElem?_cons_zero, Option.some.injEq] at hj
    rw [← hj]
    exact hc
  · intro u hu
    simp only [List.mem_singleton] at hu
    rw [hu]
    rfl
  · unfold Gb
    simpa using h1
end
theorem ldRow_take {Wl : List Lin.V} {y : Lin.V} {k : Nat} (h : k < Wl.length) : leadRow (Wl.take (k + 1)) y = leadRow (Wl.take k) y ++ [y (Lin.ld Wl[k])] := by
  unfold leadRow
  rw [List.take_succ_eq_append_getElem h, List.map_append]
  rfl
theorem ldRow_length (Wl : List Lin.V) (y : Lin.V) : (leadRow Wl y).length = Wl.length := by simp [leadRow]
theorem gb_none (w : World) {base : Nat} (hb : base ≤ w.heap.size) : Gb base (w.alloc (.cells #[] 2)) (.slice (some ⟨w.heap.size, 0, none⟩) 0 0) [] := by
  have := World.ownsRow_made (base := base) (e := 2) (size := 1) w #[] 0 hb (by unfold maxLen; omega) (by simp)
  simpa [Gb] using this

def TldR (xs : List Int) (w : World) (e : Ending) (w' : World) : Prop := ∃ u, e = .returned u ∧ Gb w.heap.size w' u xs ∧ Below w.heap.size w w'

set_option maxHeartbeats 3200000 in
set_option maxRecDepth 100000 in
theorem l05Told_any {p : Int} (c : Nat) (lv yv : Value) (Wl : List Lin.V) (y : Lin.V) (w : World) (hL : L2 0 w lv (Wl.map (toL c))) (hy : L1 0 w yv (toL c y)) (hR : Lin.Red p Wl) (hW : ∀ u ∈ Wl, Lin.Wd c u) (hl : Wl.length ≤ 1048576) (hc : c ≤ 1048576) :
    Calls Tryd.prog 45 #[lv, yv] w (TldR (leadRow Wl y) w) := by
  obtain ⟨al, cl, hlv⟩ := Sl.shape hL
  rw [List.length_map] at hlv
  subst hlv
  obtain ⟨ay, cy, rfl⟩ := l1_slice hy
  have HL := Lib.hid hL
  have HY := Lib.hid hy
  have HR := Lib.hid hR
  have HW := Lib.hid hW
  clear hL hy hR hW
  go_enter Tryd.func45, Tryd.ntmps45
  go_wp2
  go_loopw [5, 6] (fun ov i wr => ∃ (k : Nat), k ≤ Wl.length ∧ i = .int .i64 k ∧ Hid (Below w.heap.size w wr) ∧ Hid (Gb w.heap.size wr ov (leadRow (Wl.take k) y))) (fun _ i _ => Wl.length - (intOf i).toNat)
  case atStart => exact ⟨0, Nat.zero_le _, rfl, Lib.hid (below_alloc1 _ _), Lib.hid (gb_none w (Nat.le_refl _))⟩
  case round =>
    obtain ⟨k, hk, rfl, HB, HO⟩ := hrel
    obtain ⟨wx, hwx⟩ : ∃ wx : World, wx = wr := ⟨_, rfl⟩
    subst hwx
    have hsx : w.heap.size ≤ wx.heap.size := HB.out.size
    have HLN : Hid ((leadRow (Wl.take k) y).length = k) := Lib.hid (by rw [ldRow_length, List.length_take]; omega)
    by_cases hlt : k < Wl.length
    · have hkw : k < (Wl.map (toL c)).length := by rw [List.length_map]; exact hlt
      refine Sl.cases (HL.out.below HB.out) (fun _ _ hx _ => absurd hkw (by simp [hx])) (fun bt ot c2 hvv _ _ hcl => ?_)
      injection hvv with e1 e2 e3
      clear e2
      subst e1 e3
      obtain ⟨ut, hut, hrt0⟩ := hcl k hkw
      obtain ⟨t, ht⟩ : ∃ t, t = Wl[k] := ⟨_, rfl⟩
      rw [List.getElem_map] at hrt0
      have hrt : L1 0 wx ut (toL c t) := by rw [ht]; exact hrt0
      clear hrt0
      obtain ⟨att, ctt, hus⟩ := l1_slice hrt
      subst hus
      have HTW : Hid (Lin.Wd c t) := Lib.hid (by rw [ht]; exact HW.out _ (List.getElem_mem hlt))
      have HTN : Hid (t ≠ Lin.zv) := Lib.hid (by rw [ht]; exact HR.out.ne (List.getElem_mem hlt))
      obtain ⟨hdc, _, _⟩ := ld_ltn HTW.out HTN.out
      obtain ⟨d, hd⟩ : ∃ d, d = Lin.ld t := ⟨_, rfl⟩
      have HD := Lib.hid hd
      rw [← hd] at hdc
      have HTK : Hid (leadRow (Wl.take (k + 1)) y = leadRow (Wl.take k) y ++ [y d]) := Lib.hid (by rw [ldRow_take hlt, hd, ht])
      obtain ⟨z, hz⟩ : ∃ z, z = y d := ⟨_, rfl⟩
      rw [← hz] at HTK
      have HLEAD : Hid (Calls Tryd.prog 59 #[.slice att c ctt] wx (QW (.int .i64 (d : Int)) wx)) := Lib.hid (by
        have := l01Lead_any _ _ wx hrt (by rw [toL_length]; omega)
        rwa [leadOf_toL HTW.out HTN.out, ← HD.out] at this)
      obtain ⟨by', oy, cy2, hvy, hcy⟩ := l1_toL (HY.out.below HB.out) (show 0 < c by omega)
      injection hvy with e1 e2 e3
      clear e2
      subst e1 e3
      have hcd := hcy d hdc
      rw [← hz] at hcd
      clear hcl hrt ht hd hz hcy hkw
      go_wp2_with fail
      refine HLEAD.out.mono ?_
      rintro e w7 ⟨rfl, rfl⟩
      clear HLEAD
      have hba : Below wx.heap.size wx (wx.alloc (.cells #[.int .i64 z] 2)) := below_alloc1 _ _
      have HO8 := Lib.hid (HO.out.below hba)
      have HB8 := Lib.hid (HB.out.alloc hsx (.cells #[.int .i64 z] 2))
      have hcell : (wx.alloc (.cells #[.int .i64 z] 2)).cell? ⟨wx.heap.size, 0, none⟩ = some (.int .i64 z) := by simp
      clear hba
      go_wp2_with (at_builtin; refine wpList_appendTl rfl (some 24) rfl (.tmp 14) (.tmp 23) rfl w.heap.size _ (leadRow (Wl.take k) y) rfl wx.heap.size 1 z rfl HO8.out hcell ?c1 ?c2 ?_)
      case c1 => rw [HLN.out]; omega
      case c2 => first | (simp; omega) | omega
      intro v9 W9 hg9 hgr9
      have HB9 : Hid (Below w.heap.size w W9) := Lib.hid (HB8.out.grown hgr9 (by simp; omega) (fun g hg => ((World.ownsRow.lt HO8.out) g hg).1))
      have HG9 : Hid (Gb w.heap.size W9 v9 (leadRow (Wl.take (k + 1)) y)) := Lib.hid (by rw [HTK.out]; exact hg9)
      clear hg9 hgr9 hcell hcd
      go_wp2
      go_roundw
      case rel => exact ⟨k + 1, by omega, by go_num, HB9, HG9⟩
      case measure => simp [intOf]; omega
    · have HQE : Hid (leadRow (Wl.take k) y = leadRow Wl y) := Lib.hid (by rw [List.take_of_length_le (by omega)])
      rw [HQE.out] at HO
      go_wp2
      go_ret
      exact ⟨_, rfl, HO.out, HB.out⟩
end Go.Proofs.YtckkbojankfdfaaDoor


namespace Go.Proofs.YtckkbojankfdfaaDoor
open Go.RowKit

def BefR (p : Int) (d : Nat) (t : List (List Int)) (v : Lin.V) (w : World) (e : Ending) (w' : World) : Prop :=
  ∃ (u : Value) (s : Lin.V), e = .returned u ∧ Gb w.heap.size w' u (toL d s) ∧ Below w.heap.size w w' ∧ Lin.Md p s ∧ Lin.Wd d s ∧ dimg p d t s = v
theorem own_l2 {w : World} {base : Nat} {v : Value} {xs : List Value} {t : List (List Int)} (ho : w.ownsRow base 33 1 v xs.length xs) (hl : xs.length = t.length) (hr : ∀ k (h1 : k < xs.length) (h2 : k < t.length), L1 0 w xs[k] t[k]) : L2 0 w v t :=
  sl_of_owns ho (Nat.zero_le _) (by omega) (fun k hk hk2 => hr k (by omega) hk)
theorem rv_one {w : World} {b : Nat} {y : Value} (h : w.cell? ⟨b, 0, none⟩ = some y) (h1 : y.oneCell' = true) : Rv w (.slice (some ⟨b, 0, none⟩) 1 1) [y] :=
  ⟨fun x hx => by rw [List.mem_singleton.1 hx]; exact h1, Or.inr ⟨b, 0, 1, rfl, by simp, fun j x hj => by
    match j, hj with
    | 0, hj => simp at hj; subst hj; exact h⟩⟩

set_option maxHeartbeats 6400000 in
set_option maxRecDepth 100000 in
theorem l05Before_any (p : Int) (d c : Nat) (v u0 : Lin.V) (tv uv : Value) (t : List (List Int)) (w : World) (hp : IsP p) (h : L2 0 w tv t) (hu : L1 0 w uv (toL c v)) (htl : t.length = d) (hrow : ∀ r ∈ t, RowOk p (c : Int) r) (hd : d ≤ 40) (hc : c ≤ 40) (hm : Lin.Md p v) (hv : Lin.Wd c v) (hw0 : Lin.Wd d u0) (hu0 : dimg p d t u0 = v) :
    Calls Tryd.prog 47 #[.int .i64 p, tv, .int .i64 (d : Int), uv] w (BefR p d t v w) := by
  have HP := Lib.hid hp
  obtain ⟨ys, hyl, hy, hyr⟩ := Rv.of_l2 h
  have HYL := Lib.hid hyl
  have HY := Lib.hid hy
  have HYR := Lib.hid hyr
  have HU := Lib.hid hu
  have HROW : Hid (∀ r ∈ t ++ [toL c v], RowOk p (c : Int) r) := Lib.hid (fun r hr => by
    rcases List.mem_append.1 hr with hr | hr
    · exact hrow r hr
    · rw [List.mem_singleton.1 hr]
      exact ⟨by rw [toL_length], fun x hx => by
        obtain ⟨i, _, rfl⟩ := List.mem_map.1 hx
        have := hm i
        omega⟩)
  have HTL : Hid ((t ++ [toL c v]).length = d + 1) := Lib.hid (by simp [htl])
  have HSOME : Hid (∀ R, SpF p (d + 1) (CycS p (d + 1) c (t ++ [toL c v])) R → (∀ x ∈ R, x d = 0) → False) := Lib.hid (fun R hR h0 => bef_some hp.lo1 htl hv hR hw0 hu0 h0)
  have HOF : Hid (∀ x k, CycS p (d + 1) c (t ++ [toL c v]) x → k * x d % p = 1 → Lin.Md p (befV p d ((-k) % p) x) ∧ Lin.Wd d (befV p d ((-k) % p) x) ∧ dimg p d t (befV p d ((-k) % p) x) = v) := Lib.hid (fun x k hx hk => bef_of hp.lo1 htl hrow hm hv hx hk)
  have hyd : ys.length = d := by omega
  obtain ⟨at', ct, htv⟩ := hy.shape
  obtain ⟨au, cu, huv⟩ := l1_slice hu
  subst huv htv
  have hp7 := hp.hi7
  have hp1 := hp.lo1
  clear hp h hu hrow hm hv hw0 hu0 hyl hy hyr htl
  go_enter Tryd.func47, Tryd.ntmps47
  have HO0 : Hid ((w.alloc (.cells #[] 33)).ownsRow w.heap.size 33 1 (.slice (some ⟨w.heap.size, 0, none⟩) 0 0) 0 []) := Lib.hid (by simpa using World.ownsRow_made (base := w.heap.size) (e := 33) (size := 1) w #[] 0 (Nat.le_refl _) (by unfold maxLen; omega) (by simp))
  have HB0 : Hid (Below w.heap.size w (w.alloc (.cells #[] 33))) := Lib.hid (below_alloc1 _ _)
  have HY0 := Lib.hid (HY.out.below HB0.out)
  go_wp2_with (at_builtin; refine wpList_appendRv rfl (some 18) rfl (.tmp 16) (.tmp 17) rfl w.heap.size _ _ [] ys rfl rfl HO0.out HY0.out ?c1 ?c2 ?_)
  case c1 => simp; omega
  case c2 => exact HB0.out.size
  rw [List.nil_append]
  intro v1 w1 ho1 hg1
  have HB1 : Hid (Below w.heap.size w w1) := Lib.hid (HB0.out.grown hg1 HB0.out.size (fun g hg => ((World.ownsRow.lt HO0.out) g hg).1))
  have HO1 : Hid ((w1.alloc (.cells #[.slice au c cu] 33)).ownsRow w.heap.size 33 1 v1 ys.length ys) := Lib.hid (owns_below ho1 (below_alloc1 _ _))
  have HB1a : Hid (Below w.heap.size w (w1.alloc (.cells #[.slice au c cu] 33))) := Lib.hid (HB1.out.trans ((below_alloc1 w1 _).mono HB1.out.size))
  have HV1 : Hid (Rv (w1.alloc (.cells #[.slice au c cu] 33)) (.slice (some ⟨w1.heap.size, 0, none⟩) 1 1) [.slice au c cu]) := Lib.hid (rv_one (cell_alloc1 w1 _ _) rfl)
  clear ho1 hg1 HO0 HY0 HB0
  go_wp2_with (at_builtin; refine wpList_appendRv rfl (some 21) rfl (.tmp 18) (.tmp 20) rfl w.heap.size _ _ ys [.slice au c cu] rfl rfl HO1.out HV1.out ?c1 ?c2 ?_)
  case c1 => simp; omega
  case c2 => exact HB1a.out.size
  intro v2 w2 ho2 hg2
  have HB2 : Hid (Below w.heap.size w w2) := Lib.hid (HB1a.out.grown hg2 HB1a.out.size (fun g hg => ((World.ownsRow.lt HO1.out) g hg).1))
  have HL2 : Hid (L2 0 w2 v2 (t ++ [toL c v])) := Lib.hid (own_l2 ho2 (by simp [HYL.out]) (fun k hk hk2 => by
    by_cases e : k < ys.length
    · rw [List.getElem_append_left e, List.getElem_append_left (by have := HYL.out; omega)]
      exact (HYR.out k e (by have := HYL.out; omega)).below HB2.out
    · have e2 : k = ys.length := by simp at hk; omega
      subst e2
      rw [List.getElem_append_right (by omega), List.getElem_append_right (by have := HYL.out; omega)]
      simp only [Nat.sub_self, List.getElem_cons_zero, HYL.out]
      exact HU.out.below HB2.out))
  obtain ⟨a2, c2, hv2⟩ := Sl.shape HL2.out
  rw [HTL.out] at hv2
  subst hv2
  have hk := l01Kernel_any p (d + 1) c _ (t ++ [toL c v]) w2 HP.out HL2.out HTL.out HROW.out (by omega) (by omega)
  rw [show ((d + 1 : Nat) : Int) = (d : Int) + 1 by omega] at hk
  have HK := Lib.hid hk
  clear ho2 hg2 hk HO1 HB1 HB1a HV1 HYL HYR HY HU HROW
  go_wp2_with fail
  refine HK.out.mono ?_
  rintro e w3 ⟨u3, R, rfl, hg3, hb3, hsp⟩
  have HB3 := Lib.hid (HB2.out.trans (hb3.mono HB2.out.size))
  have HL3 := Lib.hid hg3.l2
  have HSP := Lib.hid hsp
  obtain ⟨a3, c3, hv3⟩ := Sl.shape HL3.out
  rw [List.length_map] at hv3
  subst hv3
  have hRl : R.length ≤ 41 := by have := hsp.short; omega
  clear hg3 hb3 hsp HK HB2 HL2 HTL
  go_wp2
  go_loopw [11, 12] (fun i _ wr => ∃ (k : Nat), k ≤ R.length ∧ i = .int .i64 k ∧ Hid (Below w3.heap.size w3 wr) ∧ Hid (∀ q (h : q < R.length), q < k → R[q] d = 0)) (fun i _ _ => R.length - (intOf i).toNat)
  case atStart => exact ⟨0, Nat.zero_le _, rfl, Lib.hid (Below.refl _ _), Lib.hid (fun q _ h => absurd h (Nat.not_lt_zero _))⟩
  case round =>
    obtain ⟨k, hk, rfl, HBR, HZ⟩ := hrel
    obtain ⟨wx, hwx⟩ : ∃ wx : World, wx = wr := ⟨_, rfl⟩
    subst hwx
    by_cases hlt : k < R.length
    · have hkw : k < (R.map (toL (d + 1))).length := by rw [List.length_map]; exact hlt
      refine Sl.cases (HL3.out.below HBR.out) (fun _ _ hx _ => absurd hkw (by simp [hx])) (fun bt ot c4 hvv _ _ hcl => ?_)
      injection hvv with e1 e2 e3
      clear e2
      subst e1 e3
      obtain ⟨ut, hut, hrt0⟩ := hcl k hkw
      obtain ⟨x, hx⟩ : ∃ x, x = R[k] := ⟨_, rfl⟩
      rw [List.getElem_map] at hrt0
      have hrt : L1 0 wx ut (toL (d + 1) x) := by rw [hx]; exact hrt0
      clear hrt0
      have HXC : Hid (CycS p (d + 1) c (t ++ [toL c v]) x) := Lib.hid (by
        have hmem : x ∈ R := by rw [hx]; exact List.getElem_mem hlt
        exact (HSP.out.2.2 x).1 (Lin.Sp.mem hmem (HSP.out.1.md x hmem)))
      obtain ⟨bx, ox, cx, hus, hcx⟩ := l1_toL hrt (by omega)
      subst hus
      obtain ⟨z, hz⟩ : ∃ z, z = x d := ⟨_, rfl⟩
      have hzc := hcx d (by omega)
      rw [← hz] at hzc
      have hzb := HXC.out.1 d
      rw [← hz] at hzb
      have hdlt : (d : Int) < ((d + 1 : Nat) : Int) := by omega
      have HCX := Lib.hid hcx
      by_cases h0 : z = 0
      · have hne : (z != 0) = false := by simp [h0]
        have HZ2 : Hid (∀ q (h : q < R.length), q < k + 1 → R[q] d = 0) := Lib.hid (fun q h hq => by
          by_cases e : q = k
          · subst e
            rw [← hx, ← hz, h0]
          · exact HZ.out q h (by omega))
        clear hcl hrt hx hz h0 hcx HZ
        go_wp2
        go_roundw
        case rel => exact ⟨k + 1, by omega, by go_num, HBR, HZ2⟩
        case measure => simp [intOf]; omega
      · have hne : (z != 0) = true := by simp [h0]
        have HZE := Lib.hid hz
        have HINV : Hid (∀ W, Calls Tryd.prog 60 #[.int .i64 p, .int .i64 z] W (InvR p z W)) := Lib.hid (fun W => l01Inverse_any p z W HP.out (by omega) (by omega))
        clear hcl hrt hx hz h0 hcx HZ
        go_wp2_with fail
        refine (HINV.out _).mono ?_
        rintro e w' ⟨inv, rfl, rfl, hi1, hip, hinv⟩
        have HOF2 := Lib.hid (HOF.out x (inv : Int) HXC.out (by rw [← HZE.out]; exact hinv))
        have HMOD : Hid (∀ W, Calls Tryd.prog 63 #[.int .i64 p, .int .i64 (-(inv : Int))] W (QW (.int .i64 ((-(inv : Int)) % p)) W)) := Lib.hid (fun W => l01Mod_any p (-(inv : Int)) W HP.out)
        clear hinv HINV
        go_wp2_with fail
        refine (HMOD.out _).mono ?_
        rintro e w' ⟨rfl, rfl⟩
        clear HMOD
        obtain ⟨f, hf⟩ : ∃ f, f = (-(inv : Int)) % p := ⟨_, rfl⟩
        rw [← hf] at HOF2
        have hf0 : 0 ≤ f := by rw [hf]; exact Int.emod_nonneg _ (by omega)
        have hf1 : f < p := by rw [hf]; exact Int.emod_lt_of_pos _ (by omega)
        rw [← hf]
        clear hf
        obtain ⟨s, hs⟩ : ∃ s, s = befV p d f x := ⟨_, rfl⟩
        rw [← hs] at HOF2
        have HSS : Hid (∀ q, q < d → s q = x q * f % p) := Lib.hid (fun q hq => by rw [hs]; simp [befV, hq])
        have HBX : Hid (Below w.heap.size w wx) := Lib.hid (HB3.out.trans (HBR.out.mono HB3.out.size))
        clear hs
        go_wp2
        go_loopw [13, 15] (fun ov i wr => ∃ (q : Nat), q ≤ d ∧ i = .int .i64 q ∧ Hid (Below wx.heap.size wx wr) ∧ Hid (Gb wx.heap.size wr ov (toL q s))) (fun _ i _ => d - (intOf i).toNat)
        case atStart => exact ⟨0, Nat.zero_le _, rfl, Lib.hid (below_alloc1 _ _), Lib.hid (gb_none wx (Nat.le_refl _))⟩
        case round =>
          obtain ⟨q, hq, rfl, HBI, HO⟩ := hrel
          obtain ⟨wy, hwy⟩ : ∃ wy : World, wy = wr := ⟨_, rfl⟩
          subst hwy
          have hsy : wx.heap.size ≤ wy.heap.size := HBI.out.size
          by_cases hltq : q < d
          · obtain ⟨y, hy⟩ : ∃ y, y = x q := ⟨_, rfl⟩
            have hyb := HXC.out.1 q
            rw [← hy] at hyb
            have hyc := later HBI.out (Nat.le_refl _) (HCX.out q (by omega))
            rw [← hy] at hyc
            have huc := later HBI.out (Nat.le_refl _) hut
            obtain ⟨m0, m1⟩ := mul_bd HP.out (a := y) (b := f) hyb.1 hyb.2 hf0 (by omega)
            have HSQ : Hid (toL (q + 1) s = toL q s ++ [y * f % p]) := Lib.hid (by rw [toL_succ, HSS.out q hltq, hy])
            have hba : Below wy.heap.size wy (wy.alloc (.cells #[.int .i64 (y * f % p)] 2)) := below_alloc1 _ _
            have HO8 := Lib.hid (HO.out.below hba)
            have HB8 := Lib.hid (HBI.out.alloc hsy (.cells #[.int .i64 (y * f % p)] 2))
            have hcell : (wy.alloc (.cells #[.int .i64 (y * f % p)] 2)).cell? ⟨wy.heap.size, 0, none⟩ = some (.int .i64 (y * f % p)) := by simp
            have hqd : (q : Int) < ((d + 1 : Nat) : Int) := by omega
            clear hba hy hzc hut
            go_wp2_with (at_builtin; refine wpList_appendTl rfl (some 67) rfl (.tmp 54) (.tmp 66) rfl wx.heap.size _ (toL q s) rfl wy.heap.size 1 (y * f % p) rfl HO8.out hcell ?c1 ?c2 ?_)
            case c1 => rw [toL_length]; omega
            case c2 => first | (simp; omega) | omega
            intro v9 W9 hg9 hgr9
            have HB9 : Hid (Below wx.heap.size wx W9) := Lib.hid (HB8.out.grown hgr9 (by simp; omega) (fun g hg => ((World.ownsRow.lt HO8.out) g hg).1))
            have HG9 : Hid (Gb wx.heap.size W9 v9 (toL (q + 1) s)) := Lib.hid (by rw [HSQ.out]; exact hg9)
            clear hg9 hgr9 hcell
            go_wp2
            go_roundw
            case rel => exact ⟨q + 1, by omega, by go_num, HB9, HG9⟩
            case measure => simp [intOf]; omega
          · have HQ : Hid (q = d) := Lib.hid (by omega)
            go_wp2
            go_ret
            exact ⟨_, s, rfl, by have h := HO.out; rw [HQ.out] at h; exact owns_mono h HBX.out.size, HBX.out.trans (HBI.out.mono HBX.out.size), HOF2.out.1, HOF2.out.2.1, HOF2.out.2.2⟩
    · exact absurd (fun y hy => by
        obtain ⟨q, hq, rfl⟩ := List.getElem_of_mem hy
        exact HZ.out q hq (by omega)) (HSOME.out R HSP.out)
end Go.Proofs.YtckkbojankfdfaaDoor


namespace Go.Proofs.YtckkbojankfdfaaDoor
open Go.RowKit

/-- The list of dimensions, k of them laid. -/
def duD (ds : List Int) (k : Nat) : Nat → Value := fun j => .int .i64 (if j < k then ds.getD (ds.length - 1 - j) 0 else 0)
/-- A table at the block b: its row of rows there, row j at b + 1 + j. -/
structure TabAt (w : World) (b r c : Nat) (Z : Nat → Nat → Int) : Prop where
  top : w.rowIs b 33 r (fun j => .slice (some ⟨b + 1 + j, 0, none⟩) c c)
  rows : ∀ j, j < r → w.rowIs (b + 1 + j) 2 c (fun i => .int .i64 (Z j i))
theorem Mat.at {w w' : World} {r c : Nat} {Z : Nat → Nat → Int} (h : Mat w w' r c Z) : TabAt w' w.heap.size r c Z := ⟨h.top, h.rows⟩
theorem TabAt.below {w w' : World} {b r c : Nat} {Z : Nat → Nat → Int} (h : TabAt w b r c Z) (hb : Below w.heap.size w w') : TabAt w' b r c Z :=
  ⟨h.top.of_block (hb.block _ h.top.lt), fun j hj => (h.rows j hj).of_block (hb.block _ (h.rows j hj).lt)⟩
theorem TabAt.set {w : World} {b r c : Nat} {Z : Nat → Nat → Int} (h : TabAt w b r c Z) {a : Addr} (ha : a.block < b) (v : Value) : TabAt (w.setCell a v) b r c Z :=
  ⟨h.top.setOther (by omega) v, fun j hj => (h.rows j hj).setOther (by omega) v⟩
/-- The tables of the dual, k of them laid, one behind the other. -/
structure Ts (lo : Nat) (w : World) (bs r c : Nat → Nat) (Z : Nat → Nat → Nat → Int) (k : Nat) : Prop where
  at' : ∀ j, j < k → TabAt w (bs j) (r j) (c j) (Z j)
  lo' : ∀ j, j < k → lo ≤ bs j
  hi : ∀ j, j < k → bs j + 1 + r j ≤ w.heap.size
  inc : ∀ i j, i < j → j < k → bs i + 1 + r i ≤ bs j
def duR (ds : List Int) (m : Nat) (j : Nat) : Nat := (ds.getD (m - 1 - j) 0).toNat
def duC (ms : List (List (List Int))) (j : Nat) : Nat := (ms.getD (ms.length - 1 - j) []).length
def duZ (ms : List (List (List Int))) (j a b : Nat) : Int := ((ms.getD (ms.length - 1 - j) []).getD b []).getD a 0
def duM (bs r : Nat → Nat) (k : Nat) : Nat → Value := fun j => if j < k then .slice (some ⟨bs j, 0, none⟩) (r j) (r j) else .slice none 0 0
theorem Ts.step {lo k : Nat} {w w1 : World} {bs r c : Nat → Nat} {Z : Nat → Nat → Nat → Int} (h : Ts lo w bs r c Z k) (hm : Mat w w1 (r k) (c k) (Z k)) (hlo : lo ≤ w.heap.size) {a : Addr} (ha : a.block < lo) (v : Value) :
    Ts lo (w1.setCell a v) (fun j => if j = k then w.heap.size else bs j) r c Z (k + 1) := by
  refine ⟨fun j hj => ?_, fun j hj => ?_, fun j hj => ?_, fun i j hi hj => ?_⟩
  · by_cases e : j = k
    · subst e
      simp only [if_true]
      exact hm.at.set (by omega) v
    · simp only [if_neg e]
      have hj' : j < k := by omega
      have := h.lo' j hj'
      exact ((h.at' j hj').below hm.below).set (by omega) v
  · by_cases e : j = k
    · simp only [if_pos e]; exact hlo
    · simp only [if_neg e]; exact h.lo' j (by omega)
  · by_cases e : j = k
    · subst e
      simp [hm.size]
    · simp only [if_neg e]
      have := h.hi j (by omega)
      have := hm.below.size
      simp
      omega
  · by_cases e : j = k
    · subst e
      rw [if_neg (by omega), if_pos rfl]
      exact h.hi i hi
    · rw [if_neg (by omega), if_neg e]
      exact h.inc i j hi (by omega)
theorem Ts.drew {lo k : Nat} {w : World} {bs r c : Nat → Nat} {Z : Nat → Nat → Nat → Int} (h : Ts lo w bs r c Z k) : Ts lo w.drew bs r c Z k :=
  ⟨fun j hj => ⟨(h.at' j hj).top.drew, fun i hi => ((h.at' j hj).rows i hi).drew⟩, h.lo', h.hi, h.inc⟩
end Go.Proofs.YtckkbojankfdfaaDoor


namespace Go.Proofs.YtckkbojankfdfaaDoor
open Go.RowKit

theorem far {w : World} {b o b2 o2 : Nat} {u v : Value} (h : b ≠ b2) (hc : w.cell? ⟨b2, o2, none⟩ = some u) : (w.setCell ⟨b, o, none⟩ v).cell? ⟨b2, o2, none⟩ = some u := (World.cell?_setCell_far w _ _ v h).trans hc
theorem Ts.set {lo k : Nat} {w : World} {bs r c : Nat → Nat} {Z : Nat → Nat → Nat → Int} (h : Ts lo w bs r c Z k) {a : Addr} (ha : a.block < lo) (v : Value) : Ts lo (w.setCell a v) bs r c Z k :=
  ⟨fun j hj => (h.at' j hj).set (by have := h.lo' j hj; omega) v, h.lo', fun j hj => by have := h.hi j hj; simpa using this, h.inc⟩

/-- The dual as it lies behind the call: its dimensions, its tables' heads, its tables. -/
structure DuAt (w w' : World) (ds : List Int) (ms : List (List (List Int))) (bd bm : Nat) : Prop where
  below : Below w.heap.size w w'
  lo : w.heap.size ≤ bd ∧ w.heap.size ≤ bm ∧ bd ≠ bm
  dims : w'.rowIs bd 2 ds.length (duD ds ds.length)
  tabs : ∃ (lo : Nat) (bs : Nat → Nat), bd < lo ∧ bm < lo ∧ w'.rowIs bm 22 ms.length (duM bs (duR ds ms.length) ms.length) ∧ Ts lo w' bs (duR ds ms.length) (duC ms) (duZ ms) ms.length
theorem DuAt.set {w w' : World} {ds : List Int} {ms : List (List (List Int))} {bd bm : Nat} (h : DuAt w w' ds ms bd bm) {a : Addr} (h0 : w.heap.size ≤ a.block) (h1 : a.block < bd) (h2 : a.block < bm) (v : Value) : DuAt w (w'.setCell a v) ds ms bd bm := by
  obtain ⟨lo, bs, a1, a2, a3, a4⟩ := h.tabs
  exact ⟨h.below.setCell h0 _, h.lo, h.dims.setOther (by omega) _, lo, bs, a1, a2, a3.setOther (by omega) _, a4.set (by omega) _⟩

end Go.Proofs.YtckkbojankfdfaaDoor


namespace Go.Proofs.YtckkbojankfdfaaDoor
open Go.RowKit
/-- The dual's dimensions and tables. -/
def dualD (ds : List Int) : List Int := (List.range ds.length).map fun j => ds.getD (ds.length - 1 - j) 0
def dualM (ds : List Int) (ms : List (List (List Int))) : List (List (List Int)) := (List.range ms.length).map fun j => tableOf (duR ds ms.length j) (duC ms j) (duZ ms j)
theorem dualD_length (ds : List Int) : (dualD ds).length = ds.length := by simp [dualD]
theorem dualM_length (ds : List Int) (ms : List (List (List Int))) : (dualM ds ms).length = ms.length := by simp [dualM]
theorem dualM_at {ds : List Int} {ms : List (List (List Int))} {j : Nat} (h : j < (dualM ds ms).length) : (dualM ds ms)[j] = tableOf (duR ds ms.length j) (duC ms j) (duZ ms j) := by simp [dualM]
theorem duR_8 {p : Int} {ds : List Int} {ms : List (List (List Int))} (h : IsCx p ds ms) (j : Nat) : duR ds ms.length j ≤ 8 := by
  have := (h.1.dim (ms.length - 1 - j)).2
  unfold duR
  omega
theorem duC_bd {ms : List (List (List Int))} (h : Bd3 1048576 ms) (j : Nat) : duC ms j ≤ 1048576 := by
  unfold duC
  by_cases e : ms.length - 1 - j < ms.length
  · rw [getD_of_lt _ e]
    exact (h.2 _ (List.getElem_mem e)).1
  · rw [List.getD_eq_getElem?_getD, List.getElem?_eq_none (by omega)]
    simp
theorem DuAt.rc {w W : World} {p : Int} {ds : List Int} {ms : List (List (List Int))} {bd bm : Nat} (h : DuAt w W ds ms bd bm) (hd : ds.length ≤ 1048576) (hm : Bd3 1048576 ms) (hcx : IsCx p ds ms) :
    RcW w.heap.size W.heap.size W (.slice (some ⟨bd, 0, none⟩) ds.length ds.length) (.slice (some ⟨bm, 0, none⟩) ms.length ms.length) (dualD ds) (dualM ds ms) := by
  obtain ⟨hb, ⟨l1, l2, l3⟩, hdim, lo, bs, t1, t2, t3, t4⟩ := h
  have hml := hm.1
  have hlt := t3.lt
  have hfill : Fill3 W bm ms.length ms.length (duM bs (duR ds ms.length) ms.length) (fun j => if j < ms.length then bs j else W.heap.size) (dualM ds ms) := by
    refine ⟨t3, ?_, fun j hj => ?_, ?_, fun j hj hjk => ?_⟩
    · by_cases e : 0 < ms.length
      · simp only [if_pos e]
        have := t4.lo' 0 e
        omega
      · simp only [if_neg e]
        exact hlt
    · simp only [if_pos hj]
      by_cases e : j + 1 < ms.length
      · simp only [if_pos e]
        have := t4.inc j (j + 1) (by omega) e
        omega
      · simp only [if_neg e]
        have := t4.hi j hj
        omega
    · simp only [if_neg (Nat.lt_irrefl _)]
      exact Nat.le_refl _
    · rw [dualM_at]
      simp only [duM, if_pos hjk]
      refine Tb.rw2h (g := bs j) ⟨(t4.at' j hjk).top, (t4.at' j hjk).rows, t4.hi j hjk⟩ (Nat.le_refl _) ?_ (Nat.le_trans (duR_8 hcx j) (by omega)) (duC_bd hm j)
      by_cases e : j + 1 < ms.length
      · simp only [if_pos e]
        exact t4.inc j (j + 1) (by omega) e
      · simp only [if_neg e]
        exact t4.hi j hjk
  obtain ⟨q3, J, s3, n3, d3, z3⟩ := hfill.parts (dualM_length ds ms).symm hml
  obtain ⟨q1, I, s1, n1, b1, z1⟩ := row_rc (xs := dualD ds) hdim (dualD_length ds) (fun i hi => by
    have hi' : i < ds.length := by rw [dualD_length] at hi; exact hi
    simp [duD, dualD, hi']) hd l1
  refine ⟨⟨q1, q3.wider l2 (Nat.le_refl _)⟩, I, J, s1, s3.wider l2 (Nat.le_refl _), n1, n3.wider ?_ (Nat.le_refl _), d3, fun x hx y hy => Or.inl ?_, z1, z3⟩
  · by_cases e : 0 < ms.length
    · simp only [if_pos e]
      have := t4.lo' 0 e
      omega
    · simp only [if_neg e]
      omega
  · have h1 := b1 x hx
    have h2 := (n3 y hy).1
    have h3 := hdim.lt
    rw [h1]
    by_cases e : 0 < ms.length
    · simp only [if_pos e] at h2
      have := t4.lo' 0 e
      omega
    · simp only [if_neg e] at h2
      omega
end Go.Proofs.YtckkbojankfdfaaDoor


namespace Go.Proofs.YtckkbojankfdfaaDoor
open Go.RowKit

section
variable {w w' : World} {base size n k : Nat} {e t : TypeId} {u v : Value} {xs : List Value} {g : Nat} {f : Nat → Value}
theorem owns_off (ho : w.ownsRow base e size u n xs) (hr : w.rowIs g t k f) (h : t ≠ e) (i : Nat) (x : Value) : (w.setCell ⟨g, i, none⟩ x).ownsRow base e size u n xs := by
  obtain ⟨c, hc, _⟩ := hr
  refine ⟨ho.1, ?_⟩
  rcases ho.2 with h2 | ⟨g2, cap, cur, hu, hb, hh, r⟩
  · exact Or.inl h2
  · refine Or.inr ⟨g2, cap, cur, hu, hb, ?_, r⟩
    rw [Below.heap_setCell w _ x g2 (by
      intro e2
      have e3 : g2 = g := e2
      subst e3
      rw [hc] at hh
      simp at hh
      exact h hh.2)]
    exact hh
end
theorem G1.off {w : World} {g k : Nat} {t : TypeId} {f : Nat → Value} {u : Value} {xs : List Int} (h : G1 w u xs) (hr : w.rowIs g t k f) (ht : t ≠ 2) (i : Nat) (x : Value) : G1 (w.setCell ⟨g, i, none⟩ x) u xs := owns_off h hr ht i x
theorem Gb.off {base : Nat} {w : World} {g k : Nat} {t : TypeId} {f : Nat → Value} {u : Value} {xs : List Int} (h : Gb base w u xs) (hr : w.rowIs g t k f) (ht : t ≠ 2) (i : Nat) (x : Value) : Gb base (w.setCell ⟨g, i, none⟩ x) u xs := owns_off h hr ht i x
theorem Gs.off {base : Nat} {w : World} {g k : Nat} {t : TypeId} {f : Nat → Value} {u : Value} {xs : List (List Int)} (h : Gs base w u xs) (hr : w.rowIs g t k f) (ht : t ≠ 2 ∧ t ≠ 33) (i : Nat) (x : Value) : Gs base (w.setCell ⟨g, i, none⟩ x) u xs := by
  obtain ⟨vs, ho, h1⟩ := h
  exact ⟨vs, owns_off ho hr ht.2 i x, fun k a b => (h1 k a b).off hr ht.1 i x⟩
theorem Gt.off {base : Nat} {w : World} {g k : Nat} {t : TypeId} {f : Nat → Value} {u : Value} {xs : List (List (List Int))} (h : Gt base w u xs) (hr : w.rowIs g t k f) (ht : t ≠ 2 ∧ t ≠ 33 ∧ t ≠ 22) (i : Nat) (x : Value) : Gt base (w.setCell ⟨g, i, none⟩ x) u xs := by
  obtain ⟨vs, ho, h1⟩ := h
  exact ⟨vs, owns_off ho hr ht.2.2 i x, fun k a b => (h1 k a b).off hr ⟨ht.1, ht.2.1⟩ i x⟩
section
variable {o : Oper} {a : Act} {w : World} {K : Act → World → Prop} {Q : Exit → Act → World → Prop}
end
section
variable {P : Program} {ops : Array Oper} {Q : Exit → Act → World → Prop} {md : Region.Mode} {S : World → Prop}
end

end Go.Proofs.YtckkbojankfdfaaDoor


namespace Go.Proofs.YtckkbojankfdfaaDoor
open Go.RowKit
/-- Numbers, dimensions and tables. -/
abbrev CpO := Int × Int × Int × List (List Int) × List (List Int) × List (List Int)
structure PtCp (lo hi : Nat) (W : World) (iv jv kv : Value) (Ii Ij Ik : List Iv) : Prop where
  si : S2 lo hi W iv Ii
  ni : Nums lo hi W Ii
  di : Disj Ii
  zi : ivSize Ii ≤ 1099511627776
  sj : S2 lo hi W jv Ij
  nj : Nums lo hi W Ij
  dj : Disj Ij
  zj : ivSize Ij ≤ 1099511627776
  sk : S2 lo hi W kv Ik
  nk : Nums lo hi W Ik
  dk : Disj Ik
  zk : ivSize Ik ≤ 1099511627776
  aij : ∀ x ∈ Ii, ∀ y ∈ Ij, Apart x y
  aik : ∀ x ∈ Ii, ∀ y ∈ Ik, Apart x y
  ajk : ∀ x ∈ Ij, ∀ y ∈ Ik, Apart x y
theorem PtCp.same {lo hi : Nat} {W W' : World} {iv jv kv : Value} {Ii Ij Ik : List Iv} (h : PtCp lo hi W iv jv kv Ii Ij Ik) (s : Same lo hi W W') : PtCp lo hi W' iv jv kv Ii Ij Ik :=
  ⟨h.si.same s, h.ni.same s, h.di, h.zi, h.sj.same s, h.nj.same s, h.dj, h.zj, h.sk.same s, h.nk.same s, h.dk, h.zk, h.aij, h.aik, h.ajk⟩
theorem PtCp.wider {lo hi lo' hi' : Nat} {W : World} {iv jv kv : Value} {Ii Ij Ik : List Iv} (h : PtCp lo hi W iv jv kv Ii Ij Ik) (h1 : lo' ≤ lo) (h2 : hi ≤ hi') : PtCp lo' hi' W iv jv kv Ii Ij Ik :=
  ⟨h.si.wider h1 h2, h.ni.wider h1 h2, h.di, h.zi, h.sj.wider h1 h2, h.nj.wider h1 h2, h.dj, h.zj, h.sk.wider h1 h2, h.nk.wider h1 h2, h.dk, h.zk, h.aij, h.aik, h.ajk⟩
def RcCp (lo hi : Nat) (W : World) (iv jv kv : Value) (il : List (List Int)) (jl : List (List Int)) (kl : List (List Int)) : Prop := CpW lo hi W iv jv kv il jl kl ∧ ∃ Ii Ij Ik, PtCp lo hi W iv jv kv Ii Ij Ik
theorem RcCp.same {lo hi : Nat} {W W' : World} {iv jv kv : Value} {il : List (List Int)} {jl : List (List Int)} {kl : List (List Int)} (h : RcCp lo hi W iv jv kv il jl kl) (s : Same lo hi W W') : RcCp lo hi W' iv jv kv il jl kl := by
  obtain ⟨h0, Ii, Ij, Ik, h1⟩ := h
  exact ⟨h0.same s, Ii, Ij, Ik, h1.same s⟩
theorem RcCp.wider {lo hi lo' hi' : Nat} {W : World} {iv jv kv : Value} {il : List (List Int)} {jl : List (List Int)} {kl : List (List Int)} (h : RcCp lo hi W iv jv kv il jl kl) (h1 : lo' ≤ lo) (h2 : hi ≤ hi') : RcCp lo' hi' W iv jv kv il jl kl := by
  obtain ⟨h0, Ii, Ij, Ik, h3⟩ := h
  exact ⟨⟨h0.fi.wider h1 h2, h0.fj.wider h1 h2, h0.fk.wider h1 h2⟩, Ii, Ij, Ik, h3.wider h1 h2⟩
theorem RcCp.cx {lo hi : Nat} {W : World} {iv jv kv : Value} {il : List (List Int)} {jl : List (List Int)} {kl : List (List Int)} (h : RcCp lo hi W iv jv kv il jl kl) : Cp 0 W iv jv kv il jl kl := h.1.cx.lower (Nat.zero_le _)
/-- Parts one behind the other. -/
theorem RcCp.of {lo hi b0 b1 b2 b3 : Nat} {W : World} {iv jv kv : Value} {il : List (List Int)} {jl : List (List Int)} {kl : List (List Int)} (hqi : Rw2 b0 b1 W iv il) (hqj : Rw2 b1 b2 W jv jl) (hqk : Rw2 b2 b3 W kv kl) (hl : lo ≤ b0) (l0 : b0 ≤ b1) (l1 : b1 ≤ b2) (l2 : b2 ≤ b3) (hh : b3 ≤ hi) : RcCp lo hi W iv jv kv il jl kl := by
  obtain ⟨wi, Ii, si, ni, di, zi⟩ := hqi
  obtain ⟨wj, Ij, sj, nj, dj, zj⟩ := hqj
  obtain ⟨wk, Ik, sk, nk, dk, zk⟩ := hqk
  refine ⟨⟨wi.wider (by omega) (by omega), wj.wider (by omega) (by omega), wk.wider (by omega) (by omega)⟩, Ii, Ij, Ik, ⟨si.wider (by omega) (by omega), ni.wider (by omega) (by omega), di, zi, sj.wider (by omega) (by omega), nj.wider (by omega) (by omega), dj, zj, sk.wider (by omega) (by omega), nk.wider (by omega) (by omega), dk, zk, ?_, ?_, ?_⟩⟩
  · intro x hx y hy
    exact Or.inl (by have := (ni x hx).2.1; have := (nj y hy).1; omega)
  · intro x hx y hy
    exact Or.inl (by have := (ni x hx).2.1; have := (nk y hy).1; omega)
  · intro x hx y hy
    exact Or.inl (by have := (nj x hx).2.1; have := (nk y hy).1; omega)
def RwCp (lo hi : Nat) (W : World) (u : Value) (o : CpO) : Prop := ∃ ai ci aj cj ak ck, u = .agg #[.int .i64 o.1, .int .i64 o.2.1, .int .i64 o.2.2.1, .slice ai o.2.2.2.1.length ci, .slice aj o.2.2.2.2.1.length cj, .slice ak o.2.2.2.2.2.length ck] ∧ RcCp lo hi W (.slice ai o.2.2.2.1.length ci) (.slice aj o.2.2.2.2.1.length cj) (.slice ak o.2.2.2.2.2.length ck) o.2.2.2.1 o.2.2.2.2.1 o.2.2.2.2.2
def GwCp (base : Nat) (W : World) (u : Value) (o : CpO) : Prop := ∃ ai ci aj cj ak ck, u = .agg #[.int .i64 o.1, .int .i64 o.2.1, .int .i64 o.2.2.1, .slice ai o.2.2.2.1.length ci, .slice aj o.2.2.2.2.1.length cj, .slice ak o.2.2.2.2.2.length ck] ∧ Gs base W (.slice ai o.2.2.2.1.length ci) o.2.2.2.1 ∧ Gs base W (.slice aj o.2.2.2.2.1.length cj) o.2.2.2.2.1 ∧ Gs base W (.slice ak o.2.2.2.2.2.length ck) o.2.2.2.2.2
theorem RwCp.nil (lo hi : Nat) (W : World) : RwCp lo hi W (.agg #[.int .i64 0, .int .i64 0, .int .i64 0, .slice none 0 0, .slice none 0 0, .slice none 0 0]) (0, 0, 0, [], [], []) :=
  ⟨none, 0, none, 0, none, 0, rfl, ⟨Or.inl ⟨rfl, _, _, rfl⟩, Or.inl ⟨rfl, _, _, rfl⟩, Or.inl ⟨rfl, _, _, rfl⟩⟩, [], [], [], ⟨⟨none, 0, 0, fun _ => .slice none 0 0, fun _ => [], rfl, by omega, rfl, fun _ h => absurd h (Nat.not_lt_zero _), fun h => absurd h (Nat.lt_irrefl _)⟩, fun _ h => absurd h (by simp), List.Pairwise.nil, by simp [ivSize], ⟨none, 0, 0, fun _ => .slice none 0 0, fun _ => [], rfl, by omega, rfl, fun _ h => absurd h (Nat.not_lt_zero _), fun h => absurd h (Nat.lt_irrefl _)⟩, fun _ h => absurd h (by simp), List.Pairwise.nil, by simp [ivSize], ⟨none, 0, 0, fun _ => .slice none 0 0, fun _ => [], rfl, by omega, rfl, fun _ h => absurd h (Nat.not_lt_zero _), fun h => absurd h (Nat.lt_irrefl _)⟩, fun _ h => absurd h (by simp), List.Pairwise.nil, by simp [ivSize], fun _ h => absurd h (by simp), fun _ h => absurd h (by simp), fun _ h => absurd h (by simp)⟩⟩
theorem Gb.nilv (base : Nat) (w : World) : Gb base w (.slice none 0 0) [] := ⟨rfl, Or.inl ⟨rfl, rfl⟩⟩
theorem Gs.nilv (base : Nat) (w : World) : Gs base w (.slice none 0 0) [] := ⟨[], ⟨rfl, Or.inl ⟨rfl, rfl⟩⟩, fun _ h => absurd h (Nat.not_lt_zero _)⟩
theorem Gt.nilv (base : Nat) (w : World) : Gt base w (.slice none 0 0) [] := ⟨[], ⟨rfl, Or.inl ⟨rfl, rfl⟩⟩, fun _ h => absurd h (Nat.not_lt_zero _)⟩
theorem GwCp.nil (base : Nat) (W : World) : GwCp base W (.agg #[.int .i64 0, .int .i64 0, .int .i64 0, .slice none 0 0, .slice none 0 0, .slice none 0 0]) (0, 0, 0, [], [], []) := ⟨none, 0, none, 0, none, 0, rfl, Gs.nilv _ _, Gs.nilv _ _, Gs.nilv _ _⟩
/-- What a law asks of one that it compares. -/
def CpBo (o : CpO) : Prop := CpB 1048576 o.2.2.2.1 o.2.2.2.2.1 o.2.2.2.2.2
structure HcCp' (lo hi : Nat) (W : World) (iv jv kv : Value) (m : Int) (Ii Ij Ik : List Iv) : Prop where
  si : S2 lo hi W iv Ii
  mmi : Marked W Ii (1)
  ri : ∀ x ∈ Ii, lo ≤ x.1 ∧ x.1 < hi
  zi : ivSize Ii ≤ 1099511627776
  sj : S2 lo hi W jv Ij
  mmj : Marked W Ij (1 + (ivSize Ii : Int))
  rj : ∀ x ∈ Ij, lo ≤ x.1 ∧ x.1 < hi
  zj : ivSize Ij ≤ 1099511627776
  sk : S2 lo hi W kv Ik
  mmk : Marked W Ik (1 + (ivSize Ii : Int) + (ivSize Ij : Int))
  rk : ∀ x ∈ Ik, lo ≤ x.1 ∧ x.1 < hi
  zk : ivSize Ik ≤ 1099511627776
  me : m = 1 + (ivSize Ii : Int) + (ivSize Ij : Int) + (ivSize Ik : Int)
def HcCp (lo hi : Nat) (W : World) (iv jv kv : Value) (m : Int) : Prop := ∃ Ii Ij Ik, HcCp' lo hi W iv jv kv m Ii Ij Ik
theorem HcCp.same {lo hi : Nat} {W W' : World} {iv jv kv : Value} {m : Int} (h : HcCp lo hi W iv jv kv m) (s : Same lo hi W W') : HcCp lo hi W' iv jv kv m := by
  obtain ⟨Ii, Ij, Ik, h⟩ := h
  exact ⟨Ii, Ij, Ik, h.si.same s, h.mmi.same h.ri s, h.ri, h.zi, h.sj.same s, h.mmj.same h.rj s, h.rj, h.zj, h.sk.same s, h.mmk.same h.rk s, h.rk, h.zk, h.me⟩
/-- The cells of a box alone. -/
structure BcCp (wr : World) (b : Nat) (p d e : Int) (iv jv kv : Value) : Prop where
  c0 : wr.cell? ⟨b, 0, none⟩ = some (.int .i64 p)
  c1 : wr.cell? ⟨b, 1, none⟩ = some (.int .i64 d)
  c2 : wr.cell? ⟨b, 2, none⟩ = some (.int .i64 e)
  c3 : wr.cell? ⟨b, 3, none⟩ = some (iv)
  c4 : wr.cell? ⟨b, 4, none⟩ = some (jv)
  c5 : wr.cell? ⟨b, 5, none⟩ = some (kv)
  lt : b < wr.heap.size
theorem BcCp.start (w : World) (p d e : Int) (iv jv kv : Value) (t : TypeId) : BcCp (w.alloc (.cells #[.int .i64 p, .int .i64 d, .int .i64 e, iv, jv, kv] t)) w.heap.size p d e iv jv kv := ⟨by simp, by simp, by simp, by simp, by simp, by simp, by simp⟩
theorem BcCp.next {wr w' : World} {b : Nat} {p d e : Int} {iv jv kv : Value} (h : BcCp wr b p d e iv jv kv) (hb : Below wr.heap.size wr w') : BcCp w' b p d e iv jv kv :=
  ⟨later hb (Nat.le_refl _) h.c0, later hb (Nat.le_refl _) h.c1, later hb (Nat.le_refl _) h.c2, later hb (Nat.le_refl _) h.c3, later hb (Nat.le_refl _) h.c4, later hb (Nat.le_refl _) h.c5, Nat.lt_of_lt_of_le h.lt hb.size⟩
theorem BcCp.only {wr w' : World} {b lo hi : Nat} {p d e : Int} {iv jv kv : Value} (h : BcCp wr b p d e iv jv kv) (ho : Only lo hi wr w') (hb : b < lo ∨ hi ≤ b) : BcCp w' b p d e iv jv kv :=
  ⟨(ho.cell hb).trans h.c0, (ho.cell hb).trans h.c1, (ho.cell hb).trans h.c2, (ho.cell hb).trans h.c3, (ho.cell hb).trans h.c4, (ho.cell hb).trans h.c5, by have := ho.size; have := h.lt; omega⟩
theorem BcCp.bq {wr : World} {b : Nat} {p d e : Int} {iv jv kv : Value} {il : List (List Int)} {jl : List (List Int)} {kl : List (List Int)} (h : BcCp wr b p d e iv jv kv) (hc : Cp 0 wr iv jv kv il jl kl) : BqCp wr b p d e iv jv kv il jl kl := ⟨h.c0, h.c1, h.c2, h.c3, h.c4, h.c5, h.lt, hc⟩
theorem BcCp.row (W : World) (b : Nat) (p d e : Int) (iv jv kv : Value) {c0 : Array Value} {t : TypeId} (h : W.heap[b]? = some (.cells c0 t (0, 0))) : BcCp (W.setRow b #[.int .i64 p, .int .i64 d, .int .i64 e, iv, jv, kv]) b p d e iv jv kv := by
  have h0 := setRow_heap W b c0 #[.int .i64 p, .int .i64 d, .int .i64 e, iv, jv, kv] t _ h
  have hlt : b < W.heap.size := (Array.getElem?_eq_some_iff.1 h).1
  exact ⟨by simp [World.cell?, h0], by simp [World.cell?, h0], by simp [World.cell?, h0], by simp [World.cell?, h0], by simp [World.cell?, h0], by simp [World.cell?, h0], by simpa using hlt⟩
end Go.Proofs.YtckkbojankfdfaaDoor


namespace Go.Proofs.YtckkbojankfdfaaDoor
open Go.RowKit

/-- A value's own block is not this one. -/
def OffB (b : Option Nat) (u : Value) : Prop := ∀ g, u.ownBlock = some g → b ≠ some g
theorem owns_grown_off {w w' : World} {base : Nat} {e : TypeId} {size n : Nat} {u : Value} {xs : List Value} {b : Option Nat} (h : w.ownsRow base e size u n xs) (ho : OffB b u) (hg : w.grownBy w' b) : w'.ownsRow base e size u n xs := by
  refine ⟨h.1, ?_⟩
  rcases h.2 with h2 | ⟨g, cap, cur, hu, hb, hh, r⟩
  · exact Or.inl h2
  · refine Or.inr ⟨g, cap, cur, hu, hb, ?_, r⟩
    rw [hg.block g (Array.getElem?_eq_some_iff.1 hh).1]
    · exact hh
    · exact fun e2 => ho g (by rw [hu]; rfl) e2.symm
theorem owns_lt {w : World} {base : Nat} {e : TypeId} {size n : Nat} {u : Value} {xs : List Value} (h : w.ownsRow base e size u n xs) {g : Nat} (hg : u.ownBlock = some g) : g < w.heap.size := by
  rcases h.2 with ⟨rfl, _⟩ | ⟨g2, cap, cur, rfl, _, hh, _⟩
  · simp [Value.ownBlock] at hg
  · simp [Value.ownBlock] at hg
    subst hg
    exact (Array.getElem?_eq_some_iff.1 hh).1
/-- A table whose rows lie off a block. -/
def Gr (b : Option Nat) (w : World) (u : Value) (t : List (List Int)) : Prop := ∃ vs, w.ownsRow 0 33 1 u t.length vs ∧ ∀ k (h1 : k < vs.length) (h2 : k < t.length), G1 w vs[k] t[k] ∧ OffB b vs[k]
def Gto (b : Option Nat) (base : Nat) (w : World) (u : Value) (ts : List (List (List Int))) : Prop := ∃ vs, w.ownsRow base 22 1 u ts.length vs ∧ ∀ k (h1 : k < vs.length) (h2 : k < ts.length), Gr b w vs[k] ts[k]
theorem Gr.gs {b : Option Nat} {w : World} {u : Value} {t : List (List Int)} (h : Gr b w u t) : Gs 0 w u t := by
  obtain ⟨vs, ho, hr⟩ := h
  exact ⟨vs, ho, fun k h1 h2 => (hr k h1 h2).1⟩
theorem Gr.below {b : Option Nat} {w w' : World} {u : Value} {t : List (List Int)} (h : Gr b w u t) (hb : Below w.heap.size w w') : Gr b w' u t := by
  obtain ⟨vs, ho, hr⟩ := h
  exact ⟨vs, owns_below ho hb, fun k h1 h2 => ⟨(hr k h1 h2).1.below hb, (hr k h1 h2).2⟩⟩
theorem Gto.below {b : Option Nat} {base : Nat} {w w' : World} {u : Value} {ts : List (List (List Int))} (h : Gto b base w u ts) (hb : Below w.heap.size w w') : Gto b base w' u ts := by
  obtain ⟨vs, ho, hr⟩ := h
  exact ⟨vs, owns_below ho hb, fun k h1 h2 => (hr k h1 h2).below hb⟩
theorem Gto.nil {b : Option Nat} {base : Nat} {w : World} {u : Value} (h : Gt base w u []) : Gto b base w u [] := by
  obtain ⟨vs, ho, _⟩ := h
  exact ⟨vs, ho, fun k _ h2 => absurd h2 (Nat.not_lt_zero _)⟩
/-- A table of a call made behind a block lies off it. -/
theorem Gr.of {b : Nat} {w : World} {u : Value} {t : List (List Int)} {vs : List Value} (ho : w.ownsRow 0 33 1 u t.length vs) (hr : ∀ k (h1 : k < vs.length) (h2 : k < t.length), Gb (b + 1) w vs[k] t[k]) : Gr (some b) w u t :=
  ⟨vs, ho, fun k h1 h2 => ⟨(hr k h1 h2).g1, fun g hg e => by
    have := ((hr k h1 h2).lt g hg).1
    injection e with e
    omega⟩⟩
theorem Gr.move {b b' : Option Nat} {w : World} {u : Value} {t : List (List Int)} (h : Gr b w u t) (hx : ∀ g, b' = some g → b = some g ∨ w.heap.size ≤ g) : Gr b' w u t := by
  obtain ⟨vs, ho, hr⟩ := h
  refine ⟨vs, ho, fun k h1 h2 => ⟨(hr k h1 h2).1, fun g hg e => ?_⟩⟩
  rcases hx g e with h3 | h3
  · exact (hr k h1 h2).2 g hg h3
  · have := owns_lt (hr k h1 h2).1 hg
    omega
theorem Gto.move {b b' : Option Nat} {base : Nat} {w : World} {u : Value} {ts : List (List (List Int))} (h : Gto b base w u ts) (hx : ∀ g, b' = some g → b = some g ∨ w.heap.size ≤ g) : Gto b' base w u ts := by
  obtain ⟨vs, ho, hr⟩ := h
  exact ⟨vs, ho, fun k h1 h2 => (hr k h1 h2).move hx⟩
theorem Gr.grown {b : Option Nat} {w w3 : World} {base n : Nat} {u v : Value} {t : List (List Int)} {vs : List Value} (h : Gr b w u t) (ho : w.ownsRow base 22 1 v n vs) (hg : w.grownBy w3 v.ownBlock) : Gr b w3 u t := by
  obtain ⟨us, hu, hr⟩ := h
  exact ⟨us, owns_grown hu ho (by decide) hg, fun k h1 h2 => ⟨owns_grown (hr k h1 h2).1 ho (by decide) hg, (hr k h1 h2).2⟩⟩
theorem Gto.push {b : Option Nat} {base : Nat} {w w3 : World} {v v' row : Value} {ts : List (List (List Int))} {vs : List Value} {x : List (List Int)} (ho : w.ownsRow base 22 1 v ts.length vs) (hr : ∀ k (h1 : k < vs.length) (h2 : k < ts.length), Gr b w vs[k] ts[k]) (hx : Gr b w row x)
    (ho3 : w3.ownsRow base 22 1 v' (ts.length + 1) (vs ++ [row])) (hg : w.grownBy w3 v.ownBlock) : Gto b base w3 v' (ts ++ [x]) := by
  have hvl : vs.length = ts.length := by have := ho.1; omega
  refine ⟨vs ++ [row], by simpa using ho3, fun k h1 h2 => ?_⟩
  by_cases e : k < vs.length
  · rw [List.getElem_append_left e, List.getElem_append_left (by omega)]
    exact (hr k e (by omega)).grown ho hg
  · have e2 : k = vs.length := by simp at h1; omega
    subst e2
    rw [List.getElem_append_right (Nat.le_refl _), List.getElem_append_right (by omega)]
    simp only [Nat.sub_self, hvl, List.getElem_cons_zero]
    exact hx.grown ho hg
theorem Gr.off {b : Option Nat} {w : World} {g k : Nat} {t : TypeId} {f : Nat → Value} {u : Value} {xs : List (List Int)} (h : Gr b w u xs) (hr : w.rowIs g t k f) (ht : t ≠ 2 ∧ t ≠ 33) (i : Nat) (x : Value) : Gr b (w.setCell ⟨g, i, none⟩ x) u xs := by
  obtain ⟨vs, ho, h1⟩ := h
  exact ⟨vs, owns_off ho hr ht.2 i x, fun k a c => ⟨(h1 k a c).1.off hr ht.1 i x, (h1 k a c).2⟩⟩
theorem Gto.off {b : Option Nat} {base : Nat} {w : World} {g k : Nat} {t : TypeId} {f : Nat → Value} {u : Value} {xs : List (List (List Int))} (h : Gto b base w u xs) (hr : w.rowIs g t k f) (ht : t ≠ 2 ∧ t ≠ 33 ∧ t ≠ 22) (i : Nat) (x : Value) : Gto b base (w.setCell ⟨g, i, none⟩ x) u xs := by
  obtain ⟨vs, ho, h1⟩ := h
  exact ⟨vs, owns_off ho hr ht.2.2 i x, fun k a c => (h1 k a c).off hr ⟨ht.1, ht.2.1⟩ i x⟩

section
variable {o : Oper} {a : Act} {w : World} {K : Act → World → Prop} {Q : Exit → Act → World → Prop}
end
end Go.Proofs.YtckkbojankfdfaaDoor

