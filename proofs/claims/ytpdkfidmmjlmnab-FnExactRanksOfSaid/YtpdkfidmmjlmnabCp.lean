/-
  Couple values: read, owned, bounded, copied, compared, marked; their boxes; how one that came in reads. (gk.py)
-/
import Derived.Test.YtpdkfidmmjlmnabQh
import Derived.Test.YtpdkfidmmjlmnabQe
import Derived.Test.YtpdkfidmmjlmnabQg
import Derived.Test.YtpdkfidmmjlmnabQb
import Derived.Test.YtpdkfidmmjlmnabQc
import Derived.Deep.Strs
namespace Go.Proofs.Ytpdkfidmmjlmnab
open Go.ChangeShapes Go.WideShapes Go.ChangeAt Go.RowKit Go.Deep

structure Cp (lo : Nat) (w : World) (iv jv kv : Value) (il : List (List Int)) (jl : List (List Int)) (kl : List (List Int)) : Prop where
  fi : L2 lo w iv il
  fj : L2 lo w jv jl
  fk : L2 lo w kv kl
theorem Cp.below {lo : Nat} {w w' : World} {iv jv kv : Value} {il : List (List Int)} {jl : List (List Int)} {kl : List (List Int)} (h : Cp lo w iv jv kv il jl kl) (hb : Below w.heap.size w w') : Cp lo w' iv jv kv il jl kl := ⟨h.fi.below hb, h.fj.below hb, h.fk.below hb⟩
theorem Cp.lower {lo lo' : Nat} (hl : lo' ≤ lo) {w : World} {iv jv kv : Value} {il : List (List Int)} {jl : List (List Int)} {kl : List (List Int)} (h : Cp lo w iv jv kv il jl kl) : Cp lo' w iv jv kv il jl kl := ⟨h.fi.lower hl, h.fj.lower hl, h.fk.lower hl⟩
theorem Cp.zero {lo : Nat} {w : World} {iv jv kv : Value} {il : List (List Int)} {jl : List (List Int)} {kl : List (List Int)} (h : Cp lo w iv jv kv il jl kl) : Cp 0 w iv jv kv il jl kl := h.lower (Nat.zero_le _)
theorem Cp.drew {lo : Nat} {w : World} {iv jv kv : Value} {il : List (List Int)} {jl : List (List Int)} {kl : List (List Int)} (h : Cp lo w iv jv kv il jl kl) : Cp lo w.drew iv jv kv il jl kl := h.below (Below.refl _ _).drew
theorem Cp.shapes {lo : Nat} {w : World} {iv jv kv : Value} {il : List (List Int)} {jl : List (List Int)} {kl : List (List Int)} (h : Cp lo w iv jv kv il jl kl) : (∃ a c, iv = .slice a il.length c) ∧ (∃ a c, jv = .slice a jl.length c) ∧ (∃ a c, kv = .slice a kl.length c) := ⟨Sl.shape h.fi, Sl.shape h.fj, Sl.shape h.fk⟩
structure CpB (n : Nat) (il : List (List Int)) (jl : List (List Int)) (kl : List (List Int)) : Prop where
  bi : Bd2 n il
  bj : Bd2 n jl
  bk : Bd2 n kl
structure CpW (lo hi : Nat) (w : World) (iv jv kv : Value) (il : List (List Int)) (jl : List (List Int)) (kl : List (List Int)) : Prop where
  fi : W2 lo hi w iv il
  fj : W2 lo hi w jv jl
  fk : W2 lo hi w kv kl
theorem CpW.same {lo hi : Nat} {w w' : World} {iv jv kv : Value} {il : List (List Int)} {jl : List (List Int)} {kl : List (List Int)} (h : CpW lo hi w iv jv kv il jl kl) (s : Same lo hi w w') : CpW lo hi w' iv jv kv il jl kl := ⟨h.fi.same s, h.fj.same s, h.fk.same s⟩
theorem CpW.cx {lo hi : Nat} {w : World} {iv jv kv : Value} {il : List (List Int)} {jl : List (List Int)} {kl : List (List Int)} (h : CpW lo hi w iv jv kv il jl kl) : Cp lo w iv jv kv il jl kl := ⟨h.fi.l2, h.fj.l2, h.fk.l2⟩
/-- The box of one, in whatever later world. -/
structure BxCp (w wr : World) (b : Nat) (p d e : Int) (iv jv kv : Value) (il : List (List Int)) (jl : List (List Int)) (kl : List (List Int)) : Prop where
  below : Below w.heap.size w wr
  c0 : wr.cell? ⟨b, 0, none⟩ = some (.int .i64 p)
  c1 : wr.cell? ⟨b, 1, none⟩ = some (.int .i64 d)
  c2 : wr.cell? ⟨b, 2, none⟩ = some (.int .i64 e)
  c3 : wr.cell? ⟨b, 3, none⟩ = some (iv)
  c4 : wr.cell? ⟨b, 4, none⟩ = some (jv)
  c5 : wr.cell? ⟨b, 5, none⟩ = some (kv)
  lt : b < wr.heap.size
  cx : Cp 0 wr iv jv kv il jl kl
theorem BxCp.next {w wr w' : World} {b : Nat} {p d e : Int} {iv jv kv : Value} {il : List (List Int)} {jl : List (List Int)} {kl : List (List Int)} (h : BxCp w wr b p d e iv jv kv il jl kl) (hb : Below wr.heap.size wr w') : BxCp w w' b p d e iv jv kv il jl kl :=
  ⟨h.below.trans (hb.mono h.below.size), later hb (Nat.le_refl _) h.c0, later hb (Nat.le_refl _) h.c1, later hb (Nat.le_refl _) h.c2, later hb (Nat.le_refl _) h.c3, later hb (Nat.le_refl _) h.c4, later hb (Nat.le_refl _) h.c5, Nat.lt_of_lt_of_le h.lt hb.size, h.cx.below hb⟩
theorem BxCp.start {w : World} {p d e : Int} {iv jv kv : Value} {il : List (List Int)} {jl : List (List Int)} {kl : List (List Int)} (t : TypeId) (h : Cp 0 w iv jv kv il jl kl) : BxCp w (w.alloc (.cells #[.int .i64 p, .int .i64 d, .int .i64 e, iv, jv, kv] t)) w.heap.size p d e iv jv kv il jl kl :=
  ⟨(Below.refl _ _).alloc (Nat.le_refl _) _, by simp, by simp, by simp, by simp, by simp, by simp, by simp, h.below ((Below.refl _ _).alloc (Nat.le_refl _) _)⟩
structure BqCp (wr : World) (b : Nat) (p d e : Int) (iv jv kv : Value) (il : List (List Int)) (jl : List (List Int)) (kl : List (List Int)) : Prop where
  c0 : wr.cell? ⟨b, 0, none⟩ = some (.int .i64 p)
  c1 : wr.cell? ⟨b, 1, none⟩ = some (.int .i64 d)
  c2 : wr.cell? ⟨b, 2, none⟩ = some (.int .i64 e)
  c3 : wr.cell? ⟨b, 3, none⟩ = some (iv)
  c4 : wr.cell? ⟨b, 4, none⟩ = some (jv)
  c5 : wr.cell? ⟨b, 5, none⟩ = some (kv)
  lt : b < wr.heap.size
  cx : Cp 0 wr iv jv kv il jl kl
theorem BxCp.bq {w wr : World} {b : Nat} {p d e : Int} {iv jv kv : Value} {il : List (List Int)} {jl : List (List Int)} {kl : List (List Int)} (h : BxCp w wr b p d e iv jv kv il jl kl) : BqCp wr b p d e iv jv kv il jl kl := ⟨h.c0, h.c1, h.c2, h.c3, h.c4, h.c5, h.lt, h.cx⟩
theorem BqCp.next {wr w' : World} {b : Nat} {p d e : Int} {iv jv kv : Value} {il : List (List Int)} {jl : List (List Int)} {kl : List (List Int)} (h : BqCp wr b p d e iv jv kv il jl kl) (hb : Below wr.heap.size wr w') : BqCp w' b p d e iv jv kv il jl kl :=
  ⟨later hb (Nat.le_refl _) h.c0, later hb (Nat.le_refl _) h.c1, later hb (Nat.le_refl _) h.c2, later hb (Nat.le_refl _) h.c3, later hb (Nat.le_refl _) h.c4, later hb (Nat.le_refl _) h.c5, Nat.lt_of_lt_of_le h.lt hb.size, h.cx.below hb⟩
theorem BqCp.only {wr w' : World} {b lo hi : Nat} {p d e : Int} {iv jv kv : Value} {il : List (List Int)} {jl : List (List Int)} {kl : List (List Int)} (h : BqCp wr b p d e iv jv kv il jl kl) (ho : Only lo hi wr w') (hc : Cp 0 w' iv jv kv il jl kl) (hb : b < lo ∨ hi ≤ b) : BqCp w' b p d e iv jv kv il jl kl :=
  ⟨(ho.cell hb).trans h.c0, (ho.cell hb).trans h.c1, (ho.cell hb).trans h.c2, (ho.cell hb).trans h.c3, (ho.cell hb).trans h.c4, (ho.cell hb).trans h.c5, by have := ho.size; have := h.lt; omega, hc⟩
theorem bxCp_two {w : World} {p d e : Int} {p2 d2 e2 : Int} {iv jv kv : Value} {iv2 jv2 kv2 : Value} {il : List (List Int)} {jl : List (List Int)} {kl : List (List Int)} {il2 : List (List Int)} {jl2 : List (List Int)} {kl2 : List (List Int)} (t : TypeId) (h : Cp 0 w iv jv kv il jl kl) (h2 : Cp 0 w iv2 jv2 kv2 il2 jl2 kl2) :
    BxCp w ((w.alloc (.cells #[.int .i64 p, .int .i64 d, .int .i64 e, iv, jv, kv] t)).alloc (.cells #[.int .i64 p2, .int .i64 d2, .int .i64 e2, iv2, jv2, kv2] t)) w.heap.size p d e iv jv kv il jl kl ∧ BxCp w ((w.alloc (.cells #[.int .i64 p, .int .i64 d, .int .i64 e, iv, jv, kv] t)).alloc (.cells #[.int .i64 p2, .int .i64 d2, .int .i64 e2, iv2, jv2, kv2] t)) (w.heap.size + 1) p2 d2 e2 iv2 jv2 kv2 il2 jl2 kl2 := by
  have b1 : Below w.heap.size w (w.alloc (.cells #[.int .i64 p, .int .i64 d, .int .i64 e, iv, jv, kv] t)) := below_alloc1 _ _
  refine ⟨(BxCp.start t h).next (below_alloc1 _ _), ?_⟩
  have := BxCp.start (p := p2) (d := d2) (e := e2) t (h2.below b1)
  have hs : (w.alloc (.cells #[.int .i64 p, .int .i64 d, .int .i64 e, iv, jv, kv] t)).heap.size = w.heap.size + 1 := by simp
  rw [hs] at this
  exact ⟨b1.trans (this.below.mono (by omega)), this.c0, this.c1, this.c2, this.c3, this.c4, this.c5, this.lt, this.cx⟩

set_option maxHeartbeats 800000 in
theorem szCouple_any (p d e : Int) (iv jv kv : Value) (il : List (List Int)) (jl : List (List Int)) (kl : List (List Int)) (left : Int) (w : World) (h : Cp 0 w iv jv kv il jl kl) (h0 : 0 ≤ left) (h1 : left ≤ 1048576) (hml : CpB 9223372036854775807 il jl kl) :
    Calls Try.prog 65 #[.agg #[.int .i64 p, .int .i64 d, .int .i64 e, iv, jv, kv], .int .i64 left] w (SzB left (CpB 1048576 il jl kl) w) := by
  have H := Lib.hid h
  have HML := Lib.hid hml
  have HB : Hid (Below w.heap.size w (w.alloc (.cells #[.int .i64 p, .int .i64 d, .int .i64 e, iv, jv, kv] 68))) := Lib.hid ((Below.refl _ _).alloc (Nat.le_refl _) _)
  clear h hml
  go_enter Try.func65, Try.ntmps65
  go_wp2_with fail
  refine (sz2_any (lo := 0) iv il left _ (H.out.fi.below HB.out) h0 (by omega) HML.out.bi).mono ?_
  rintro ee w' ⟨r0, rfl, rfl, hpost⟩
  rcases hpost with rfl | ⟨hp0, hq0, hbb⟩
  · go_wp2
    go_ret
    exact ⟨_, rfl, HB.out, Or.inl rfl⟩
  have HBB0 := Lib.hid hbb
  clear hbb
  go_wp2_with fail
  refine (sz2_any (lo := 0) jv jl r0 _ (H.out.fj.below HB.out) hp0 (by omega) HML.out.bj).mono ?_
  rintro ee w' ⟨r1, rfl, rfl, hpost⟩
  rcases hpost with rfl | ⟨hp1, hq1, hbb⟩
  · go_wp2
    go_ret
    exact ⟨_, rfl, HB.out, Or.inl rfl⟩
  have HBB1 := Lib.hid hbb
  clear hbb
  go_wp2_with fail
  refine (sz2_any (lo := 0) kv kl r1 _ (H.out.fk.below HB.out) hp1 (by omega) HML.out.bk).mono ?_
  rintro ee w' ⟨r2, rfl, rfl, hpost⟩
  rcases hpost with rfl | ⟨hp2, hq2, hbb⟩
  · go_wp2
    go_ret
    exact ⟨_, rfl, HB.out, Or.inl rfl⟩
  have HBB2 := Lib.hid hbb
  clear hbb
  go_wp2
  go_ret
  exact ⟨_, rfl, HB.out, Or.inr ⟨hp2, by omega, ⟨HBB0.out, HBB1.out, HBB2.out⟩⟩⟩
def ToCp (p d e : Int) (il : List (List Int)) (jl : List (List Int)) (kl : List (List Int)) (w : World) (e' : Ending) (w' : World) : Prop := ∃ iv jv kv, e' = .returned (.agg #[.int .i64 p, .int .i64 d, .int .i64 e, iv, jv, kv]) ∧ Cp w.heap.size w' iv jv kv il jl kl ∧ Below w.heap.size w w'

set_option maxHeartbeats 1600000 in
theorem toCouple_any (p d e : Int) (iv jv kv : Value) (il : List (List Int)) (jl : List (List Int)) (kl : List (List Int)) (w : World) (h : Cp 0 w iv jv kv il jl kl) (hm : CpB 1048576 il jl kl) :
    Calls Try.prog 67 #[.agg #[.int .i64 p, .int .i64 d, .int .i64 e, iv, jv, kv]] w (ToCp p d e il jl kl w) := by
  have H := Lib.hid h
  have HM := Lib.hid hm
  clear h hm
  have hres : Try.f67.results = #[.cell 2 71] := by kernel_rfl
  have HRES := Lib.hid hres
  clear hres
  have HB0 : Hid (Below w.heap.size w (((w.alloc (.cells #[.int .i64 p, .int .i64 d, .int .i64 e, iv, jv, kv] 68)).alloc (.cells #[.int .i64 0, .int .i64 0, .int .i64 0, .slice none 0 0, .slice none 0 0, .slice none 0 0] 71)).alloc (.cells #[.int .i64 p, .int .i64 d, .int .i64 e, .slice none 0 0, .slice none 0 0, .slice none 0 0] 71))) := Lib.hid ((((Below.refl _ _).alloc (Nat.le_refl _) _).alloc (by simp) _).alloc (by simp; omega) _)
  have hz0 : w.heap.size + 3 = (((w.alloc (.cells #[.int .i64 p, .int .i64 d, .int .i64 e, iv, jv, kv] 68)).alloc (.cells #[.int .i64 0, .int .i64 0, .int .i64 0, .slice none 0 0, .slice none 0 0, .slice none 0 0] 71)).alloc (.cells #[.int .i64 p, .int .i64 d, .int .i64 e, .slice none 0 0, .slice none 0 0, .slice none 0 0] 71)).heap.size := by simp
  have HZ0 := Lib.hid hz0
  clear hz0
  go_enter Try.func67, Try.ntmps67
  go_wp2_with fail
  refine (to2_any iv il _ (H.out.fi.below HB0.out) HM.out.bi).mono ?_
  rintro ee w1 ⟨u0, rfl, hr, hb⟩
  obtain ⟨ai, ci, rfl⟩ := Sl.shape hr
  have hs0 : w.heap.size + 3 ≤ w1.heap.size := by have := hb.size; simp at this; omega
  obtain ⟨hc0, hf0⟩ := bcell hb
  have HB0b := Lib.hid (HB0.out.trans (hb.mono (by first | omega | (simp; omega) | simp)))
  have HRi : Hid (L2 (w.heap.size + 1 + 1 + 1) w1 (.slice ai il.length ci) il) := Lib.hid (hr.lower (by first | omega | (simp; omega) | simp))
  clear hr hb
  have hzx0 : w.heap.size < w1.heap.size := by omega
  have hzz0 : w.heap.size + 1 < w1.heap.size := by omega
  have hzy0 : w.heap.size + 1 + 1 < w1.heap.size := by omega
  have HB0c : Hid (Below w.heap.size w (w1.setCell ⟨w.heap.size + 1 + 1, 3, none⟩ (.slice ai il.length ci))) := Lib.hid (HB0b.out.setCell (by show w.heap.size ≤ w.heap.size + 1 + 1; omega) _)
  have HRi' : Hid (L2 (w.heap.size + 1 + 1 + 1) (w1.setCell ⟨w.heap.size + 1 + 1, 3, none⟩ (.slice ai il.length ci)) (.slice ai il.length ci) il) := Lib.hid (stable2 _ _ _ _ _ (Keep.set _ (Nat.lt_succ_self _)) HRi.out)
  clear HRi
  have HRi := HRi'
  clear HRi'
  go_wp2_with fail
  refine (to2_any jv jl _ (H.out.fj.below HB0c.out) HM.out.bj).mono ?_
  rintro ee w2 ⟨u1, rfl, hr, hb⟩
  obtain ⟨aj, cj, rfl⟩ := Sl.shape hr
  have hs1 : w1.heap.size ≤ w2.heap.size := by have := hb.size; simpa using this
  obtain ⟨hc1, hf1⟩ := bcell hb
  have HB1b := Lib.hid (HB0c.out.trans (hb.mono (by first | omega | (simp; omega) | simp)))
  have HRi' := Lib.hid (HRi.out.below hb)
  clear HRi
  have HRi := HRi'
  clear HRi'
  have HRj : Hid (L2 (w.heap.size + 1 + 1 + 1) w2 (.slice aj jl.length cj) jl) := Lib.hid (hr.lower (by first | omega | (simp; omega) | simp))
  clear hr hb
  have hzx1 : w.heap.size < w2.heap.size := by omega
  have hzz1 : w.heap.size + 1 < w2.heap.size := by omega
  have hzy1 : w.heap.size + 1 + 1 < w2.heap.size := by omega
  have HB1c : Hid (Below w.heap.size w (w2.setCell ⟨w.heap.size + 1 + 1, 4, none⟩ (.slice aj jl.length cj))) := Lib.hid (HB1b.out.setCell (by show w.heap.size ≤ w.heap.size + 1 + 1; omega) _)
  have HRi' : Hid (L2 (w.heap.size + 1 + 1 + 1) (w2.setCell ⟨w.heap.size + 1 + 1, 4, none⟩ (.slice aj jl.length cj)) (.slice ai il.length ci) il) := Lib.hid (stable2 _ _ _ _ _ (Keep.set _ (Nat.lt_succ_self _)) HRi.out)
  clear HRi
  have HRi := HRi'
  clear HRi'
  have HRj' : Hid (L2 (w.heap.size + 1 + 1 + 1) (w2.setCell ⟨w.heap.size + 1 + 1, 4, none⟩ (.slice aj jl.length cj)) (.slice aj jl.length cj) jl) := Lib.hid (stable2 _ _ _ _ _ (Keep.set _ (Nat.lt_succ_self _)) HRj.out)
  clear HRj
  have HRj := HRj'
  clear HRj'
  go_wp2_with fail
  refine (to2_any kv kl _ (H.out.fk.below HB1c.out) HM.out.bk).mono ?_
  rintro ee w3 ⟨u2, rfl, hr, hb⟩
  obtain ⟨ak, ck, rfl⟩ := Sl.shape hr
  have hs2 : w2.heap.size ≤ w3.heap.size := by have := hb.size; simpa using this
  obtain ⟨hc2, hf2⟩ := bcell hb
  have HB2b := Lib.hid (HB1c.out.trans (hb.mono (by first | omega | (simp; omega) | simp)))
  have HRi' := Lib.hid (HRi.out.below hb)
  have HRj' := Lib.hid (HRj.out.below hb)
  clear HRi
  have HRi := HRi'
  clear HRi'
  clear HRj
  have HRj := HRj'
  clear HRj'
  have HRk : Hid (L2 (w.heap.size + 1 + 1 + 1) w3 (.slice ak kl.length ck) kl) := Lib.hid (hr.lower (by first | omega | (simp; omega) | simp))
  clear hr hb
  have hzx2 : w.heap.size < w3.heap.size := by omega
  have hzz2 : w.heap.size + 1 < w3.heap.size := by omega
  have hzy2 : w.heap.size + 1 + 1 < w3.heap.size := by omega
  go_wp2
  refine bodyPost_ret (v := .agg #[.int .i64 p, .int .i64 d, .int .i64 e, .slice ai il.length ci, .slice aj jl.length cj, .slice ak kl.length ck]) ?_ rfl ?_
  · simp only [results, HRES.out]
    go_simp
  · have hk : Keep (w.heap.size + 1 + 1 + 1) w3 (((((((w3.setCell ⟨w.heap.size + 1 + 1, 5, none⟩ (.slice ak kl.length ck)).setCell ⟨w.heap.size + 1, 0, none⟩ (.int .i64 p)).setCell ⟨w.heap.size + 1, 1, none⟩ (.int .i64 d)).setCell ⟨w.heap.size + 1, 2, none⟩ (.int .i64 e)).setCell ⟨w.heap.size + 1, 3, none⟩ (.slice ai il.length ci)).setCell ⟨w.heap.size + 1, 4, none⟩ (.slice aj jl.length cj)).setCell ⟨w.heap.size + 1, 5, none⟩ (.slice ak kl.length ck)) := (((((((Keep.set _ (by omega)).trans (Keep.set _ (by omega))).trans (Keep.set _ (by omega))).trans (Keep.set _ (by omega))).trans (Keep.set _ (by omega))).trans (Keep.set _ (by omega))).trans (Keep.set _ (by omega)))
    refine ⟨_, _, _, rfl, ⟨?_, ?_, ?_⟩, ?_⟩
    · exact (stable2 _ _ _ _ _ hk HRi.out).lower (by omega)
    · exact (stable2 _ _ _ _ _ hk HRj.out).lower (by omega)
    · exact (stable2 _ _ _ _ _ hk HRk.out).lower (by omega)
    · exact (((((((HB2b.out.setCell (by show w.heap.size ≤ w.heap.size + 1 + 1; omega) _).setCell (by show w.heap.size ≤ w.heap.size + 1; omega) _).setCell (by show w.heap.size ≤ w.heap.size + 1; omega) _).setCell (by show w.heap.size ≤ w.heap.size + 1; omega) _).setCell (by show w.heap.size ≤ w.heap.size + 1; omega) _).setCell (by show w.heap.size ≤ w.heap.size + 1; omega) _).setCell (by show w.heap.size ≤ w.heap.size + 1; omega) _)
def ToCpW (p d e : Int) (il : List (List Int)) (jl : List (List Int)) (kl : List (List Int)) (w : World) (e' : Ending) (w' : World) : Prop := ∃ iv jv kv, e' = .returned (.agg #[.int .i64 p, .int .i64 d, .int .i64 e, iv, jv, kv]) ∧ CpW w.heap.size w'.heap.size w' iv jv kv il jl kl ∧ Below w.heap.size w w'

set_option maxHeartbeats 1600000 in
theorem toCouplew_any (p d e : Int) (iv jv kv : Value) (il : List (List Int)) (jl : List (List Int)) (kl : List (List Int)) (w : World) (h : Cp 0 w iv jv kv il jl kl) (hm : CpB 1048576 il jl kl) :
    Calls Try.prog 67 #[.agg #[.int .i64 p, .int .i64 d, .int .i64 e, iv, jv, kv]] w (ToCpW p d e il jl kl w) := by
  have H := Lib.hid h
  have HM := Lib.hid hm
  clear h hm
  have hres : Try.f67.results = #[.cell 2 71] := by kernel_rfl
  have HRES := Lib.hid hres
  clear hres
  have HB0 : Hid (Below w.heap.size w (((w.alloc (.cells #[.int .i64 p, .int .i64 d, .int .i64 e, iv, jv, kv] 68)).alloc (.cells #[.int .i64 0, .int .i64 0, .int .i64 0, .slice none 0 0, .slice none 0 0, .slice none 0 0] 71)).alloc (.cells #[.int .i64 p, .int .i64 d, .int .i64 e, .slice none 0 0, .slice none 0 0, .slice none 0 0] 71))) := Lib.hid ((((Below.refl _ _).alloc (Nat.le_refl _) _).alloc (by simp) _).alloc (by simp; omega) _)
  have hz0 : w.heap.size + 3 = (((w.alloc (.cells #[.int .i64 p, .int .i64 d, .int .i64 e, iv, jv, kv] 68)).alloc (.cells #[.int .i64 0, .int .i64 0, .int .i64 0, .slice none 0 0, .slice none 0 0, .slice none 0 0] 71)).alloc (.cells #[.int .i64 p, .int .i64 d, .int .i64 e, .slice none 0 0, .slice none 0 0, .slice none 0 0] 71)).heap.size := by simp
  have HZ0 := Lib.hid hz0
  clear hz0
  go_enter Try.func67, Try.ntmps67
  go_wp2_with fail
  refine (to2w_any iv il _ (H.out.fi.below HB0.out) HM.out.bi).mono ?_
  rintro ee w1 ⟨u0, rfl, hr, hb⟩
  obtain ⟨ai, ci, rfl⟩ := Sw.shape hr
  have hs0 : w.heap.size + 3 ≤ w1.heap.size := by have := hb.size; simp at this; omega
  obtain ⟨hc0, hf0⟩ := bcell hb
  have HB0b := Lib.hid (HB0.out.trans (hb.mono (by first | omega | (simp; omega) | simp)))
  have HRi : Hid (W2 (w.heap.size + 1 + 1 + 1) (w1.heap.size) w1 (.slice ai il.length ci) il) := Lib.hid (hr.wider (by first | omega | (simp; omega) | simp) (Nat.le_refl _))
  clear hr hb
  have hzx0 : w.heap.size < w1.heap.size := by omega
  have hzz0 : w.heap.size + 1 < w1.heap.size := by omega
  have hzy0 : w.heap.size + 1 + 1 < w1.heap.size := by omega
  have HB0c : Hid (Below w.heap.size w (w1.setCell ⟨w.heap.size + 1 + 1, 3, none⟩ (.slice ai il.length ci))) := Lib.hid (HB0b.out.setCell (by show w.heap.size ≤ w.heap.size + 1 + 1; omega) _)
  have HRi' : Hid (W2 (w.heap.size + 1 + 1 + 1) (w1.heap.size) (w1.setCell ⟨w.heap.size + 1 + 1, 3, none⟩ (.slice ai il.length ci)) (.slice ai il.length ci) il) := Lib.hid (HRi.out.same (Same.set _ (Or.inl (Nat.lt_succ_self _))))
  clear HRi
  have HRi := HRi'
  clear HRi'
  go_wp2_with fail
  refine (to2w_any jv jl _ (H.out.fj.below HB0c.out) HM.out.bj).mono ?_
  rintro ee w2 ⟨u1, rfl, hr, hb⟩
  obtain ⟨aj, cj, rfl⟩ := Sw.shape hr
  have hs1 : w1.heap.size ≤ w2.heap.size := by have := hb.size; simpa using this
  obtain ⟨hc1, hf1⟩ := bcell hb
  have HB1b := Lib.hid (HB0c.out.trans (hb.mono (by first | omega | (simp; omega) | simp)))
  have HRi' := Lib.hid (HRi.out.same (Same.of_below hb (by simp)))
  clear HRi
  have HRi := HRi'
  clear HRi'
  have HRj : Hid (W2 (w.heap.size + 1 + 1 + 1) (w2.heap.size) w2 (.slice aj jl.length cj) jl) := Lib.hid (hr.wider (by first | omega | (simp; omega) | simp) (Nat.le_refl _))
  clear hr hb
  have hzx1 : w.heap.size < w2.heap.size := by omega
  have hzz1 : w.heap.size + 1 < w2.heap.size := by omega
  have hzy1 : w.heap.size + 1 + 1 < w2.heap.size := by omega
  have HRi' : Hid (W2 (w.heap.size + 1 + 1 + 1) (w2.heap.size) w2 (.slice ai il.length ci) il) := Lib.hid (HRi.out.wider (Nat.le_refl _) (by omega))
  clear HRi
  have HRi := HRi'
  clear HRi'
  have HB1c : Hid (Below w.heap.size w (w2.setCell ⟨w.heap.size + 1 + 1, 4, none⟩ (.slice aj jl.length cj))) := Lib.hid (HB1b.out.setCell (by show w.heap.size ≤ w.heap.size + 1 + 1; omega) _)
  have HRi' : Hid (W2 (w.heap.size + 1 + 1 + 1) (w2.heap.size) (w2.setCell ⟨w.heap.size + 1 + 1, 4, none⟩ (.slice aj jl.length cj)) (.slice ai il.length ci) il) := Lib.hid (HRi.out.same (Same.set _ (Or.inl (Nat.lt_succ_self _))))
  clear HRi
  have HRi := HRi'
  clear HRi'
  have HRj' : Hid (W2 (w.heap.size + 1 + 1 + 1) (w2.heap.size) (w2.setCell ⟨w.heap.size + 1 + 1, 4, none⟩ (.slice aj jl.length cj)) (.slice aj jl.length cj) jl) := Lib.hid (HRj.out.same (Same.set _ (Or.inl (Nat.lt_succ_self _))))
  clear HRj
  have HRj := HRj'
  clear HRj'
  go_wp2_with fail
  refine (to2w_any kv kl _ (H.out.fk.below HB1c.out) HM.out.bk).mono ?_
  rintro ee w3 ⟨u2, rfl, hr, hb⟩
  obtain ⟨ak, ck, rfl⟩ := Sw.shape hr
  have hs2 : w2.heap.size ≤ w3.heap.size := by have := hb.size; simpa using this
  obtain ⟨hc2, hf2⟩ := bcell hb
  have HB2b := Lib.hid (HB1c.out.trans (hb.mono (by first | omega | (simp; omega) | simp)))
  have HRi' := Lib.hid (HRi.out.same (Same.of_below hb (by simp)))
  have HRj' := Lib.hid (HRj.out.same (Same.of_below hb (by simp)))
  clear HRi
  have HRi := HRi'
  clear HRi'
  clear HRj
  have HRj := HRj'
  clear HRj'
  have HRk : Hid (W2 (w.heap.size + 1 + 1 + 1) (w3.heap.size) w3 (.slice ak kl.length ck) kl) := Lib.hid (hr.wider (by first | omega | (simp; omega) | simp) (Nat.le_refl _))
  clear hr hb
  have hzx2 : w.heap.size < w3.heap.size := by omega
  have hzz2 : w.heap.size + 1 < w3.heap.size := by omega
  have hzy2 : w.heap.size + 1 + 1 < w3.heap.size := by omega
  have HRi' : Hid (W2 (w.heap.size + 1 + 1 + 1) (w3.heap.size) w3 (.slice ai il.length ci) il) := Lib.hid (HRi.out.wider (Nat.le_refl _) (by omega))
  clear HRi
  have HRi := HRi'
  clear HRi'
  have HRj' : Hid (W2 (w.heap.size + 1 + 1 + 1) (w3.heap.size) w3 (.slice aj jl.length cj) jl) := Lib.hid (HRj.out.wider (Nat.le_refl _) (by omega))
  clear HRj
  have HRj := HRj'
  clear HRj'
  go_wp2
  refine bodyPost_ret (v := .agg #[.int .i64 p, .int .i64 d, .int .i64 e, .slice ai il.length ci, .slice aj jl.length cj, .slice ak kl.length ck]) ?_ rfl ?_
  · simp only [results, HRES.out]
    go_simp
  · have hk : ∀ hi, Same (w.heap.size + 1 + 1 + 1) hi w3 (((((((w3.setCell ⟨w.heap.size + 1 + 1, 5, none⟩ (.slice ak kl.length ck)).setCell ⟨w.heap.size + 1, 0, none⟩ (.int .i64 p)).setCell ⟨w.heap.size + 1, 1, none⟩ (.int .i64 d)).setCell ⟨w.heap.size + 1, 2, none⟩ (.int .i64 e)).setCell ⟨w.heap.size + 1, 3, none⟩ (.slice ai il.length ci)).setCell ⟨w.heap.size + 1, 4, none⟩ (.slice aj jl.length cj)).setCell ⟨w.heap.size + 1, 5, none⟩ (.slice ak kl.length ck)) := fun hi => (((((((Same.set _ (Or.inl (by omega))).trans (Same.set _ (Or.inl (by omega)))).trans (Same.set _ (Or.inl (by omega)))).trans (Same.set _ (Or.inl (by omega)))).trans (Same.set _ (Or.inl (by omega)))).trans (Same.set _ (Or.inl (by omega)))).trans (Same.set _ (Or.inl (by omega))))
    refine ⟨_, _, _, rfl, ⟨?_, ?_, ?_⟩, ?_⟩
    · exact (HRi.out.same (hk _)).wider (by omega) (by simp)
    · exact (HRj.out.same (hk _)).wider (by omega) (by simp)
    · exact (HRk.out.same (hk _)).wider (by omega) (by simp)
    · exact (((((((HB2b.out.setCell (by show w.heap.size ≤ w.heap.size + 1 + 1; omega) _).setCell (by show w.heap.size ≤ w.heap.size + 1; omega) _).setCell (by show w.heap.size ≤ w.heap.size + 1; omega) _).setCell (by show w.heap.size ≤ w.heap.size + 1; omega) _).setCell (by show w.heap.size ≤ w.heap.size + 1; omega) _).setCell (by show w.heap.size ≤ w.heap.size + 1; omega) _).setCell (by show w.heap.size ≤ w.heap.size + 1; omega) _)

set_option maxHeartbeats 1600000 in
theorem eqCouple_true (p d e : Int) (iv jv kv : Value) (iv2 jv2 kv2 : Value) (il : List (List Int)) (jl : List (List Int)) (kl : List (List Int)) (w : World) (h : Cp 0 w iv jv kv il jl kl) (h2 : Cp 0 w iv2 jv2 kv2 il jl kl) (hm : CpB 1048576 il jl kl) :
    Calls Try.prog 69 #[.agg #[.int .i64 p, .int .i64 d, .int .i64 e, iv, jv, kv], .agg #[.int .i64 p, .int .i64 d, .int .i64 e, iv2, jv2, kv2]] w (BR (.bool true) w) := by
  have HM := Lib.hid hm
  have HB0 : Hid (Below w.heap.size w ((w.alloc (.cells #[.int .i64 p, .int .i64 d, .int .i64 e, iv, jv, kv] 71)).alloc (.cells #[.int .i64 p, .int .i64 d, .int .i64 e, iv2, jv2, kv2] 71))) := Lib.hid (((Below.refl _ _).alloc (Nat.le_refl _) _).alloc (by simp) _)
  have H := Lib.hid (h.below HB0.out)
  have H2 := Lib.hid (h2.below HB0.out)
  clear hm h h2
  go_enter Try.func69, Try.ntmps69
  go_wp2_with fail
  have h1 := eq2_any iv iv2 il il _ H.out.fi H2.out.fi HM.out.bi HM.out.bi
  rw [decide_eq_true rfl] at h1
  refine h1.mono ?_
  clear h1
  rintro ee w' ⟨rfl, m0, rfl⟩
  go_wp2_with fail
  have h1 := eq2_any jv jv2 jl jl _ (H.out.fj.below (drewN_below _ (m0))) (H2.out.fj.below (drewN_below _ (m0))) HM.out.bj HM.out.bj
  rw [decide_eq_true rfl] at h1
  refine h1.mono ?_
  clear h1
  rintro ee w' ⟨rfl, m1, rfl⟩
  go_wp2_with fail
  have h1 := eq2_any kv kv2 kl kl _ (H.out.fk.below (drewN_below _ (m0 + m1))) (H2.out.fk.below (drewN_below _ (m0 + m1))) HM.out.bk HM.out.bk
  rw [decide_eq_true rfl] at h1
  refine h1.mono ?_
  clear h1
  rintro ee w' ⟨rfl, m2, rfl⟩
  go_wp2
  go_ret
  exact ⟨rfl, HB0.out.trans ((drewN_below _ (m0 + m1 + m2)).mono HB0.out.size)⟩
structure CpT (lo hi : Nat) (w : World) (iv jv kv : Value) (il : List (List Int)) (jl : List (List Int)) (kl : List (List Int)) : Prop where
  fi : T2 lo hi w iv il
  fj : T2 lo hi w jv jl
  fk : T2 lo hi w kv kl
theorem CpW.t {lo hi : Nat} {w : World} {iv jv kv : Value} {il : List (List Int)} {jl : List (List Int)} {kl : List (List Int)} (h : CpW lo hi w iv jv kv il jl kl) : CpT lo hi w iv jv kv il jl kl := ⟨h.fi.t2, h.fj.t2, h.fk.t2⟩

set_option maxHeartbeats 1600000 in
theorem markCoupleK_any {lo hi : Nat} (kk : Int) (p d e : Int) (iv jv kv : Value) (il : List (List Int)) (jl : List (List Int)) (kl : List (List Int)) (w : World) (h : CpW lo hi w iv jv kv il jl kl) (hh : hi ≤ w.heap.size) (hm : CpB 1048576 il jl kl) (hk0 : 0 ≤ kk) (hk1 : kk ≤ 4611686018427387904) :
    Calls Try.prog 72 #[.agg #[.int .i64 p, .int .i64 d, .int .i64 e, iv, jv, kv], .int .i64 kk] w (MarkC lo hi kk w) := by
  have HM := Lib.hid hm
  have hb0 : Below w.heap.size w (w.alloc (.cells #[.int .i64 p, .int .i64 d, .int .i64 e, iv, jv, kv] 71)) := (Below.refl _ _).alloc (Nat.le_refl _) _
  have HC := Lib.hid (h.same (Same.of_below hb0 hh)).t
  have HB0 := Lib.hid hb0
  have hmli : il.length ≤ 1048576 := hm.bi.1
  have hmlj : jl.length ≤ 1048576 := hm.bj.1
  have hmlk : kl.length ≤ 1048576 := hm.bk.1
  clear h hm hb0
  go_enter Try.func72, Try.ntmps72
  go_wp2_with fail
  refine (mark2_any iv il kk _ HC.out.fi HM.out.bi (by omega) (by omega)).mono ?_
  rintro ee w1 ⟨r0, rfl, hs00, hs01, ho, ht⟩
  have c04 : w1.cell? ⟨w.heap.size, 4, none⟩ = some jv := (ho.cell (Or.inr hh)).trans (by simp)
  have c05 : w1.cell? ⟨w.heap.size, 5, none⟩ = some kv := (ho.cell (Or.inr hh)).trans (by simp)
  have HO0 := Lib.hid (And.intro ho ht)
  clear ho ht
  go_wp2_with fail
  refine (mark2_any jv jl r0 _ (HC.out.fj.tame HO0.out.2) HM.out.bj (by omega) (by omega)).mono ?_
  rintro ee w2 ⟨r1, rfl, hs10, hs11, ho, ht⟩
  have c15 : w2.cell? ⟨w.heap.size, 5, none⟩ = some kv := (ho.cell (Or.inr hh)).trans c05
  clear c04 c05
  have HO1 := Lib.hid (And.intro (HO0.out.1.trans ho) (HO0.out.2.trans ht))
  clear ho ht
  go_wp2_with fail
  refine (mark2_any kv kl r1 _ (HC.out.fk.tame HO1.out.2) HM.out.bk (by omega) (by omega)).mono ?_
  rintro ee w3 ⟨r2, rfl, hs20, hs21, ho, ht⟩
  clear c15
  have HO2 := Lib.hid (And.intro (HO1.out.1.trans ho) (HO1.out.2.trans ht))
  clear ho ht
  go_wp2
  go_ret
  exact ⟨r2, _, rfl, by omega, by omega, HB0.out, HO2.out.1, HO2.out.2⟩
theorem array6x {α : Type} {cs : Array α} (h : cs.size = 6) : ∃ c0 c1 c2 c3 c4 c5, cs = #[c0, c1, c2, c3, c4, c5] := by
  obtain ⟨l⟩ := cs
  match l, h with
  | [c0, c1, c2, c3, c4, c5], _ => exact ⟨c0, c1, c2, c3, c4, c5, rfl⟩
theorem Try.cellsCp : Try.prog.cellsOf 68 = 6 := by kernel_rfl
section
variable {H : Type} {enc : TypeId × Value → H} {P : Program} {w : World} {base : Nat} {held : Bool} {spare : Nat → Bool}
theorem trod_struct6x {t : TypeId} {f0 f1 f2 f3 f4 f5 : Field} {fuel : Nat} {cs : List Value} {x : DataW H × List MemPlace} (ht : P.underlying t = some (.struct #[f0, f1, f2, f3, f4, f5])) (h : DataW.trod enc P w base (fun _ => true) held fuel t cs = some x) :
    ∃ y0 y1 y2 y3 y4 y5 m, DataW.trod enc P w base (fun _ => true) held m f0.type ((cs.drop f0.offset).take (P.cellsOf f0.type)) = some y0 ∧ DataW.trod enc P w base (fun _ => true) held m f1.type ((cs.drop f1.offset).take (P.cellsOf f1.type)) = some y1 ∧ DataW.trod enc P w base (fun _ => true) held m f2.type ((cs.drop f2.offset).take (P.cellsOf f2.type)) = some y2 ∧ DataW.trod enc P w base (fun _ => true) held m f3.type ((cs.drop f3.offset).take (P.cellsOf f3.type)) = some y3 ∧ DataW.trod enc P w base (fun _ => true) held m f4.type ((cs.drop f4.offset).take (P.cellsOf f4.type)) = some y4 ∧ DataW.trod enc P w base (fun _ => true) held m f5.type ((cs.drop f5.offset).take (P.cellsOf f5.type)) = some y5 := by
  obtain ⟨xs, m, _, rfl, hl, hlen, hf⟩ := DataW.trod_struct ht h
  match xs, hlen with
  | [y0, y1, y2, y3, y4, y5], _ => exact ⟨y0, y1, y2, y3, y4, y5, m, by simpa using hf 0 f0 rfl, by simpa using hf 1 f1 rfl, by simpa using hf 2 f2 rfl, by simpa using hf 3 f3 rfl, by simpa using hf 4 f4 rfl, by simpa using hf 5 f5 rfl⟩
set_option maxRecDepth 100000 in
theorem couple_of_trod {r : Reach} {b0 : Nat} {v : Value} {d' : DataW H} {p' : List MemPlace} (hv : Value.okWide Try.prog w r b0 68 v) (h : DataW.Trod enc Try.prog w base (fun _ => true) held 68 v d' p') :
    ∃ (p d e : Int) (iv jv kv : Value) (il : List (List Int)) (jl : List (List Int)) (kl : List (List Int)), v = .agg #[.int .i64 p, .int .i64 d, .int .i64 e, iv, jv, kv] ∧ Cp 0 w iv jv kv il jl kl ∧ CpB 9223372036854775807 il jl kl := by
  obtain ⟨cs, rfl, hsz⟩ := okWide_struct Try.underlying68 hv
  obtain ⟨c0, c1, c2, c3, c4, c5, rfl⟩ := array6x (hsz.trans Try.cellsCp)
  obtain ⟨fuel, hf⟩ := h
  obtain ⟨y0, y1, y2, y3, y4, y5, m, h0, h1, h2, h3, h4, h5⟩ := trod_struct6x Try.underlying68 hf
  have h0' : DataW.trod enc Try.prog w base (fun _ => true) held m 2 [c0] = some y0 := h0
  have h1' : DataW.trod enc Try.prog w base (fun _ => true) held m 2 [c1] = some y1 := h1
  have h2' : DataW.trod enc Try.prog w base (fun _ => true) held m 2 [c2] = some y2 := h2
  have h3' : DataW.trod enc Try.prog w base (fun _ => true) held m 26 [c3] = some y3 := h3
  have h4' : DataW.trod enc Try.prog w base (fun _ => true) held m 26 [c4] = some y4 := h4
  have h5' : DataW.trod enc Try.prog w base (fun _ => true) held m 26 [c5] = some y5 := h5
  obtain ⟨q0, e0, _, _⟩ := DataW.trod_int Try.underlying2 h0'
  obtain rfl : c0 = .int .i64 q0 := by simpa using e0
  obtain ⟨q1, e1, _, _⟩ := DataW.trod_int Try.underlying2 h1'
  obtain rfl : c1 = .int .i64 q1 := by simpa using e1
  obtain ⟨q2, e2, _, _⟩ := DataW.trod_int Try.underlying2 h2'
  obtain rfl : c2 = .int .i64 q2 := by simpa using e2
  obtain ⟨x3, hx3, hy3⟩ := l2_of_trod h3'
  obtain ⟨x4, hx4, hy4⟩ := l2_of_trod h4'
  obtain ⟨x5, hx5, hy5⟩ := l2_of_trod h5'
  exact ⟨q0, q1, q2, c3, c4, c5, x3, x4, x5, rfl, ⟨hx3, hx4, hx5⟩, ⟨hy3, hy4, hy5⟩⟩
end
end Go.Proofs.Ytpdkfidmmjlmnab
