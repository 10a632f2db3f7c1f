/-
  DifferentialRank, by the program.
-/
import Derived.Test.YtpdkfidmmjlmnabPdj
import Derived.Test.YtpdkfidmmjlmnabPgn
namespace Go.Proofs.Ytpdkfidmmjlmnab
open Go.RowKit

theorem crd_md {p : Int} (hp : 0 < p) {W : List Lin.V} {v : Lin.V} (h : Lin.Md p v) : Lin.Md p (Lin.crd W v) := fun k => by
  unfold Lin.crd
  split
  · exact h _
  · exact ⟨Int.le_refl _, hp⟩
/-- The rows of a page differential's table. -/
theorem PdT.rows {p : Int} {ds : List Int} {ms : List (List (List Int))} {ls : List (List Int)} (hf : IsFil p ds ms ls) {k : Nat} {r q : Int} {a : List (List Int)} (h : PdT p ds ms ls k r q a) : a.length ≤ 8 ∧ ∀ y ∈ a, y.length ≤ 8 ∧ Lin.Md p (ofL y) := by
  have hcx := hf.1
  have hp1 := hcx.1.prime.lo1
  obtain ⟨P, hP, h⟩ := h
  have h8 := (dimN_le8 hcx k).1
  have hl := hP.short
  rcases h with ⟨_, rfl⟩ | ⟨_, B, W, rs, hB, hW, hr, rfl⟩
  · refine ⟨by rw [List.length_map]; omega, fun y hy => ?_⟩
    obtain ⟨_, _, rfl⟩ := List.mem_map.1 hy
    exact ⟨by simp, fun i => by simp [ofL]; omega⟩
  · have h8' := (dimN_le8 hcx (k - 1)).1
    have hl' := hW.short
    have hlen : rs.length = P.length := by rw [hr.len]; simp [dimgs]
    refine ⟨by rw [List.length_map]; omega, fun y hy => ?_⟩
    obtain ⟨z, hz, rfl⟩ := List.mem_map.1 hy
    refine ⟨by rw [leadRow, List.length_map]; omega, ?_⟩
    rw [ofL_leadRow]
    obtain ⟨i, hi, rfl⟩ := List.getElem_of_mem hz
    exact crd_md (by omega) (hr.at' i (by rw [← hr.len]; exact hi) hi).rest.md

set_option maxHeartbeats 3200000 in
set_option maxRecDepth 100000 in
theorem differentialRankOf_any (p r n q : Int) (dv mv lv : Value) (ds : List Int) (ms : List (List (List Int))) (ls : List (List Int)) (w : World) (h : Fi 0 w dv mv lv ds ms ls) (hd : ds.length ≤ 1048576) (hm : Bd3 1048576 ms) (hl : Bd2 1048576 ls) :
    Calls Try.prog 43 #[.agg #[.int .i64 p, dv, mv, lv], .int .i64 r, .int .i64 n, .int .i64 q] w (NumW (fun x => RkNum p ds ms ls n.toNat r q x) (celCode p ds ms ls r n q) w) := by
  have HX0 := Lib.hid (Fx.start (p := p) 33 h)
  have HCK := Lib.hid (checkCell_any p r n q dv mv lv ds ms ls _ HX0.out.fi hd hm hl)
  have c0 := HX0.out.c0
  have c1 := HX0.out.c1
  have c2 := HX0.out.c2
  have c3 := HX0.out.c3
  obtain ⟨kc, hkc⟩ : ∃ kc, kc = celCode p ds ms ls r n q := ⟨_, rfl⟩
  rw [← hkc] at HCK ⊢
  have HKE := Lib.hid hkc
  clear h hm hl hkc
  go_enter Try.func43, Try.ntmps43
  go_wp2_with fail
  refine HCK.out.mono ?_
  rintro e w1 ⟨rfl, hb1⟩
  have HX1 := Lib.hid (HX0.out.next hb1)
  clear hb1 c0 c1 c2 c3 HCK
  have c0 := HX1.out.c0
  have c1 := HX1.out.c1
  have c2 := HX1.out.c2
  have c3 := HX1.out.c3
  by_cases hk : kc = 0
  · subst hk
    obtain ⟨hfil, hcr, hr, hcq⟩ := celCode_zero HKE.out.symm
    obtain ⟨k, rfl⟩ : ∃ k : Nat, n = (k : Int) := ⟨n.toNat, by have := hr.1; omega⟩
    have hkd : k < ds.length := by have := hr.2; omega
    have HB := Lib.hid (pageDifferential_any p k r q dv mv lv ds ms ls _ HX1.out.fi hfil hkd hcr hcq)
    have HFL := Lib.hid hfil
    have HKD := Lib.hid hkd
    have hp1 := hfil.1.1.prime.lo1
    clear hfil hr hcr hcq hkd
    go_wp2_with fail
    refine HB.out.mono ?_
    rintro e w2 ⟨u2, out, rfl, hu2, hb2, hx⟩
    obtain ⟨a2, cc2, rfl⟩ := hu2.shape
    have HX2 := Lib.hid (HX1.out.next hb2)
    have HPD := Lib.hid hx
    obtain ⟨hlo, hrow⟩ := hx.rows HFL.out
    have HRW := Lib.hid hrow
    have HL2 := Lib.hid hu2.l
    have HMD : Hid (∀ u ∈ out.map ofL, Lin.Md p u) := Lib.hid (fun u hu => by obtain ⟨y, hy, rfl⟩ := List.mem_map.1 hu; exact (HRW.out y hy).2)
    have HWD : Hid (∀ u ∈ out.map ofL, Lin.Wd 40 u) := Lib.hid (fun u hu => by obtain ⟨y, hy, rfl⟩ := List.mem_map.1 hu; exact ofL_wd (by have := (HRW.out y hy).1; omega))
    have HP := Lib.hid HFL.out.1.1.prime
    clear hb2 hx HB hu2 hrow c0 c1 c2 c3
    have c0 := HX2.out.c0
    have c1 := HX2.out.c1
    have c2 := HX2.out.c2
    have c3 := HX2.out.c3
    go_wp2_with fail
    refine (vectorsOf_any _ out _ HL2.out (by omega) (fun y hy => by have := (HRW.out y hy).1; omega)).mono ?_
    rintro ee w4 ⟨s4, M, rfl, hb4, ho4, rfl⟩
    have HX4 := Lib.hid (HX2.out.next hb4)
    have HO4 := Lib.hid (ho4.vs.lower (Nat.zero_le _))
    clear hb4 ho4 c0 c1 c2 c3
    have c0 := HX4.out.c0
    have c1 := HX4.out.c1
    have c2 := HX4.out.c2
    have c3 := HX4.out.c3
    go_wp2_with fail
    refine (reducedList_any p s4 _ _ HP.out HO4.out HMD.out HWD.out (by rw [List.length_map]; omega)).mono ?_
    rintro ee w5 ⟨s5, R, rfl, hb5, ho5, hr5, hl5⟩
    have HX5 := Lib.hid (HX4.out.next hb5)
    obtain ⟨a5, c5, rfl⟩ := ho5.shape
    have HN := Lib.hid (rk_of HFL.out HKD.out HPD.out hr5.red hr5.eqv)
    clear hb5 ho5 hr5 hl5 c0 c1 c2 c3
    go_wp2
    go_ret2
    exact ⟨(R.length : Int), 0, rfl, HX5.out.below, NOut.of_ok (by rw [Int.toNat_natCast]; exact HN.out)⟩
  · have hne2 : (kc != 0) = true := by simp [hk]
    have hne3 : (kc == 0) = false := by simp [hk]
    have HK := Lib.hid hk
    clear hk
    go_wp2
    go_ret2
    exact ⟨0, kc, rfl, HX1.out.below, NOut.of_no HK.out⟩
end Go.Proofs.Ytpdkfidmmjlmnab
