/-
  impl.checkEnds on two complexes by its contract (on top of checkPrimes, since ba45f756).
-/
import Derived.Test.YtpdkfidmmjlmnabEnd
namespace Go.Proofs.Ytpdkfidmmjlmnab
open Go.RowKit

theorem endCode_of_pr {p p2 : Int} {ds : List Int} {ms : List (List (List Int))} {ds2 : List Int} {ms2 : List (List (List Int))} (h : prCode p p2 ds ms ds2 ms2 ≠ 0) : endCode p p2 ds ms ds2 ms2 = prCode p p2 ds ms ds2 ms2 := by
  unfold prCode at h ⊢
  unfold endCode
  by_cases h1 : IsCx p ds ms ∧ IsCx p2 ds2 ms2
  · have h1' : ¬ ¬ (IsCx p ds ms ∧ IsCx p2 ds2 ms2) := fun k => k h1
    simp only [if_neg h1'] at h ⊢
    by_cases h2 : p = p2
    · exact absurd (if_pos h2) h
    · rw [if_neg (fun k => h2 k.1), if_neg h2]
  · rw [if_pos h1, if_pos h1]

set_option maxHeartbeats 6400000 in
set_option maxRecDepth 100000 in
theorem checkEnds2_any (p p2 : Int) (b : Nat) (dv mv dv2 mv2 : Value) (ds : List Int) (ms : List (List (List Int))) (ds2 : List Int) (ms2 : List (List (List Int))) (w : World) (hr : Row2 w b p p2 dv mv dv2 mv2) (h : Cx 0 w dv mv ds ms) (h2 : Cx 0 w dv2 mv2 ds2 ms2) (hd : ds.length ≤ 1048576) (hm : Bd3 1048576 ms) (hd2 : ds2.length ≤ 1048576) (hm2 : Bd3 1048576 ms2) :
    Calls Try.prog 125 #[.slice (some ⟨b, 0, none⟩) 2 2] w (BR (.int .i64 (endCode p p2 ds ms ds2 ms2)) w) := by
  obtain ⟨ad, cap, rfl⟩ := Sl.shape h.dims
  obtain ⟨am, capm, rfl⟩ := Sl.shape h.maps
  obtain ⟨ad2, cap2, rfl⟩ := Sl.shape h2.dims
  obtain ⟨am2, capm2, rfl⟩ := Sl.shape h2.maps
  have HROW := Lib.hid hr
  have HCK := Lib.hid (checkPrimes2_any p p2 b _ _ _ _ ds ms ds2 ms2 w hr h h2 hd hm hd2 hm2)
  obtain ⟨ec, hec⟩ : ∃ ec, ec = prCode p p2 ds ms ds2 ms2 := ⟨_, rfl⟩
  rw [← hec] at HCK
  have HEC := Lib.hid hec
  clear h h2 hm hm2 hr hec
  by_cases h0 : ec = 0
  · subst h0
    have HE := Lib.hid (prCode_zero HEC.out.symm)
    go_enter Try.func125, Try.ntmps125
    go_wp2_with fail
    refine HCK.out.mono ?_
    rintro e w2 ⟨rfl, hb2⟩
    have HB2 := Lib.hid hb2
    have HR2 := Lib.hid (HROW.out.next hb2)
    have hs2 : w.heap.size ≤ w2.heap.size := HB2.out.size
    have hbl : b < w.heap.size := cell_lt HROW.out.c0
    have hbn : b ≠ w2.heap.size := by omega
    clear hb2 HCK
    have c0 := HR2.out.c0
    have c1 := HR2.out.c1
    have c2 := HR2.out.c2
    have d0 := HR2.out.d0
    have d1 := HR2.out.d1
    have d2 := HR2.out.d2
    have hl0 : (((ds.length : Nat) : Int) != ((ds.length : Nat) : Int)) = false := by simp
    go_wp2
    refine wp_loop_rounds 3 ?_
    rw [rounds_succ]
    go_wp2
    obtain ⟨w3, hw3⟩ : ∃ w3, w3 = w2.alloc (.cells #[.int .i64 p, .slice ad ds.length cap, .slice am ms.length capm] 31) := ⟨_, rfl⟩
    have hb3 : Below w2.heap.size w2 w3 := by rw [hw3]; exact below_alloc1 _ _
    have e1 : w3.cell? ⟨w2.heap.size, 1, none⟩ = some (.slice ad ds.length cap) := by rw [hw3]; simp
    have HR3 := Lib.hid (HR2.out.next hb3)
    have HB3 := Lib.hid (HB2.out.trans (hb3.mono hs2))
    rw [← hw3]
    clear hw3 hb3 c0 c1 c2 d0 d1 d2 hbn hbl
    have c1 := HR3.out.c1
    go_quiet (fail)
    go_wp2
    rw [rounds_succ]
    have HB4 := Lib.hid (HB3.out.trans ((drewN_below w3 nq).mono HB3.out.size))
    have HR4 := Lib.hid (HR3.out.next (drewN_below w3 nq))
    generalize w3.drewN nq = w4 at *
    clear c1 e1 hs2 HR3 HB3
    have d0 := HR4.out.d0
    have d1 := HR4.out.d1
    have d2 := HR4.out.d2
    obtain ⟨w5, hw5⟩ : ∃ w5, w5 = w4.alloc (.cells #[.int .i64 p2, .slice ad2 ds2.length cap2, .slice am2 ms2.length capm2] 31) := ⟨_, rfl⟩
    have hb5 : Below w4.heap.size w4 w5 := by rw [hw5]; exact below_alloc1 _ _
    have e1 : w5.cell? ⟨w4.heap.size, 1, none⟩ = some (.slice ad2 ds2.length cap2) := by rw [hw5]; simp
    have HR5 := Lib.hid (HR4.out.next hb5)
    have HB5 := Lib.hid (HB4.out.trans (hb5.mono HB4.out.size))
    clear hb5
    go_wp2
    rw [← hw5]
    clear hw5 d0 d1 d2
    have c1 := HR5.out.c1
    by_cases hll : ds.length = ds2.length
    · have HL := Lib.hid hll
      have hl1 : (((ds2.length : Nat) : Int) != ((ds.length : Nat) : Int)) = false := by simp [hll]
      clear hll
      go_quiet (fail)
      go_wp2
      rw [rounds_succ]
      go_wp2
      go_ret
      refine ⟨ret_int (EndOk.code ⟨HE.out.x, HE.out.y, HE.out.prime, HL.out⟩).symm, ?_⟩
      exact HB5.out.trans ((drewN_below w5 nq).mono HB5.out.size)
    · have HL := Lib.hid hll
      have hl1 : (((ds2.length : Nat) : Int) != ((ds.length : Nat) : Int)) = true := by
        have : ¬ ((ds2.length : Int) = (ds.length : Int)) := by omega
        simpa using this
      clear hll
      go_quiet (fail)
      go_wp2
      go_ret
      refine ⟨ret_int ?_, ?_⟩
      · unfold endCode
        rw [if_neg (fun k => k ⟨HE.out.x, HE.out.y⟩), if_neg (fun k => HL.out k.2)]
      · exact HB5.out.trans ((drewN_below w5 nq).mono HB5.out.size)
  · have hne2 : (ec != 0) = true := by simp [h0]
    have hne3 : (ec == 0) = false := by simp [h0]
    have HNE := Lib.hid h0
    clear h0
    go_enter Try.func125, Try.ntmps125
    go_wp2_with fail
    refine HCK.out.mono ?_
    rintro e w2 ⟨rfl, hb2⟩
    have HB2 := Lib.hid hb2
    clear hb2 HCK
    go_wp2
    go_ret
    refine ⟨ret_int ?_, HB2.out⟩
    have hn := HNE.out
    rw [HEC.out] at hn ⊢
    exact (endCode_of_pr hn).symm
end Go.Proofs.Ytpdkfidmmjlmnab
