/-
  spec.PlaceOfPair by contract.
-/
import Derived.Test.YtpdkfidmmjlmnaaPls
import Derived.Test.YtpdkfidmmjlmnaaPlp
import Derived.Test.YtpdkfidmmjlmnaaTdm
namespace Go.Proofs.Ytpdkfidmmjlmnaa
open Go.RowKit

theorem pl_mem {ds ds2 : List Int} {i a j b : Int} : (((i, a), (j, b)) : PV) ∈ tsA (bsL ds ds.length) (bsL ds2 ds2.length) (bsL ds ds.length).length ↔ (0 ≤ i ∧ i ≤ (ds.length : Int) - 1) ∧ (0 ≤ a ∧ a ≤ dimZ ds i - 1) ∧ (0 ≤ j ∧ j ≤ (ds2.length : Int) - 1) ∧ (0 ≤ b ∧ b ≤ dimZ ds2 j - 1) := by
  rw [tsA_mem]
  simp only [bsL_iff]
  have e1 : 0 ≤ i ∧ i < (ds.length : Int) → dimZ ds i = ds.getD i.toNat 0 := fun h => by unfold dimZ; rw [if_pos ⟨h.1, by omega⟩]
  have e2 : 0 ≤ j ∧ j < (ds2.length : Int) → dimZ ds2 j = ds2.getD j.toNat 0 := fun h => by unfold dimZ; rw [if_pos ⟨h.1, by omega⟩]
  constructor
  · rintro ⟨⟨h1, h2, h3, h4⟩, h5, h6, h7, h8⟩
    rw [e1 ⟨h1, h2⟩, e2 ⟨h5, h6⟩]
    omega
  · rintro ⟨⟨h1, h2⟩, ⟨h3, h4⟩, ⟨h5, h6⟩, h7, h8⟩
    rw [e1 ⟨h1, by omega⟩] at h4
    rw [e2 ⟨h5, by omega⟩] at h8
    omega

set_option maxHeartbeats 6400000 in
set_option maxRecDepth 100000 in
theorem spPlaceOfPair_any (p p2 i a j b : Int) (dv mv dv2 mv2 : Value) (ds : List Int) (ms : List (List (List Int))) (ds2 : List Int) (ms2 : List (List (List Int))) (w : World) (h : Cx 0 w dv mv ds ms) (h2 : Cx 0 w dv2 mv2 ds2 ms2) (hd : ds.length ≤ 1048576) (hm : Bd3 1048576 ms) (hd2 : ds2.length ≤ 1048576) (hm2 : Bd3 1048576 ms2) :
    Calls Try.prog 65 #[.agg #[.int .i64 p, dv, mv], .agg #[.int .i64 p2, dv2, mv2], .int .i64 i, .int .i64 a, .int .i64 j, .int .i64 b] w (fun e w' => ∃ x c : Int, e = .returned (.tuple #[.int .i64 x, .int .i64 c]) ∧ Below w.heap.size w w' ∧ PlO p p2 ds ms ds2 ms2 ((i, a), (j, b)) x c) := by
  obtain ⟨ad, cap, rfl⟩ := Sl.shape h.dims
  obtain ⟨am, capm, rfl⟩ := Sl.shape h.maps
  obtain ⟨ad2, cap2, rfl⟩ := Sl.shape h2.dims
  obtain ⟨am2, capm2, rfl⟩ := Sl.shape h2.maps
  obtain ⟨k1, k2⟩ := bx_two (p := p) (p2 := p2) 28 h h2
  have HX0 := Lib.hid k1
  have HY0 := Lib.hid k2
  have HM := Lib.hid hm
  have HM2 := Lib.hid hm2
  obtain ⟨w1, hw1⟩ : ∃ w1, w1 = ((w.alloc (.cells #[.int .i64 p, .slice ad ds.length cap, .slice am ms.length capm] 28)).alloc (.cells #[.int .i64 p2, .slice ad2 ds2.length cap2, .slice am2 ms2.length capm2] 28)) := ⟨_, rfl⟩
  rw [← hw1] at HX0 HY0
  have c0 := HX0.out.c0
  have c1 := HX0.out.c1
  have c2 := HX0.out.c2
  have d0 := HY0.out.c0
  have d1 := HY0.out.c1
  have d2 := HY0.out.c2
  have HX2 := Lib.hid HX0.out
  have HY2 := Lib.hid HY0.out
  have HCK := Lib.hid (l06Two_any p p2 _ _ _ _ ds ms ds2 ms2 w1 HX0.out.cx HY0.out.cx hd hm hd2 hm2)
  obtain ⟨ec, hec⟩ : ∃ ec, ec = prCode p p2 ds ms ds2 ms2 := ⟨_, rfl⟩
  rw [← hec] at HCK
  have HEC := Lib.hid hec
  clear h h2 hm hm2 k1 k2 hec
  go_enter Try.func65, Try.ntmps65
  go_upto_region 1 with fail
  rw [← hw1]
  clear hw1
  go_wp2_with fail
  refine HCK.out.mono ?_
  rintro ee w3 ⟨rfl, hb3⟩
  have HX3 := Lib.hid (HX2.out.next hb3)
  have HY3 := Lib.hid (HY2.out.next hb3)
  clear hb3 c0 c1 c2 d0 d1 d2 HX0 HY0 HX2 HY2 HCK
  have HN3 : Hid (∀ W, Below w3.heap.size w3 W → Bx w W w.heap.size p (.slice ad ds.length cap) (.slice am ms.length capm) ds ms ∧ Bx w W (w.heap.size + 1) p2 (.slice ad2 ds2.length cap2) (.slice am2 ms2.length capm2) ds2 ms2) := Lib.hid (fun W hb => ⟨HX3.out.next hb, HY3.out.next hb⟩)
  have hs3 := HX3.out.below.size
  by_cases h0 : ec = 0
  · subst h0
    have HE := Lib.hid (prCode_zero HEC.out.symm)
    have hl6 := HE.out.x.1.len1
    have hl7 := HE.out.y.1.len1
    have hwk1 : IntKind.i64.wrap ((ds.length : Int) - 1) = (ds.length : Int) - 1 := IntWalk.i64_in _ (by omega)
    have hwk2 : IntKind.i64.wrap ((ds2.length : Int) - 1) = (ds2.length : Int) - 1 := IntWalk.i64_in _ (by omega)
    have c0 := (HN3.out _ (Below.refl _ _)).1.c0
    have c1 := (HN3.out _ (Below.refl _ _)).1.c1
    have c2 := (HN3.out _ (Below.refl _ _)).1.c2
    have d0 := (HN3.out _ (Below.refl _ _)).2.c0
    have d1 := (HN3.out _ (Below.refl _ _)).2.c1
    have d2 := (HN3.out _ (Below.refl _ _)).2.c2
    by_cases hi : 0 ≤ i ∧ i ≤ (ds.length : Int) - 1
    · have HI := Lib.hid hi
      clear hi
      go_wp2_with fail
      refine (spin_yes HI.out _).mono ?_
      rintro ee w' ⟨rfl, rfl⟩
      by_cases hj : 0 ≤ j ∧ j ≤ (ds2.length : Int) - 1
      · have HJ := Lib.hid hj
        clear hj
        go_wp2_with fail
        refine (spin_yes HJ.out _).mono ?_
        rintro ee w' ⟨rfl, rfl⟩
        have hb1 := dimZ_b HE.out.x i
        have hb2 := dimZ_b HE.out.y j
        obtain ⟨dx, hdx⟩ : ∃ d, d = dimZ ds i := ⟨_, rfl⟩
        obtain ⟨dy, hdy⟩ : ∃ d, d = dimZ ds2 j := ⟨_, rfl⟩
        rw [← hdx] at hb1
        rw [← hdy] at hb2
        have HDX := Lib.hid hdx
        have HDY := Lib.hid hdy
        have hwk3 : IntKind.i64.wrap (dx - 1) = dx - 1 := IntWalk.i64_in _ (by omega)
        have hwk4 : IntKind.i64.wrap (dy - 1) = dy - 1 := IntWalk.i64_in _ (by omega)
        clear hdx hdy
        go_wp2_with fail
        refine (l01Dim_any p i _ _ ds ms _ HX3.out.cx (by omega)).mono ?_
        rintro ee w4 ⟨rfl, hb4⟩
        have HX4 := Lib.hid (HX3.out.next hb4)
        have HY4 := Lib.hid (HY3.out.next hb4)
        rw [← HDX.out]
        clear hb4 c0 c1 c2 d0 d1 d2
        have c0 := HX4.out.c0
        have c1 := HX4.out.c1
        have c2 := HX4.out.c2
        have d0 := HY4.out.c0
        have d1 := HY4.out.c1
        have d2 := HY4.out.c2
        by_cases ha : 0 ≤ a ∧ a ≤ dx - 1
        · have HA := Lib.hid ha
          clear ha
          go_wp2_with fail
          refine (spin_yes HA.out _).mono ?_
          rintro ee w' ⟨rfl, rfl⟩
          go_wp2_with fail
          refine (l01Dim_any p2 j _ _ ds2 ms2 _ HY4.out.cx (by omega)).mono ?_
          rintro ee w5 ⟨rfl, hb5⟩
          have HX5 := Lib.hid (HX4.out.next hb5)
          have HY5 := Lib.hid (HY4.out.next hb5)
          rw [← HDY.out]
          clear hb5 c0 c1 c2 d0 d1 d2
          have c0 := HX5.out.c0
          have c1 := HX5.out.c1
          have c2 := HX5.out.c2
          have d0 := HY5.out.c0
          have d1 := HY5.out.c1
          have d2 := HY5.out.c2
          by_cases hb : 0 ≤ b ∧ b ≤ dy - 1
          · have HBB := Lib.hid hb
            clear hb
            go_wp2_with fail
            refine (spin_yes HBB.out _).mono ?_
            rintro ee w' ⟨rfl, rfl⟩
            obtain ⟨i, rfl⟩ : ∃ n : Nat, i = (n : Int) := ⟨i.toNat, by have := HI.out; omega⟩
            obtain ⟨a, rfl⟩ : ∃ n : Nat, a = (n : Int) := ⟨a.toNat, by have := HA.out; omega⟩
            obtain ⟨j, rfl⟩ : ∃ n : Nat, j = (n : Int) := ⟨j.toNat, by have := HJ.out; omega⟩
            obtain ⟨b, rfl⟩ : ∃ n : Nat, b = (n : Int) := ⟨b.toNat, by have := HBB.out; omega⟩
            have HPL := Lib.hid (l06Place_any p p2 i a j b _ _ _ _ ds ms ds2 ms2 w5 HX5.out.cx HY5.out.cx HE.out.x HE.out.y (by have := HI.out; omega) (by have := HA.out; omega) (by have := HJ.out; omega) (by have := HBB.out; omega))
            go_wp2_with fail
            refine HPL.out.mono ?_
            rintro ee w6 ⟨rfl, hb6⟩
            have HX6 := Lib.hid (HX5.out.next hb6)
            clear hb6 HPL c0 c1 c2 d0 d1 d2
            have HPC := Lib.hid (plc_at (ds := ds) (ds2 := ds2) (i := i) (a := a) (j := j) (b := b) (by have := HI.out; omega) (by have h1 := HA.out; have h2 := dimZ_in (ds := ds) (n := (i : Int)) (k := i) rfl (by have := HI.out; omega); rw [← HDX.out] at h2; rw [getD_of_lt _ (by have := HI.out; omega)]; omega) (by have := HBB.out; rw [HDY.out] at this; omega))
            obtain ⟨z, hz⟩ : ∃ z, z = plS ds ds2 ((i : Int) + (j : Int)) i + (a * (dimZ ds2 (j : Int)).toNat + b) := ⟨_, rfl⟩
            rw [← hz] at HPC ⊢
            clear hz
            go_wp2
            go_ret2
            have he := HEC.out.symm
            exact ⟨(z : Int), 0, rfl, HX6.out.below, ⟨fun _ _ => ⟨by rw [HPC.out], rfl⟩, fun _ hq => absurd (pl_mem.2 ⟨HI.out, by rw [← HDX.out]; exact HA.out, HJ.out, by rw [← HDY.out]; exact HBB.out⟩) hq, fun h => absurd he h⟩⟩
          · have HBB := Lib.hid hb
            clear hb
            go_wp2_with fail
            refine (spin_no HBB.out _).mono ?_
            rintro ee w' ⟨rfl, rfl⟩
            go_wp2
            go_ret2
            have he := HEC.out.symm
            exact ⟨0, 2, rfl, HX5.out.below, ⟨fun _ hq => absurd (pl_mem.1 hq).2.2.2 (by rw [← HDY.out]; exact HBB.out), fun _ _ => ⟨rfl, rfl⟩, fun h => absurd he h⟩⟩
        · have HA := Lib.hid ha
          clear ha
          go_wp2_with fail
          refine (spin_no HA.out _).mono ?_
          rintro ee w' ⟨rfl, rfl⟩
          go_wp2
          go_ret2
          have he := HEC.out.symm
          exact ⟨0, 2, rfl, HX4.out.below, ⟨fun _ hq => absurd (pl_mem.1 hq).2.1 (by rw [← HDX.out]; exact HA.out), fun _ _ => ⟨rfl, rfl⟩, fun h => absurd he h⟩⟩
      · have HJ := Lib.hid hj
        clear hj
        go_wp2_with fail
        refine (spin_no HJ.out _).mono ?_
        rintro ee w' ⟨rfl, rfl⟩
        go_wp2
        go_ret2
        have he := HEC.out.symm
        exact ⟨0, 2, rfl, HX3.out.below, ⟨fun _ hq => absurd (pl_mem.1 hq).2.2.1 HJ.out, fun _ _ => ⟨rfl, rfl⟩, fun h => absurd he h⟩⟩
    · have HI := Lib.hid hi
      clear hi
      go_wp2_with fail
      refine (spin_no HI.out _).mono ?_
      rintro ee w' ⟨rfl, rfl⟩
      go_wp2
      go_ret2
      have he := HEC.out.symm
      exact ⟨0, 2, rfl, HX3.out.below, ⟨fun _ hq => absurd (pl_mem.1 hq).1 HI.out, fun _ _ => ⟨rfl, rfl⟩, fun h => absurd he h⟩⟩
  · have hne2 : (ec != 0) = true := by simp [h0]
    have hne3 : (ec == 0) = false := by simp [h0]
    have HNE := Lib.hid h0
    clear h0
    go_wp2
    go_ret2
    have he := HNE.out
    have he2 := HEC.out
    refine ⟨0, ec, rfl, HX3.out.below, ⟨fun h => ?_, fun h => ?_, fun _ => ⟨rfl, he2⟩⟩⟩
    · rw [← he2] at h; exact absurd h he
    · rw [← he2] at h; exact absurd h he
end Go.Proofs.Ytpdkfidmmjlmnaa
