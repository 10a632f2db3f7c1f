/-
  dualComplex of the program for all that has the sizes of a complex; its answer in memory of its own.
-/
import Derived.Test.YtpdkfidmmjlmnaaDuW
import Derived.Test.YtpdkfidmmjlmnaaSqg
namespace Go.Proofs.Ytpdkfidmmjlmnaa
open Go.RowKit

def DuWc (p : Int) (ds : List Int) (ms : List (List (List Int))) (w : World) (e : Ending) (w' : World) : Prop :=
  ∃ bd bm, e = .returned (.agg #[.int .i64 p, .slice (some ⟨bd, 0, none⟩) ds.length ds.length, .slice (some ⟨bm, 0, none⟩) ms.length ms.length]) ∧ DuAt w w' ds ms bd bm

set_option maxHeartbeats 3200000 in
set_option maxRecDepth 100000 in
theorem dualC_any (p : Int) (dv mv : Value) (ds : List Int) (ms : List (List (List Int))) (w : World) (h : Cx 0 w dv mv ds ms) (hd : ds.length ≤ 1048576) (hm : Bd3 1048576 ms) (hcx : SzOk ds ms) :
    Calls Try.prog 127 #[.agg #[.int .i64 p, dv, mv]] w (DuWc p ds ms w) := by
  obtain ⟨ad, cap, rfl⟩ := Sl.shape h.dims
  obtain ⟨am, capm, rfl⟩ := Sl.shape h.maps
  have hml := hcx.mlen
  have hl6 := hcx.len1
  have HX0 := Lib.hid ((Bx.start (p := p) 28 h).next ((Below.refl _ _).alloc (Nat.le_refl _) (.cells #[.int .i64 0, .slice none 0 0, .slice none 0 0] 28)))
  have HCX := Lib.hid hcx
  have HM := Lib.hid hm
  have hres : Try.f127.results = #[.cell 2 28] := by kernel_rfl
  have HRES := Lib.hid hres
  have hmk := run_make_row' (P := Try.prog) 22 2 (.int .i64 0) 8 Try.underlying22 Try.infoI rfl .i64 .i64 ds.length (by omega) (by omega)
  have hmk2 := run_make_row' (P := Try.prog) 23 41 (.slice none 0 0) 24 Try.underlying23 Try.infoSS rfl .i64 .i64 ms.length (by omega) (by omega)
  clear hres h hm hcx
  obtain ⟨w1, hw1⟩ : ∃ w1, w1 = ((w.alloc (.cells #[.int .i64 p, .slice ad ds.length cap, .slice am ms.length capm] 28)).alloc (.cells #[.int .i64 0, .slice none 0 0, .slice none 0 0] 28)) := ⟨_, rfl⟩
  have HX1 : Hid (Bx w w1 w.heap.size p (.slice ad ds.length cap) (.slice am ms.length capm) ds ms) := Lib.hid (by rw [hw1]; exact HX0.out)
  have hsz1 : w.heap.size + 2 ≤ w1.heap.size := by rw [hw1]; simp
  have hr0 : Hid (∃ x y z, w1.heap[w.heap.size + 1]? = some (.cells #[x, y, z] 28)) := Lib.hid ⟨_, _, _, by rw [hw1]; have := heap_alloc_new (w.alloc (.cells #[.int .i64 p, .slice ad ds.length cap, .slice am ms.length capm] 28)) (.cells #[.int .i64 0, .slice none 0 0, .slice none 0 0] 28); simpa using this⟩
  clear HX0
  go_enter Try.func127, Try.ntmps127
  go_upto_region 1 with fail
  rw [← hw1]
  clear hw1
  have c0 := HX1.out.c0
  have c1 := HX1.out.c1
  have c2 := HX1.out.c2
  go_wp2_with fail
  refine (topOf_any p _ _ ds.length ad cap _ rfl hd).mono ?_
  rintro e w2 ⟨rfl, hb2⟩
  have HX2 := Lib.hid (HX1.out.next hb2)
  have hsz2 : w.heap.size + 2 ≤ w2.heap.size := by have := hb2.size; omega
  clear c0 c1 c2
  have c0 := HX2.out.c0
  have c1 := HX2.out.c1
  have c2 := HX2.out.c2
  have hw1 : IntKind.i64.wrap ((ds.length : Int) - 1 + 1) = (ds.length : Int) := by rw [show (ds.length : Int) - 1 + 1 = ds.length by omega]; exact IntWalk.i64_in _ (by omega)
  have hw2 : (ds.length : Int) - 1 = (ms.length : Int) := by omega
  have HR0 : Hid (∃ x y z, w2.heap[w.heap.size + 1]? = some (.cells #[x, y, z] 28)) := Lib.hid (by obtain ⟨x, y, z, hh⟩ := hr0.out; exact ⟨x, y, z, by rw [hb2.block (w.heap.size + 1) (by omega)]; exact hh⟩)
  rw [hw2]
  rw [hw2] at hw1
  clear hb2 hr0
  have hlt0 : w.heap.size < w2.heap.size := by omega
  have hlt1 : w.heap.size < w2.heap.size + 1 := by omega
  have hlt2 : w.heap.size < w2.heap.size + 2 := by omega
  have hlt3 : w.heap.size < w2.heap.size + 1 + 1 := by omega
  have hlt4 : w.heap.size ≤ w2.heap.size := by omega
  go_upto_region 2 with fail
  go_cut [4] from 9 to 16 (fun s wx => ∃ g bd bm, s = .pointer (some ⟨g, 0, none⟩) ∧ Hid (Du w2 wx g bd bm ds.length ms.length p (fun _ => .int .i64 0) (fun _ => .slice none 0 0)))
  case first =>
    go_region
    all_goals go_wp2
    all_goals go_meet
    all_goals refine ⟨_, ?_, ?_, rfl, Lib.hid ⟨below3 _ _ _ _, ?_, ?_, ?_, ?_, ?_⟩⟩
    all_goals first
      | exact box1 _ _ _ _ _ _ _ | exact box2 _ _ _ _ _ _ _ | exact box3' _ _ _ _ _ _ _
      | exact made1 _ _ _ _ _ _ | exact made2 _ _ _ _ _ _ | exact made3 _ _ _ _ _ _ | skip
    all_goals omega
  case rest =>
    obtain ⟨g, bd, bm, rfl, HDU⟩ := hcut
    clear hmk hmk2 c0 c1 c2
    go_wp2
    go_loopw [19] (fun i wr => ∃ k : Nat, k ≤ ds.length ∧ i = .int .i64 k ∧ Hid (Du w2 wr g bd bm ds.length ms.length p (duD ds k) (fun _ => .slice none 0 0))) (fun i _ => ds.length - (intOf i).toNat)
    case atStart => exact ⟨0, Nat.zero_le _, rfl, Lib.hid (HDU.out.congr (fun j _ => by simp [duD]))⟩
    case round =>
      obtain ⟨k, hk, rfl, HD⟩ := hrel
      by_cases hlt : k < ds.length
      · have HX3 := Lib.hid (HX2.out.next HD.out.below)
        have c0 := HX3.out.c0
        have c1 := HX3.out.c1
        have c2 := HX3.out.c2
        have g0 : wr.cell? ⟨g, 0, none⟩ = some (.int .i64 p) := HD.out.box.cell (i := 0) (by omega)
        have g1 : wr.cell? ⟨g, 1, none⟩ = some (.slice (some ⟨bd, 0, none⟩) ds.length ds.length) := HD.out.box.cell (i := 1) (by omega)
        have hcel := HD.out.dims.cell hlt
        have hfz := HD.out.dims.frozen k
        have hq : ms.length - k < ds.length := by omega
        refine Sl.cases HX3.out.cx.dims (fun _ _ hx _ => absurd hlt (by simp [hx])) (fun bx ox capx hvx _ hposx hclx => ?_)
        injection hvx with e1 _ e3
        subst e1 e3
        obtain ⟨u, hu, hru⟩ := hclx (ms.length - k) hq
        obtain ⟨x, hx⟩ : ∃ x, x = ds[ms.length - k] := ⟨_, rfl⟩
        have hu2 : wr.cell? ⟨bx, ox + (ms.length - k), none⟩ = some (.int .i64 x) := by rw [hu, hru, ← hx]
        have HS := Lib.hid ((HD.out.setD k (.int .i64 x)).congr (fun j _ => duD_step ds k (by rw [show ds.length - 1 - k = ms.length - k by omega, getD_of_lt _ hq, hx]) j))
        have hi1 : IntKind.i64.wrap ((ms.length : Int) - (k : Int)) = (ms.length : Int) - (k : Int) := IntWalk.i64_in _ (by omega)
        have hi2 : (0 : Int) ≤ (ms.length : Int) - (k : Int) := by omega
        have hi3 : (ms.length : Int) - (k : Int) < (ds.length : Int) := by omega
        have hi4 : ((ms.length : Int) - (k : Int)).toNat = ms.length - k := by omega
        have hi5 : k ≤ ms.length := by omega
        clear hu hru hx hclx hposx
        go_wp2
        go_region
        all_goals go_wp2
        all_goals go_roundw
        case rel => exact ⟨k + 1, by omega, by go_num, Lib.hid HS.out.drew⟩
        case measure => simp [intOf]; omega
      · have hkk : Hid (k = ds.length) := Lib.hid (by omega)
        have HDF : Hid (Du w2 wr g bd bm ds.length ms.length p (duD ds ds.length) (fun _ => .slice none 0 0)) := Lib.hid (by have := HD.out; rwa [hkk.out] at this)
        clear HD
        obtain ⟨wo, hwo⟩ : ∃ wo : World, wo = wr := ⟨_, rfl⟩
        subst hwo
        go_wp2
        go_loopw [35] (fun i wr => ∃ (k : Nat) (bs : Nat → Nat), k ≤ ms.length ∧ i = .int .i64 k ∧ Hid (Du w2 wr g bd bm ds.length ms.length p (duD ds ds.length) (duM bs (duR ds ms.length) k)) ∧ Hid (Ts wo.heap.size wr bs (duR ds ms.length) (duC ms) (duZ ms) k) ∧ Hid (wo.heap.size ≤ wr.heap.size)) (fun i _ => ms.length - (intOf i).toNat)
        case atStart => exact ⟨0, fun _ => 0, Nat.zero_le _, rfl, Lib.hid (HDF.out.congrM (fun j _ => by simp [duM])), Lib.hid ⟨fun j h => absurd h (Nat.not_lt_zero _), fun j h => absurd h (Nat.not_lt_zero _), fun j h => absurd h (Nat.not_lt_zero _), fun i j _ h => absurd h (Nat.not_lt_zero _)⟩, Lib.hid (Nat.le_refl _)⟩
        case round =>
          obtain ⟨k2, bs, hk2, rfl, HD, HTS, HLE⟩ := hrel
          by_cases hlt2 : k2 < ms.length
          · have HX3 := Lib.hid (HX2.out.next HD.out.below)
            have c1 := HX3.out.c1
            have c2 := HX3.out.c2
            have g2 : wr.cell? ⟨g, 2, none⟩ = some (.slice (some ⟨bm, 0, none⟩) ms.length ms.length) := HD.out.box.cell (i := 2) (by omega)
            obtain ⟨q, hqe⟩ : ∃ q, q = ms.length - 1 - k2 := ⟨_, rfl⟩
            have hqm : q < ms.length := by omega
            have hqd : q < ds.length := by omega
            refine Sl.cases HX3.out.cx.dims (fun _ _ hx _ => absurd hqd (by simp [hx])) (fun bx ox capx hvx _ hposx hclx => ?_)
            injection hvx with e1 _ e3
            subst e1 e3
            refine Sl.cases HX3.out.cx.maps (fun _ _ hx _ => absurd hqm (by simp [hx])) (fun by' oy capy hvy _ hposy hcly => ?_)
            injection hvy with e1 _ e3
            subst e1 e3
            have hlo := HD.out.lo
            have n1 : bm ≠ w.heap.size := by omega
            have ng : bm ≠ g := Ne.symm HD.out.ne.2.1
            have nx : bm ≠ bx := by
              refine Sl.cases HX2.out.cx.dims (fun _ _ hx _ => absurd hqd (by simp [hx])) (fun b1 o1 d1 hv1 _ _ hcl1 => ?_)
              obtain ⟨u1, hu1, _⟩ := hcl1 q hqd
              have hl1 := cell_lt hu1
              injection hv1 with e1
              injection e1 with e1
              injection e1 with e1
              omega
            have ny : bm ≠ by' := by
              refine Sl.cases HX2.out.cx.maps (fun _ _ hx _ => absurd hqm (by simp [hx])) (fun b1 o1 d1 hv1 _ _ hcl1 => ?_)
              obtain ⟨u1, hu1, _⟩ := hcl1 q hqm
              have hl1 := cell_lt hu1
              injection hv1 with e1
              injection e1 with e1
              injection e1 with e1
              omega
            clear hlo
            obtain ⟨u, hu, hru⟩ := hclx q hqd
            obtain ⟨ut, hut, hrt⟩ := hcly q hqm
            have hdim := HCX.out.dim q
            obtain ⟨cq, hcq⟩ := Int.eq_ofNat_of_zero_le hdim.1
            have hu2 : wr.cell? ⟨bx, ox + q, none⟩ = some (.int .i64 (cq : Int)) := by rw [hu, hru, ← hcq, getD_of_lt _ hqd]
            have t1 := HCX.out.tabs q hqm
            obtain ⟨t, ht⟩ : ∃ t, t = ms[q] := ⟨_, rfl⟩
            have HT : Hid (L2 0 wr ut t) := Lib.hid (by rw [ht]; exact hrt)
            have HTR : Hid (∀ x ∈ t, x.length = cq) := Lib.hid (fun x hx => by
              have a1 := t1.2 x (by rw [getD_of_lt _ hqm, ← ht]; exact hx)
              omega)
            have HTL : Hid (t.length ≤ 1048576) := Lib.hid (by
              have a1 := t1.1
              have a2 := HCX.out.dim (q + 1)
              rw [getD_of_lt _ hqm, ← ht] at a1
              omega)
            have HCQ : Hid (cq ≤ 1048576) := Lib.hid (by omega)
            have hmc := HD.out.maps.cell hlt2
            have hmf := HD.out.maps.frozen k2
            have HR1 : Hid (duR ds ms.length k2 = cq) := Lib.hid (by rw [duR, ← hqe, hcq]; rfl)
            have HR2 : Hid (duC ms k2 = t.length) := Lib.hid (by rw [duC, ← hqe, getD_of_lt _ hqm, ht])
            have HR3 : Hid (duZ ms k2 = fun j i => (t.getD i []).getD j 0) := Lib.hid (by funext a b; rw [duZ, ← hqe, getD_of_lt _ hqm, ht])
            have hi0 : IntKind.i64.wrap ((ms.length : Int) - 1) = (ms.length : Int) - 1 := IntWalk.i64_in _ (by omega)
            have hi1 : IntKind.i64.wrap ((ms.length : Int) - 1 - (k2 : Int)) = (q : Int) := by rw [show (ms.length : Int) - 1 - (k2 : Int) = (q : Int) by omega]; exact IntWalk.i64_in _ (by omega)
            have hi2 : (0 : Int) ≤ (q : Int) := by omega
            have hi3 : (q : Int) < (ds.length : Int) := by omega
            have hi4 : (q : Int) < (ms.length : Int) := by omega
            clear hu hru hclx hcly hrt hcq hdim t1 ht hqe hposx hposy
            go_wp2
            go_region_held3 (fun w' => w'.cell? ⟨w.heap.size, 1, none⟩ = some (.slice (some ⟨bx, ox, none⟩) ds.length cap) ∧ w'.cell? ⟨w.heap.size, 2, none⟩ = some (.slice (some ⟨by', oy, none⟩) ms.length capm) ∧ w'.cell? ⟨g, 2, none⟩ = some (.slice (some ⟨bm, 0, none⟩) ms.length ms.length) ∧ w'.cell? ⟨bx, ox + q, none⟩ = some (.int .i64 (cq : Int)) ∧ w'.cell? ⟨by', oy + q, none⟩ = some ut)
              (first | exact ⟨c1, c2, g2, hu2, hut⟩ | exact ⟨later hm4.below (Nat.le_refl _) c1, later hm4.below (Nat.le_refl _) c2, later hm4.below (Nat.le_refl _) g2, later hm4.below (Nat.le_refl _) hu2, later hm4.below (Nat.le_refl _) hut⟩ | exact ⟨far n1 (later hm4.below (Nat.le_refl _) c1), far n1 (later hm4.below (Nat.le_refl _) c2), far ng (later hm4.below (Nat.le_refl _) g2), far nx (later hm4.below (Nat.le_refl _) hu2), far ny (later hm4.below (Nat.le_refl _) hut)⟩)
              (first | (go_at_call 169; refine (transposedTable_any cq _ t _ (HT.out.below (Below.refl _ _).drew) HTL.out HCQ.out HTR.out).mono ?_; rintro e w4 ⟨rfl, hm4⟩; have hmc4 : w4.cell? ⟨bm, k2, none⟩ = some (duM bs (duR ds ms.length) k2 k2) := (hm4.below.cell (p := ⟨bm, k2, none⟩) HD.out.maps.lt).trans hmc; have hmf4 : w4.frozen? ⟨bm, k2, none⟩ = false := (hm4.below.frozen (p := ⟨bm, k2, none⟩) HD.out.maps.lt).trans hmf))
            have HM4 : Hid (Mat wr.drew w4 (duR ds ms.length k2) (duC ms k2) (duZ ms k2)) := Lib.hid (by rw [HR1.out, HR2.out, HR3.out]; exact hm4)
            have HS1 : Hid (Du w2 (w4.setCell ⟨bm, k2, none⟩ (.slice (some ⟨wr.drew.heap.size, 0, none⟩) cq cq)) g bd bm ds.length ms.length p (duD ds ds.length) (duM (fun j => if j = k2 then wr.drew.heap.size else bs j) (duR ds ms.length) (k2 + 1))) := Lib.hid (by
              have h := ((HD.out.drew.next HM4.out.below).setM k2 (.slice (some ⟨wr.drew.heap.size, 0, none⟩) (duR ds ms.length k2) (duR ds ms.length k2))).congrM (fun j _ => duM_step bs (duR ds ms.length) k2 wr.drew.heap.size j)
              rw [HR1.out] at h
              exact h)
            have HS2 : Hid (Ts wo.heap.size (w4.setCell ⟨bm, k2, none⟩ (.slice (some ⟨wr.drew.heap.size, 0, none⟩) cq cq)) (fun j => if j = k2 then wr.drew.heap.size else bs j) (duR ds ms.length) (duC ms) (duZ ms) (k2 + 1)) := Lib.hid (HTS.out.drew.step HM4.out HLE.out HDF.out.maps.lt _)
            have HS3 : Hid (wo.heap.size ≤ (w4.setCell ⟨bm, k2, none⟩ (.slice (some ⟨wr.drew.heap.size, 0, none⟩) cq cq)).heap.size) := Lib.hid (by
              have a1 := HLE.out
              have a2 : wr.heap.size ≤ w4.heap.size := HM4.out.below.size
              simp
              omega)
            clear hm4 hmc hmf c1 c2 g2 hu2 hut n1 ng nx ny
            go_wp2
            go_roundw
            case rel => exact ⟨k2 + 1, _, by omega, by go_num, HS1, HS2, HS3⟩
            case measure => simp [intOf]; omega
          · have g0 : wr.cell? ⟨g, 0, none⟩ = some (.int .i64 p) := HD.out.box.cell (i := 0) (by omega)
            have g1 : wr.cell? ⟨g, 1, none⟩ = some (.slice (some ⟨bd, 0, none⟩) ds.length ds.length) := HD.out.box.cell (i := 1) (by omega)
            have g2 : wr.cell? ⟨g, 2, none⟩ = some (.slice (some ⟨bm, 0, none⟩) ms.length ms.length) := HD.out.box.cell (i := 2) (by omega)
            obtain ⟨x, y, z, hr⟩ := HR0.out
            have hrow : wr.rowIs (w.heap.size + 1) 28 3 (sel3 x y z) := rowIs3 (by rw [HD.out.below.block (w.heap.size + 1) (by omega)]; exact hr)
            have q0 : wr.cell? ⟨w.heap.size + 1, 0, none⟩ = some x := hrow.cell (i := 0) (by omega)
            have z0 : wr.frozen? ⟨w.heap.size + 1, 0, none⟩ = false := hrow.frozen 0
            have r1 := hrow.set 0 (.int .i64 p)
            have q1 : (wr.setCell ⟨w.heap.size + 1, 0, none⟩ (.int .i64 p)).cell? ⟨w.heap.size + 1, 1, none⟩ = some y := r1.cell (i := 1) (by omega)
            have z1 : (wr.setCell ⟨w.heap.size + 1, 0, none⟩ (.int .i64 p)).frozen? ⟨w.heap.size + 1, 1, none⟩ = false := r1.frozen 1
            have r2 := r1.set 1 (.slice (some ⟨bd, 0, none⟩) ds.length ds.length)
            have q2 : ((wr.setCell ⟨w.heap.size + 1, 0, none⟩ (.int .i64 p)).setCell ⟨w.heap.size + 1, 1, none⟩ (.slice (some ⟨bd, 0, none⟩) ds.length ds.length)).cell? ⟨w.heap.size + 1, 2, none⟩ = some z := r2.cell (i := 2) (by omega)
            have z2 : ((wr.setCell ⟨w.heap.size + 1, 0, none⟩ (.int .i64 p)).setCell ⟨w.heap.size + 1, 1, none⟩ (.slice (some ⟨bd, 0, none⟩) ds.length ds.length)).frozen? ⟨w.heap.size + 1, 2, none⟩ = false := r2.frozen 2
            have r3 := r2.set 2 (.slice (some ⟨bm, 0, none⟩) ms.length ms.length)
            obtain ⟨WF, hWF⟩ : ∃ W : World, W = ((wr.setCell ⟨w.heap.size + 1, 0, none⟩ (.int .i64 p)).setCell ⟨w.heap.size + 1, 1, none⟩ (.slice (some ⟨bd, 0, none⟩) ds.length ds.length)).setCell ⟨w.heap.size + 1, 2, none⟩ (.slice (some ⟨bm, 0, none⟩) ms.length ms.length) := ⟨_, rfl⟩
            rw [← hWF] at r3
            have f0 : WF.cell? ⟨w.heap.size + 1, 0, none⟩ = some (.int .i64 p) := r3.cell (i := 0) (by omega)
            have f1 : WF.cell? ⟨w.heap.size + 1, 1, none⟩ = some (.slice (some ⟨bd, 0, none⟩) ds.length ds.length) := r3.cell (i := 1) (by omega)
            have f2 : WF.cell? ⟨w.heap.size + 1, 2, none⟩ = some (.slice (some ⟨bm, 0, none⟩) ms.length ms.length) := r3.cell (i := 2) (by omega)
            have HWF := Lib.hid hWF
            have HAT : Hid (DuAt w WF ds ms bd bm) := Lib.hid (by
              have hk2e : k2 = ms.length := by omega
              have hlo := HD.out.lo
              have b0 : DuAt w wr ds ms bd bm := ⟨HX2.out.below.trans (HD.out.below.mono hlt4), ⟨by omega, by omega, HD.out.ne.2.2⟩, HD.out.dims, wo.heap.size, bs, HDF.out.dims.lt, HDF.out.maps.lt, by have h := HD.out.maps; rw [hk2e] at h; exact h, by have h := HTS.out; rw [hk2e] at h; exact h⟩
              rw [hWF]
              exact ((b0.set (a := ⟨w.heap.size + 1, 0, none⟩) (Nat.le_succ _) (by show w.heap.size + 1 < bd; omega) (by show w.heap.size + 1 < bm; omega) _).set (a := ⟨w.heap.size + 1, 1, none⟩) (Nat.le_succ _) (by show w.heap.size + 1 < bd; omega) (by show w.heap.size + 1 < bm; omega) _).set (a := ⟨w.heap.size + 1, 2, none⟩) (Nat.le_succ _) (by show w.heap.size + 1 < bd; omega) (by show w.heap.size + 1 < bm; omega) _)
            clear hr hrow r1 r2 r3 hWF
            go_wp2
            rw [← HWF.out]
            refine bodyPost_ret (v := .agg #[.int .i64 p, .slice (some ⟨bd, 0, none⟩) ds.length ds.length, .slice (some ⟨bm, 0, none⟩) ms.length ms.length]) ?_ rfl ?_
            · simp only [results, HRES.out]
              go_simp
            · exact ⟨bd, bm, rfl, HAT.out⟩
theorem SzOk.duR8 {ds : List Int} {ms : List (List (List Int))} (h : SzOk ds ms) (j : Nat) : duR ds ms.length j ≤ 8 := by
  have := (h.dim (ms.length - 1 - j)).2
  unfold duR
  omega
theorem DuAt.rcS {w W : World} {ds : List Int} {ms : List (List (List Int))} {bd bm : Nat} (h : DuAt w W ds ms bd bm) (hd : ds.length ≤ 1048576) (hm : Bd3 1048576 ms) (h8 : ∀ j, duR ds ms.length j ≤ 8) :
    RcW w.heap.size W.heap.size W (.slice (some ⟨bd, 0, none⟩) ds.length ds.length) (.slice (some ⟨bm, 0, none⟩) ms.length ms.length) (dualD ds) (dualM ds ms) := by
  obtain ⟨hb, ⟨l1, l2, l3⟩, hdim, lo, bs, t1, t2, t3, t4⟩ := h
  have hml := hm.1
  have hlt := t3.lt
  have hfill : Fill3 W bm ms.length ms.length (duM bs (duR ds ms.length) ms.length) (fun j => if j < ms.length then bs j else W.heap.size) (dualM ds ms) := by
    refine ⟨t3, ?_, fun j hj => ?_, ?_, fun j hj hjk => ?_⟩
    · by_cases e : 0 < ms.length
      · simp only [if_pos e]
        have := t4.lo' 0 e
        omega
      · simp only [if_neg e]
        exact hlt
    · simp only [if_pos hj]
      by_cases e : j + 1 < ms.length
      · simp only [if_pos e]
        have := t4.inc j (j + 1) (by omega) e
        omega
      · simp only [if_neg e]
        have := t4.hi j hj
        omega
    · simp only [if_neg (Nat.lt_irrefl _)]
      exact Nat.le_refl _
    · rw [dualM_at]
      simp only [duM, if_pos hjk]
      refine Tb.rw2h (g := bs j) ⟨(t4.at' j hjk).top, (t4.at' j hjk).rows, t4.hi j hjk⟩ (Nat.le_refl _) ?_ (Nat.le_trans (h8 j) (by omega)) (duC_bd hm j)
      by_cases e : j + 1 < ms.length
      · simp only [if_pos e]
        exact t4.inc j (j + 1) (by omega) e
      · simp only [if_neg e]
        exact t4.hi j hjk
  obtain ⟨q3, J, s3, n3, d3, z3⟩ := hfill.parts (dualM_length ds ms).symm hml
  obtain ⟨q1, I, s1, n1, b1, z1⟩ := row_rc (xs := dualD ds) hdim (dualD_length ds) (fun i hi => by
    have hi' : i < ds.length := by rw [dualD_length] at hi; exact hi
    simp [duD, dualD, hi']) hd l1
  refine ⟨⟨q1, q3.wider l2 (Nat.le_refl _)⟩, I, J, s1, s3.wider l2 (Nat.le_refl _), n1, n3.wider ?_ (Nat.le_refl _), d3, fun x hx y hy => Or.inl ?_, z1, z3⟩
  · by_cases e : 0 < ms.length
    · simp only [if_pos e]
      have := t4.lo' 0 e
      omega
    · simp only [if_neg e]
      omega
  · have h1 := b1 x hx
    have h2 := (n3 y hy).1
    have h3 := hdim.lt
    rw [h1]
    by_cases e : 0 < ms.length
    · simp only [if_pos e] at h2
      have := t4.lo' 0 e
      omega
    · simp only [if_neg e] at h2
      omega
end Go.Proofs.Ytpdkfidmmjlmnaa
