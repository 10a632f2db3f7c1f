/-
  copyOfComplex of the program: the numbers' rests modulo p, in memory of its own.
-/
import Derived.Test.YtiokagnolbddlaaDwc
import Derived.Test.YtiokagnolbddlaaSca
import Derived.Test.YtiokagnolbddlaaShm
namespace Go.Proofs.Ytiokagnolbddlaa
open Go.RowKit

/-- A complex as it lies behind the call that made it: its dimensions, its tables' heads, its tables. -/
structure CuAt (w w' : World) (n m : Nat) (D : Nat → Value) (r c : Nat → Nat) (Z : Nat → Nat → Nat → Int) (bd bm : Nat) : Prop where
  below : Below w.heap.size w w'
  lo : w.heap.size ≤ bd ∧ w.heap.size ≤ bm ∧ bd ≠ bm
  dims : w'.rowIs bd 2 n D
  tabs : ∃ (lo : Nat) (bs : Nat → Nat), bd < lo ∧ bm < lo ∧ w'.rowIs bm 44 m (duM bs r m) ∧ Ts lo w' bs r c Z m
theorem CuAt.set {w w' : World} {n m : Nat} {D : Nat → Value} {r c : Nat → Nat} {Z : Nat → Nat → Nat → Int} {bd bm : Nat} (h : CuAt w w' n m D r c Z bd bm) {a : Addr} (h0 : w.heap.size ≤ a.block) (h1 : a.block < bd) (h2 : a.block < bm) (v : Value) : CuAt w (w'.setCell a v) n m D r c Z bd bm := by
  obtain ⟨lo, bs, a1, a2, a3, a4⟩ := h.tabs
  exact ⟨h.below.setCell h0 _, h.lo, h.dims.setOther (by omega) _, lo, bs, a1, a2, a3.setOther (by omega) _, a4.set (by omega) _⟩
theorem CuAt.rc {w W : World} {n m : Nat} {D : Nat → Value} {r c : Nat → Nat} {Z : Nat → Nat → Nat → Int} {bd bm : Nat} {xs : List Int} {ts : List (List (List Int))} (h : CuAt w W n m D r c Z bd bm) (hd : n ≤ 1048576) (hml : m ≤ 1048576) (hxl : xs.length = n) (hD : ∀ i (hi : i < xs.length), D i = .int .i64 xs[i]) (htl : ts.length = m) (hts : ∀ j (hj : j < ts.length), ts[j] = tableOf (r j) (c j) (Z j)) (h8 : ∀ j, r j ≤ 1048576) (hc : ∀ j, c j ≤ 1048576) :
    RcW w.heap.size W.heap.size W (.slice (some ⟨bd, 0, none⟩) n n) (.slice (some ⟨bm, 0, none⟩) m m) xs ts := by
  obtain ⟨hb, ⟨l1, l2, l3⟩, hdim, lo, bs, t1, t2, t3, t4⟩ := h
  have hlt := t3.lt
  have hfill : Fill3 W bm m m (duM bs r m) (fun j => if j < m then bs j else W.heap.size) ts := by
    refine ⟨t3, ?_, fun j hj => ?_, ?_, fun j hj hjk => ?_⟩
    · by_cases e : 0 < m
      · simp only [if_pos e]
        have := t4.lo' 0 e
        omega
      · simp only [if_neg e]
        exact hlt
    · simp only [if_pos hj]
      by_cases e : j + 1 < m
      · simp only [if_pos e]
        have := t4.inc j (j + 1) (by omega) e
        omega
      · simp only [if_neg e]
        have := t4.hi j hj
        omega
    · simp only [if_neg (Nat.lt_irrefl _)]
      exact Nat.le_refl _
    · rw [hts]
      simp only [duM, if_pos hjk]
      refine Tb.rw2h (g := bs j) ⟨(t4.at' j hjk).top, (t4.at' j hjk).rows, t4.hi j hjk⟩ (Nat.le_refl _) ?_ (h8 j) (hc j)
      by_cases e : j + 1 < m
      · simp only [if_pos e]
        exact t4.inc j (j + 1) (by omega) e
      · simp only [if_neg e]
        exact t4.hi j hjk
  obtain ⟨q3, J, s3, n3, d3, z3⟩ := hfill.parts htl.symm hml
  obtain ⟨q1, I, s1, n1, b1, z1⟩ := row_rc (xs := xs) hdim hxl hD hd l1
  refine ⟨⟨q1, q3.wider l2 (Nat.le_refl _)⟩, I, J, s1, s3.wider l2 (Nat.le_refl _), n1, n3.wider ?_ (Nat.le_refl _), d3, fun x hx y hy => Or.inl ?_, z1, z3⟩
  · by_cases e : 0 < m
    · simp only [if_pos e]
      have := t4.lo' 0 e
      omega
    · simp only [if_neg e]
      omega
  · have h1 := b1 x hx
    have h2 := (n3 y hy).1
    have h3 := hdim.lt
    rw [h1]
    by_cases e : 0 < m
    · simp only [if_pos e] at h2
      have := t4.lo' 0 e
      omega
    · simp only [if_neg e] at h2
      omega

def cpD (ds : List Int) : Nat → Value := fun j => .int .i64 (ds.getD j 0)
def cpR (ms : List (List (List Int))) (j : Nat) : Nat := (ms.getD j []).length
def cpC (ds : List Int) (j : Nat) : Nat := (ds.getD j 0).toNat
def cpZ (p : Int) (ms : List (List (List Int))) (j : Nat) : Nat → Nat → Int := scZ p 1 (ms.getD j [])
def CpW (p : Int) (ds : List Int) (ms : List (List (List Int))) (w : World) (e : Ending) (w' : World) : Prop :=
  ∃ bd bm, e = .returned (.agg #[.int .i64 p, .slice (some ⟨bd, 0, none⟩) ds.length ds.length, .slice (some ⟨bm, 0, none⟩) ms.length ms.length]) ∧ CuAt w w' ds.length ms.length (cpD ds) (cpR ms) (cpC ds) (cpZ p ms) bd bm

set_option maxHeartbeats 3200000 in
set_option maxRecDepth 100000 in
theorem copyC_any (p : Int) (dv mv : Value) (ds : List Int) (ms : List (List (List Int))) (w : World) (h : Cx 0 w dv mv ds ms) (hsz : SzOk ds ms) (hp0 : 0 < p) (hp1 : p ≤ 1048576) (hnum : ∀ t ∈ ms, ∀ r ∈ t, ∀ z ∈ r, -1048576 ≤ z ∧ z ≤ 1048576) :
    Calls Try.prog 82 #[.agg #[.int .i64 p, dv, mv]] w (CpW p ds ms w) := by
  obtain ⟨ad, cap, rfl⟩ := Sl.shape h.dims
  obtain ⟨am, capm, rfl⟩ := Sl.shape h.maps
  have hml := hsz.mlen
  have hl6 := hsz.len1
  have HCX := Lib.hid hsz
  have HNUM := Lib.hid hnum
  have HX0 := Lib.hid ((Bx.start (p := p) 38 h).next ((Below.refl _ _).alloc (Nat.le_refl _) (.cells #[.int .i64 0, .slice none 0 0, .slice none 0 0] 38)))
  have hres : Try.f82.results = #[.cell 2 38] := by kernel_rfl
  have HRES := Lib.hid hres
  have hmk := run_make_row' (P := Try.prog) 22 2 (.int .i64 0) 8 Try.underlying22 Try.infoI rfl .i64 .i64 ds.length (by omega) (by omega)
  have hmk2 := run_make_row' (P := Try.prog) 23 44 (.slice none 0 0) 24 Try.underlying23 Try.infoSS rfl .i64 .i64 ms.length (by omega) (by omega)
  obtain ⟨w2, hw2⟩ : ∃ w2, w2 = ((w.alloc (.cells #[.int .i64 p, .slice ad ds.length cap, .slice am ms.length capm] 38)).alloc (.cells #[.int .i64 0, .slice none 0 0, .slice none 0 0] 38)) := ⟨_, rfl⟩
  have HX2 : Hid (Bx w w2 w.heap.size p (.slice ad ds.length cap) (.slice am ms.length capm) ds ms) := Lib.hid (by rw [hw2]; exact HX0.out)
  have hsz2 : w.heap.size + 2 ≤ w2.heap.size := by rw [hw2]; simp
  have HR0 : Hid (∃ x y z, w2.heap[w.heap.size + 1]? = some (.cells #[x, y, z] 38)) := Lib.hid ⟨_, _, _, by rw [hw2]; have := heap_alloc_new (w.alloc (.cells #[.int .i64 p, .slice ad ds.length cap, .slice am ms.length capm] 38)) (.cells #[.int .i64 0, .slice none 0 0, .slice none 0 0] 38); simpa using this⟩
  clear hres h hsz hnum HX0
  have c0 := HX2.out.c0
  have c1 := HX2.out.c1
  have c2 := HX2.out.c2
  have hlt0 : w.heap.size < w2.heap.size := by omega
  have hlt1 : w.heap.size < w2.heap.size + 1 := by omega
  have hlt2 : w.heap.size < w2.heap.size + 2 := by omega
  have hlt3 : w.heap.size < w2.heap.size + 1 + 1 := by omega
  have hlt4 : w.heap.size ≤ w2.heap.size := by omega
  go_enter Try.func82, Try.ntmps82
  go_upto_region 1 with fail
  rw [← hw2]
  clear hw2
  go_cut [3] from 6 to 16 (fun s wx => ∃ g bd bm, s = .pointer (some ⟨g, 0, none⟩) ∧ Hid (Du w2 wx g bd bm ds.length ms.length p (fun _ => .int .i64 0) (fun _ => .slice none 0 0)))
  case first =>
    go_region
    all_goals go_wp2
    all_goals go_meet
    all_goals refine ⟨_, ?_, ?_, rfl, Lib.hid ⟨below3 _ _ _ _, ?_, ?_, ?_, ?_, ?_⟩⟩
    all_goals first
      | exact box1 _ _ _ _ _ _ _ | exact box2 _ _ _ _ _ _ _ | exact box3' _ _ _ _ _ _ _
      | exact made1 _ _ _ _ _ _ | exact made2 _ _ _ _ _ _ | exact made3 _ _ _ _ _ _ | skip
    all_goals omega
  case rest =>
    obtain ⟨g, bd, bm, rfl, HDU⟩ := hcut
    clear hmk hmk2 c0 c1 c2
    obtain ⟨wx, hwx⟩ : ∃ wx : World, wx = wc := ⟨_, rfl⟩
    subst hwx
    have HX3 := Lib.hid (HX2.out.next HDU.out.below)
    have c1 := HX3.out.c1
    have g1 : wx.cell? ⟨g, 1, none⟩ = some (.slice (some ⟨bd, 0, none⟩) ds.length ds.length) := HDU.out.box.cell (i := 1) (by omega)
    obtain ⟨wN, hrun, hszN, hoth, hbl, hrow⟩ := copy_row (Z := fun _ => 0) HDU.out.dims (q := 0) ds.length ds.length ad cap ds HX3.out.cx.dims (by omega) (by omega)
    have HDC : Hid (Du w2 wN g bd bm ds.length ms.length p (cpD ds) (fun _ => .slice none 0 0)) := Lib.hid ⟨hbl _ _ HDU.out.lo.2.1 HDU.out.below, HDU.out.lo, HDU.out.ne, HDU.out.box.of_block (hoth _ HDU.out.ne.1), hrow.congr (fun j hj => by
      unfold cpD
      rw [if_pos (by omega), Nat.sub_zero]), HDU.out.maps.of_block (hoth _ (Ne.symm HDU.out.ne.2.2))⟩
    clear hszN hoth hbl hrow HX3
    have HX3 := Lib.hid (HX2.out.next HDC.out.below)
    have c2 := HX3.out.c2
    go_wp2
    clear c2 hrun c1 g1 HDU
    obtain ⟨wo, hwo⟩ : ∃ wo : World, wo = wN := ⟨_, rfl⟩
    subst hwo
    go_loopw [4, 5, 25] (fun _ _ i wr => ∃ (k : Nat) (bs : Nat → Nat), k ≤ ms.length ∧ i = .int .i64 k ∧ Hid (Du w2 wr g bd bm ds.length ms.length p (cpD ds) (duM bs (cpR ms) k)) ∧ Hid (Ts wo.heap.size wr bs (cpR ms) (cpC ds) (cpZ p ms) k) ∧ Hid (wo.heap.size ≤ wr.heap.size)) (fun _ _ i _ => ms.length - (intOf i).toNat)
    case atStart => exact ⟨0, fun _ => 0, Nat.zero_le _, rfl, Lib.hid (HDC.out.congrM (fun j _ => by simp [duM])), Lib.hid ⟨fun j h => absurd h (Nat.not_lt_zero _), fun j h => absurd h (Nat.not_lt_zero _), fun j h => absurd h (Nat.not_lt_zero _), fun i j _ h => absurd h (Nat.not_lt_zero _)⟩, Lib.hid (Nat.le_refl _)⟩
    case round =>
      obtain ⟨k2, bs, hk2, rfl, HD, HTS, HLE⟩ := hrel
      clear HX3
      by_cases hlt2 : k2 < ms.length
      · have HX3 := Lib.hid (HX2.out.next HD.out.below)
        have c0 := HX3.out.c0
        have g2 : wr.cell? ⟨g, 2, none⟩ = some (.slice (some ⟨bm, 0, none⟩) ms.length ms.length) := HD.out.box.cell (i := 2) (by omega)
        refine Sl.cases HX3.out.cx.maps (fun _ _ hx _ => absurd hlt2 (by simp [hx])) (fun by' oy capy hvy _ hposy hcly => ?_)
        injection hvy with e1 _ e3
        subst e1 e3
        have hlo := HD.out.lo
        have n1 : bm ≠ w.heap.size := by omega
        have ng : bm ≠ g := Ne.symm HD.out.ne.2.1
        clear hlo
        obtain ⟨ut, hut, hrt⟩ := hcly k2 hlt2
        obtain ⟨cq, hcqe⟩ : ∃ cq, cq = cpC ds k2 := ⟨_, rfl⟩
        have hcq8 : cq ≤ 8 := by rw [hcqe]; unfold cpC; have := HCX.out.dim k2; omega
        have t1 := HCX.out.tabs k2 hlt2
        have hd8 := HCX.out.dim (k2 + 1)
        have hd7 := HCX.out.dim k2
        obtain ⟨t, ht⟩ : ∃ t, t = ms[k2] := ⟨_, rfl⟩
        rw [getD_of_lt _ hlt2, ← ht] at t1
        have HT : Hid (L2 0 wr ut t) := Lib.hid (by rw [ht]; exact hrt)
        have HTR : Hid (∀ y ∈ t, y.length = cq ∧ ∀ z ∈ y, -1048576 ≤ z ∧ z ≤ 1048576) := Lib.hid (fun y hy => ⟨by
          have a1 := t1.2 y hy
          rw [hcqe]
          unfold cpC
          omega, HNUM.out t (by rw [ht]; exact List.getElem_mem _) y hy⟩)
        have htl : t.length ≤ 1048576 := by omega
        have HTL := Lib.hid htl
        have HCQ : Hid (cq ≤ 1048576) := Lib.hid (by omega)
        have hmc := HD.out.maps.cell hlt2
        have hmf := HD.out.maps.frozen k2
        have HR1 : Hid (cpR ms k2 = t.length) := Lib.hid (by unfold cpR; rw [getD_of_lt _ hlt2, ht])
        have HR2 : Hid (cpC ds k2 = cq) := Lib.hid hcqe.symm
        have HR3 : Hid (cpZ p ms k2 = scZ p 1 t) := Lib.hid (by unfold cpZ; rw [getD_of_lt _ hlt2, ht])
        obtain ⟨tn, htn⟩ : ∃ tn, tn = t.length := ⟨_, rfl⟩
        have HTN := Lib.hid htn
        have HPP : Hid (0 < p ∧ p ≤ 1048576) := Lib.hid ⟨hp0, hp1⟩
        have HSC : Hid (∀ W, Below wr.heap.size wr W → Calls Try.prog 139 #[.int .i64 p, .int .i64 1, ut] W (MatR tn cq (scZ p 1 t) W)) := Lib.hid (fun W hW => by rw [HTN.out]; exact scaledTableW_any p 1 cq ut t W HPP.out.1 HPP.out.2 ⟨by omega, by omega⟩ (HT.out.below hW) HTL.out HCQ.out HTR.out)
        clear hcly hrt hcqe t1 hd8 hd7 ht hposy htl htn hcq8
        go_wp2
        go_region_held3 (fun w' => w'.cell? ⟨w.heap.size, 0, none⟩ = some (.int .i64 p) ∧ w'.cell? ⟨g, 2, none⟩ = some (.slice (some ⟨bm, 0, none⟩) ms.length ms.length))
          (first | exact ⟨c0, g2⟩ | exact ⟨later hm4.below (Nat.le_refl _) c0, later hm4.below (Nat.le_refl _) g2⟩ | exact ⟨far n1 (later hm4.below (Nat.le_refl _) c0), far ng (later hm4.below (Nat.le_refl _) g2)⟩)
          (first | (go_at_call 139; refine (HSC.out _ (Below.refl _ _).drew).mono ?_; rintro e w4 ⟨rfl, hm4⟩; have hmc4 : w4.cell? ⟨bm, k2, none⟩ = some (duM bs (cpR ms) k2 k2) := (hm4.below.cell (p := ⟨bm, k2, none⟩) HD.out.maps.lt).trans hmc; have hmf4 : w4.frozen? ⟨bm, k2, none⟩ = false := (hm4.below.frozen (p := ⟨bm, k2, none⟩) HD.out.maps.lt).trans hmf))
        have HM4 : Hid (Mat wr.drew w4 (cpR ms k2) (cpC ds k2) (cpZ p ms k2)) := Lib.hid (by rw [HR1.out, HR2.out, HR3.out, ← HTN.out]; exact hm4)
        have HS1 : Hid (Du w2 (w4.setCell ⟨bm, k2, none⟩ (.slice (some ⟨wr.drew.heap.size, 0, none⟩) tn tn)) g bd bm ds.length ms.length p (cpD ds) (duM (fun j => if j = k2 then wr.drew.heap.size else bs j) (cpR ms) (k2 + 1))) := Lib.hid (by
          have h := ((HD.out.drew.next HM4.out.below).setM k2 (.slice (some ⟨wr.drew.heap.size, 0, none⟩) (cpR ms k2) (cpR ms k2))).congrM (fun j _ => duM_step bs (cpR ms) k2 wr.drew.heap.size j)
          rw [HR1.out, ← HTN.out] at h
          exact h)
        have HS2 : Hid (Ts wo.heap.size (w4.setCell ⟨bm, k2, none⟩ (.slice (some ⟨wr.drew.heap.size, 0, none⟩) tn tn)) (fun j => if j = k2 then wr.drew.heap.size else bs j) (cpR ms) (cpC ds) (cpZ p ms) (k2 + 1)) := Lib.hid (HTS.out.drew.step HM4.out HLE.out HDC.out.maps.lt _)
        have HS3 : Hid (wo.heap.size ≤ (w4.setCell ⟨bm, k2, none⟩ (.slice (some ⟨wr.drew.heap.size, 0, none⟩) tn tn)).heap.size) := Lib.hid (by
          have a1 := HLE.out
          have a2 : wr.heap.size ≤ w4.heap.size := HM4.out.below.size
          simp
          omega)
        clear hm4 hmc hmf c0 g2 hut n1 ng
        go_wp2
        go_roundw
        case rel => exact ⟨k2 + 1, _, by omega, by go_num, HS1, HS2, HS3⟩
        case measure => simp [intOf]; omega
      · have g0 : wr.cell? ⟨g, 0, none⟩ = some (.int .i64 p) := HD.out.box.cell (i := 0) (by omega)
        have g1 : wr.cell? ⟨g, 1, none⟩ = some (.slice (some ⟨bd, 0, none⟩) ds.length ds.length) := HD.out.box.cell (i := 1) (by omega)
        have g2 : wr.cell? ⟨g, 2, none⟩ = some (.slice (some ⟨bm, 0, none⟩) ms.length ms.length) := HD.out.box.cell (i := 2) (by omega)
        obtain ⟨x, y, z, hr⟩ := HR0.out
        have hrow : wr.rowIs (w.heap.size + 1) 38 3 (sel3 x y z) := rowIs3 (by rw [HD.out.below.block (w.heap.size + 1) (by omega)]; exact hr)
        have q0 : wr.cell? ⟨w.heap.size + 1, 0, none⟩ = some x := hrow.cell (i := 0) (by omega)
        have z0 : wr.frozen? ⟨w.heap.size + 1, 0, none⟩ = false := hrow.frozen 0
        have r1 := hrow.set 0 (.int .i64 p)
        have q1 : (wr.setCell ⟨w.heap.size + 1, 0, none⟩ (.int .i64 p)).cell? ⟨w.heap.size + 1, 1, none⟩ = some y := r1.cell (i := 1) (by omega)
        have z1 : (wr.setCell ⟨w.heap.size + 1, 0, none⟩ (.int .i64 p)).frozen? ⟨w.heap.size + 1, 1, none⟩ = false := r1.frozen 1
        have r2 := r1.set 1 (.slice (some ⟨bd, 0, none⟩) ds.length ds.length)
        have q2 : ((wr.setCell ⟨w.heap.size + 1, 0, none⟩ (.int .i64 p)).setCell ⟨w.heap.size + 1, 1, none⟩ (.slice (some ⟨bd, 0, none⟩) ds.length ds.length)).cell? ⟨w.heap.size + 1, 2, none⟩ = some z := r2.cell (i := 2) (by omega)
        have z2 : ((wr.setCell ⟨w.heap.size + 1, 0, none⟩ (.int .i64 p)).setCell ⟨w.heap.size + 1, 1, none⟩ (.slice (some ⟨bd, 0, none⟩) ds.length ds.length)).frozen? ⟨w.heap.size + 1, 2, none⟩ = false := r2.frozen 2
        have r3 := r2.set 2 (.slice (some ⟨bm, 0, none⟩) ms.length ms.length)
        obtain ⟨WF, hWF⟩ : ∃ W : World, W = ((wr.setCell ⟨w.heap.size + 1, 0, none⟩ (.int .i64 p)).setCell ⟨w.heap.size + 1, 1, none⟩ (.slice (some ⟨bd, 0, none⟩) ds.length ds.length)).setCell ⟨w.heap.size + 1, 2, none⟩ (.slice (some ⟨bm, 0, none⟩) ms.length ms.length) := ⟨_, rfl⟩
        rw [← hWF] at r3
        have f0 : WF.cell? ⟨w.heap.size + 1, 0, none⟩ = some (.int .i64 p) := r3.cell (i := 0) (by omega)
        have f1 : WF.cell? ⟨w.heap.size + 1, 1, none⟩ = some (.slice (some ⟨bd, 0, none⟩) ds.length ds.length) := r3.cell (i := 1) (by omega)
        have f2 : WF.cell? ⟨w.heap.size + 1, 2, none⟩ = some (.slice (some ⟨bm, 0, none⟩) ms.length ms.length) := r3.cell (i := 2) (by omega)
        have HWF := Lib.hid hWF
        have HAT : Hid (CuAt w WF ds.length ms.length (cpD ds) (cpR ms) (cpC ds) (cpZ p ms) bd bm) := Lib.hid (by
          have hk2e : k2 = ms.length := by omega
          have hlo := HD.out.lo
          have b0 : CuAt w wr ds.length ms.length (cpD ds) (cpR ms) (cpC ds) (cpZ p ms) bd bm := ⟨HX2.out.below.trans (HD.out.below.mono hlt4), ⟨by omega, by omega, HD.out.ne.2.2⟩, HD.out.dims, wo.heap.size, bs, HDC.out.dims.lt, HDC.out.maps.lt, by have h := HD.out.maps; rw [hk2e] at h; exact h, by have h := HTS.out; rw [hk2e] at h; exact h⟩
          rw [hWF]
          exact ((b0.set (a := ⟨w.heap.size + 1, 0, none⟩) (Nat.le_succ _) (by show w.heap.size + 1 < bd; omega) (by show w.heap.size + 1 < bm; omega) _).set (a := ⟨w.heap.size + 1, 1, none⟩) (Nat.le_succ _) (by show w.heap.size + 1 < bd; omega) (by show w.heap.size + 1 < bm; omega) _).set (a := ⟨w.heap.size + 1, 2, none⟩) (Nat.le_succ _) (by show w.heap.size + 1 < bd; omega) (by show w.heap.size + 1 < bm; omega) _)
        clear hr hrow r1 r2 r3 hWF
        go_wp2
        rw [← HWF.out]
        refine bodyPost_ret (v := .agg #[.int .i64 p, .slice (some ⟨bd, 0, none⟩) ds.length ds.length, .slice (some ⟨bm, 0, none⟩) ms.length ms.length]) ?_ rfl ?_
        · simp only [results, HRES.out]
          go_simp
        · exact ⟨bd, bm, rfl, HAT.out⟩
end Go.Proofs.Ytiokagnolbddlaa
