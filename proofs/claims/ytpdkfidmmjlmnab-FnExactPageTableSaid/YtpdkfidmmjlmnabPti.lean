/-
  PageTable of the program.
-/
import Derived.Test.YtpdkfidmmjlmnabPts
import Derived.Test.YtpdkfidmmjlmnabCut
namespace Go.Proofs.Ytpdkfidmmjlmnab
open Go.RowKit

theorem Try.underlyingP : Try.prog.underlying 103 = some (.array 36 2) := by kernel_rfl
theorem Try.infoP : (Try.prog.info? 103).map (·.size) = some 36 := by kernel_rfl
def NumsR (p : Int) (ds : List Int) (ms : List (List (List Int))) (ls : List (List Int)) (r : Int) (w : World) (e : Ending) (w' : World) : Prop :=
  ∃ (cs : Array Value) (Z : Nat → Int), e = .returned (.agg cs) ∧ cs.size = 36 ∧ (∀ i, i < 36 → cs[i]? = some (.int .i64 (Z i))) ∧ Below w.heap.size w w' ∧ ∀ k, k < ds.length → ∀ q : Nat, q < 6 → PgNum p ds ms ls k r (q : Int) (Z (k * 6 + q))

set_option maxHeartbeats 800000 in
set_option maxRecDepth 100000 in
theorem numFn_any (p r : Int) (k : Nat) (q : Int) (b b2 : Nat) (dv mv lv : Value) (ds : List Int) (ms : List (List (List Int))) (ls : List (List Int)) (w : World) (h : Fi 0 w dv mv lv ds ms ls) (hf : IsFil p ds ms ls) (hk : k < ds.length) (hr : 0 ≤ r ∧ r ≤ 8) (hq : 0 ≤ q ∧ q ≤ 5)
    (c0 : w.cell? ⟨b, 0, none⟩ = some (.int .i64 p)) (c1 : w.cell? ⟨b, 1, none⟩ = some dv) (c2 : w.cell? ⟨b, 2, none⟩ = some mv) (c3 : w.cell? ⟨b, 3, none⟩ = some lv) (d0 : w.cell? ⟨b2, 0, none⟩ = some (.int .i64 r)) :
    Calls Try.prog 165 #[.int .i64 (k : Int), .int .i64 q, .pointer (some ⟨b, 0, none⟩), .pointer (some ⟨b2, 0, none⟩)] w (IntR (PgNum p ds ms ls k r q) w) := by
  have HNU := Lib.hid (pageNumber_any p k r q _ _ _ ds ms ls _ h hf hk hr hq)
  clear h hf
  go_enter Try.func165, Try.ntmps165
  go_wp2_with fail
  refine HNU.out.mono ?_
  rintro e w2 ⟨x, rfl, hb2, hx⟩
  go_wp2
  go_ret
  exact ⟨x, rfl, hb2, hx⟩

set_option maxHeartbeats 1600000 in
set_option maxRecDepth 100000 in
theorem numbersAtCells_any (p r : Int) (c1 c2 : Value) (dv mv lv : Value) (ds : List Int) (ms : List (List (List Int))) (ls : List (List Int)) (w : World) (h : Fi 0 w dv mv lv ds ms ls) (hl6 : ds.length ≤ 6)
    (hnum : ∀ W, Below w.heap.size w W → ∀ (k : Nat) (q : Int), k < ds.length → 0 ≤ q ∧ q ≤ 5 → Calls Try.prog 165 #[.int .i64 (k : Int), .int .i64 q, c1, c2] W (IntR (PgNum p ds ms ls k r q) W)) :
    Calls Try.prog 164 #[.agg #[.int .i64 p, dv, mv, lv], .func (.func 165) #[] #[c1, c2]] w (NumsR p ds ms ls r w) := by
  obtain ⟨ad, cap, rfl⟩ := Sl.shape h.cx.dims
  have hres : Try.f164.results = #[.cell 4 103] := by kernel_rfl
  have HRES := Lib.hid hres
  have e36 : madeCells #[.int .i64 0] 36 = #[.int .i64 0, .int .i64 0, .int .i64 0, .int .i64 0, .int .i64 0, .int .i64 0, .int .i64 0, .int .i64 0, .int .i64 0, .int .i64 0, .int .i64 0, .int .i64 0, .int .i64 0, .int .i64 0, .int .i64 0, .int .i64 0, .int .i64 0, .int .i64 0, .int .i64 0, .int .i64 0, .int .i64 0, .int .i64 0, .int .i64 0, .int .i64 0, .int .i64 0, .int .i64 0, .int .i64 0, .int .i64 0, .int .i64 0, .int .i64 0, .int .i64 0, .int .i64 0, .int .i64 0, .int .i64 0, .int .i64 0, .int .i64 0] := by kernel_rfl
  obtain ⟨wa, hwa⟩ : ∃ wa, wa = w.alloc (.cells #[.int .i64 p, .slice ad ds.length cap, mv, lv] 33) := ⟨_, rfl⟩
  obtain ⟨wb, hwb⟩ : ∃ wb, wb = wa.alloc (.cells #[.int .i64 0, .int .i64 0, .int .i64 0, .int .i64 0, .int .i64 0, .int .i64 0, .int .i64 0, .int .i64 0, .int .i64 0, .int .i64 0, .int .i64 0, .int .i64 0, .int .i64 0, .int .i64 0, .int .i64 0, .int .i64 0, .int .i64 0, .int .i64 0, .int .i64 0, .int .i64 0, .int .i64 0, .int .i64 0, .int .i64 0, .int .i64 0, .int .i64 0, .int .i64 0, .int .i64 0, .int .i64 0, .int .i64 0, .int .i64 0, .int .i64 0, .int .i64 0, .int .i64 0, .int .i64 0, .int .i64 0, .int .i64 0] 103) := ⟨_, rfl⟩
  obtain ⟨wc, hwc⟩ : ∃ wc, wc = wb.alloc (.cells #[.int .i64 0, .int .i64 0, .int .i64 0, .int .i64 0, .int .i64 0, .int .i64 0, .int .i64 0, .int .i64 0, .int .i64 0, .int .i64 0, .int .i64 0, .int .i64 0, .int .i64 0, .int .i64 0, .int .i64 0, .int .i64 0, .int .i64 0, .int .i64 0, .int .i64 0, .int .i64 0, .int .i64 0, .int .i64 0, .int .i64 0, .int .i64 0, .int .i64 0, .int .i64 0, .int .i64 0, .int .i64 0, .int .i64 0, .int .i64 0, .int .i64 0, .int .i64 0, .int .i64 0, .int .i64 0, .int .i64 0, .int .i64 0] 103) := ⟨_, rfl⟩
  have hsa : wa.heap.size = w.heap.size + 1 := by rw [hwa]; simp
  have hsb : wb.heap.size = w.heap.size + 1 + 1 := by rw [hwb]; simp [hsa]
  have hsc : wc.heap.size = w.heap.size + 3 := by rw [hwc]; simp [hsb]
  have hba : Below wa.heap.size wa wb := by rw [hwb]; exact below_alloc1 _ _
  have hbb : Below wb.heap.size wb wc := by rw [hwc]; exact below_alloc1 _ _
  have HX0 : Hid (Fx w wa w.heap.size p (.slice ad ds.length cap) mv lv ds ms ls) := Lib.hid (by rw [hwa]; exact Fx.start (p := p) 33 h)
  have HX1 := Lib.hid ((HX0.out.next hba).next hbb)
  have HW : Hid (wc.rowIs (w.heap.size + 1 + 1) 103 36 (fun i => .int .i64 ((fun _ => 0 : Nat → Int) i))) := Lib.hid (by rw [← hsb, hwc, ← e36]; exact World.rowIs_made wb _ 36 _)
  have HV : Hid (wc.rowIs (w.heap.size + 1) 103 36 (fun _ => .int .i64 0)) := Lib.hid (by
    have h1 : wb.rowIs wa.heap.size 103 36 (fun _ => .int .i64 0) := by rw [hwb, ← e36]; exact World.rowIs_made wa _ 36 _
    rw [← hsa]
    exact h1.of_block (hbb.block _ h1.lt))
  have HNUM : Hid (∀ W, Below (w.heap.size + 1 + 1) wc W → ∀ (k : Nat) (q : Int), k < ds.length → 0 ≤ q ∧ q ≤ 5 → Calls Try.prog 165 #[.int .i64 (k : Int), .int .i64 q, c1, c2] W (IntR (PgNum p ds ms ls k r q) W)) := Lib.hid (fun W hW => hnum W (HX1.out.below.trans (hW.mono (by omega))))
  have c0 := HX1.out.c0
  have c1' := HX1.out.c1
  have c2' := HX1.out.c2
  clear hres hnum h hba hbb e36 HX0
  go_enter Try.func164, Try.ntmps164
  go_upto_region 2 with fail
  rw [← hwa, ← hwb, ← hwc]
  clear hwa hwb hwc hsa hsb
  go_wp2_with fail
  refine (topOf_any p _ _ ds.length ad cap _ rfl (by omega)).mono ?_
  rintro e w1 ⟨rfl, hb1⟩
  have HB1 := Lib.hid hb1
  have HW1 := Lib.hid (HW.out.of_block (hb1.block _ HW.out.lt))
  have hw1 : IntKind.i64.wrap ((ds.length : Int) - 1 + 1) = (ds.length : Int) := by rw [show (ds.length : Int) - 1 + 1 = (ds.length : Int) by omega]; exact IntWalk.i64_in _ (by omega)
  have hs1 : wc.heap.size ≤ w1.heap.size := hb1.size
  clear hb1 c0 c1' c2' HW
  go_wp2
  go_loopw [6, 7, 12, 15] (fun _ _ i _ wr => ∃ (k : Nat) (Z : Nat → Int), k ≤ ds.length ∧ i = .int .i64 k ∧ Hid (Below (w.heap.size + 1 + 1) wc wr) ∧ Hid (wr.rowIs (w.heap.size + 1 + 1) 103 36 (fun i => .int .i64 (Z i))) ∧ Hid (∀ j, j < k → ∀ q : Nat, q < 6 → PgNum p ds ms ls j r (q : Int) (Z (j * 6 + q)))) (fun _ _ i _ _ => ds.length - (intOf i).toNat)
  case atStart => exact ⟨0, _, Nat.zero_le _, rfl, Lib.hid (HB1.out.mono (by omega)), HW1, Lib.hid (fun _ h => absurd h (Nat.not_lt_zero _))⟩
  case round =>
    clear HW1 HB1
    obtain ⟨k, Z, hk, rfl, HB, HR, HP⟩ := hrel
    obtain ⟨wx, hwx⟩ : ∃ wx : World, wx = wr := ⟨_, rfl⟩
    subst hwx
    by_cases hlt : k < ds.length
    · have hkl : (k : Int) < (ds.length : Int) := by omega
      go_wp2
      go_loopw [7, 15] (fun _ i wr => ∃ (q : Nat) (Z : Nat → Int), q ≤ 6 ∧ i = .int .i64 q ∧ Hid (Below (w.heap.size + 1 + 1) wc wr) ∧ Hid (wr.rowIs (w.heap.size + 1 + 1) 103 36 (fun i => .int .i64 (Z i))) ∧ Hid ((∀ j, j < k → ∀ q : Nat, q < 6 → PgNum p ds ms ls j r (q : Int) (Z (j * 6 + q))) ∧ ∀ q2 : Nat, q2 < q → PgNum p ds ms ls k r (q2 : Int) (Z (k * 6 + q2)))) (fun _ i _ => 6 - (intOf i).toNat)
      case atStart => exact ⟨0, Z, by omega, rfl, HB, HR, Lib.hid ⟨HP.out, fun _ h => absurd h (Nat.not_lt_zero _)⟩⟩
      case round =>
        clear HB HR HP
        obtain ⟨q, Y, hq, rfl, HBY, HRY, HPY⟩ := hrel
        obtain ⟨wy, hwy⟩ : ∃ wy : World, wy = wr := ⟨_, rfl⟩
        subst hwy
        by_cases hlq : q < 6
        · have hql : (q : Int) < 6 := by omega
          have hsy : wc.heap.size ≤ wy.heap.size := HBY.out.size
          have m1 : IntKind.i64.wrap ((k : Int) * 6) = ((k * 6 : Nat) : Int) := by rw [show (k : Int) * 6 = ((k * 6 : Nat) : Int) by omega]; exact IntWalk.i64_in _ (by omega)
          have m2 : IntKind.i64.wrap (((k * 6 : Nat) : Int) + (q : Int)) = ((k * 6 + q : Nat) : Int) := by rw [show ((k * 6 : Nat) : Int) + (q : Int) = ((k * 6 + q : Nat) : Int) by omega]; exact IntWalk.i64_in _ (by omega)
          have m3 : (0 : Int) ≤ ((k * 6 + q : Nat) : Int) := by omega
          have m4 : ((k * 6 + q : Nat) : Int) < 36 := by omega
          have m5 : ¬ (36 : Int) ≤ ((k * 6 + q : Nat) : Int) := by omega
          have HBX : Hid (Below wc.heap.size wc wc) := Lib.hid (Below.refl _ _)
          go_wp2_with fail
          refine (HNUM.out _ HBY.out k (q : Int) hlt ⟨by omega, by omega⟩).mono ?_
          rintro e w2 ⟨x, rfl, hb2, hx⟩
          have HR2 := Lib.hid (HRY.out.of_block (hb2.block _ HRY.out.lt))
          have hi36 : (k * 6 + q) < 36 := by omega
          have z1 : w2.cell? ⟨w.heap.size + 1 + 1, (k * 6 + q), none⟩ = some (.int .i64 (Y (k * 6 + q))) := HR2.out.cell hi36
          have z2 : w2.frozen? ⟨w.heap.size + 1 + 1, (k * 6 + q), none⟩ = false := HR2.out.frozen (k * 6 + q)
          have hsy2 : wy.heap.size ≤ w2.heap.size := hb2.size
          have HB3 : Hid (Below (w.heap.size + 1 + 1) wc (w2.setCell ⟨w.heap.size + 1 + 1, (k * 6 + q), none⟩ (.int .i64 x))) := Lib.hid ((HBY.out.trans (hb2.mono (by omega))).setCell (Nat.le_refl _) _)
          have HR3 : Hid ((w2.setCell ⟨w.heap.size + 1 + 1, (k * 6 + q), none⟩ (.int .i64 x)).rowIs (w.heap.size + 1 + 1) 103 36 (fun i => .int .i64 ((fun i => if i = (k * 6 + q) then x else Y i) i))) := Lib.hid ((HR2.out.set (k * 6 + q) _).congr (fun j _ => by
            by_cases e : j = (k * 6 + q)
            · simp [e]
            · simp [e]))
          have HP3 : Hid ((∀ j, j < k → ∀ q3 : Nat, q3 < 6 → PgNum p ds ms ls j r (q3 : Int) ((fun i => if i = (k * 6 + q) then x else Y i) (j * 6 + q3))) ∧ ∀ q2 : Nat, q2 < q + 1 → PgNum p ds ms ls k r (q2 : Int) ((fun i => if i = (k * 6 + q) then x else Y i) (k * 6 + q2))) := Lib.hid (by
            refine ⟨fun j hj q3 hq3 => ?_, fun q2 hq2 => ?_⟩
            · show PgNum p ds ms ls j r (q3 : Int) (if j * 6 + q3 = (k * 6 + q) then x else Y (j * 6 + q3))
              rw [if_neg (by omega)]
              exact HPY.out.1 j hj q3 hq3
            · show PgNum p ds ms ls k r (q2 : Int) (if k * 6 + q2 = (k * 6 + q) then x else Y (k * 6 + q2))
              by_cases e : q2 = q
              · subst e
                rw [if_pos rfl]
                exact hx
              · rw [if_neg (by omega)]
                exact HPY.out.2 q2 (by omega))
          clear hb2 hx HPY HRY HBY
          go_wp2
          go_roundw
          case rel => first | exact ⟨q + 1, (fun i => if i = k * 6 + q then x else Y i), by omega, by go_num, HB3, HR3, HP3⟩ | ((repeat apply Exists.intro); exact ⟨⟨q + 1, (fun i => if i = k * 6 + q then x else Y i), by omega, by go_num, HB3, HR3, HP3⟩, rfl⟩)
          case measure => simp [intOf]; omega
        · have hq6 : q = 6 := by omega
          subst hq6
          have HP6 : Hid (∀ j, j < k + 1 → ∀ q : Nat, q < 6 → PgNum p ds ms ls j r (q : Int) (Y (j * 6 + q))) := Lib.hid (fun j hj => by
            by_cases e : j = k
            · subst e
              exact HPY.out.2
            · exact HPY.out.1 j (by omega))
          go_wp2
          go_roundw
          case rel => first | exact ⟨k + 1, Y, by omega, by go_num, HBY, HRY, HP6⟩ | ((repeat apply Exists.intro); exact ⟨⟨k + 1, Y, by omega, by go_num, HBY, HRY, HP6⟩, rfl⟩)
          case measure => simp [intOf]; omega
    · have hkl : ¬ (k : Int) < (ds.length : Int) := by omega
      obtain rfl : k = ds.length := by omega
      obtain ⟨cs, hcs, hsz, hget⟩ := HR.out
      obtain ⟨old, hold, hosz, _⟩ := HV.out.of_block (HB.out.block _ (Nat.lt_succ_self _))
      have HG := Lib.hid hcs
      have HZ := Lib.hid hold
      have HPAD : Hid ((Try.prog.info? 103).map (·.size) = some cs.size) := Lib.hid (by rw [hsz]; exact Try.infoP)
      have HOS : Hid (old.size = cs.size) := Lib.hid (by rw [hosz, hsz])
      have HALL : Hid (cs.all (·.oneCell') = true) := Lib.hid (by
        rw [Array.all_eq_true]
        intro i hi
        have h1 := hget i (by omega)
        rw [Array.getElem?_eq_getElem hi] at h1
        injection h1 with h1
        rw [h1]
        rfl)
      have HOUT := Lib.hid (And.intro hsz hget)
      have HBW := Lib.hid (HX1.out.below.trans (HB.out.mono (by omega)))
      clear hcs hold hget hosz hsz
      go_wp2_with (first | (with_reducible refine wpList_load_row rfl 103 (.tmp 5) rfl (w.heap.size + 1 + 1) rfl 103 cs (0, 0) _ HG.out Try.underlyingP rfl HPAD.out ?_) | (with_reducible refine wpList_store_row rfl 103 (.tmp 4) (.tmp 29) rfl (w.heap.size + 1) cs rfl rfl 103 old HZ.out HPAD.out HOS.out HALL.out ?_))
      exact bodyPost_ret (v := .agg cs) (results_cell_row HRES.out _ _ (w.heap.size + 1) 103 cs (0, 0) _ rfl (setRow_heap _ _ _ _ _ _ HZ.out) Try.underlyingP rfl HPAD.out) rfl ⟨cs, Z, rfl, HOUT.out.1, HOUT.out.2, below_setRow HBW.out (Nat.le_succ _) _, HP.out⟩
end Go.Proofs.Ytpdkfidmmjlmnab
