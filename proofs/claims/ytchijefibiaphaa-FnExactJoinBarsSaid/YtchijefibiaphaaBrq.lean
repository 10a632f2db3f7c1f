/-
  BarPage of both sides by contract.
-/
import Derived.Test.YtchijefibiaphaaBrp
namespace Go.Proofs.Ytchijefibiaphaa
open Go.RowKit Go.Sort

theorem pgOn_l {r n q : Int} {x : B3} (h : x.2.2 = -1) : pgOn r n q x ↔ x.1 = n ∧ x.2.1 = q := by unfold pgOn; rw [if_pos h]
theorem pgOn_e {r n q : Int} {x : B3} (h : ¬ x.2.2 = -1) : pgOn r n q x ↔ (r ≤ x.2.2 - x.2.1 ∧ (x.1 = n ∧ x.2.1 = q ∨ x.1 = n - 1 ∧ x.2.2 = q)) := by unfold pgOn; rw [if_neg h]
set_option maxHeartbeats 6400000 in
set_option maxRecDepth 100000 in
theorem barPage_any (r n q : Int) (v : Value) (xs : List B3) (w : World) (h : Br 0 w v xs) (hl : xs.length ≤ 1048576) : Calls Try.prog 33 #[v, .int .i64 r, .int .i64 n, .int .i64 q] w (VrIC (PgC xs r n q) w) := by
  obtain ⟨av, cv, rfl⟩ := h.shape
  have HA0 := Lib.hid (areBars_any _ xs w h hl)
  have H := Lib.hid h
  clear h
  by_cases cb : BarsOk xs
  · have HA : Hid (Calls Try.prog 30 #[.slice av xs.length cv] w (GrR (.bool true) w)) := Lib.hid (HA0.out.mono fun _ _ ⟨b, he, hg, hb⟩ => ⟨by rw [he, hb.2 cb], hg⟩)
    by_cases c0 : 0 ≤ r ∧ r ≤ 8
    · have I0 : Hid (∀ W, Calls Try.prog 78 #[.int .i64 r, .int .i64 0, .int .i64 8] W (QW (.bool true) W)) := Lib.hid (fun W => in_yes c0 W)
      by_cases c1 : 0 ≤ n ∧ n ≤ 5
      · have I1 : Hid (∀ W, Calls Try.prog 78 #[.int .i64 n, .int .i64 0, .int .i64 5] W (QW (.bool true) W)) := Lib.hid (fun W => in_yes c1 W)
        by_cases c2 : 0 ≤ q ∧ q ≤ 5
        · have I2 : Hid (∀ W, Calls Try.prog 78 #[.int .i64 q, .int .i64 0, .int .i64 5] W (QW (.bool true) W)) := Lib.hid (fun W => in_yes c2 W)
          have HOK : Hid (PgIn xs r n q) := Lib.hid ⟨cb, c0, c1, c2⟩
          have h24 : xs.length ≤ 24 := cb.1
          have hr8 : 0 ≤ r ∧ r ≤ 8 := c0
          have hn5 : 0 ≤ n ∧ n ≤ 5 := c1
          have hq5 : 0 ≤ q ∧ q ≤ 5 := c2
          clear cb c0 c1 c2
          go_enter Try.func33, Try.ntmps33
          go_wp2_with (first | (go_at_call 30; (with_reducible refine HA.out.mono ?_); rintro e w2 ⟨rfl, hg2⟩; have HG2 := Lib.hid hg2; clear hg2) | (go_at_call 78; (first | with_reducible refine (I0.out _).mono ?_ | with_reducible refine (I1.out _).mono ?_ | with_reducible refine (I2.out _).mono ?_); rintro e w' ⟨rfl, rfl⟩))
          go_loopw [10, 33] (fun c i wr => ∃ (k m : Nat), k ≤ xs.length ∧ i = .int .i64 k ∧ c = .int .i64 m ∧ m ≤ k ∧ Hid (m = bcnt (pgOn r n q) (xs.take k)) ∧ Hid (Gr w wr)) (fun _ i _ => xs.length - (intOf i).toNat)
          case atStart => exact ⟨0, 0, Nat.zero_le _, rfl, rfl, Nat.le_refl _, Lib.hid (by simp [bcnt]), HG2⟩
          case round =>
            clear HG2 HA HA0 I0 I1 I2
            obtain ⟨k, m, hk, rfl, rfl, hmk, HM, HG⟩ := hrel
            obtain ⟨wx, hwx⟩ : ∃ wx : World, wx = wr := ⟨_, rfl⟩
            subst hwx
            by_cases hlt : k < xs.length
            · have hkl : (k : Int) < (xs.length : Int) := by omega
              obtain ⟨bv, ov, hav, _, _, _, p0, p1, p2⟩ := H.out.at' (k := k) hlt
              subst hav
              obtain ⟨x, hx⟩ : ∃ x, x = xs[k] := ⟨_, rfl⟩
              rw [← hx] at p0 p1 p2
              have q0 := later HG.out.below (Nat.le_refl _) p0
              have q1 := later HG.out.below (Nat.le_refl _) p1
              have q2 := later HG.out.below (Nat.le_refl _) p2
              have HTK : Hid (xs.take (k + 1) = xs.take k ++ [x]) := Lib.hid (by rw [take_snoc hlt, hx])
              have HXO : Hid (BarOk x) := Lib.hid (by rw [hx]; exact HOK.out.1.2.1 k hlt)
              clear p0 p1 p2 hx
              obtain ⟨a, b, d⟩ := x
              dsimp only at q0 q1 q2
              obtain ⟨wb, hwb⟩ : ∃ wb : World, wb = wx.alloc (.cells #[.int .i64 a, .int .i64 b, .int .i64 d] 53) := ⟨_, rfl⟩
              have HGB : Hid (Gr w wb) := Lib.hid (by rw [hwb]; exact HG.out.trans (Gr.alloc _ _))
              have t0 : wb.cell? ⟨wx.heap.size, 0, none⟩ = some (.int .i64 a) := by rw [hwb]; simp
              have t1 : wb.cell? ⟨wx.heap.size, 1, none⟩ = some (.int .i64 b) := by rw [hwb]; simp
              have t2 : wb.cell? ⟨wx.heap.size, 2, none⟩ = some (.int .i64 d) := by rw [hwb]; simp
              have HK := Lib.hid (kindOf_any (a, b, d) wb)
              go_upto_region 7 with fail
              rw [← hwb]
              clear hwb q0 q1 q2
              by_cases hd : d = -1
              · subst hd
                rw [kv_lasts rfl] at HK
                have HO := Lib.hid (fun w => onPageL_any (a, b, (-1)) r n q w)
                have HPP := Lib.hid (pgOn_l (r := r) (n := n) (q := q) (x := (a, b, (-1))) rfl)
                unfold bvl at *
                dsimp only at *
                have hm : ∀ w : World, (method (Try.prog.types.size + Made.depth) 128 (.agg #[.int .i64 a, .int .i64 b, .int .i64 (-1)]) "loop.example/g01273/impl.isOnPage").run Try.prog w = .ok (204, .agg #[.int .i64 a, .int .i64 b, .int .i64 (-1)]) w := fun _ => by kernel_rfl
                go_wp2_with fail
                refine HK.out.mono ?_
                rintro e w3 ⟨rfl, hg3⟩
                have HG3 := Lib.hid (HGB.out.trans hg3)
                clear hg3 t0 t1 t2 HK
                go_wp2_with fail
                refine (HO.out _).mono ?_
                rintro e w4 ⟨bb, rfl, hg4, hbb⟩
                have HG4 := Lib.hid (HG3.out.trans hg4)
                have HBB := Lib.hid (hbb.trans HPP.out.symm)
                clear hg4 hbb HO HPP
                cases bb with
                | true =>
                  have HP : Hid (pgOn r n q (a, b, (-1))) := Lib.hid (HBB.out.1 rfl)
                  clear HBB hm
                  go_wp2
                  go_roundw
                  case rel => exact ⟨k + 1, m + 1, by omega, by go_num, by go_num, by omega, Lib.hid (by rw [HTK.out, bcnt_yes HP.out, HM.out]), HG4⟩
                  case measure => simp [intOf]; omega
                | false =>
                  have HP : Hid (¬ pgOn r n q (a, b, (-1))) := Lib.hid (fun h => absurd (HBB.out.2 h) (by simp))
                  clear HBB hm
                  go_wp2
                  go_roundw
                  case rel => exact ⟨k + 1, m, by omega, by go_num, rfl, by omega, Lib.hid (by rw [HTK.out, bcnt_no HP.out, HM.out]), HG4⟩
                  case measure => simp [intOf]; omega
              · have hdk := Lib.hid hd
                rw [kv_ends hd] at HK
                have HO := Lib.hid (fun w => onPageE_any (a, b, d) r n q w HXO.out hn5)
                have HPP := Lib.hid (pgOn_e (r := r) (n := n) (q := q) (x := (a, b, d)) hd)
                clear hd
                unfold bvl at *
                dsimp only at *
                have hm : ∀ w : World, (method (Try.prog.types.size + Made.depth) 129 (.agg #[.int .i64 a, .int .i64 b, .int .i64 d]) "loop.example/g01273/impl.isOnPage").run Try.prog w = .ok (210, .agg #[.int .i64 a, .int .i64 b, .int .i64 d]) w := fun _ => by kernel_rfl
                go_wp2_with fail
                refine HK.out.mono ?_
                rintro e w3 ⟨rfl, hg3⟩
                have HG3 := Lib.hid (HGB.out.trans hg3)
                clear hg3 t0 t1 t2 HK
                go_wp2_with fail
                refine (HO.out _).mono ?_
                rintro e w4 ⟨bb, rfl, hg4, hbb⟩
                have HG4 := Lib.hid (HG3.out.trans hg4)
                have HBB := Lib.hid (hbb.trans HPP.out.symm)
                clear hg4 hbb HO HPP
                cases bb with
                | true =>
                  have HP : Hid (pgOn r n q (a, b, d)) := Lib.hid (HBB.out.1 rfl)
                  clear HBB hm
                  go_wp2
                  go_roundw
                  case rel => exact ⟨k + 1, m + 1, by omega, by go_num, by go_num, by omega, Lib.hid (by rw [HTK.out, bcnt_yes HP.out, HM.out]), HG4⟩
                  case measure => simp [intOf]; omega
                | false =>
                  have HP : Hid (¬ pgOn r n q (a, b, d)) := Lib.hid (fun h => absurd (HBB.out.2 h) (by simp))
                  clear HBB hm
                  go_wp2
                  go_roundw
                  case rel => exact ⟨k + 1, m, by omega, by go_num, rfl, by omega, Lib.hid (by rw [HTK.out, bcnt_no HP.out, HM.out]), HG4⟩
                  case measure => simp [intOf]; omega
            · have hkl : ¬ (k : Int) < (xs.length : Int) := by omega
              have HE : Hid (m = bcnt (pgOn r n q) xs) := Lib.hid (by rw [HM.out, List.take_of_length_le (by omega)])
              go_wp2
              go_ret2
              exact ⟨(m : Int), 0, rfl, HG.out.below, ⟨fun _ => ⟨by rw [HE.out], rfl⟩, fun h => absurd HOK.out h⟩⟩
        · have I2 : Hid (∀ W, Calls Try.prog 78 #[.int .i64 q, .int .i64 0, .int .i64 5] W (QW (.bool false) W)) := Lib.hid (fun W => in_no c2 W)
          have HNO : Hid (¬ PgIn xs r n q) := Lib.hid (fun h => c2 h.2.2.2)
          clear cb c0 c1 c2
          go_enter Try.func33, Try.ntmps33
          go_wp2_with (first | (go_at_call 30; (with_reducible refine HA.out.mono ?_); rintro e w2 ⟨rfl, hg2⟩; have HG2 := Lib.hid hg2; clear hg2) | (go_at_call 78; (first | with_reducible refine (I0.out _).mono ?_ | with_reducible refine (I1.out _).mono ?_ | with_reducible refine (I2.out _).mono ?_); rintro e w' ⟨rfl, rfl⟩))
          go_ret2
          exact ⟨0, 2, rfl, HG2.out.below, ⟨fun h => absurd h HNO.out, fun _ => ⟨rfl, rfl⟩⟩⟩
      · have I1 : Hid (∀ W, Calls Try.prog 78 #[.int .i64 n, .int .i64 0, .int .i64 5] W (QW (.bool false) W)) := Lib.hid (fun W => in_no c1 W)
        have HNO : Hid (¬ PgIn xs r n q) := Lib.hid (fun h => c1 h.2.2.1)
        clear cb c0 c1
        go_enter Try.func33, Try.ntmps33
        go_wp2_with (first | (go_at_call 30; (with_reducible refine HA.out.mono ?_); rintro e w2 ⟨rfl, hg2⟩; have HG2 := Lib.hid hg2; clear hg2) | (go_at_call 78; (first | with_reducible refine (I0.out _).mono ?_ | with_reducible refine (I1.out _).mono ?_); rintro e w' ⟨rfl, rfl⟩))
        go_ret2
        exact ⟨0, 2, rfl, HG2.out.below, ⟨fun h => absurd h HNO.out, fun _ => ⟨rfl, rfl⟩⟩⟩
    · have I0 : Hid (∀ W, Calls Try.prog 78 #[.int .i64 r, .int .i64 0, .int .i64 8] W (QW (.bool false) W)) := Lib.hid (fun W => in_no c0 W)
      have HNO : Hid (¬ PgIn xs r n q) := Lib.hid (fun h => c0 h.2.1)
      clear cb c0
      go_enter Try.func33, Try.ntmps33
      go_wp2_with (first | (go_at_call 30; (with_reducible refine HA.out.mono ?_); rintro e w2 ⟨rfl, hg2⟩; have HG2 := Lib.hid hg2; clear hg2) | (go_at_call 78; (first | with_reducible refine (I0.out _).mono ?_); rintro e w' ⟨rfl, rfl⟩))
      go_ret2
      exact ⟨0, 2, rfl, HG2.out.below, ⟨fun h => absurd h HNO.out, fun _ => ⟨rfl, rfl⟩⟩⟩
  · have HA : Hid (Calls Try.prog 30 #[.slice av xs.length cv] w (GrR (.bool false) w)) := Lib.hid (HA0.out.mono fun _ _ ⟨b, he, hg, hb⟩ => ⟨by
      have : b = false := by
        cases b with
        | false => rfl
        | true => exact absurd (hb.1 rfl) cb
      rw [he, this], hg⟩)
    have HNO : Hid (¬ PgIn xs r n q) := Lib.hid (fun h => cb h.1)
    clear cb
    go_enter Try.func33, Try.ntmps33
    go_wp2_with (go_at_call 30; (with_reducible refine HA.out.mono ?_); rintro e w2 ⟨rfl, hg2⟩; have HG2 := Lib.hid hg2; clear hg2)
    go_ret2
    exact ⟨0, 2, rfl, HG2.out.below, ⟨fun h => absurd h HNO.out, fun _ => ⟨rfl, rfl⟩⟩⟩
set_option maxHeartbeats 6400000 in
set_option maxRecDepth 100000 in
theorem spBarPage_any (r n q : Int) (v : Value) (xs : List B3) (w : World) (h : Br 0 w v xs) (hl : xs.length ≤ 1048576) : Calls Try.prog 32 #[v, .int .i64 r, .int .i64 n, .int .i64 q] w (VrIC (PgC xs r n q) w) := by
  obtain ⟨av, cv, rfl⟩ := h.shape
  have HA0 := Lib.hid (l09Are_any _ xs w h hl)
  have H := Lib.hid h
  clear h
  by_cases cb : BarsOk xs
  · have HA : Hid (Calls Try.prog 72 #[.slice av xs.length cv] w (GrR (.bool true) w)) := Lib.hid (HA0.out.mono fun _ _ ⟨b, he, hg, hb⟩ => ⟨by rw [he, hb.2 cb], hg⟩)
    by_cases c0 : 0 ≤ r ∧ r ≤ 8
    · have I0 : Hid (∀ W, Calls Try.prog 77 #[.int .i64 r, .int .i64 0, .int .i64 8] W (QW (.bool true) W)) := Lib.hid (fun W => spin_yes c0 W)
      by_cases c1 : 0 ≤ n ∧ n ≤ 5
      · have I1 : Hid (∀ W, Calls Try.prog 77 #[.int .i64 n, .int .i64 0, .int .i64 5] W (QW (.bool true) W)) := Lib.hid (fun W => spin_yes c1 W)
        by_cases c2 : 0 ≤ q ∧ q ≤ 5
        · have I2 : Hid (∀ W, Calls Try.prog 77 #[.int .i64 q, .int .i64 0, .int .i64 5] W (QW (.bool true) W)) := Lib.hid (fun W => spin_yes c2 W)
          have HOK : Hid (PgIn xs r n q) := Lib.hid ⟨cb, c0, c1, c2⟩
          have h24 : xs.length ≤ 24 := cb.1
          have hr8 : 0 ≤ r ∧ r ≤ 8 := c0
          have hn5 : 0 ≤ n ∧ n ≤ 5 := c1
          have hq5 : 0 ≤ q ∧ q ≤ 5 := c2
          clear cb c0 c1 c2
          go_enter Try.func32, Try.ntmps32
          go_wp2_with (first | (go_at_call 72; (with_reducible refine HA.out.mono ?_); rintro e w2 ⟨rfl, hg2⟩; have HG2 := Lib.hid hg2; clear hg2) | (go_at_call 77; (first | with_reducible refine (I0.out _).mono ?_ | with_reducible refine (I1.out _).mono ?_ | with_reducible refine (I2.out _).mono ?_); rintro e w' ⟨rfl, rfl⟩))
          go_loopw [10, 11] (fun c i wr => ∃ (k m : Nat), k ≤ xs.length ∧ i = .int .i64 k ∧ c = .int .i64 m ∧ m ≤ k ∧ Hid (m = bcnt (pgOn r n q) (xs.take k)) ∧ Hid (Gr w wr)) (fun _ i _ => xs.length - (intOf i).toNat)
          case atStart => exact ⟨0, 0, Nat.zero_le _, rfl, rfl, Nat.le_refl _, Lib.hid (by simp [bcnt]), HG2⟩
          case round =>
            clear HG2 HA HA0 I0 I1 I2
            obtain ⟨k, m, hk, rfl, rfl, hmk, HM, HG⟩ := hrel
            obtain ⟨wx, hwx⟩ : ∃ wx : World, wx = wr := ⟨_, rfl⟩
            subst hwx
            by_cases hlt : k < xs.length
            · have hkl : (k : Int) < (xs.length : Int) := by omega
              obtain ⟨bv, ov, hav, _, _, _, p0, p1, p2⟩ := H.out.at' (k := k) hlt
              subst hav
              obtain ⟨x, hx⟩ : ∃ x, x = xs[k] := ⟨_, rfl⟩
              rw [← hx] at p0 p1 p2
              have q0 := later HG.out.below (Nat.le_refl _) p0
              have q1 := later HG.out.below (Nat.le_refl _) p1
              have q2 := later HG.out.below (Nat.le_refl _) p2
              have HTK : Hid (xs.take (k + 1) = xs.take k ++ [x]) := Lib.hid (by rw [take_snoc hlt, hx])
              have HXO : Hid (BarOk x) := Lib.hid (by rw [hx]; exact HOK.out.1.2.1 k hlt)
              clear p0 p1 p2 hx
              obtain ⟨a, b, d⟩ := x
              dsimp only at q0 q1 q2
              obtain ⟨wb, hwb⟩ : ∃ wb : World, wb = wx.alloc (.cells #[.int .i64 a, .int .i64 b, .int .i64 d] 53) := ⟨_, rfl⟩
              have HGB : Hid (Gr w wb) := Lib.hid (by rw [hwb]; exact HG.out.trans (Gr.alloc _ _))
              have t0 : wb.cell? ⟨wx.heap.size, 0, none⟩ = some (.int .i64 a) := by rw [hwb]; simp
              have t1 : wb.cell? ⟨wx.heap.size, 1, none⟩ = some (.int .i64 b) := by rw [hwb]; simp
              have t2 : wb.cell? ⟨wx.heap.size, 2, none⟩ = some (.int .i64 d) := by rw [hwb]; simp
              have hwqr : IntKind.i64.wrap (q + r) = q + r := IntWalk.i64_in _ (by omega)
              have hwqs : IntKind.i64.wrap (q - r) = q - r := IntWalk.i64_in _ (by omega)
              have hwn : IntKind.i64.wrap (n - 1) = n - 1 := IntWalk.i64_in _ (by omega)
              obtain ⟨P, hP⟩ : ∃ P : Prop, P = pgOn r n q (a, b, d) := ⟨_, rfl⟩
              have HPE := Lib.hid hP
              have hxo := HXO.out
              unfold BarOk at hxo
              dsimp only at hxo
              unfold pgOn at hP
              dsimp only at hP
              go_upto_region 8 with fail
              rw [← hwb]
              clear hwb q0 q1 q2
              by_cases c1 : a = n
              · have e1 : (a == n) = true := by simp [c1]
                by_cases c2 : b = q
                · have e2 : (b == q) = true := by simp [c2]
                  by_cases c3 : d < 0
                  · have HD : True := trivial
                    have HP : Hid (pgOn r n q (a, b, d)) := Lib.hid (by rw [← HPE.out, hP]; split <;> omega)
                    clear hP hxo c1 c2
                    go_wp2
                    go_roundw
                    case rel => exact ⟨k + 1, m + 1, by omega, by go_num, by go_num, by omega, Lib.hid (by rw [HTK.out, bcnt_yes HP.out, HM.out]), HGB⟩
                    case measure => simp [intOf]; omega
                  · by_cases c4 : q + r ≤ d
                    · have HD : True := trivial
                      have HP : Hid (pgOn r n q (a, b, d)) := Lib.hid (by rw [← HPE.out, hP]; split <;> omega)
                      clear hP hxo c1 c2
                      go_wp2
                      go_roundw
                      case rel => exact ⟨k + 1, m + 1, by omega, by go_num, by go_num, by omega, Lib.hid (by rw [HTK.out, bcnt_yes HP.out, HM.out]), HGB⟩
                      case measure => simp [intOf]; omega
                    · have u1 : (a == n - 1) = false := by simp; omega
                      have HP : Hid (¬ pgOn r n q (a, b, d)) := Lib.hid (by rw [← HPE.out, hP]; split <;> omega)
                      clear hP hxo c1 c2
                      go_wp2
                      go_roundw
                      case rel => exact ⟨k + 1, m, by omega, by go_num, rfl, by omega, Lib.hid (by rw [HTK.out, bcnt_no HP.out, HM.out]), HGB⟩
                      case measure => simp [intOf]; omega
                · have e2 : (b == q) = false := by simp [c2]
                  have u1 : (a == n - 1) = false := by simp; omega
                  have HP : Hid (¬ pgOn r n q (a, b, d)) := Lib.hid (by rw [← HPE.out, hP]; split <;> omega)
                  clear hP hxo c1 c2
                  go_wp2
                  go_roundw
                  case rel => exact ⟨k + 1, m, by omega, by go_num, rfl, by omega, Lib.hid (by rw [HTK.out, bcnt_no HP.out, HM.out]), HGB⟩
                  case measure => simp [intOf]; omega
              · have e1 : (a == n) = false := by simp [c1]
                by_cases s1 : a = n - 1
                · have u1 : (a == n - 1) = true := by simp [s1]
                  by_cases s2 : d = q
                  · have u2 : (d == q) = true := by simp [s2]
                    by_cases s3 : b ≤ q - r
                    · have HD : True := trivial
                      have HP : Hid (pgOn r n q (a, b, d)) := Lib.hid (by rw [← HPE.out, hP]; split <;> omega)
                      clear hP hxo c1 s1 s2
                      go_wp2
                      go_roundw
                      case rel => exact ⟨k + 1, m + 1, by omega, by go_num, by go_num, by omega, Lib.hid (by rw [HTK.out, bcnt_yes HP.out, HM.out]), HGB⟩
                      case measure => simp [intOf]; omega
                    · have HD : True := trivial
                      have HP : Hid (¬ pgOn r n q (a, b, d)) := Lib.hid (by rw [← HPE.out, hP]; split <;> omega)
                      clear hP hxo c1 s1 s2
                      go_wp2
                      go_roundw
                      case rel => exact ⟨k + 1, m, by omega, by go_num, rfl, by omega, Lib.hid (by rw [HTK.out, bcnt_no HP.out, HM.out]), HGB⟩
                      case measure => simp [intOf]; omega
                  · have u2 : (d == q) = false := by simp [s2]
                    have HP : Hid (¬ pgOn r n q (a, b, d)) := Lib.hid (by rw [← HPE.out, hP]; split <;> omega)
                    clear hP hxo c1 s1 s2
                    go_wp2
                    go_roundw
                    case rel => exact ⟨k + 1, m, by omega, by go_num, rfl, by omega, Lib.hid (by rw [HTK.out, bcnt_no HP.out, HM.out]), HGB⟩
                    case measure => simp [intOf]; omega
                · have u1 : (a == n - 1) = false := by simp [s1]
                  have HP : Hid (¬ pgOn r n q (a, b, d)) := Lib.hid (by rw [← HPE.out, hP]; split <;> omega)
                  clear hP hxo c1 s1
                  go_wp2
                  go_roundw
                  case rel => exact ⟨k + 1, m, by omega, by go_num, rfl, by omega, Lib.hid (by rw [HTK.out, bcnt_no HP.out, HM.out]), HGB⟩
                  case measure => simp [intOf]; omega
            · have hkl : ¬ (k : Int) < (xs.length : Int) := by omega
              have HE : Hid (m = bcnt (pgOn r n q) xs) := Lib.hid (by rw [HM.out, List.take_of_length_le (by omega)])
              go_wp2
              go_ret2
              exact ⟨(m : Int), 0, rfl, HG.out.below, ⟨fun _ => ⟨by rw [HE.out], rfl⟩, fun h => absurd HOK.out h⟩⟩
        · have I2 : Hid (∀ W, Calls Try.prog 77 #[.int .i64 q, .int .i64 0, .int .i64 5] W (QW (.bool false) W)) := Lib.hid (fun W => spin_no c2 W)
          have HNO : Hid (¬ PgIn xs r n q) := Lib.hid (fun h => c2 h.2.2.2)
          clear cb c0 c1 c2
          go_enter Try.func32, Try.ntmps32
          go_wp2_with (first | (go_at_call 72; (with_reducible refine HA.out.mono ?_); rintro e w2 ⟨rfl, hg2⟩; have HG2 := Lib.hid hg2; clear hg2) | (go_at_call 77; (first | with_reducible refine (I0.out _).mono ?_ | with_reducible refine (I1.out _).mono ?_ | with_reducible refine (I2.out _).mono ?_); rintro e w' ⟨rfl, rfl⟩))
          go_ret2
          exact ⟨0, 2, rfl, HG2.out.below, ⟨fun h => absurd h HNO.out, fun _ => ⟨rfl, rfl⟩⟩⟩
      · have I1 : Hid (∀ W, Calls Try.prog 77 #[.int .i64 n, .int .i64 0, .int .i64 5] W (QW (.bool false) W)) := Lib.hid (fun W => spin_no c1 W)
        have HNO : Hid (¬ PgIn xs r n q) := Lib.hid (fun h => c1 h.2.2.1)
        clear cb c0 c1
        go_enter Try.func32, Try.ntmps32
        go_wp2_with (first | (go_at_call 72; (with_reducible refine HA.out.mono ?_); rintro e w2 ⟨rfl, hg2⟩; have HG2 := Lib.hid hg2; clear hg2) | (go_at_call 77; (first | with_reducible refine (I0.out _).mono ?_ | with_reducible refine (I1.out _).mono ?_); rintro e w' ⟨rfl, rfl⟩))
        go_ret2
        exact ⟨0, 2, rfl, HG2.out.below, ⟨fun h => absurd h HNO.out, fun _ => ⟨rfl, rfl⟩⟩⟩
    · have I0 : Hid (∀ W, Calls Try.prog 77 #[.int .i64 r, .int .i64 0, .int .i64 8] W (QW (.bool false) W)) := Lib.hid (fun W => spin_no c0 W)
      have HNO : Hid (¬ PgIn xs r n q) := Lib.hid (fun h => c0 h.2.1)
      clear cb c0
      go_enter Try.func32, Try.ntmps32
      go_wp2_with (first | (go_at_call 72; (with_reducible refine HA.out.mono ?_); rintro e w2 ⟨rfl, hg2⟩; have HG2 := Lib.hid hg2; clear hg2) | (go_at_call 77; (first | with_reducible refine (I0.out _).mono ?_); rintro e w' ⟨rfl, rfl⟩))
      go_ret2
      exact ⟨0, 2, rfl, HG2.out.below, ⟨fun h => absurd h HNO.out, fun _ => ⟨rfl, rfl⟩⟩⟩
  · have HA : Hid (Calls Try.prog 72 #[.slice av xs.length cv] w (GrR (.bool false) w)) := Lib.hid (HA0.out.mono fun _ _ ⟨b, he, hg, hb⟩ => ⟨by
      have : b = false := by
        cases b with
        | false => rfl
        | true => exact absurd (hb.1 rfl) cb
      rw [he, this], hg⟩)
    have HNO : Hid (¬ PgIn xs r n q) := Lib.hid (fun h => cb h.1)
    clear cb
    go_enter Try.func32, Try.ntmps32
    go_wp2_with (go_at_call 72; (with_reducible refine HA.out.mono ?_); rintro e w2 ⟨rfl, hg2⟩; have HG2 := Lib.hid hg2; clear hg2)
    go_ret2
    exact ⟨0, 2, rfl, HG2.out.below, ⟨fun h => absurd h HNO.out, fun _ => ⟨rfl, rfl⟩⟩⟩
end Go.Proofs.Ytchijefibiaphaa
