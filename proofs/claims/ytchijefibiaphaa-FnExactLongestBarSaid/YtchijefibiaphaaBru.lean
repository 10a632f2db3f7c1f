/-
  CountLasting of both sides by contract.
-/
import Derived.Test.YtchijefibiaphaaBrn
namespace Go.Proofs.Ytchijefibiaphaa
open Go.RowKit Go.Sort

def ClIn (xs : List B3) (n : Int) : Prop := BarsOk xs ∧ (0 ≤ n ∧ n ≤ 5)
/-- What is said of a count of bars that last. -/
def ClC (xs : List B3) (n : Int) (b c : Int) : Prop := (ClIn xs n → b = bcnt (fun x => x.1 = n ∧ x.2.2 < 0) xs ∧ c = 0) ∧ (¬ ClIn xs n → b = 0 ∧ c = 2)
theorem ClC.unique {xs : List B3} {n b c b2 c2 : Int} (h : ClC xs n b c) (k : ClC xs n b2 c2) : b = b2 ∧ c = c2 := by
  by_cases hp : ClIn xs n
  · obtain ⟨h1, h2⟩ := h.1 hp
    obtain ⟨k1, k2⟩ := k.1 hp
    exact ⟨h1.trans k1.symm, h2.trans k2.symm⟩
  · obtain ⟨h1, h2⟩ := h.2 hp
    obtain ⟨k1, k2⟩ := k.2 hp
    exact ⟨h1.trans k1.symm, h2.trans k2.symm⟩
theorem lasts_cnt {xs : List B3} (h : BarsOk xs) (n : Int) : bcnt (fun x => x.2.2 = -1) (atDeg n xs) = bcnt (fun x => x.1 = n ∧ x.2.2 < 0) xs := by
  unfold bcnt atDeg
  rw [List.filter_filter]
  congr 1
  refine List.filter_congr fun x hx => ?_
  obtain ⟨k, hk, rfl⟩ := List.getElem_of_mem hx
  have hb := h.2.1 k hk
  unfold BarOk at hb
  by_cases h1 : xs[k].1 = n
  · by_cases h2 : xs[k].2.2 = -1
    · simp [h1, h2]
    · have h3 : ¬ xs[k].2.2 < 0 := by omega
      simp [h1, h2, h3]
  · simp [h1]
theorem atDeg_ok {xs : List B3} (h : BarsOk xs) (n : Int) {k : Nat} (hk : k < (atDeg n xs).length) : BarOk (atDeg n xs)[k] := by
  have h1 : (atDeg n xs)[k] ∈ xs := (List.mem_filter.1 (List.getElem_mem hk)).1
  obtain ⟨j, hj, he⟩ := List.getElem_of_mem h1
  rw [← he]
  exact h.2.1 j hj
set_option maxHeartbeats 6400000 in
set_option maxRecDepth 100000 in
theorem countLasting_any (n : Int) (v : Value) (xs : List B3) (w : World) (h : Br 0 w v xs) (hl : xs.length ≤ 1048576) : Calls Try.prog 35 #[v, .int .i64 n] w (VrIC (ClC xs n) w) := by
  obtain ⟨av, cv, rfl⟩ := h.shape
  have HA0 := Lib.hid (areBars_any _ xs w h hl)
  have H := Lib.hid h
  clear h
  by_cases cb : BarsOk xs
  · have HA : Hid (Calls Try.prog 30 #[.slice av xs.length cv] w (GrR (.bool true) w)) := Lib.hid (HA0.out.mono fun _ _ ⟨b, he, hg, hb⟩ => ⟨by rw [he, hb.2 cb], hg⟩)
    by_cases c0 : 0 ≤ n ∧ n ≤ 5
    · have I0 : Hid (∀ W, Calls Try.prog 78 #[.int .i64 n, .int .i64 0, .int .i64 5] W (QW (.bool true) W)) := Lib.hid (fun W => in_yes c0 W)
      have HOK : Hid (ClIn xs n) := Lib.hid ⟨cb, c0⟩
      have h24 : xs.length ≤ 24 := cb.1
      clear cb c0
      have HBA := Lib.hid (fun w2 (h : Br 0 w2 (.slice av xs.length cv) xs) => barsAt_any (.slice av xs.length cv) xs n w2 h hl)
      go_enter Try.func35, Try.ntmps35
      go_upto_region 4 with (first | (go_at_call 30; (with_reducible refine HA.out.mono ?_); rintro e w2 ⟨rfl, hg2⟩; have HG2 := Lib.hid hg2; clear hg2) | (go_at_call 78; (first | with_reducible refine (I0.out _).mono ?_); rintro e w' ⟨rfl, rfl⟩))
      have HV := Lib.hid (H.out.below HG2.out.below)
      go_wp2_with fail
      refine (HBA.out _ HV.out).mono ?_
      rintro e w3 ⟨u, rfl, hb3, hgb⟩
      have HB3 : Hid (Below w.heap.size w w3) := Lib.hid (HG2.out.below.trans (hb3.mono HG2.out.below.size))
      obtain ⟨L, hL⟩ : ∃ L, L = atDeg n xs := ⟨_, rfl⟩
      rw [← hL] at hgb
      obtain ⟨au, cu, rfl⟩ := hgb.shape
      have HGL := Lib.hid (hgb.br.lower (Nat.zero_le _))
      have HL := Lib.hid hL
      have hL24 : L.length ≤ 24 := by have := atDeg_le n xs; rw [hL]; omega
      have HLO : Hid (∀ k (hk : k < L.length), BarOk L[k]) := Lib.hid (by subst hL; exact fun k hk => atDeg_ok HOK.out.1 n hk)
      clear hb3 hgb hL HBA HV
      go_wp2
      go_loopw [6, 23] (fun c i wr => ∃ (k m : Nat), k ≤ L.length ∧ i = .int .i64 k ∧ c = .int .i64 m ∧ m ≤ k ∧ Hid (m = bcnt (fun x => x.2.2 = -1) (L.take k)) ∧ Hid (Gr w3 wr)) (fun _ i _ => L.length - (intOf i).toNat)
      case atStart => exact ⟨0, 0, Nat.zero_le _, rfl, rfl, Nat.le_refl _, Lib.hid (by simp [bcnt]), Lib.hid (Gr.refl _)⟩
      case round =>
        clear HA HA0 I0 HG2
        obtain ⟨k, m, hk, rfl, rfl, hmk, HM, HG⟩ := hrel
        obtain ⟨wx, hwx⟩ : ∃ wx : World, wx = wr := ⟨_, rfl⟩
        subst hwx
        by_cases hlt : k < L.length
        · have hkl : (k : Int) < (L.length : Int) := by omega
          obtain ⟨bv, ov, hav, _, _, _, p0, p1, p2⟩ := HGL.out.at' (k := k) hlt
          subst hav
          obtain ⟨x, hx⟩ : ∃ x, x = L[k] := ⟨_, rfl⟩
          rw [← hx] at p0 p1 p2
          have q0 := later HG.out.below (Nat.le_refl _) p0
          have q1 := later HG.out.below (Nat.le_refl _) p1
          have q2 := later HG.out.below (Nat.le_refl _) p2
          have HTK : Hid (L.take (k + 1) = L.take k ++ [x]) := Lib.hid (by rw [take_snoc hlt, hx])
          have HXO : Hid (BarOk x) := Lib.hid (by rw [hx]; exact HLO.out k hlt)
          clear p0 p1 p2 hx
          obtain ⟨a, b, d⟩ := x
          dsimp only at q0 q1 q2
          obtain ⟨wb, hwb⟩ : ∃ wb : World, wb = wx.alloc (.cells #[.int .i64 a, .int .i64 b, .int .i64 d] 53) := ⟨_, rfl⟩
          have HGB : Hid (Gr w3 wb) := Lib.hid (by rw [hwb]; exact HG.out.trans (Gr.alloc _ _))
          have t0 : wb.cell? ⟨wx.heap.size, 0, none⟩ = some (.int .i64 a) := by rw [hwb]; simp
          have t1 : wb.cell? ⟨wx.heap.size, 1, none⟩ = some (.int .i64 b) := by rw [hwb]; simp
          have t2 : wb.cell? ⟨wx.heap.size, 2, none⟩ = some (.int .i64 d) := by rw [hwb]; simp
          have HK := Lib.hid (kindOf_any (a, b, d) wb)
          go_upto_region 7 with fail
          rw [← hwb]
          clear hwb q0 q1 q2
          by_cases hd : d = -1
          · subst hd
            rw [kv_lasts rfl] at HK
            have hxo := HXO.out
            unfold BarOk at hxo
            dsimp only at hxo
            have HO := Lib.hid (fun w => lengthL_any (a, b, (-1)) w)
            unfold bvl at *
            dsimp only at *
            have hm : ∀ w : World, (method (Try.prog.types.size + Made.depth) 128 (.agg #[.int .i64 a, .int .i64 b, .int .i64 (-1)]) "loop.example/g01273/impl.length").run Try.prog w = .ok (206, .agg #[.int .i64 a, .int .i64 b, .int .i64 (-1)]) w := fun _ => by kernel_rfl
            go_wp2_with fail
            refine HK.out.mono ?_
            rintro e w4 ⟨rfl, hg3⟩
            have HG3 := Lib.hid (HGB.out.trans hg3)
            clear hg3 t0 t1 t2 HK hxo
            go_wp2_with fail
            refine (HO.out _).mono ?_
            rintro e w5 ⟨rfl, hg4⟩
            have HG4 := Lib.hid (HG3.out.trans hg4)
            clear hg4 HO
            clear hm
            go_wp2
            go_roundw
            case rel => exact ⟨k + 1, m + 1, by omega, by go_num, by go_num, by omega, Lib.hid (by rw [HTK.out, bcnt_yes (P := fun x : B3 => x.2.2 = -1) (x := (a, b, -1)) rfl, HM.out]), HG4⟩
            case measure => simp [intOf]; omega
          · have hdk := Lib.hid hd
            rw [kv_ends hd] at HK
            have hxo := HXO.out
            unfold BarOk at hxo
            dsimp only at hxo
            have HO := Lib.hid (fun w => lengthE_any (a, b, d) w (by dsimp only; omega) (by dsimp only; omega))
            unfold bvl at *
            dsimp only at *
            have hm : ∀ w : World, (method (Try.prog.types.size + Made.depth) 129 (.agg #[.int .i64 a, .int .i64 b, .int .i64 d]) "loop.example/g01273/impl.length").run Try.prog w = .ok (212, .agg #[.int .i64 a, .int .i64 b, .int .i64 d]) w := fun _ => by kernel_rfl
            go_wp2_with fail
            refine HK.out.mono ?_
            rintro e w4 ⟨rfl, hg3⟩
            have HG3 := Lib.hid (HGB.out.trans hg3)
            clear hg3 t0 t1 t2 HK hxo hd
            go_wp2_with fail
            refine (HO.out _).mono ?_
            rintro e w5 ⟨rfl, hg4⟩
            have HG4 := Lib.hid (HG3.out.trans hg4)
            clear hg4 HO
            have HP : Hid (¬ (fun x : B3 => x.2.2 = -1) (a, b, d)) := Lib.hid hdk.out
            clear hm
            go_wp2
            go_roundw
            case rel => exact ⟨k + 1, m, by omega, by go_num, rfl, by omega, Lib.hid (by rw [HTK.out, bcnt_no HP.out, HM.out]), HG4⟩
            case measure => simp [intOf]; omega
        · have hkl : ¬ (k : Int) < (L.length : Int) := by omega
          have HE : Hid (m = bcnt (fun x => x.1 = n ∧ x.2.2 < 0) xs) := Lib.hid (by rw [← lasts_cnt HOK.out.1 n, HM.out, List.take_of_length_le (by omega), HL.out])
          go_wp2
          go_ret2
          exact ⟨(m : Int), 0, rfl, HB3.out.trans (HG.out.below.mono HB3.out.size), ⟨fun _ => ⟨by rw [HE.out], rfl⟩, fun h => absurd HOK.out h⟩⟩
    · have I0 : Hid (∀ W, Calls Try.prog 78 #[.int .i64 n, .int .i64 0, .int .i64 5] W (QW (.bool false) W)) := Lib.hid (fun W => in_no c0 W)
      have HNO : Hid (¬ ClIn xs n) := Lib.hid (fun h => c0 h.2)
      clear cb c0
      go_enter Try.func35, Try.ntmps35
      go_wp2_with (first | (go_at_call 30; (with_reducible refine HA.out.mono ?_); rintro e w2 ⟨rfl, hg2⟩; have HG2 := Lib.hid hg2; clear hg2) | (go_at_call 78; (first | with_reducible refine (I0.out _).mono ?_); rintro e w' ⟨rfl, rfl⟩))
      go_ret2
      exact ⟨0, 2, rfl, HG2.out.below, ⟨fun h => absurd h HNO.out, fun _ => ⟨rfl, rfl⟩⟩⟩
  · have HA : Hid (Calls Try.prog 30 #[.slice av xs.length cv] w (GrR (.bool false) w)) := Lib.hid (HA0.out.mono fun _ _ ⟨b, he, hg, hb⟩ => ⟨by
      have : b = false := by
        cases b with
        | false => rfl
        | true => exact absurd (hb.1 rfl) cb
      rw [he, this], hg⟩)
    have HNO : Hid (¬ ClIn xs n) := Lib.hid (fun h => cb h.1)
    clear cb
    go_enter Try.func35, Try.ntmps35
    go_wp2_with (go_at_call 30; (with_reducible refine HA.out.mono ?_); rintro e w2 ⟨rfl, hg2⟩; have HG2 := Lib.hid hg2; clear hg2)
    go_ret2
    exact ⟨0, 2, rfl, HG2.out.below, ⟨fun h => absurd h HNO.out, fun _ => ⟨rfl, rfl⟩⟩⟩
set_option maxHeartbeats 6400000 in
set_option maxRecDepth 100000 in
theorem spCountLasting_any (n : Int) (v : Value) (xs : List B3) (w : World) (h : Br 0 w v xs) (hl : xs.length ≤ 1048576) : Calls Try.prog 34 #[v, .int .i64 n] w (VrIC (ClC xs n) w) := by
  obtain ⟨av, cv, rfl⟩ := h.shape
  have HA0 := Lib.hid (l09Are_any _ xs w h hl)
  have H := Lib.hid h
  clear h
  by_cases cb : BarsOk xs
  · have HA : Hid (Calls Try.prog 72 #[.slice av xs.length cv] w (GrR (.bool true) w)) := Lib.hid (HA0.out.mono fun _ _ ⟨b, he, hg, hb⟩ => ⟨by rw [he, hb.2 cb], hg⟩)
    by_cases c0 : 0 ≤ n ∧ n ≤ 5
    · have I0 : Hid (∀ W, Calls Try.prog 77 #[.int .i64 n, .int .i64 0, .int .i64 5] W (QW (.bool true) W)) := Lib.hid (fun W => spin_yes c0 W)
      have HOK : Hid (ClIn xs n) := Lib.hid ⟨cb, c0⟩
      have h24 : xs.length ≤ 24 := cb.1
      clear cb c0
      go_enter Try.func34, Try.ntmps34
      go_wp2_with (first | (go_at_call 72; (with_reducible refine HA.out.mono ?_); rintro e w2 ⟨rfl, hg2⟩; have HG2 := Lib.hid hg2; clear hg2) | (go_at_call 77; (first | with_reducible refine (I0.out _).mono ?_); rintro e w' ⟨rfl, rfl⟩))
      go_loopw [6, 7] (fun c i wr => ∃ (k m : Nat), k ≤ xs.length ∧ i = .int .i64 k ∧ c = .int .i64 m ∧ m ≤ k ∧ Hid (m = bcnt (fun x => x.1 = n ∧ x.2.2 < 0) (xs.take k)) ∧ Hid (Gr w wr)) (fun _ i _ => xs.length - (intOf i).toNat)
      case atStart => exact ⟨0, 0, Nat.zero_le _, rfl, rfl, Nat.le_refl _, Lib.hid (by simp [bcnt]), HG2⟩
      case round =>
        clear HA HA0 I0 HG2
        obtain ⟨k, m, hk, rfl, rfl, hmk, HM, HG⟩ := hrel
        obtain ⟨wx, hwx⟩ : ∃ wx : World, wx = wr := ⟨_, rfl⟩
        subst hwx
        by_cases hlt : k < xs.length
        · have hkl : (k : Int) < (xs.length : Int) := by omega
          obtain ⟨bv, ov, hav, _, _, _, p0, p1, p2⟩ := H.out.at' (k := k) hlt
          subst hav
          obtain ⟨x, hx⟩ : ∃ x, x = xs[k] := ⟨_, rfl⟩
          rw [← hx] at p0 p1 p2
          have q0 := later HG.out.below (Nat.le_refl _) p0
          have q2 := later HG.out.below (Nat.le_refl _) p2
          have HTK : Hid (xs.take (k + 1) = xs.take k ++ [x]) := Lib.hid (by rw [take_snoc hlt, hx])
          clear p0 p1 p2 hx
          obtain ⟨a, b, d⟩ := x
          dsimp only at q0 q2
          by_cases s1 : a = n
          · have e1 : (a == n) = true := by simp [s1]
            by_cases s2 : d < 0
            · have HP : Hid ((fun x : B3 => x.1 = n ∧ x.2.2 < 0) (a, b, d)) := Lib.hid ⟨s1, s2⟩
              clear s1
              go_wp2
              go_roundw
              case rel => exact ⟨k + 1, m + 1, by omega, by go_num, by go_num, by omega, Lib.hid (by rw [HTK.out, bcnt_yes HP.out, HM.out]), HG⟩
              case measure => simp [intOf]; omega
            · have HP : Hid (¬ (fun x : B3 => x.1 = n ∧ x.2.2 < 0) (a, b, d)) := Lib.hid (fun h => s2 h.2)
              clear s1
              go_wp2
              go_roundw
              case rel => exact ⟨k + 1, m, by omega, by go_num, rfl, by omega, Lib.hid (by rw [HTK.out, bcnt_no HP.out, HM.out]), HG⟩
              case measure => simp [intOf]; omega
          · have e1 : (a == n) = false := by simp [s1]
            have HP : Hid (¬ (fun x : B3 => x.1 = n ∧ x.2.2 < 0) (a, b, d)) := Lib.hid (fun h => s1 h.1)
            clear s1
            go_wp2
            go_roundw
            case rel => exact ⟨k + 1, m, by omega, by go_num, rfl, by omega, Lib.hid (by rw [HTK.out, bcnt_no HP.out, HM.out]), HG⟩
            case measure => simp [intOf]; omega
        · have hkl : ¬ (k : Int) < (xs.length : Int) := by omega
          have HE : Hid (m = bcnt (fun x => x.1 = n ∧ x.2.2 < 0) xs) := Lib.hid (by rw [HM.out, List.take_of_length_le (by omega)])
          go_wp2
          go_ret2
          exact ⟨(m : Int), 0, rfl, HG.out.below, ⟨fun _ => ⟨by rw [HE.out], rfl⟩, fun h => absurd HOK.out h⟩⟩
    · have I0 : Hid (∀ W, Calls Try.prog 77 #[.int .i64 n, .int .i64 0, .int .i64 5] W (QW (.bool false) W)) := Lib.hid (fun W => spin_no c0 W)
      have HNO : Hid (¬ ClIn xs n) := Lib.hid (fun h => c0 h.2)
      clear cb c0
      go_enter Try.func34, Try.ntmps34
      go_wp2_with (first | (go_at_call 72; (with_reducible refine HA.out.mono ?_); rintro e w2 ⟨rfl, hg2⟩; have HG2 := Lib.hid hg2; clear hg2) | (go_at_call 77; (first | with_reducible refine (I0.out _).mono ?_); rintro e w' ⟨rfl, rfl⟩))
      go_ret2
      exact ⟨0, 2, rfl, HG2.out.below, ⟨fun h => absurd h HNO.out, fun _ => ⟨rfl, rfl⟩⟩⟩
  · have HA : Hid (Calls Try.prog 72 #[.slice av xs.length cv] w (GrR (.bool false) w)) := Lib.hid (HA0.out.mono fun _ _ ⟨b, he, hg, hb⟩ => ⟨by
      have : b = false := by
        cases b with
        | false => rfl
        | true => exact absurd (hb.1 rfl) cb
      rw [he, this], hg⟩)
    have HNO : Hid (¬ ClIn xs n) := Lib.hid (fun h => cb h.1)
    clear cb
    go_enter Try.func34, Try.ntmps34
    go_wp2_with (go_at_call 72; (with_reducible refine HA.out.mono ?_); rintro e w2 ⟨rfl, hg2⟩; have HG2 := Lib.hid hg2; clear hg2)
    go_ret2
    exact ⟨0, 2, rfl, HG2.out.below, ⟨fun h => absurd h HNO.out, fun _ => ⟨rfl, rfl⟩⟩⟩
end Go.Proofs.Ytchijefibiaphaa
