/-
  TotalLength of both sides by contract.
-/
import Derived.Test.YtchijefibiaphaaBru
namespace Go.Proofs.Ytchijefibiaphaa
open Go.RowKit Go.Sort

/-- The sum of the lengths of bars that end. -/
def bsum (L : List B3) : Int := (L.map fun x => if x.2.2 = -1 then 0 else x.2.2 - x.2.1).sum
theorem bsum_snoc (L : List B3) (x : B3) : bsum (L ++ [x]) = bsum L + (if x.2.2 = -1 then 0 else x.2.2 - x.2.1) := by simp [bsum]
theorem bsum_l {L : List B3} {x : B3} (h : x.2.2 = -1) : bsum (L ++ [x]) = bsum L := by rw [bsum_snoc, if_pos h]; omega
theorem bsum_e {L : List B3} {x : B3} (h : ¬ x.2.2 = -1) : bsum (L ++ [x]) = bsum L + (x.2.2 - x.2.1) := by rw [bsum_snoc, if_neg h]
theorem barOk_len {x : B3} (h : BarOk x) : ¬ x.2.2 = -1 → 0 ≤ x.2.2 - x.2.1 ∧ x.2.2 - x.2.1 ≤ 5 := by
  unfold BarOk at h
  omega
/-- What is said of a total length. -/
def TlC (xs : List B3) (b c : Int) : Prop := (BarsOk xs → b = bsum xs ∧ c = 0) ∧ (¬ BarsOk xs → b = 0 ∧ c = 2)
theorem TlC.unique {xs : List B3} {b c b2 c2 : Int} (h : TlC xs b c) (k : TlC xs b2 c2) : b = b2 ∧ c = c2 := by
  by_cases hp : BarsOk xs
  · obtain ⟨h1, h2⟩ := h.1 hp
    obtain ⟨k1, k2⟩ := k.1 hp
    exact ⟨h1.trans k1.symm, h2.trans k2.symm⟩
  · obtain ⟨h1, h2⟩ := h.2 hp
    obtain ⟨k1, k2⟩ := k.2 hp
    exact ⟨h1.trans k1.symm, h2.trans k2.symm⟩
set_option maxHeartbeats 6400000 in
set_option maxRecDepth 100000 in
theorem totalLength_any (v : Value) (xs : List B3) (w : World) (h : Br 0 w v xs) (hl : xs.length ≤ 1048576) : Calls Try.prog 37 #[v] w (VrIC (TlC xs) w) := by
  obtain ⟨av, cv, rfl⟩ := h.shape
  have HA0 := Lib.hid (areBars_any _ xs w h hl)
  have H := Lib.hid h
  clear h
  by_cases cb : BarsOk xs
  · have HA : Hid (Calls Try.prog 30 #[.slice av xs.length cv] w (GrR (.bool true) w)) := Lib.hid (HA0.out.mono fun _ _ ⟨b, he, hg, hb⟩ => ⟨by rw [he, hb.2 cb], hg⟩)
    have HOK := Lib.hid cb
    have h24 : xs.length ≤ 24 := cb.1
    clear cb
    go_enter Try.func37, Try.ntmps37
    go_wp2_with (go_at_call 30; (with_reducible refine HA.out.mono ?_); rintro e w2 ⟨rfl, hg2⟩; have HG2 := Lib.hid hg2; clear hg2)
    go_loopw [4, 14] (fun c i wr => ∃ (k : Nat) (s : Int), k ≤ xs.length ∧ i = .int .i64 k ∧ c = .int .i64 s ∧ 0 ≤ s ∧ s ≤ 5 * k ∧ Hid (s = bsum (xs.take k)) ∧ Hid (Gr w wr)) (fun _ i _ => xs.length - (intOf i).toNat)
    case atStart => exact ⟨0, 0, Nat.zero_le _, rfl, rfl, Int.le_refl _, by omega, Lib.hid (by simp [bsum]), HG2⟩
    case round =>
      clear HA HA0 HG2
      obtain ⟨k, m, hk, rfl, rfl, hm0, hm1, HM, HG⟩ := hrel
      obtain ⟨wx, hwx⟩ : ∃ wx : World, wx = wr := ⟨_, rfl⟩
      subst hwx
      by_cases hlt : k < xs.length
      · have hkl : (k : Int) < (xs.length : Int) := by omega
        obtain ⟨bv, ov, hav, _, _, _, p0, p1, p2⟩ := H.out.at' (k := k) hlt
        subst hav
        obtain ⟨x, hx⟩ : ∃ x, x = xs[k] := ⟨_, rfl⟩
        rw [← hx] at p0 p1 p2
        have q0 := later HG.out.below (Nat.le_refl _) p0
        have q1 := later HG.out.below (Nat.le_refl _) p1
        have q2 := later HG.out.below (Nat.le_refl _) p2
        have HTK : Hid (xs.take (k + 1) = xs.take k ++ [x]) := Lib.hid (by rw [take_snoc hlt, hx])
        have HXO : Hid (BarOk x) := Lib.hid (by rw [hx]; exact HOK.out.2.1 k hlt)
        clear p0 p1 p2 hx
        obtain ⟨a, b, d⟩ := x
        dsimp only at q0 q1 q2
        obtain ⟨wb, hwb⟩ : ∃ wb : World, wb = wx.alloc (.cells #[.int .i64 a, .int .i64 b, .int .i64 d] 53) := ⟨_, rfl⟩
        have HGB : Hid (Gr w wb) := Lib.hid (by rw [hwb]; exact HG.out.trans (Gr.alloc _ _))
        have t0 : wb.cell? ⟨wx.heap.size, 0, none⟩ = some (.int .i64 a) := by rw [hwb]; simp
        have t1 : wb.cell? ⟨wx.heap.size, 1, none⟩ = some (.int .i64 b) := by rw [hwb]; simp
        have t2 : wb.cell? ⟨wx.heap.size, 2, none⟩ = some (.int .i64 d) := by rw [hwb]; simp
        have HK := Lib.hid (kindOf_any (a, b, d) wb)
        go_upto_region 7 with fail
        rw [← hwb]
        clear hwb q0 q1 q2
        by_cases hd : d = -1
        · subst hd
          rw [kv_lasts rfl] at HK
          have hxo := HXO.out
          unfold BarOk at hxo
          dsimp only at hxo
          have HO := Lib.hid (fun w => lengthL_any (a, b, (-1)) w)
          unfold bvl at *
          dsimp only at *
          have hm : ∀ w : World, (method (Try.prog.types.size + Made.depth) 128 (.agg #[.int .i64 a, .int .i64 b, .int .i64 (-1)]) "loop.example/g01273/impl.length").run Try.prog w = .ok (206, .agg #[.int .i64 a, .int .i64 b, .int .i64 (-1)]) w := fun _ => by kernel_rfl
          go_wp2_with fail
          refine HK.out.mono ?_
          rintro e w4 ⟨rfl, hg3⟩
          have HG3 := Lib.hid (HGB.out.trans hg3)
          clear hg3 t0 t1 t2 HK hxo
          go_wp2_with fail
          refine (HO.out _).mono ?_
          rintro e w5 ⟨rfl, hg4⟩
          have HG4 := Lib.hid (HG3.out.trans hg4)
          clear hg4 HO
          clear hm
          go_wp2
          go_roundw
          case rel => exact ⟨k + 1, m, by omega, by go_num, rfl, hm0, by omega, Lib.hid (by rw [HTK.out, bsum_l (x := (a, b, -1)) rfl, HM.out]), HG4⟩
          case measure => simp [intOf]; omega
        · have hdk := Lib.hid hd
          rw [kv_ends hd] at HK
          have hxo := HXO.out
          unfold BarOk at hxo
          dsimp only at hxo
          have HO := Lib.hid (fun w => lengthE_any (a, b, d) w (by dsimp only; omega) (by dsimp only; omega))
          unfold bvl at *
          dsimp only at *
          have hm : ∀ w : World, (method (Try.prog.types.size + Made.depth) 129 (.agg #[.int .i64 a, .int .i64 b, .int .i64 d]) "loop.example/g01273/impl.length").run Try.prog w = .ok (212, .agg #[.int .i64 a, .int .i64 b, .int .i64 d]) w := fun _ => by kernel_rfl
          go_wp2_with fail
          refine HK.out.mono ?_
          rintro e w4 ⟨rfl, hg3⟩
          have HG3 := Lib.hid (HGB.out.trans hg3)
          clear hg3 t0 t1 t2 HK hxo hd
          go_wp2_with fail
          refine (HO.out _).mono ?_
          rintro e w5 ⟨rfl, hg4⟩
          have HG4 := Lib.hid (HG3.out.trans hg4)
          clear hg4 HO
          clear hm
          have hln := barOk_len HXO.out hdk.out
          dsimp only at hln
          obtain ⟨l, hle⟩ : ∃ l, l = d - b := ⟨_, rfl⟩
          rw [← hle] at hln
          try rw [← hle]
          have HLE := Lib.hid hle
          have hwm : IntKind.i64.wrap (m + l) = m + l := IntWalk.i64_in _ (by omega)
          clear hle
          go_wp2
          go_roundw
          case rel => exact ⟨k + 1, m + l, by omega, by go_num, rfl, by omega, by omega, Lib.hid (by rw [HTK.out, bsum_e (x := (a, b, d)) hdk.out, HM.out, HLE.out]), HG4⟩
          case measure => simp [intOf]; omega
      · have hkl : ¬ (k : Int) < (xs.length : Int) := by omega
        have HE : Hid (m = bsum xs) := Lib.hid (by rw [HM.out, List.take_of_length_le (by omega)])
        go_wp2
        go_ret2
        exact ⟨m, 0, rfl, HG.out.below, ⟨fun _ => ⟨HE.out, rfl⟩, fun h => absurd HOK.out h⟩⟩
  · have HA : Hid (Calls Try.prog 30 #[.slice av xs.length cv] w (GrR (.bool false) w)) := Lib.hid (HA0.out.mono fun _ _ ⟨b, he, hg, hb⟩ => ⟨by
      have : b = false := by
        cases b with
        | false => rfl
        | true => exact absurd (hb.1 rfl) cb
      rw [he, this], hg⟩)
    have HNO : Hid (¬ BarsOk xs) := Lib.hid (fun h => cb h)
    clear cb
    go_enter Try.func37, Try.ntmps37
    go_wp2_with (go_at_call 30; (with_reducible refine HA.out.mono ?_); rintro e w2 ⟨rfl, hg2⟩; have HG2 := Lib.hid hg2; clear hg2)
    go_ret2
    exact ⟨0, 2, rfl, HG2.out.below, ⟨fun h => absurd h HNO.out, fun _ => ⟨rfl, rfl⟩⟩⟩
set_option maxHeartbeats 6400000 in
set_option maxRecDepth 100000 in
theorem spTotalLength_any (v : Value) (xs : List B3) (w : World) (h : Br 0 w v xs) (hl : xs.length ≤ 1048576) : Calls Try.prog 36 #[v] w (VrIC (TlC xs) w) := by
  obtain ⟨av, cv, rfl⟩ := h.shape
  have HA0 := Lib.hid (l09Are_any _ xs w h hl)
  have H := Lib.hid h
  clear h
  by_cases cb : BarsOk xs
  · have HA : Hid (Calls Try.prog 72 #[.slice av xs.length cv] w (GrR (.bool true) w)) := Lib.hid (HA0.out.mono fun _ _ ⟨b, he, hg, hb⟩ => ⟨by rw [he, hb.2 cb], hg⟩)
    have HOK := Lib.hid cb
    have h24 : xs.length ≤ 24 := cb.1
    clear cb
    go_enter Try.func36, Try.ntmps36
    go_wp2_with (go_at_call 72; (with_reducible refine HA.out.mono ?_); rintro e w2 ⟨rfl, hg2⟩; have HG2 := Lib.hid hg2; clear hg2)
    go_loopw [4, 5] (fun c i wr => ∃ (k : Nat) (s : Int), k ≤ xs.length ∧ i = .int .i64 k ∧ c = .int .i64 s ∧ 0 ≤ s ∧ s ≤ 5 * k ∧ Hid (s = bsum (xs.take k)) ∧ Hid (Gr w wr)) (fun _ i _ => xs.length - (intOf i).toNat)
    case atStart => exact ⟨0, 0, Nat.zero_le _, rfl, rfl, Int.le_refl _, by omega, Lib.hid (by simp [bsum]), HG2⟩
    case round =>
      clear HA HA0 HG2
      obtain ⟨k, m, hk, rfl, rfl, hm0, hm1, HM, HG⟩ := hrel
      obtain ⟨wx, hwx⟩ : ∃ wx : World, wx = wr := ⟨_, rfl⟩
      subst hwx
      by_cases hlt : k < xs.length
      · have hkl : (k : Int) < (xs.length : Int) := by omega
        obtain ⟨bv, ov, hav, _, _, _, p0, p1, p2⟩ := H.out.at' (k := k) hlt
        subst hav
        obtain ⟨x, hx⟩ : ∃ x, x = xs[k] := ⟨_, rfl⟩
        rw [← hx] at p0 p1 p2
        have q0 := later HG.out.below (Nat.le_refl _) p0
        have q1 := later HG.out.below (Nat.le_refl _) p1
        have q2 := later HG.out.below (Nat.le_refl _) p2
        have HTK : Hid (xs.take (k + 1) = xs.take k ++ [x]) := Lib.hid (by rw [take_snoc hlt, hx])
        have HXO : Hid (BarOk x) := Lib.hid (by rw [hx]; exact HOK.out.2.1 k hlt)
        have P1 := Lib.hid p1
        have P2 := Lib.hid p2
        clear p0 p1 p2 hx
        obtain ⟨a, b, d⟩ := x
        dsimp only at q0 q1 q2 P1 P2
        have hxo := HXO.out
        unfold BarOk at hxo
        dsimp only at hxo
        by_cases hd : 0 ≤ d
        · have hwm : IntKind.i64.wrap (m + d) = m + d := IntWalk.i64_in _ (by omega)
          have hwn : IntKind.i64.wrap (m + d - b) = m + d - b := IntWalk.i64_in _ (by omega)
          have HDK : Hid (¬ ((a, b, d) : B3).2.2 = -1) := Lib.hid (by show ¬ d = -1; omega)
          have hk0 : (0 : Int) ≤ (k : Int) := by omega
          go_upto_region 8 with fail
          refine wp_region_held (S := fun W => Gr w W) (by kernel_rfl) ?_
          have S0 := HG.out.trans (Gr.drewN1 wx)
          obtain ⟨wd, hwd⟩ : ∃ wd : World, wd = { wx with drawn := wx.drawn + 1 } := ⟨_, rfl⟩
          rw [← hwd] at S0 ⊢
          clear hwd q0 q1 q2
          refine held_take (i := 0) (v := .int .i64 m) (some 21) rfl rfl (by kernel_rfl) (by kernel_rfl) (by kernel_rfl) (fun _ _ _ h => h) (yieldsIf_move (by kernel_rfl) rfl (by kernel_rfl)) S0 ?_
          refine held_take (i := 1) (v := .slice (some ⟨bv, ov, none⟩) xs.length cv) (some 22) rfl rfl (by kernel_rfl) (by kernel_rfl) (by kernel_rfl) (fun _ _ _ h => h) (yieldsIf_move (by kernel_rfl) rfl (by kernel_rfl)) S0 ?_
          refine held_take (i := 2) (v := .int .i64 (k : Int)) (some 23) rfl rfl (by kernel_rfl) (by kernel_rfl) (by kernel_rfl) (fun _ _ _ h => h) (yieldsIf_move (by kernel_rfl) rfl (by kernel_rfl)) S0 ?_
          refine held_take (i := 3) (v := .pointer (some ⟨bv, ov + k * 3, none⟩)) (some 24) rfl rfl (by kernel_rfl) (by kernel_rfl) (by kernel_rfl) (fun _ _ _ h => h) (yieldsIf_run (by kernel_rfl) (fun W _ => by go_simp)) S0 ?_
          refine held_take (i := 4) (v := .pointer (some ⟨bv, ov + k * 3 + 2, none⟩)) (some 25) rfl rfl (by kernel_rfl) (by kernel_rfl) (by kernel_rfl) (fun _ _ _ h => h) (yieldsIf_run (by kernel_rfl) (fun W _ => by go_simp)) S0 ?_
          refine held_take (i := 5) (v := .int .i64 d) (some 26) rfl rfl (by kernel_rfl) (by kernel_rfl) (by kernel_rfl) (fun _ _ _ h => h) (yieldsIf_cell (by kernel_rfl) rfl (by kernel_rfl) (fun W h => hload W (later (Gr.below h) (Nat.le_refl _) P2.out))) S0 ?_
          refine held_take (i := 6) (v := .int .i64 (m + d)) (some 27) rfl rfl (by kernel_rfl) (by kernel_rfl) (by kernel_rfl) (fun _ _ _ h => h) (yieldsIf_run (by kernel_rfl) (fun W _ => by go_simp)) S0 ?_
          refine held_take (i := 7) (v := .slice (some ⟨bv, ov, none⟩) xs.length cv) (some 28) rfl rfl (by kernel_rfl) (by kernel_rfl) (by kernel_rfl) (fun _ _ _ h => h) (yieldsIf_move (by kernel_rfl) rfl (by kernel_rfl)) S0 ?_
          refine held_take (i := 8) (v := .int .i64 (k : Int)) (some 29) rfl rfl (by kernel_rfl) (by kernel_rfl) (by kernel_rfl) (fun _ _ _ h => h) (yieldsIf_move (by kernel_rfl) rfl (by kernel_rfl)) S0 ?_
          refine held_take (i := 9) (v := .pointer (some ⟨bv, ov + k * 3, none⟩)) (some 30) rfl rfl (by kernel_rfl) (by kernel_rfl) (by kernel_rfl) (fun _ _ _ h => h) (yieldsIf_run (by kernel_rfl) (fun W _ => by go_simp)) S0 ?_
          refine held_take (i := 10) (v := .pointer (some ⟨bv, ov + k * 3 + 1, none⟩)) (some 31) rfl rfl (by kernel_rfl) (by kernel_rfl) (by kernel_rfl) (fun _ _ _ h => h) (yieldsIf_run (by kernel_rfl) (fun W _ => by go_simp)) S0 ?_
          refine held_take (i := 11) (v := .int .i64 b) (some 32) rfl rfl (by kernel_rfl) (by kernel_rfl) (by kernel_rfl) (fun _ _ _ h => h) (yieldsIf_cell (by kernel_rfl) rfl (by kernel_rfl) (fun W h => hload W (later (Gr.below h) (Nat.le_refl _) P1.out))) S0 ?_
          refine held_take (i := 12) (v := .int .i64 (m + d - b)) (some 33) rfl rfl (by kernel_rfl) (by kernel_rfl) (by kernel_rfl) (fun _ _ _ h => h) (yieldsIf_run (by kernel_rfl) (fun W _ => by go_simp)) S0 ?_
          refine held_take (i := 13) (v := .int .i64 (m + d - b)) (some 4) rfl rfl (by kernel_rfl) (by kernel_rfl) (by kernel_rfl) (fun _ _ _ h => h) (yieldsIf_run (by kernel_rfl) (fun W _ => by kernel_rfl)) S0 ?_
          refine wpAnyH_done (by kernel_rfl) ?_ _
          simp only [Act.put, List.setIfInBounds_toArray, List.set_cons_zero, List.set_cons_succ]
          have HG4 := Lib.hid S0
          clear S0 hwm hwn
          go_wp2
          go_roundw
          case rel => exact ⟨k + 1, m + d - b, by omega, by go_num, rfl, by omega, by omega, Lib.hid (by rw [HTK.out, bsum_e HDK.out, HM.out]; show _ = _ + (d - b); omega), HG4⟩
          case measure => simp [intOf]; omega
        · have HDK : Hid (((a, b, d) : B3).2.2 = -1) := Lib.hid (by show d = -1; omega)
          go_wp2
          go_roundw
          case rel => exact ⟨k + 1, m, by omega, by go_num, rfl, hm0, by omega, Lib.hid (by rw [HTK.out, bsum_l HDK.out, HM.out]), HG⟩
          case measure => simp [intOf]; omega
      · have hkl : ¬ (k : Int) < (xs.length : Int) := by omega
        have HE : Hid (m = bsum xs) := Lib.hid (by rw [HM.out, List.take_of_length_le (by omega)])
        go_wp2
        go_ret2
        exact ⟨m, 0, rfl, HG.out.below, ⟨fun _ => ⟨HE.out, rfl⟩, fun h => absurd HOK.out h⟩⟩
  · have HA : Hid (Calls Try.prog 72 #[.slice av xs.length cv] w (GrR (.bool false) w)) := Lib.hid (HA0.out.mono fun _ _ ⟨b, he, hg, hb⟩ => ⟨by
      have : b = false := by
        cases b with
        | false => rfl
        | true => exact absurd (hb.1 rfl) cb
      rw [he, this], hg⟩)
    have HNO : Hid (¬ BarsOk xs) := Lib.hid (fun h => cb h)
    clear cb
    go_enter Try.func36, Try.ntmps36
    go_wp2_with (go_at_call 72; (with_reducible refine HA.out.mono ?_); rintro e w2 ⟨rfl, hg2⟩; have HG2 := Lib.hid hg2; clear hg2)
    go_ret2
    exact ⟨0, 2, rfl, HG2.out.below, ⟨fun h => absurd h HNO.out, fun _ => ⟨rfl, rfl⟩⟩⟩
end Go.Proofs.Ytchijefibiaphaa
