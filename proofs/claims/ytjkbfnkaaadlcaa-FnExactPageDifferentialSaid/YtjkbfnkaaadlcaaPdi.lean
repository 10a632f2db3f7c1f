/-
  impl.pageDifferential and PageDifferential by their contracts.
-/
import Derived.Test.YtjkbfnkaaadlcaaNeg
import Derived.Test.YtjkbfnkaaadlcaaTb
import Derived.Test.YtjkbfnkaaadlcaaLes
namespace Go.Proofs.Ytjkbfnkaaadlcaa
open Go.RowKit

/-- The table while it is being filled: the rows of rs are done, and of the row behind them the first q numbers. -/
noncomputable def pdZ (Wl rs : List Lin.V) (cur : Lin.V) (j q : Nat) : Nat → Nat → Int := fun a b => if a < j then (rs.getD a Lin.zv) (Lin.ld (Wl.getD b Lin.zv)) else if a = j ∧ b < q then cur (Lin.ld (Wl.getD b Lin.zv)) else 0
theorem pdZ_0 (Wl : List Lin.V) (cur : Lin.V) : pdZ Wl [] cur 0 0 = fun _ _ => 0 := by
  funext a b
  simp [pdZ]
theorem pdZ_cur (Wl rs : List Lin.V) (cur cur' : Lin.V) (j : Nat) : pdZ Wl rs cur j 0 = pdZ Wl rs cur' j 0 := by
  funext a b
  simp [pdZ]
theorem Tb.pd {W : World} {g r c j q : Nat} {Wl rs : List Lin.V} {cur : Lin.V} (h : Tb W g r c (pdZ Wl rs cur j q)) (hj : j < r) {x : Int} (hx : x = cur (Lin.ld (Wl.getD q Lin.zv))) :
    Tb (W.setCell ⟨g + 1 + j, q, none⟩ (.int .i64 x)) g r c (pdZ Wl rs cur j (q + 1)) := by
  refine (h.put (i := q) hj x).congr (fun a _ b _ => ?_)
  by_cases e : a = j ∧ b = q
  · obtain ⟨rfl, rfl⟩ := e
    rw [if_pos ⟨rfl, rfl⟩, pdZ, if_neg (by omega), if_pos ⟨rfl, by omega⟩, hx]
  · rw [if_neg e]
    simp only [pdZ]
    by_cases h1 : a < j
    · rw [if_pos h1, if_pos h1]
    · rw [if_neg h1, if_neg h1]
      by_cases h2 : a = j ∧ b < q
      · rw [if_pos h2, if_pos (by omega)]
      · rw [if_neg h2, if_neg (by omega)]
theorem Tb.pdNext {W : World} {g r c j : Nat} {Wl rs : List Lin.V} {cur : Lin.V} (h : Tb W g r c (pdZ Wl rs cur j c)) (hrs : rs.length = j) : Tb W g r c (pdZ Wl (rs ++ [cur]) Lin.zv (j + 1) 0) :=
  h.congr (fun a _ b hb => by
    simp only [pdZ]
    by_cases h1 : a < j
    · rw [if_pos h1, if_pos (by omega)]
      have e : (rs ++ [cur]).getD a Lin.zv = rs.getD a Lin.zv := by
        simp only [List.getD, List.getElem?_append_left (show a < rs.length by omega)]
      rw [e]
    · rw [if_neg h1]
      by_cases h2 : a = j
      · subst h2
        rw [if_pos ⟨rfl, hb⟩, if_pos (by omega)]
        have e : (rs ++ [cur]).getD a Lin.zv = cur := by
          simp [List.getD, ← hrs]
        rw [e]
      · rw [if_neg (by omega), if_neg (by omega), if_neg (by omega)])
theorem pd_table {Wl rs : List Lin.V} {cur : Lin.V} : tableOf rs.length Wl.length (pdZ Wl rs cur rs.length 0) = rs.map (leadRow Wl) := by
  refine List.ext_getElem (by simp [tableOf]) fun a h1 h2 => ?_
  have ha : a < rs.length := by simpa [tableOf] using h1
  simp only [tableOf, List.getElem_map, List.getElem_range]
  refine List.ext_getElem (by simp [leadRow]) fun b h3 h4 => ?_
  have hb : b < Wl.length := by simpa [leadRow] using h4
  simp only [List.getElem_map, List.getElem_range, leadRow, pdZ]
  rw [if_pos ha, getD_of_lt _ ha, getD_of_lt _ hb]

set_option maxHeartbeats 12800000 in
set_option maxRecDepth 100000 in
theorem pageDifferential_any (p : Int) (k : Nat) (r q : Int) (dv mv lv : Value) (ds : List Int) (ms : List (List (List Int))) (ls : List (List Int)) (w : World) (h : Fi 0 w dv mv lv ds ms ls) (hf : IsFil p ds ms ls) (hk : k < ds.length) (hr : 0 ≤ r ∧ r ≤ 8) (hq : 0 ≤ q ∧ q ≤ 5) :
    Calls Try.prog 70 #[.agg #[.int .i64 p, dv, mv, lv], .int .i64 r, .int .i64 (k : Int), .int .i64 q] w (TbR (PdT p ds ms ls k r q) w) := by
  have HX0 := Lib.hid (Fx.start (p := p) 34 h)
  have HCX := Lib.hid hf.1
  have HFL := Lib.hid hf
  have hd8 := (dimN_le8 hf.1 k).1
  have hp1 := hf.1.1.prime.lo1
  have hl6 := hf.1.1.len1
  obtain ⟨n1, hn1⟩ : ∃ n1, n1 = (k : Int) - 1 := ⟨_, rfl⟩
  obtain ⟨q1, hq1⟩ : ∃ q1, q1 = q - r := ⟨_, rfl⟩
  have hw1 : IntKind.i64.wrap ((k : Int) - 1) = n1 := by rw [hn1]; exact IntWalk.i64_in _ (by omega)
  have hw2 : IntKind.i64.wrap (q - r) = q1 := by rw [hq1]; exact IntWalk.i64_in _ (by omega)
  have HPS : Hid (∀ W, Fi 0 W dv mv lv ds ms ls → Calls Try.prog 125 #[.agg #[.int .i64 p, dv, mv, lv], .int .i64 r, .int .i64 (k : Int), .int .i64 q] W (VsR (SpF p (dimN ds (k : Int)) (PgS p ds ms ls k r q)) W)) := Lib.hid (fun W hW => pageSpace_any p k r q dv mv lv ds ms ls W hW hf hk (by omega) (by omega))
  have HDI : Hid (∀ W sl P, Fi 0 W dv mv lv ds ms ls → Vs 0 W sl P → SpF p (dimN ds (k : Int)) (PgS p ds ms ls k r q) P → Calls Try.prog 124 #[.agg #[.int .i64 p, dv, mv], .int .i64 (k : Int), sl] W (VsR (fun M => M.length = P.length ∧ (∀ u ∈ M, Lin.Md p u) ∧ (∀ u ∈ M, Lin.Wd 40 u) ∧ (0 < k → M = dimgs p ds ms k P)) W)) := Lib.hid (fun W sl P hW hV hP => by
    have hs := hP.short
    by_cases h0 : k = 0
    · subst h0
      have := differentialsOf_0 p sl P dv mv ds ms W hW.cx hV (by omega)
      refine this.mono (fun e w' ⟨s, L, h1, h2, h3, h4⟩ => ⟨s, L, h1, h2, h3, by rw [h4]; simp, fun u hu => ?_, fun u hu => ?_, fun hh => absurd hh (by omega)⟩)
      · rw [h4] at hu; rw [(List.mem_replicate.1 hu).2]; exact Lin.zv_md (by omega)
      · rw [h4] at hu; rw [(List.mem_replicate.1 hu).2]; exact Lin.zv_wd 40
    · have := differentialsOf_s p k sl P dv mv ds ms W hW.cx hf.1 hk (by omega) hV hP.1.md hP.2.1 (by omega)
      have hok := cyc_ok hf.1 hk
      refine this.mono (fun e w' ⟨s, L, h1, h2, h3, h4⟩ => ⟨s, L, h1, h2, h3, by rw [h4]; simp, fun u hu => ?_, fun u hu => ?_, fun _ => h4⟩)
      · rw [h4] at hu; obtain ⟨y, _, rfl⟩ := List.mem_map.1 hu; exact dimg_md (by omega) _ _ _
      · rw [h4] at hu; obtain ⟨y, _, rfl⟩ := List.mem_map.1 hu; exact wd_wider (dimg_wd hok.1 hok.2.1 y) (by have := hok.2.2; omega))
  have HBO : Hid (∀ W, Fi 0 W dv mv lv ds ms ls → Calls Try.prog 126 #[.agg #[.int .i64 p, dv, mv, lv], .int .i64 r, .int .i64 n1, .int .i64 q1] W (VsR (fun B => Lin.Red p B ∧ (∀ u ∈ B, Lin.Wd 40 u) ∧ B.length ≤ 8 ∧ (0 < k → SpF p (dimN ds ((k - 1 : Nat) : Int)) (BotS p ds ms ls (k - 1) r (q - r)) B)) W)) := Lib.hid (fun W hW => by
    rw [hn1, hq1]
    by_cases h0 : k = 0
    · subst h0
      have := bottomSpace_neg p r (q - r) dv mv lv ds ms ls W hW hf (by omega) (by omega)
      exact this.mono (fun e w' ⟨s, L, h1, h2, h3, h4⟩ => ⟨s, L, h1, h2, h3, by rw [h4]; exact Lin.Red.nil p, by rw [h4]; simp, by rw [h4]; simp, fun hh => absurd hh (by omega)⟩)
    · have := bottomSpace_any p (k - 1) r (q - r) dv mv lv ds ms ls W hW hf (by omega) (by omega) (by omega)
      rw [show (((k - 1 : Nat) : Int)) = (k : Int) - 1 by omega] at this ⊢
      have h8 := (dimN_le8 hf.1 (k - 1)).1
      rw [show (((k - 1 : Nat) : Int)) = (k : Int) - 1 by omega] at h8
      exact this.mono (fun e w' ⟨s, L, h1, h2, h3, h4⟩ => ⟨s, L, h1, h2, h3, h4.1, fun u hu => wd_wider (h4.2.1 u hu) (by omega), by have := h4.short; omega, fun _ => h4⟩))
  have HBA : Hid (∀ W, Fi 0 W dv mv lv ds ms ls → Calls Try.prog 125 #[.agg #[.int .i64 p, dv, mv, lv], .int .i64 r, .int .i64 n1, .int .i64 q1] W (VsR (fun B => Lin.Red p B ∧ (∀ u ∈ B, Lin.Wd 40 u) ∧ B.length ≤ 8 ∧ (0 < k → SpF p (dimN ds ((k - 1 : Nat) : Int)) (PgS p ds ms ls (k - 1) r (q - r)) B) ∧ (k = 0 → B = [])) W)) := Lib.hid (fun W hW => by
    rw [hn1, hq1]
    by_cases h0 : k = 0
    · subst h0
      have := pageSpace_neg p r (q - r) dv mv lv ds ms ls W hW hf (by omega) (by omega)
      exact this.mono (fun e w' ⟨s, L, h1, h2, h3, h4⟩ => ⟨s, L, h1, h2, h3, by rw [h4]; exact Lin.Red.nil p, by rw [h4]; simp, by rw [h4]; simp, fun hh => absurd hh (by omega), fun _ => h4⟩)
    · have := pageSpace_any p (k - 1) r (q - r) dv mv lv ds ms ls W hW hf (by omega) (by omega) (by omega)
      rw [show (((k - 1 : Nat) : Int)) = (k : Int) - 1 by omega] at this ⊢
      have h8 := (dimN_le8 hf.1 (k - 1)).1
      rw [show (((k - 1 : Nat) : Int)) = (k : Int) - 1 by omega] at h8
      exact this.mono (fun e w' ⟨s, L, h1, h2, h3, h4⟩ => ⟨s, L, h1, h2, h3, h4.1, fun u hu => wd_wider (h4.2.1 u hu) (by omega), by have := h4.short; omega, fun _ => h4, fun hh => absurd hh h0⟩))
  have c0 := HX0.out.c0
  have c1 := HX0.out.c1
  have c2 := HX0.out.c2
  have c3 := HX0.out.c3
  have HXD := Lib.hid (HX0.out.next (Below.refl _ _).drew)
  clear h hf hn1 hq1
  go_enter Try.func70, Try.ntmps70
  go_wp2
  go_region_held3 (fun w' => w'.cell? ⟨w.heap.size, 0, none⟩ = some (.int .i64 p) ∧ w'.cell? ⟨w.heap.size, 1, none⟩ = some dv ∧ w'.cell? ⟨w.heap.size, 2, none⟩ = some mv ∧ w'.cell? ⟨w.heap.size, 3, none⟩ = some lv ∧ Hid (Fx w w' w.heap.size p dv mv lv ds ms ls))
    (first | exact Fx.all HX0 | exact Fx.all HXD | exact Fx.all HX4 | exact Fx.all HX5 | go_keep)
    (first
      | (go_at_call 125; refine (HPS.out _ HXD.out.fi).mono ?_; rintro e w4 ⟨s4, P, rfl, hb4, ho4, hr4⟩; have HX4 := Lib.hid (HXD.out.next hb4); have HR4 := Lib.hid hr4; have HO4 := Lib.hid (ho4.vs.lower (Nat.zero_le _)); clear ho4 hb4 hr4)
      | (go_at_call 124; refine (HDI.out _ s4 P HX4.out.fi HO4.out HR4.out).mono ?_; rintro e w5 ⟨s5, M, rfl, hb5, ho5, hr5⟩; have HX5 := Lib.hid (HX4.out.next hb5); have HO5 := Lib.hid (ho5.vs.lower (Nat.zero_le _)); have HR5 := Lib.hid hr5; clear ho5 hb5 hr5))
  have c0 := HX5.out.c0
  have c1 := HX5.out.c1
  have c2 := HX5.out.c2
  have c3 := HX5.out.c3
  obtain ⟨am, cm, hvm⟩ := Vs.shape HO5.out
  subst hvm
  have hm8 : M.length ≤ 8 := by have := HR5.out.1; have := HR4.out.short; omega
  clear HPS HDI HX4 HX0 HXD HO4
  go_wp2_with fail
  refine (HBO.out _ HX5.out.fi).mono ?_
  rintro e w6 ⟨s6, B, rfl, hb6, ho6, hr6⟩
  have HX6 := Lib.hid (HX5.out.next hb6)
  have HR6 := Lib.hid hr6
  have HO6 := Lib.hid (ho6.vs.lower (Nat.zero_le _))
  have HM6 := Lib.hid (HO5.out.below hb6)
  have hb8 : B.length ≤ 8 := hr6.2.2.1
  clear ho6 hb6 hr6 HBO HX5 HO5 c0 c1 c2 c3
  have c0 := HX6.out.c0
  have c1 := HX6.out.c1
  have c2 := HX6.out.c2
  have c3 := HX6.out.c3
  go_wp2_with fail
  refine (HBA.out _ HX6.out.fi).mono ?_
  rintro e w7 ⟨s7, Wl, rfl, hb7, ho7, hr7⟩
  have HX7 := Lib.hid (HX6.out.next hb7)
  have HR7 := Lib.hid hr7
  have HO7 := Lib.hid (ho7.vs.lower (Nat.zero_le _))
  have HM7 := Lib.hid (HM6.out.below hb7)
  have HS7 := Lib.hid (HO6.out.below hb7)
  have hw8 : Wl.length ≤ 8 := hr7.2.2.1
  obtain ⟨aw, cw, hvw⟩ := Vs.shape HO7.out
  subst hvw
  clear ho7 hb7 hr7 HBA HX6 HO6 HM6 c0 c1 c2 c3 hw1 hw2
  go_wp2_with fail
  refine (zeroTable_any M.length Wl.length _ (by omega) (by omega)).mono ?_
  rintro e w8 ⟨rfl, hm⟩
  have HB8 := Lib.hid hm.below
  have HT8 := Lib.hid hm.tb
  clear hm
  go_wp2
  go_loopw [50] (fun i wr => ∃ (j : Nat) (rs : List Lin.V), j ≤ M.length ∧ i = .int .i64 j ∧ rs.length = j ∧ Hid (Below w7.heap.size w7 wr) ∧ Hid (Tb wr w7.heap.size M.length Wl.length (pdZ Wl rs Lin.zv j 0)) ∧ Hid (∀ i (h : i < M.length) (h' : i < rs.length), Lin.RestE p B M[i] B.length rs[i])) (fun i _ => M.length - (intOf i).toNat)
  case atStart => exact ⟨0, [], Nat.zero_le _, rfl, rfl, HB8, Lib.hid (by rw [pdZ_0]; exact HT8.out), Lib.hid (fun i _ h' => absurd h' (by simp))⟩
  case round =>
    clear HT8 HB8
    obtain ⟨j, rs, hj, rfl, hrl, HB, HT, HR⟩ := hrel
    obtain ⟨wx, hwx⟩ : ∃ wx : World, wx = wr := ⟨_, rfl⟩
    subst hwx
    have HRL := Lib.hid hrl
    clear hrl
    by_cases hlt : j < M.length
    · refine Vs.cases (HM7.out.below HB.out) (fun _ _ hx _ => absurd hlt (by simp [hx])) (fun b o cap2 hv _ _ hc => ?_)
      obtain ⟨rfl, rfl⟩ : am = some ⟨b, o, none⟩ ∧ cm = cap2 := by simpa using hv
      obtain ⟨u, hu⟩ : ∃ u, u = M[j] := ⟨_, rfl⟩
      have HVA : Hid (At wx b (o + j * 40) u) := Lib.hid (by rw [hu]; exact hc j hlt)
      have HI2V := Lib.hid (Try.infoVl u)
      have HIS : Hid ((Try.prog.info? 137).map (·.size) = some (vl u).toArray.size) := Lib.hid (by have := HI2V.out; simpa using this)
      have HUM : Hid (Lin.Md p u) := Lib.hid (by rw [hu]; exact HR5.out.2.1 _ (List.getElem_mem hlt))
      have HUW : Hid (Lin.Wd 40 u) := Lib.hid (by rw [hu]; exact HR5.out.2.2.1 _ (List.getElem_mem hlt))
      have HUE : Hid (M[j] = u) := Lib.hid hu.symm
      have hsz : w7.heap.size ≤ wx.heap.size := HB.out.size
      clear hv hc hu
      go_upto_region 8 with (first | (with_reducible refine wpList_load_mid rfl 137 (.tmp 53) rfl b (o + j * 40) rfl (vl u) _ HVA.out.range Try.underlyingV rfl HI2V.out ?_) | (with_reducible refine wpList_allocV rfl (some 14) rfl rfl ?_; intro W2 hn2; have HN2 := Lib.hid hn2; have HT2 : Hid (W2.there wx.heap.size 0 (vl u).toArray.size) := (Lib.hid (by have := hn2.there; simpa [vl_length] using this)); clear hn2) | (with_reducible refine wpList_store_mid rfl 137 (.tmp 14) (.tmp 54) rfl wx.heap.size 0 (vl u).toArray rfl rfl HT2.out HIS.out (vl_all _) ?_))
      refine forget_wp (fun W => Hid (At W wx.heap.size 0 u ∧ Below wx.heap.size wx W)) (Lib.hid ?_) ?_
      · have hp2 := HN2.out.put u
        exact ⟨hp2.2.1, hp2.1⟩
      intro W3 HS3
      clear HN2 HT2 HVA HIS
      have HB3 := Lib.hid (HB.out.trans (HS3.out.2.mono hsz))
      have hX3 := HX7.out.next HB3.out
      have c0 := hX3.c0
      clear hX3
      have HREST := Lib.hid (restModuloE_any p u s6 B W3 HCX.out.1.prime HUM.out HUW.out (HS7.out.below HB3.out) HR6.out.1 HR6.out.2.1 (by omega))
      go_wp2_with (with_reducible refine wpList_load_mid rfl 137 (.tmp 14) rfl wx.heap.size 0 rfl (vl u) _ HS3.out.1.range Try.underlyingV rfl HI2V.out ?_)
      refine HREST.out.mono ?_
      rintro e W4 ⟨x, rfl, hb4, hr4, hxw⟩
      have HB4 := Lib.hid (HB3.out.trans (hb4.mono HB3.out.size))
      have HT4 := Lib.hid ((HT.out.below HS3.out.2).below hb4)
      have HRE : Hid (∀ i (h : i < M.length) (h' : i < (rs ++ [x]).length), Lin.RestE p B M[i] B.length (rs ++ [x])[i]) := Lib.hid (fun i h h' => by
        by_cases e : i = j
        · subst e
          rw [HUE.out, List.getElem_append_right (by have := HRL.out; omega)]
          simp only [HRL.out, Nat.sub_self, List.getElem_cons_zero]
          exact hr4
        · rw [List.getElem_append_left (by have := HRL.out; simp at h'; omega)]
          exact HR.out i h _)
      have HXW := Lib.hid hxw
      have HIX := Lib.hid (Try.infoVl x)
      have HIX2 : Hid ((Try.prog.info? 137).map (·.size) = some (vl x).toArray.size) := Lib.hid (by have := HIX.out; simpa using this)
      have hbx : w7.heap.size + 1 + M.length ≤ W4.heap.size := HT4.out.lt
      unfold vv
      clear hb4 hr4 hxw HREST HS3 HB HT HR c0
      go_upto_region 9 with (first | (with_reducible refine wpList_allocV rfl (some 15) rfl rfl ?_; intro W5 hn5; have HN5 := Lib.hid hn5; have HT5 : Hid (W5.there W4.heap.size 0 (vl x).toArray.size) := (Lib.hid (by have := hn5.there; simpa [vl_length] using this)); clear hn5) | (with_reducible refine wpList_store_mid rfl 137 (.tmp 15) (.tmp 60) rfl W4.heap.size 0 (vl x).toArray rfl rfl HT5.out HIX2.out (vl_all _) ?_))
      refine forget_wp (fun W => Hid (At W W4.heap.size 0 x ∧ Below W4.heap.size W4 W)) (Lib.hid ?_) ?_
      · have hp2 := HN5.out.put x
        exact ⟨hp2.2.1, hp2.1⟩
      intro W6 HS6
      clear HN5 HT5 HIX2
      have HB6 := Lib.hid (HB4.out.trans (HS6.out.2.mono HB4.out.size))
      have HT6 : Hid (Tb W6 w7.heap.size M.length Wl.length (pdZ Wl rs x j 0)) := Lib.hid (by rw [pdZ_cur Wl rs x Lin.zv]; exact HT4.out.below HS6.out.2)
      have HA6 := Lib.hid HS6.out.1
      clear HB4 HT4 HS6
      go_wp2
      go_loopw [63] (fun i wr => ∃ (q : Nat), q ≤ Wl.length ∧ i = .int .i64 q ∧ Hid (Below w7.heap.size w7 wr) ∧ Hid (Tb wr w7.heap.size M.length Wl.length (pdZ Wl rs x j q)) ∧ Hid (At wr W4.heap.size 0 x)) (fun i _ => Wl.length - (intOf i).toNat)
      case atStart => exact ⟨0, Nat.zero_le _, rfl, HB6, HT6, HA6⟩
      case round =>
        clear HB6 HT6 HA6
        obtain ⟨q2, hq2, rfl, HB, HT, HA⟩ := hrel
        obtain ⟨wy, hwy⟩ : ∃ wy : World, wy = wr := ⟨_, rfl⟩
        subst hwy
        by_cases hlq : q2 < Wl.length
        · refine Vs.cases (HO7.out.below HB.out) (fun _ _ hx _ => absurd hlq (by simp [hx])) (fun b2 o2 cap3 hv _ _ hc => ?_)
          obtain ⟨rfl, rfl⟩ : aw = some ⟨b2, o2, none⟩ ∧ cw = cap3 := by simpa using hv
          obtain ⟨t, ht⟩ : ∃ t, t = Wl[q2] := ⟨_, rfl⟩
          have HVT : Hid (At wy b2 (o2 + q2 * 40) t) := Lib.hid (by rw [ht]; exact hc q2 hlq)
          have HI2T := Lib.hid (Try.infoVl t)
          have HIT : Hid ((Try.prog.info? 137).map (·.size) = some (vl t).toArray.size) := Lib.hid (by have := HI2T.out; simpa using this)
          have HTW : Hid (Lin.Wd 40 t) := Lib.hid (by rw [ht]; exact HR7.out.2.1 _ (List.getElem_mem hlq))
          have HTN : Hid (t ≠ Lin.zv) := Lib.hid (by rw [ht]; exact HR7.out.1.ne (List.getElem_mem hlq))
          obtain ⟨hd40, _, _⟩ := ld_lt HTW.out HTN.out
          obtain ⟨d, hd⟩ : ∃ d, d = Lin.ld t := ⟨_, rfl⟩
          have HD := Lib.hid hd
          rw [← hd] at hd40
          obtain ⟨f, hf⟩ : ∃ f, f = x d := ⟨_, rfl⟩
          have HF : Hid (f = x (Lin.ld (Wl.getD q2 Lin.zv))) := Lib.hid (by rw [hf, hd, ht, getD_of_lt _ hlq])
          have HFD := Lib.hid hf
          have hsy : W4.heap.size < wy.heap.size := HA.out.lt
          clear hv hc ht hd hf
          go_upto_region 12 with (first | (with_reducible refine wpList_load_mid rfl 137 (.tmp 66) rfl b2 (o2 + q2 * 40) rfl (vl t) _ HVT.out.range Try.underlyingV rfl HI2T.out ?_) | (with_reducible refine wpList_allocV rfl (some 17) rfl rfl ?_; intro W7 hn7; have HN7 := Lib.hid hn7; have HT7 : Hid (W7.there wy.heap.size 0 (vl t).toArray.size) := (Lib.hid (by have := hn7.there; simpa [vl_length] using this)); clear hn7) | (with_reducible refine wpList_store_mid rfl 137 (.tmp 17) (.tmp 67) rfl wy.heap.size 0 (vl t).toArray rfl rfl HT7.out HIT.out (vl_all _) ?_))
          refine forget_wp (fun W => Hid (At W wy.heap.size 0 t ∧ Below wy.heap.size wy W)) (Lib.hid ?_) ?_
          · have hp2 := HN7.out.put t
            exact ⟨hp2.2.1, hp2.1⟩
          intro W8 HS8
          clear HN7 HT7 HVT HIT
          simp only [Act.put]
          have HT8 := Lib.hid (HT.out.below HS8.out.2)
          have HB8 := Lib.hid (HB.out.trans (HS8.out.2.mono HB.out.size))
          have S0 : At W8.drew W4.heap.size 0 x ∧ At W8.drew wy.heap.size 0 t ∧ W8.drew.cell? ⟨w7.heap.size, 0 + j, none⟩ = some (.slice (some ⟨w7.heap.size + 1 + j, 0, none⟩) Wl.length Wl.length) ∧ Hid (Below w7.heap.size w7 W8.drew ∧ Tb W8.drew w7.heap.size M.length Wl.length (pdZ Wl rs x j q2)) := by
            have a1 := HA.out.later HS8.out.2
            have a2 := HT8.out.below (Below.refl W8.heap.size W8).drew
            exact ⟨a1.later (Below.refl _ _).drew, HS8.out.1.later (Below.refl _ _).drew, by rw [Nat.zero_add]; exact a2.top.cell hlt, Lib.hid ⟨HB8.out.drew, a2⟩⟩
          have hcellX : ∀ W, (At W W4.heap.size 0 x ∧ At W wy.heap.size 0 t ∧ W.cell? ⟨w7.heap.size, 0 + j, none⟩ = some (.slice (some ⟨w7.heap.size + 1 + j, 0, none⟩) Wl.length Wl.length) ∧ Hid (Below w7.heap.size w7 W ∧ Tb W w7.heap.size M.length Wl.length (pdZ Wl rs x j q2))) → W.cell? ⟨W4.heap.size, d, none⟩ = some (.int .i64 f) := fun W h => by rw [HFD.out]; have := h.1.cell hd40; rwa [Nat.zero_add] at this
          refine wp_region_last (fun W => At W W4.heap.size 0 x ∧ At W wy.heap.size 0 t ∧ W.cell? ⟨w7.heap.size, 0 + j, none⟩ = some (.slice (some ⟨w7.heap.size + 1 + j, 0, none⟩) Wl.length Wl.length) ∧ Hid (Below w7.heap.size w7 W ∧ Tb W w7.heap.size M.length Wl.length (pdZ Wl rs x j q2))) 10 (by kernel_rfl) rfl (by kernel_rfl) ?_
          refine held_take (i := 0) (v := .slice (some ⟨w7.heap.size, 0, none⟩) M.length M.length) (some 68) rfl rfl (by kernel_rfl) (by kernel_rfl) (by kernel_rfl) (fun _ _ _ h => h) (yieldsIf_move (by kernel_rfl) rfl (by kernel_rfl)) S0 ?_
          refine held_take (i := 1) (v := .int .i64 (j : Int)) (some 69) rfl rfl (by kernel_rfl) (by kernel_rfl) (by kernel_rfl) (fun _ _ _ h => h) (yieldsIf_move (by kernel_rfl) rfl (by kernel_rfl)) S0 ?_
          refine held_take (i := 2) (v := .pointer (some ⟨w7.heap.size, 0 + j, none⟩)) (some 70) rfl rfl (by kernel_rfl) (by kernel_rfl) (by kernel_rfl) (fun _ _ _ h => h) (yieldsIf_index (by kernel_rfl) rfl (by kernel_rfl) (by kernel_rfl) (hidxS w7.heap.size 0 M.length hlt)) S0 ?_
          refine held_take (i := 3) (v := .slice (some ⟨w7.heap.size + 1 + j, 0, none⟩) Wl.length Wl.length) (some 71) rfl rfl (by kernel_rfl) (by kernel_rfl) (by kernel_rfl) (fun _ _ _ h => h) (yieldsIf_cell (by kernel_rfl) rfl (by kernel_rfl) (fun W h => hloadS W h.2.2.1)) S0 ?_
          refine held_take (i := 4) (v := .int .i64 (q2 : Int)) (some 72) rfl rfl (by kernel_rfl) (by kernel_rfl) (by kernel_rfl) (fun _ _ _ h => h) (yieldsIf_move (by kernel_rfl) rfl (by kernel_rfl)) S0 ?_
          refine held_take (i := 5) (v := .agg (vl t).toArray) (some 73) rfl rfl (by kernel_rfl) (by kernel_rfl) (by kernel_rfl) (fun _ _ _ h => h) (yieldsIf_load_mid (by kernel_rfl) 137 (.tmp 17) (by kernel_rfl) wy.heap.size 0 (by kernel_rfl) (vl t) _ (fun W h => h.2.1) Try.underlyingV rfl HI2T.out) S0 ?_
          refine held_enter (i := 6) (some 74) (f := 128) (args := #[vv t]) (by kernel_rfl) rfl rfl rfl (by kernel_rfl) (leadOf_any t _ HTW.out HTN.out) ?_ (fun c w' h => by cases h.1) (fun w' h => by cases h.1)
          rw [← HD.out]
          rintro e9 W9 ⟨he9, hb9⟩
          injection he9 with he9
          subst he9
          have S1 : At W9 W4.heap.size 0 x ∧ At W9 wy.heap.size 0 t ∧ W9.cell? ⟨w7.heap.size, 0 + j, none⟩ = some (.slice (some ⟨w7.heap.size + 1 + j, 0, none⟩) Wl.length Wl.length) ∧ Hid (Below w7.heap.size w7 W9 ∧ Tb W9 w7.heap.size M.length Wl.length (pdZ Wl rs x j q2)) :=
            ⟨S0.1.later hb9, S0.2.1.later hb9, later hb9 (Nat.le_refl _) S0.2.2.1, Lib.hid ⟨S0.2.2.2.out.1.trans (hb9.mono S0.2.2.2.out.1.size), S0.2.2.2.out.2.below hb9⟩⟩
          refine ⟨S1, ?_⟩
          clear hb9 S0
          refine held_take (i := 7) (v := .pointer (some ⟨W4.heap.size, d, none⟩)) (some 75) rfl rfl (by kernel_rfl) (by kernel_rfl) (by kernel_rfl) (fun _ _ _ h => h) (yieldsIf_index (by kernel_rfl) rfl (by kernel_rfl) (by kernel_rfl) (hindexV W4.heap.size hd40)) S1 ?_
          refine held_take (i := 8) (v := .int .i64 f) (some 76) rfl rfl (by kernel_rfl) (by kernel_rfl) (by kernel_rfl) (fun _ _ _ h => h) (yieldsIf_cell (by kernel_rfl) rfl (by kernel_rfl) (fun W h => hload W (hcellX W h))) S1 ?_
          refine held_take (i := 9) (v := .pointer (some ⟨w7.heap.size + 1 + j, 0 + q2, none⟩)) (some 77) rfl rfl (by kernel_rfl) (by kernel_rfl) (by kernel_rfl) (fun _ _ _ h => h) (yieldsIf_index (by kernel_rfl) rfl (by kernel_rfl) (by kernel_rfl) (hidxI (w7.heap.size + 1 + j) 0 Wl.length hlq)) S1 ?_
          refine held_none (i := 10) (v := .bool false) rfl rfl (by kernel_rfl) (by kernel_rfl) (by kernel_rfl) (fun _ _ _ h => h) (yieldsIf_move (by kernel_rfl) rfl (by kernel_rfl)) S1 ?_
          have hcell : W9.cell? ⟨w7.heap.size + 1 + j, 0 + q2, none⟩ = some (.int .i64 (pdZ Wl rs x j q2 j q2)) := by rw [Nat.zero_add]; exact (S1.2.2.2.out.2.rows j hlt).cell hlq
          have hfro : W9.frozen? ⟨w7.heap.size + 1 + j, 0 + q2, none⟩ = false := (S1.2.2.2.out.2.rows j hlt).frozen _
          have HT9 : Hid (Tb (W9.setCell ⟨w7.heap.size + 1 + j, 0 + q2, none⟩ (.int .i64 f)) w7.heap.size M.length Wl.length (pdZ Wl rs x j (q2 + 1))) := Lib.hid (by rw [Nat.zero_add]; exact S1.2.2.2.out.2.pd hlt HF.out)
          have HB9 : Hid (Below w7.heap.size w7 (W9.setCell ⟨w7.heap.size + 1 + j, 0 + q2, none⟩ (.int .i64 f))) := Lib.hid (S1.2.2.2.out.1.setCell (by show w7.heap.size ≤ w7.heap.size + 1 + j; omega) _)
          have HA9 : Hid (At (W9.setCell ⟨w7.heap.size + 1 + j, 0 + q2, none⟩ (.int .i64 f)) W4.heap.size 0 x) := Lib.hid (S1.1.setOther (by show w7.heap.size + 1 + j ≠ W4.heap.size; omega) _)
          refine wpAnyH_done (by kernel_rfl) (lastQ_storeI rfl (by kernel_rfl) (by kernel_rfl) (.tmp 77) (.tmp 76) (by kernel_rfl) (w7.heap.size + 1 + j) (0 + q2) f _ (by kernel_rfl) (by kernel_rfl) hcell hfro ?_) _
          simp only [Act.put, List.setIfInBounds_toArray, List.set_cons_zero, List.set_cons_succ]
          obtain ⟨WA, hWA⟩ : ∃ WA, WA = W9.setCell ⟨w7.heap.size + 1 + j, 0 + q2, none⟩ (.int .i64 f) := ⟨_, rfl⟩
          rw [← hWA] at HT9 HB9 HA9 ⊢
          clear hWA S1 hcellX hcell hfro HT8 HB8 HS8 HF HFD
          go_wp2
          go_roundw
          case rel => exact ⟨q2 + 1, by omega, by go_num, HB9, HT9, HA9⟩
          case measure => simp [intOf]; omega
        · have HQE : Hid (q2 = Wl.length) := Lib.hid (by omega)
          have HTN : Hid (Tb wy w7.heap.size M.length Wl.length (pdZ Wl (rs ++ [x]) Lin.zv (j + 1) 0)) := Lib.hid (by have := HT.out; rw [HQE.out] at this; exact this.pdNext HRL.out)
          have HLN : Hid ((rs ++ [x]).length = j + 1) := Lib.hid (by simp [HRL.out])
          clear HT
          go_wp2
          go_roundw
          case rel => exact ⟨j + 1, rs ++ [x], by omega, by go_num, HLN.out, HB, HTN, HRE⟩
          case measure => simp [intOf]; omega
    · have HJE : Hid (j = M.length) := Lib.hid (by omega)
      have HXX := Lib.hid (HX7.out.next HB.out)
      go_wp2
      go_ret
      have hlen : rs.length = M.length := by rw [HRL.out, HJE.out]
      have htw := HT.out.tw (lo := w.heap.size) HX7.out.below.size (by omega) (by omega)
      rw [HJE.out, ← hlen, pd_table, hlen] at htw
      refine ⟨_, rs.map (leadRow Wl), rfl, htw, HXX.out.below, P, HR4.out, ?_⟩
      by_cases h0 : k = 0 ∨ q < r
      · have hW0 : Wl = [] := by
          by_cases hk0 : k = 0
          · exact HR7.out.2.2.2.2 hk0
          · exact pg_low HFL.out (by omega) (by omega) (HR7.out.2.2.2.1 (by omega))
        refine Or.inl ⟨h0, ?_⟩
        rw [hW0]
        refine List.ext_getElem (by rw [List.length_map, List.length_map, hlen, HR5.out.1]) fun i h1 h2 => ?_
        simp [leadRow]
      · refine Or.inr ⟨h0, B, Wl, rs, HR6.out.2.2.2 (by omega), HR7.out.2.2.2.1 (by omega), ?_, rfl⟩
        rw [← HR5.out.2.2.2 (by omega)]
        exact ⟨hlen, HR.out⟩

set_option maxHeartbeats 1600000 in
theorem pageDifferentialOf_any (p r n q : Int) (dv mv lv : Value) (ds : List Int) (ms : List (List (List Int))) (ls : List (List Int)) (w : World) (h : Fi 0 w dv mv lv ds ms ls) (hd : ds.length ≤ 1048576) (hm : Bd3 1048576 ms) (hl : Bd2 1048576 ls) :
    Calls Try.prog 18 #[.agg #[.int .i64 p, dv, mv, lv], .int .i64 r, .int .i64 n, .int .i64 q] w (TbW (PdT p ds ms ls n.toNat r q) (celCode p ds ms ls r n q) w) := by
  have HX0 := Lib.hid (Fx.start (p := p) 34 h)
  have HCK := Lib.hid (checkCell_any p r n q dv mv lv ds ms ls _ HX0.out.fi hd hm hl)
  have c0 := HX0.out.c0
  have c1 := HX0.out.c1
  have c2 := HX0.out.c2
  have c3 := HX0.out.c3
  obtain ⟨k, hk⟩ : ∃ k, k = celCode p ds ms ls r n q := ⟨_, rfl⟩
  rw [← hk] at HCK ⊢
  have HKE := Lib.hid hk
  clear h hm hl hk
  go_enter Try.func18, Try.ntmps18
  go_wp2_with fail
  refine HCK.out.mono ?_
  rintro e w1 ⟨rfl, hb1⟩
  have HX1 := Lib.hid (HX0.out.next hb1)
  clear hb1 c0 c1 c2 c3 HCK
  have c0 := HX1.out.c0
  have c1 := HX1.out.c1
  have c2 := HX1.out.c2
  have c3 := HX1.out.c3
  by_cases hk : k = 0
  · subst hk
    obtain ⟨hfil, hcr, hr, hcq⟩ := celCode_zero HKE.out.symm
    obtain ⟨k, rfl⟩ : ∃ k : Nat, n = (k : Int) := ⟨n.toNat, by have := hr.1; omega⟩
    have HB := Lib.hid (pageDifferential_any p k r q dv mv lv ds ms ls _ HX1.out.fi hfil (by have := hr.2; omega) (by omega) (by omega))
    clear hfil hr hcr hcq
    go_wp2_with fail
    refine HB.out.mono ?_
    rintro e w2 ⟨u2, R, rfl, ht2, hb2, hr2⟩
    have HT2 := Lib.hid ht2
    have HX2 := Lib.hid (HX1.out.next hb2)
    have HR2 := Lib.hid hr2
    have hs1 := HX1.out.below.size
    clear ht2 hb2 hr2 HB
    go_wp2
    go_ret2
    exact ⟨u2, R, 0, rfl, HT2.out.wider hs1, HX2.out.below, TbOut.of_yes rfl HR2.out⟩
  · have hne2 : (k != 0) = true := by simp [hk]
    have hne3 : (k == 0) = false := by simp [hk]
    have HNE := Lib.hid hk
    clear hk
    go_wp2
    go_ret2
    exact ⟨_, [], k, rfl, TW.nil _ _ _, HX1.out.below, TbOut.of_no HNE.out⟩
end Go.Proofs.Ytjkbfnkaaadlcaa
