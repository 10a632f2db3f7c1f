/-
  impl.pageDifferential by its contract: the rows are the classes' numbers.
-/
import Derived.Test.YtpdkfidmmjlmnabCls
import Derived.Test.YtpdkfidmmjlmnabNeg
import Derived.Test.YtpdkfidmmjlmnabFi2
import Derived.Test.YtpdkfidmmjlmnabDrm
namespace Go.Proofs.Ytpdkfidmmjlmnab
open Go.RowKit

/-- A table in blocks of its own. -/
def PdR (P : List (List Int) → Prop) (w : World) (e : Ending) (w' : World) : Prop :=
  ∃ (u : Value) (out : List (List Int)), e = .returned u ∧ Rw2 w.heap.size w'.heap.size w' u out ∧ Below w.heap.size w w' ∧ P out
theorem restE_ex {p : Int} (hp : 0 < p) {L : List Lin.V} (hL : Lin.Red p L) {v : Lin.V} (hv : Lin.Md p v) : ∀ k, k ≤ L.length → ∃ r, Lin.RestE p L v k r := by
  intro k
  induction k with
  | zero => exact fun _ => ⟨v, Lin.RestE.start hv⟩
  | succ k ih =>
    intro hk
    obtain ⟨r, hr⟩ := ih (by omega)
    exact ⟨_, hr.step hp hL (by omega)⟩
theorem imRests_ex {p : Int} (hp : 0 < p) {B : List Lin.V} (hB : Lin.Red p B) : ∀ (M : List Lin.V), (∀ u ∈ M, Lin.Md p u) → ∃ rs, ImRests p B M rs := by
  intro M
  induction M with
  | nil => exact fun _ => ⟨[], rfl, fun i h => absurd h (Nat.not_lt_zero _)⟩
  | cons v M ih =>
    intro hM
    obtain ⟨rs, h1, h2⟩ := ih (fun u hu => hM u (by simp [hu]))
    obtain ⟨r, hr⟩ := restE_ex hp hB (hM v (by simp)) B.length (Nat.le_refl _)
    refine ⟨r :: rs, by simp [h1], fun i h h' => ?_⟩
    cases i with
    | zero => exact hr
    | succ i => exact h2 i (by simpa using h) (by simpa using h')

set_option maxHeartbeats 12800000 in
set_option maxRecDepth 100000 in
theorem pageDifferential_any (p : Int) (k : Nat) (r q : Int) (dv mv lv : Value) (ds : List Int) (ms : List (List (List Int))) (ls : List (List Int)) (w : World) (h : Fi 0 w dv mv lv ds ms ls) (hf : IsFil p ds ms ls) (hk : k < ds.length) (hr : 0 ≤ r ∧ r ≤ 8) (hq : 0 ≤ q ∧ q ≤ 5) :
    Calls Try.prog 109 #[.agg #[.int .i64 p, dv, mv, lv], .int .i64 r, .int .i64 (k : Int), .int .i64 q] w (PdR (PdT p ds ms ls k r q) w) := by
  have HX0 := Lib.hid (Fx.start (p := p) 33 h)
  have HCX := Lib.hid hf.1
  have HFL := Lib.hid hf
  have hd8 := (dimN_le8 hf.1 k).1
  have hp1 := hf.1.1.prime.lo1
  have hl6 := hf.1.1.len1
  obtain ⟨n1, hn1⟩ : ∃ n1, n1 = (k : Int) - 1 := ⟨_, rfl⟩
  obtain ⟨q1, hq1⟩ : ∃ q1, q1 = q - r := ⟨_, rfl⟩
  have hw1 : IntKind.i64.wrap ((k : Int) - 1) = n1 := by rw [hn1]; exact IntWalk.i64_in _ (by omega)
  have hw2 : IntKind.i64.wrap (q - r) = q1 := by rw [hq1]; exact IntWalk.i64_in _ (by omega)
  have HPS : Hid (∀ W, Fi 0 W dv mv lv ds ms ls → Calls Try.prog 105 #[.agg #[.int .i64 p, dv, mv, lv], .int .i64 r, .int .i64 (k : Int), .int .i64 q] W (VsR (SpF p (dimN ds (k : Int)) (PgS p ds ms ls k r q)) W)) := Lib.hid (fun W hW => pageSpace_any p k r q dv mv lv ds ms ls W hW hf hk (by omega) (by omega))
  have HDI : Hid (∀ W sl P, Fi 0 W dv mv lv ds ms ls → Vs 0 W sl P → SpF p (dimN ds (k : Int)) (PgS p ds ms ls k r q) P → Calls Try.prog 161 #[.agg #[.int .i64 p, dv, mv], .int .i64 (k : Int), sl] W (VsR (fun M => M.length = P.length ∧ (∀ u ∈ M, Lin.Md p u) ∧ (∀ u ∈ M, Lin.Wd 40 u) ∧ (0 < k → M = dimgs p ds ms k P)) W)) := Lib.hid (fun W sl P hW hV hP => by
    have hs := hP.short
    by_cases h0 : k = 0
    · subst h0
      have := differentialsOf_0 p sl P dv mv ds ms W hW.cx hV (by omega)
      refine this.mono (fun e w' ⟨s, L, h1, h2, h3, h4⟩ => ⟨s, L, h1, h2, h3, by rw [h4]; simp, fun u hu => ?_, fun u hu => ?_, fun hh => absurd hh (by omega)⟩)
      · rw [h4] at hu; rw [(List.mem_replicate.1 hu).2]; exact Lin.zv_md (by omega)
      · rw [h4] at hu; rw [(List.mem_replicate.1 hu).2]; exact Lin.zv_wd 40
    · have := differentialsOf_s p k sl P dv mv ds ms W hW.cx hf.1 hk (by omega) hV hP.1.md hP.2.1 (by omega)
      have hok := cyc_ok hf.1 hk
      refine this.mono (fun e w' ⟨s, L, h1, h2, h3, h4⟩ => ⟨s, L, h1, h2, h3, by rw [h4]; simp, fun u hu => ?_, fun u hu => ?_, fun _ => h4⟩)
      · rw [h4] at hu; obtain ⟨y, _, rfl⟩ := List.mem_map.1 hu; exact dimg_md (by omega) _ _ _
      · rw [h4] at hu; obtain ⟨y, _, rfl⟩ := List.mem_map.1 hu; exact wd_wider (dimg_wd hok.1 hok.2.1 y) (by have := hok.2.2; omega))
  have HBO : Hid (∀ W, Fi 0 W dv mv lv ds ms ls → Calls Try.prog 97 #[.agg #[.int .i64 p, dv, mv, lv], .int .i64 r, .int .i64 n1, .int .i64 q1] W (VsR (fun B => Lin.Red p B ∧ (∀ u ∈ B, Lin.Wd 40 u) ∧ B.length ≤ 8 ∧ (0 < k → SpF p (dimN ds ((k - 1 : Nat) : Int)) (BotS p ds ms ls (k - 1) r (q - r)) B)) W)) := Lib.hid (fun W hW => by
    rw [hn1, hq1]
    by_cases h0 : k = 0
    · subst h0
      have := bottomSpace_neg p r (q - r) dv mv lv ds ms ls W hW hf (by omega) (by omega)
      exact this.mono (fun e w' ⟨s, L, h1, h2, h3, h4⟩ => ⟨s, L, h1, h2, h3, by rw [h4]; exact Lin.Red.nil p, by rw [h4]; simp, by rw [h4]; simp, fun hh => absurd hh (by omega)⟩)
    · have := bottomSpace_any p (k - 1) r (q - r) dv mv lv ds ms ls W hW hf (by omega) (by omega) (by omega)
      rw [show (((k - 1 : Nat) : Int)) = (k : Int) - 1 by omega] at this ⊢
      have h8 := (dimN_le8 hf.1 (k - 1)).1
      rw [show (((k - 1 : Nat) : Int)) = (k : Int) - 1 by omega] at h8
      exact this.mono (fun e w' ⟨s, L, h1, h2, h3, h4⟩ => ⟨s, L, h1, h2, h3, h4.1, fun u hu => wd_wider (h4.2.1 u hu) (by omega), by have := h4.short; omega, fun _ => h4⟩))
  have HBA : Hid (∀ W, Fi 0 W dv mv lv ds ms ls → Calls Try.prog 105 #[.agg #[.int .i64 p, dv, mv, lv], .int .i64 r, .int .i64 n1, .int .i64 q1] W (VsR (fun B => Lin.Red p B ∧ (∀ u ∈ B, Lin.Wd 40 u) ∧ B.length ≤ 8 ∧ (0 < k → SpF p (dimN ds ((k - 1 : Nat) : Int)) (PgS p ds ms ls (k - 1) r (q - r)) B) ∧ (k = 0 → B = [])) W)) := Lib.hid (fun W hW => by
    rw [hn1, hq1]
    by_cases h0 : k = 0
    · subst h0
      have := pageSpace_neg p r (q - r) dv mv lv ds ms ls W hW hf (by omega) (by omega)
      exact this.mono (fun e w' ⟨s, L, h1, h2, h3, h4⟩ => ⟨s, L, h1, h2, h3, by rw [h4]; exact Lin.Red.nil p, by rw [h4]; simp, by rw [h4]; simp, fun hh => absurd hh (by omega), fun _ => h4⟩)
    · have := pageSpace_any p (k - 1) r (q - r) dv mv lv ds ms ls W hW hf (by omega) (by omega) (by omega)
      rw [show (((k - 1 : Nat) : Int)) = (k : Int) - 1 by omega] at this ⊢
      have h8 := (dimN_le8 hf.1 (k - 1)).1
      rw [show (((k - 1 : Nat) : Int)) = (k : Int) - 1 by omega] at h8
      exact this.mono (fun e w' ⟨s, L, h1, h2, h3, h4⟩ => ⟨s, L, h1, h2, h3, h4.1, fun u hu => wd_wider (h4.2.1 u hu) (by omega), by have := h4.short; omega, fun _ => h4, fun hh => absurd hh h0⟩))
  have c0 := HX0.out.c0
  have c1 := HX0.out.c1
  have c2 := HX0.out.c2
  have c3 := HX0.out.c3
  have HXD := Lib.hid (HX0.out.next (Below.refl _ _).drew)
  clear h hf hn1 hq1
  go_enter Try.func109, Try.ntmps109
  go_wp2
  go_region_held3 (fun w' => w'.cell? ⟨w.heap.size, 0, none⟩ = some (.int .i64 p) ∧ w'.cell? ⟨w.heap.size, 1, none⟩ = some dv ∧ w'.cell? ⟨w.heap.size, 2, none⟩ = some mv ∧ w'.cell? ⟨w.heap.size, 3, none⟩ = some lv ∧ Hid (Fx w w' w.heap.size p dv mv lv ds ms ls))
    (first | exact Fx.all HX0 | exact Fx.all HXD | exact Fx.all HX4 | exact Fx.all HX5 | go_keep)
    (first
      | (go_at_call 105; refine (HPS.out _ HXD.out.fi).mono ?_; rintro e w4 ⟨s4, P, rfl, hb4, ho4, hr4⟩; have HX4 := Lib.hid (HXD.out.next hb4); have HR4 := Lib.hid hr4; have HO4 := Lib.hid (ho4.vs.lower (Nat.zero_le _)); clear ho4 hb4 hr4)
      | (go_at_call 161; refine (HDI.out _ s4 P HX4.out.fi HO4.out HR4.out).mono ?_; rintro e w5 ⟨s5, M, rfl, hb5, ho5, hr5⟩; have HX5 := Lib.hid (HX4.out.next hb5); have HO5 := Lib.hid (ho5.vs.lower (Nat.zero_le _)); have HR5 := Lib.hid hr5; clear ho5 hb5 hr5))
  have c0 := HX5.out.c0
  have c1 := HX5.out.c1
  have c2 := HX5.out.c2
  have c3 := HX5.out.c3
  obtain ⟨am, cm, hvm⟩ := Vs.shape HO5.out
  subst hvm
  have hm8 : M.length ≤ 8 := by have := HR5.out.1; have := HR4.out.short; omega
  clear HPS HDI HX4 HX0 HXD HO4
  go_wp2_with fail
  refine (HBO.out _ HX5.out.fi).mono ?_
  rintro e w6 ⟨s6, B, rfl, hb6, ho6, hr6⟩
  have HX6 := Lib.hid (HX5.out.next hb6)
  have HR6 := Lib.hid hr6
  have HO6 := Lib.hid (ho6.vs.lower (Nat.zero_le _))
  have HM6 := Lib.hid (HO5.out.below hb6)
  have hb8 : B.length ≤ 8 := hr6.2.2.1
  clear ho6 hb6 hr6 HBO HX5 HO5 c0 c1 c2 c3
  have c0 := HX6.out.c0
  have c1 := HX6.out.c1
  have c2 := HX6.out.c2
  have c3 := HX6.out.c3
  go_wp2_with fail
  refine (HBA.out _ HX6.out.fi).mono ?_
  rintro e w7 ⟨s7, Wl, rfl, hb7, ho7, hr7⟩
  have HX7 := Lib.hid (HX6.out.next hb7)
  have HR7 := Lib.hid hr7
  have HO7 := Lib.hid (ho7.vs.lower (Nat.zero_le _))
  have HM7 := Lib.hid (HM6.out.below hb7)
  have HS7 := Lib.hid (HO6.out.below hb7)
  have hw8 : Wl.length ≤ 8 := hr7.2.2.1
  obtain ⟨aw, cw, hvw⟩ := Vs.shape HO7.out
  subst hvw
  clear ho7 hb7 hr7 HBA HX6 HO6 HM6 c0 c1 c2 c3 hw1 hw2
  obtain ⟨rs, hrs⟩ := imRests_ex (by omega) HR6.out.1 M HR5.out.2.1
  have HRS := Lib.hid hrs
  clear hrs
  obtain ⟨m, hme⟩ : ∃ m, m = M.length := ⟨_, rfl⟩
  have HME := Lib.hid hme
  have HTSL : Hid ((rs.map (leadRow Wl)).length = m) := Lib.hid (by rw [List.length_map, HRS.out.len, hme])
  have hmk := run_make_row' (P := Try.prog) 26 22 (.slice none 0 0) 24 Try.underlying26 Try.infoS rfl .i64 .i64 m (by omega) (by omega)
  rw [← hme] at hm8 ⊢
  clear hme
  have hs7 : w.heap.size < w7.heap.size := HX7.out.lt
  go_wp2
  clear hmk
  go_loopw [45] (fun i wr => ∃ (j : Nat) (f : Nat → Value) (b : Nat → Nat), j ≤ m ∧ i = .int .i64 j ∧ Hid (Below w7.heap.size w7 wr) ∧ Hid (Fill2 wr w7.heap.size m j f b (rs.map (leadRow Wl)))) (fun i _ => m - (intOf i).toNat)
  case atStart => exact ⟨0, _, _, Nat.zero_le _, rfl, Lib.hid (below_alloc1 _ _), Lib.hid (Fill2.start (World.rowIs_made w7 _ m _) (by simp) _)⟩
  case round =>
    obtain ⟨j, f, bb, hj, rfl, HB, HF⟩ := hrel
    obtain ⟨wx, hwx⟩ : ∃ wx : World, wx = wr := ⟨_, rfl⟩
    subst hwx
    have hsz : w7.heap.size ≤ wx.heap.size := HB.out.size
    by_cases hlt : j < m
    · refine Vs.cases (HM7.out.below HB.out) (fun _ _ hx _ => absurd hlt (by rw [HME.out, hx]; simp)) (fun b o cap2 hv _ _ hc => ?_)
      obtain ⟨rfl, rfl⟩ : am = some ⟨b, o, none⟩ ∧ cm = cap2 := by simpa using hv
      have hlt2 : j < M.length := by have := HME.out; omega
      have hltr : j < rs.length := by rw [HRS.out.len]; exact hlt2
      obtain ⟨u, hu⟩ : ∃ u, u = M[j] := ⟨_, rfl⟩
      have HVA : Hid (At wx b (o + j * 40) u) := Lib.hid (by rw [hu]; exact hc j hlt2)
      have HI2V := Lib.hid (Try.infoVl u)
      have HIS : Hid ((Try.prog.info? 161).map (·.size) = some (vl u).toArray.size) := Lib.hid (by have := HI2V.out; simpa using this)
      have HUM : Hid (Lin.Md p u) := Lib.hid (by rw [hu]; exact HR5.out.2.1 _ (List.getElem_mem hlt2))
      have HUW : Hid (Lin.Wd 40 u) := Lib.hid (by rw [hu]; exact HR5.out.2.2.1 _ (List.getElem_mem hlt2))
      have HUE : Hid (Lin.RestE p B u B.length rs[j]) := Lib.hid (by rw [hu]; exact HRS.out.at' j hlt2 hltr)
      have hjm : (j : Int) < (m : Int) := by omega
      clear hv hc hu
      go_upto_region 8 with (first | (with_reducible refine wpList_load_mid rfl 161 (.tmp 48) rfl b (o + j * 40) rfl (vl u) _ HVA.out.range Try.underlyingV rfl HI2V.out ?_) | (with_reducible refine wpList_allocV rfl (some 14) rfl rfl ?_; intro W2 hn2; have HN2 := Lib.hid hn2; have HT2 : Hid (W2.there wx.heap.size 0 (vl u).toArray.size) := (Lib.hid (by have := hn2.there; simpa [vl_length] using this)); clear hn2) | (with_reducible refine wpList_store_mid rfl 161 (.tmp 14) (.tmp 49) rfl wx.heap.size 0 (vl u).toArray rfl rfl HT2.out HIS.out (vl_all _) ?_))
      refine forget_wp (fun W => Hid (At W wx.heap.size 0 u ∧ Below wx.heap.size wx W)) (Lib.hid ?_) ?_
      · have hp2 := HN2.out.put u
        exact ⟨hp2.2.1, hp2.1⟩
      intro W3 HS3
      clear HN2 HT2 HVA HIS
      have HB3 := Lib.hid (HB.out.trans (HS3.out.2.mono hsz))
      have HF3 := Lib.hid (HF.out.below HS3.out.2)
      have hX3 := HX7.out.next HB3.out
      have c0 := hX3.c0
      clear hX3
      have HCL := Lib.hid (classNumbers_any p u s6 (.slice aw Wl.length cw) B Wl W3 HCX.out.1.prime HUM.out HUW.out (HS7.out.below HB3.out) HR6.out.1 HR6.out.2.1 (by omega) (HO7.out.below HB3.out) HR7.out.1 HR7.out.2.1 (by omega))
      go_wp2_with (with_reducible refine wpList_load_mid rfl 161 (.tmp 14) rfl wx.heap.size 0 rfl (vl u) _ HS3.out.1.range Try.underlyingV rfl HI2V.out ?_)
      refine HCL.out.mono ?_
      rintro e W4 ⟨y, x, rfl, hw4, hb4, hr4⟩
      obtain rfl : x = rs[j] := Lin.RestE.unique (by omega) HR6.out.1 hr4 HUE.out
      obtain ⟨ay, cy, rfl⟩ := hw4.shape
      have hlen : j < (rs.map (leadRow Wl)).length := by rw [HTSL.out]; exact hlt
      have hst := HF3.out.step hb4 hlen (by rw [List.getElem_map]; exact hw4)
      have hr5 := HF3.out.row.of_block (hb4.block _ HF3.out.row.lt)
      have g1 := hr5.cell hlt
      have g2 := hr5.frozen j
      have HST := Lib.hid hst
      have hs3 : w7.heap.size ≤ W3.heap.size := HB3.out.size
      have HB4 : Hid (Below w7.heap.size w7 (W4.setCell ⟨w7.heap.size, j, none⟩ (.slice ay (leadRow Wl rs[j]).length cy))) := Lib.hid ((HB3.out.trans (hb4.mono hs3)).setCell (Nat.le_refl _) _)
      clear hw4 hb4 hr4 hst hr5 HF HF3 HB HB3 HCL HS3 c0 hlen
      go_wp2
      go_roundw
      case rel => first | exact ⟨j + 1, _, _, by omega, by go_num, HB4, HST⟩ | ((repeat apply Exists.intro); exact ⟨⟨j + 1, _, _, by omega, by go_num, HB4, HST⟩, rfl⟩)
      case measure => simp [intOf]; omega
    · have HJE : Hid (j = m) := Lib.hid (by omega)
      have HXX := Lib.hid (HX7.out.next HB.out)
      have hjm : ¬ (j : Int) < (m : Int) := by omega
      have HRW : Hid (Rw2 w.heap.size wx.heap.size wx (.slice (some ⟨w7.heap.size, 0, none⟩) m m) (rs.map (leadRow Wl))) := Lib.hid (by
        have h0 := HF.out
        rw [HJE.out] at h0
        exact (h0.rw2 HTSL.out.symm (by omega)).wider (by omega) (Nat.le_refl _))
      go_wp2
      go_ret
      have hlen : rs.length = M.length := HRS.out.len
      refine ⟨_, rs.map (leadRow Wl), rfl, HRW.out, HXX.out.below, P, HR4.out, ?_⟩
      by_cases h0 : k = 0 ∨ q < r
      · have hW0 : Wl = [] := by
          by_cases hk0 : k = 0
          · exact HR7.out.2.2.2.2 hk0
          · exact pg_low HFL.out (by omega) (by omega) (HR7.out.2.2.2.1 (by omega))
        refine Or.inl ⟨h0, ?_⟩
        rw [hW0]
        refine List.ext_getElem (by rw [List.length_map, List.length_map, hlen, HR5.out.1]) fun i h1 h2 => ?_
        simp [leadRow]
      · refine Or.inr ⟨h0, B, Wl, rs, HR6.out.2.2.2 (by omega), HR7.out.2.2.2.1 (by omega), ?_, rfl⟩
        rw [← HR5.out.2.2.2 (by omega)]
        exact HRS.out
end Go.Proofs.Ytpdkfidmmjlmnab
