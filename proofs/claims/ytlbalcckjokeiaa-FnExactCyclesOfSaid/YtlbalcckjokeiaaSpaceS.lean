/-
  Spaces of rows in the reference model: l01Spaces, spec.ReduceRows by their contracts.
-/
import Derived.Test.YtlbalcckjokeiaaSpace
import Derived.Test.YtlbalcckjokeiaaEch3
import Derived.Test.YtlbalcckjokeiaaSpIs
namespace Go.Proofs.Ytlbalcckjokeiaa
open Go.RowKit

/-- The limits that hold for all lists alike. -/
def SpTop (p n : Int) : Prop := IsP p ∧ (0 ≤ n ∧ n ≤ 40)
def SpOne (p n : Int) (rows : List (List Int)) : Prop := rows.length ≤ 40 ∧ TabOk p (rows.length : Int) n rows
def SpsOk (p n : Int) (ls : List (List (List Int))) : Prop := SpTop p n ∧ ∀ r ∈ ls, SpOne p n r
open Classical in
noncomputable def spsCode (p n : Int) (ls : List (List (List Int))) : Int := if SpsOk p n ls then 0 else 2
theorem spsCode_ok {p n : Int} {ls : List (List (List Int))} (h : SpsOk p n ls) : spsCode p n ls = 0 := if_pos h
theorem spsCode_no {p n : Int} {ls : List (List (List Int))} (h : ¬ SpsOk p n ls) : spsCode p n ls = 2 := if_neg h
def SpsR (p n : Int) (ls : List (List (List Int))) (w : World) (e : Ending) (w' : World) : Prop := e = .returned (.int .i64 (spsCode p n ls)) ∧ Below w.heap.size w w'
theorem spsR_ok {p n : Int} {ls : List (List (List Int))} {w w' : World} (h : SpsOk p n ls) (hb : Below w.heap.size w w') : SpsR p n ls w (.returned (.int .i64 0)) w' := ⟨by rw [spsCode_ok h], hb⟩
theorem spsR_no {p n : Int} {ls : List (List (List Int))} {w w' : World} (h : ¬ SpsOk p n ls) (hb : Below w.heap.size w w') : SpsR p n ls w (.returned (.int .i64 2)) w' := ⟨by rw [spsCode_no h], hb⟩

set_option maxHeartbeats 3200000 in
set_option maxRecDepth 100000 in
theorem l01Spaces_any (p n : Int) (v : Value) (ls : List (List (List Int))) (w : World) (h : L3 0 w v ls) (hm : Bd3 1048576 ls) :
    Calls Try.prog 58 #[.int .i64 p, .int .i64 n, v] w (SpsR p n ls w) := by
  have HM := Lib.hid hm
  have H := Lib.hid h
  have hml : ls.length ≤ 1048576 := hm.1
  obtain ⟨ad, cap, rfl⟩ := Sl.shape h
  clear h hm
  by_cases hp : IsP p
  · have HP := Lib.hid hp
    clear hp
    by_cases hr : 0 ≤ n ∧ n ≤ 40
    · have HR := Lib.hid hr
      clear hr
      go_enter Try.func58, Try.ntmps58
      go_wp2_with fail
      refine (spprime_yes HP.out _).mono ?_
      rintro e w' ⟨rfl, rfl⟩
      go_wp2_with fail
      refine (spin_yes HR.out _).mono ?_
      rintro e w' ⟨rfl, rfl⟩
      go_wp2
      go_loopw [7] (fun i wr => ∃ (k : Nat), k ≤ ls.length ∧ i = .int .i64 k ∧ Hid (Below w.heap.size w wr) ∧ Hid (∀ j (h : j < ls.length), j < k → SpOne p n ls[j])) (fun i _ => ls.length - (intOf i).toNat)
      case atStart => exact ⟨0, Nat.zero_le _, rfl, Lib.hid (Below.refl _ _), Lib.hid (fun _ _ h => absurd h (Nat.not_lt_zero _))⟩
      case round =>
        obtain ⟨k, hk, rfl, HB, HD⟩ := hrel
        by_cases hlt : k < ls.length
        · refine Sl.cases H.out (fun _ _ hx _ => absurd hlt (by simp [hx])) (fun b o c2 hvv _ _ hc => ?_)
          obtain ⟨rfl, rfl⟩ : ad = some ⟨b, o, none⟩ ∧ cap = c2 := by simpa using hvv
          obtain ⟨u, hu, hr⟩ := hc k hlt
          obtain ⟨t, ht⟩ : ∃ t, t = ls[k] := ⟨_, rfl⟩
          have HTE := Lib.hid ht
          have HTB : Hid (Bd2 1048576 t) := Lib.hid (by rw [ht]; exact HM.out.2 _ (List.getElem_mem hlt))
          rw [← ht] at hr
          have htl : t.length ≤ 1048576 := HTB.out.1
          obtain ⟨au, cu, rfl⟩ := Sl.shape hr
          have hu2 := later HB.out (Nat.le_refl _) hu
          have HRT := Lib.hid (hr.below HB.out)
          have hq1 : (k : Int) < (ls.length : Int) := by omega
          have hq2 : (0 : Int) ≤ (k : Int) := by omega
          have hq3 : ((k : Int)).toNat = k := by omega
          clear hvv hc hu hr ht
          by_cases h40 : t.length ≤ 40
          · have hdec : decide ((40 : Int) < (t.length : Int)) = false := by simp; omega
            have HE := Lib.hid (fun (m2 : Nat) => l01Table_any p t.length n _ t (wr.drewN m2) HP.out (HRT.out.below (drewN_below wr m2)) HTB.out)
            by_cases htab : TabOk p t.length n t
            · have HEY : Hid (∀ m2, Calls Try.prog 110 #[.int .i64 p, .slice au t.length cu, .int .i64 t.length, .int .i64 n] (wr.drewN m2) (QW (.bool true) (wr.drewN m2))) := Lib.hid (fun m2 => bw_yes (HE.out m2) htab)
              have HTY := Lib.hid htab
              clear htab HE
              go_wp2
              go_quiet ((go_at_call 110; exact qw_quiet (HEY.out _)))
              clear hu2 hq1 hq2 hq3 hdec
              have HB2 := Lib.hid (HB.out.trans ((drewN_below wr nq).mono HB.out.size))
              generalize wr.drewN nq = w2 at *
              have HD2 : Hid (∀ j (h : j < ls.length), j < k + 1 → SpOne p n ls[j]) := Lib.hid (fun j h1 hjk => by
                by_cases e : j = k
                · subst e; rw [← HTE.out]; exact ⟨h40, HTY.out⟩
                · exact HD.out j h1 (by omega))
              go_wp2
              go_roundw
              case rel => exact ⟨k + 1, by omega, by go_num, HB2, HD2⟩
              case measure => simp [intOf]; omega
            · have HEY : Hid (∀ m2, Calls Try.prog 110 #[.int .i64 p, .slice au t.length cu, .int .i64 t.length, .int .i64 n] (wr.drewN m2) (QW (.bool false) (wr.drewN m2))) := Lib.hid (fun m2 => bw_no (HE.out m2) htab)
              have HTY := Lib.hid htab
              clear htab HE
              go_wp2
              go_quiet ((go_at_call 110; exact qw_quiet (HEY.out _)))
              clear hu2 hq1 hq2 hq3 hdec
              have HB2 := Lib.hid (HB.out.trans ((drewN_below wr nq).mono HB.out.size))
              generalize wr.drewN nq = w2 at *
              go_wp2
              go_ret
              exact spsR_no (fun h => HTY.out (by have := h.2 _ (List.getElem_mem hlt); rw [← HTE.out] at this; exact this.2)) HB2.out
          · have hdec : decide ((40 : Int) < (t.length : Int)) = true := by simp; omega
            have H40 := Lib.hid h40
            have h41 : (40 : Int) < (t.length : Int) := by omega
            clear h40
            go_wp2
            go_quiet (fail)
            clear hu2 hq1 hq2 hq3 hdec
            have HB2 := Lib.hid (HB.out.trans ((drewN_below wr nq).mono HB.out.size))
            generalize wr.drewN nq = w2 at *
            go_wp2
            go_ret
            exact spsR_no (fun h => H40.out (by have := h.2 _ (List.getElem_mem hlt); rw [← HTE.out] at this; exact this.1)) HB2.out
        · go_wp2
          go_ret
          exact spsR_ok ⟨⟨HP.out, HR.out⟩, all_of_lt (fun j hj => HD.out j hj (by omega))⟩ HB.out
    · have HR := Lib.hid hr
      clear hr
      go_enter Try.func58, Try.ntmps58
      go_wp2_with fail
      refine (spprime_yes HP.out _).mono ?_
      rintro e w' ⟨rfl, rfl⟩
      go_wp2_with fail
      refine (spin_no HR.out _).mono ?_
      rintro e w' ⟨rfl, rfl⟩
      go_wp2
      go_ret
      exact spsR_no (fun h => HR.out h.1.2) (Below.refl _ _)
  · have HP := Lib.hid hp
    clear hp
    go_enter Try.func58, Try.ntmps58
    go_wp2_with fail
    refine (spprime_no HP.out _).mono ?_
    rintro e w' ⟨rfl, rfl⟩
    go_wp2
    go_ret
    exact spsR_no (fun h => HP.out h.1.1) (Below.refl _ _)

/-- What the model answers: a table somewhere, and a code. -/
def SpS (p : Int) (n : Nat) (S : Lin.V → Prop) (c0 : Int) (w : World) (e : Ending) (w' : World) : Prop :=
  ∃ (u : Value) (out : List (List Int)) (c : Int), e = .returned (.tuple #[u, .int .i64 c]) ∧ L2 0 w' u out ∧ Below w.heap.size w w' ∧ SpOut p n S c0 out c
theorem rows_toL {p : Int} {n : Nat} {rows : List (List Int)} (h : ∀ r ∈ rows, RowOk p n r) : (rows.map ofL).map (toL n) = rows := by
  rw [List.map_map]
  have : ∀ r ∈ rows, (toL n ∘ ofL) r = id r := fun r hr => toL_ofL (by have := (h r hr).1; omega)
  rw [List.map_congr_left this, List.map_id]
theorem spsOne {p n : Int} {rows : List (List Int)} : SpsOk p n [rows] ↔ SpOk p n rows :=
  ⟨fun h => ⟨h.1.1, h.1.2, (h.2 rows (by simp)).1, (h.2 rows (by simp)).2⟩, fun h => ⟨⟨h.1, h.2.1⟩, fun r hr => by rw [List.mem_singleton.1 hr]; exact h.2.2⟩⟩
theorem spsOne_code {p n : Int} {rows : List (List Int)} : spsCode p n [rows] = spCode p n rows := by
  by_cases h : SpOk p n rows
  · rw [spCode_ok h, spsCode_ok (spsOne.2 h)]
  · rw [spCode_no h, spsCode_no (fun hh => h (spsOne.1 hh))]
theorem nil2 (w : World) : L2 0 w (.slice none 0 0) [] := Or.inl ⟨rfl, _, _, rfl⟩

set_option maxHeartbeats 1600000 in
theorem spReduceRows_any (p n : Int) (v : Value) (rows : List (List Int)) (w : World) (h : L2 0 w v rows) (hm : Bd2 1048576 rows) :
    Calls Try.prog 16 #[.int .i64 p, .int .i64 n, v] w (SpS p n.toNat (Lin.Sp p (rows.map ofL)) (spCode p n rows) w) := by
  obtain ⟨ad, cap, rfl⟩ := Sl.shape h
  have hba := below_alloc1 w (.cells #[.slice ad rows.length cap] 22)
  have HB := Lib.hid hba
  have HL : Hid (L3 0 (w.alloc (.cells #[.slice ad rows.length cap] 22)) (.slice (some ⟨w.heap.size, 0, none⟩) 1 1) [rows]) := Lib.hid (Or.inr ⟨w.heap.size, 0, 1, rfl, Nat.zero_le _, by simp, fun k hk => by
    have hk0 : k = 0 := by simpa using hk
    subst hk0
    exact ⟨_, cell_alloc1 _ _ _, h.below hba⟩⟩)
  have HV := Lib.hid (h.below hba)
  have HM : Hid (Bd3 1048576 [rows]) := Lib.hid ⟨by simp, fun r hr => by rw [List.mem_singleton.1 hr]; exact hm⟩
  clear h hm hba
  have HSP := Lib.hid (l01Spaces_any p n _ [rows] _ HL.out HM.out)
  by_cases hok : SpOk p n rows
  · have HOK := Lib.hid hok
    have hn := hok.2.1
    have hl := hok.2.2.1
    obtain ⟨n, rfl⟩ := Int.eq_ofNat_of_zero_le hn.1
    have hn40 : n ≤ 40 := by omega
    clear hok hn
    go_enter Try.func16, Try.ntmps16
    go_wp2_with fail
    refine HSP.out.mono ?_
    rintro e w1 ⟨rfl, hb1⟩
    rw [spsOne_code, spCode_ok HOK.out]
    have HB1 := Lib.hid (HB.out.trans (hb1.mono (by simp)))
    have HV1 := Lib.hid (HV.out.below hb1)
    clear hb1 HSP
    have HTO := Lib.hid (rows_toL (n := n) (fun r hr => HOK.out.row hr))
    go_wp2_with fail
    refine (l01Echelon_any p n _ (rows.map ofL) w1 HOK.out.1 (by rw [HTO.out]; exact HV1.out) HOK.out.md (fun u hu => by simpa using HOK.out.wd u hu) (by omega) (by rw [List.length_map]; omega)).mono ?_
    rintro e w2 ⟨u2, R, rfl, hg2, hb2, hr2, _⟩
    have HG2 := Lib.hid hg2.l2
    have HB2 := Lib.hid (HB1.out.trans (hb2.mono HB1.out.size))
    have HR2 := Lib.hid hr2
    clear hg2 hb2 hr2
    go_wp2
    go_ret2
    refine ⟨u2, R.map (toL n), 0, rfl, HG2.out, HB2.out, ?_⟩
    rw [spCode_ok HOK.out]
    exact SpOut.of_redN HR2.out
  · have HNO := Lib.hid hok
    clear hok
    go_enter Try.func16, Try.ntmps16
    go_wp2_with fail
    refine HSP.out.mono ?_
    rintro e w1 ⟨rfl, hb1⟩
    rw [spsOne_code, spCode_no HNO.out]
    have HB1 := Lib.hid (HB.out.trans (hb1.mono (by simp)))
    clear hb1 HSP
    go_wp2
    go_ret2
    refine ⟨_, [], 2, rfl, nil2 _, HB1.out, ?_⟩
    rw [spCode_no HNO.out]
    exact SpOut.of_no (by decide)
/-- Two equal tables compare as equal. -/
theorem eq2_true (va vb : Value) (xs : List (List Int)) (w : World) (ha : L2 0 w va xs) (hb : L2 0 w vb xs) (hm : Bd2 1048576 xs) : Calls Try.prog 19 #[va, vb] w (BR (.bool true) w) := by
  have h := eq2_any va vb xs xs w ha hb hm hm
  rw [decide_eq_true rfl] at h
  exact h.mono fun _ _ hh => qr_below hh
end Go.Proofs.Ytlbalcckjokeiaa
