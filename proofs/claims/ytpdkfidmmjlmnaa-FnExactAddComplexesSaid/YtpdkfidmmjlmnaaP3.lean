/-
  Spaces of rows: what ReduceRows and its like answer; impl.ReduceRows by its contract.
  Spaces of rows in the reference model: l01Spaces, spec.ReduceRows by their contracts.
  slices.Concat of two lists of vectors, impl.sumSpace by their contracts.
  Sums of spaces: impl.SumOfSpaces, spec.l01Plus, spec.SumOfSpaces by their contracts.
-/
import Derived.Test.YtpdkfidmmjlmnaaP1
import Derived.Test.YtpdkfidmmjlmnaaP2
import Derived.Test.YtpdkfidmmjlmnaaQc
import Derived.Lib.AppendZeros
import Derived.Laws.AppendOwn
namespace Go.Proofs.Ytpdkfidmmjlmnaa
open Go.RowKit

/-- What the functions on spaces take. -/
def SpOk (p n : Int) (rows : List (List Int)) : Prop := IsP p ∧ (0 ≤ n ∧ n ≤ 40) ∧ rows.length ≤ 40 ∧ TabOk p (rows.length : Int) n rows
theorem SpOk.row {p n : Int} {rows : List (List Int)} (h : SpOk p n rows) {r : List Int} (hr : r ∈ rows) : RowOk p n r := h.2.2.2.2 r hr
theorem SpOk.md {p n : Int} {rows : List (List Int)} (h : SpOk p n rows) : ∀ u ∈ rows.map ofL, Lin.Md p u := fun u hu => by
  obtain ⟨r, hr, rfl⟩ := List.mem_map.1 hu
  exact ofL_md (by have := h.1.lo; omega) (h.row hr)
theorem SpOk.wd {p n : Int} {rows : List (List Int)} (h : SpOk p n rows) : ∀ u ∈ rows.map ofL, Lin.Wd n.toNat u := fun u hu => by
  obtain ⟨r, hr, rfl⟩ := List.mem_map.1 hu
  exact ofL_wd (by have := (h.row hr).1; omega)
theorem SpOk.short {p n : Int} {rows : List (List Int)} (h : SpOk p n rows) : ∀ r ∈ rows, r.length ≤ 40 := fun r hr => by
  have := (h.row hr).1
  have := h.2.1
  omega
theorem wd_wider {n m : Nat} {u : Lin.V} (h : Lin.Wd n u) (hm : n ≤ m) : Lin.Wd m u := fun i hi => h i (by omega)

theorem led_length {n : Nat} : ∀ (L : List Lin.V) (k : Nat), L.Pairwise (fun v w => Lin.ld v < Lin.ld w) → (∀ u ∈ L, k ≤ Lin.ld u ∧ Lin.ld u < n) → L.length ≤ n - k
  | [], _, _, _ => by simp
  | v :: L, k, hp, h => by
    have h1 := List.pairwise_cons.1 hp
    have h0 := h v (by simp)
    have := led_length L (Lin.ld v + 1) h1.2 (fun u hu => ⟨h1.1 u hu, (h u (by simp [hu])).2⟩)
    simp only [List.length_cons]
    omega
theorem red_length {p : Int} {n : Nat} {R : List Lin.V} (h : Lin.Red p R) (hw : ∀ u ∈ R, Lin.Wd n u) : R.length ≤ n := by
  have := led_length (n := n) R 0 h.inc (fun u hu => ⟨Nat.zero_le _, (ld_ltn (hw u hu) (h.ne hu)).1⟩)
  omega

/-- What such a function answers: the reduced list of a space, or a code. -/
structure SpOut (p : Int) (n : Nat) (S : Lin.V → Prop) (c0 : Int) (out : List (List Int)) (c : Int) : Prop where
  good : c0 = 0 → ∃ R, Lin.Red p R ∧ (∀ u ∈ R, Lin.Wd n u) ∧ (∀ v, Lin.Sp p R v ↔ S v) ∧ out = R.map (toL n)
  bad : c0 ≠ 0 → out = []
  code : c = c0
theorem SpOut.unique {p : Int} {n : Nat} {S : Lin.V → Prop} {c0 : Int} {o1 o2 : List (List Int)} {c1 c2 : Int} (hp : c0 = 0 → 1 < p) (h1 : SpOut p n S c0 o1 c1) (h2 : SpOut p n S c0 o2 c2) : o1 = o2 ∧ c1 = c2 := by
  refine ⟨?_, h1.code.trans h2.code.symm⟩
  by_cases h0 : c0 = 0
  · obtain ⟨R1, a1, _, b1, rfl⟩ := h1.good h0
    obtain ⟨R2, a2, _, b2, rfl⟩ := h2.good h0
    rw [Lin.Red.unique (hp h0) a1 a2 (fun v => (b1 v).trans (b2 v).symm)]
  · rw [h1.bad h0, h2.bad h0]
theorem SpOut.bd {p : Int} {n : Nat} {S : Lin.V → Prop} {c0 : Int} {o : List (List Int)} {c : Int} (h : SpOut p n S c0 o c) (hn : c0 = 0 → n ≤ 1048576) : Bd2 1048576 o := by
  by_cases h0 : c0 = 0
  · obtain ⟨R, a, b, _, rfl⟩ := h.good h0
    have := red_length a b
    have hn := hn h0
    refine ⟨by rw [List.length_map]; omega, fun r hr => ?_⟩
    obtain ⟨u, _, rfl⟩ := List.mem_map.1 hr
    unfold Bd1
    rw [toL_length]
    exact hn
  · rw [h.bad h0]
    exact ⟨by simp, by simp⟩
theorem SpOut.of_no {p : Int} {n : Nat} {S : Lin.V → Prop} {c0 : Int} (h : c0 ≠ 0) : SpOut p n S c0 [] c0 := ⟨fun h0 => absurd h0 h, fun _ => rfl, rfl⟩
theorem SpOut.of_red {p : Int} {n : Nat} {T R : List Lin.V} (h : RedOf p R T) (hT : ∀ u ∈ T, Lin.Wd n u) (hm : ∀ u ∈ R, Lin.Md p u) : SpOut p n (Lin.Sp p T) 0 (R.map (toL n)) 0 :=
  ⟨fun _ => ⟨R, h.red, fun u hu => Lin.Sp.wd hT ((h.eqv u).1 (Lin.Sp.mem hu (hm u hu))), h.eqv, rfl⟩, fun hh => absurd rfl hh, rfl⟩
theorem SpOut.of_redN {p : Int} {n : Nat} {T R : List Lin.V} (h : RedN p n R T) : SpOut p n (Lin.Sp p T) 0 (R.map (toL n)) 0 :=
  ⟨fun _ => ⟨R, h.red, h.wd, h.eqv, rfl⟩, fun hh => absurd rfl hh, rfl⟩

theorem TW.wider {lo lo' hi : Nat} {W : World} {u : Value} {R : List (List Int)} (h : TW lo hi W u R) (hl : lo' ≤ lo) : TW lo' hi W u R := by
  rcases h with h | ⟨g, r, c, Z, h1, h2, h3, h4, h5, h6, h7⟩
  · exact Or.inl h
  · exact Or.inr ⟨g, r, c, Z, by omega, h2, h3, h4, h5, h6, h7⟩
/-- What the program answers: a table of its own, and a code. -/
def SpW (p : Int) (n : Nat) (S : Lin.V → Prop) (c0 : Int) (w : World) (e : Ending) (w' : World) : Prop :=
  ∃ (u : Value) (out : List (List Int)) (c : Int), e = .returned (.tuple #[u, .int .i64 c]) ∧ TW w.heap.size w'.heap.size w' u out ∧ Below w.heap.size w w' ∧ SpOut p n S c0 out c

open Classical in
noncomputable def spCode (p n : Int) (rows : List (List Int)) : Int := if SpOk p n rows then 0 else 2
theorem spCode_ok {p n : Int} {rows : List (List Int)} (h : SpOk p n rows) : spCode p n rows = 0 := if_pos h
theorem spCode_no {p n : Int} {rows : List (List Int)} (h : ¬ SpOk p n rows) : spCode p n rows = 2 := if_neg h
theorem spCode_zero {p n : Int} {rows : List (List Int)} (h : spCode p n rows = 0) : SpOk p n rows := Classical.byContradiction fun hn => by
  rw [spCode_no hn] at h
  cases h

set_option maxHeartbeats 1600000 in
theorem areSpaceRows_any (p n : Int) (v : Value) (rows : List (List Int)) (w : World) (h : L2 0 w v rows) (hm : Bd2 1048576 rows) :
    Calls Try.prog 106 #[.int .i64 p, .int .i64 n, v] w (BW (SpOk p n rows) w) := by
  have HM := Lib.hid hm
  have H := Lib.hid h
  have hml : rows.length ≤ 1048576 := hm.1
  obtain ⟨ad, cap, rfl⟩ := Sl.shape h
  clear h hm
  by_cases hp : IsP p
  · have HP := Lib.hid hp
    clear hp
    by_cases hr : 0 ≤ n ∧ n ≤ 40
    · have HR := Lib.hid hr
      clear hr
      by_cases hl : rows.length ≤ 40
      · have hl2 : ¬ ((40 : Int) < (rows.length : Int)) := by omega
        go_enter Try.func106, Try.ntmps106
        go_wp2_with fail
        refine (prime_yes HP.out _).mono ?_
        rintro e w' ⟨rfl, rfl⟩
        go_wp2_with fail
        refine (in_yes HR.out _).mono ?_
        rintro e w' ⟨rfl, rfl⟩
        go_wp2_with fail
        refine (isTable_any p rows.length n _ rows _ HP.out H.out HM.out).mono ?_
        rintro e w' ⟨b, rfl, rfl, hb⟩
        have HB := Lib.hid hb
        clear hb
        go_wp2
        go_ret
        exact ⟨b, rfl, rfl, HB.out.trans ⟨fun h => ⟨HP.out, HR.out, hl, h⟩, fun h => h.2.2.2⟩⟩
      · have hl2 : (40 : Int) < (rows.length : Int) := by omega
        go_enter Try.func106, Try.ntmps106
        go_wp2_with fail
        refine (prime_yes HP.out _).mono ?_
        rintro e w' ⟨rfl, rfl⟩
        go_wp2_with fail
        refine (in_yes HR.out _).mono ?_
        rintro e w' ⟨rfl, rfl⟩
        go_wp2
        go_ret
        exact bw_false (fun h => hl h.2.2.1)
    · have HR := Lib.hid hr
      clear hr
      go_enter Try.func106, Try.ntmps106
      go_wp2_with fail
      refine (prime_yes HP.out _).mono ?_
      rintro e w' ⟨rfl, rfl⟩
      go_wp2_with fail
      refine (in_no HR.out _).mono ?_
      rintro e w' ⟨rfl, rfl⟩
      go_wp2
      go_ret
      exact bw_false (fun h => HR.out h.2.1)
  · have HP := Lib.hid hp
    clear hp
    go_enter Try.func106, Try.ntmps106
    go_wp2_with fail
    refine (prime_no HP.out _).mono ?_
    rintro e w' ⟨rfl, rfl⟩
    go_wp2
    go_ret
    exact bw_false (fun h => HP.out h.1)

set_option maxHeartbeats 1600000 in
theorem reduceRows_any (p n : Int) (v : Value) (rows : List (List Int)) (w : World) (h : L2 0 w v rows) (hm : Bd2 1048576 rows) :
    Calls Try.prog 51 #[.int .i64 p, .int .i64 n, v] w (SpW p n.toNat (Lin.Sp p (rows.map ofL)) (spCode p n rows) w) := by
  have H := Lib.hid h
  have HA := Lib.hid (areSpaceRows_any p n v rows w h hm)
  clear h hm
  by_cases hok : SpOk p n rows
  · have HOK := Lib.hid hok
    have HAY : Hid (Calls Try.prog 106 #[.int .i64 p, .int .i64 n, v] w (QW (.bool true) w)) := Lib.hid (bw_yes HA.out hok)
    have hn := hok.2.1
    have hl := hok.2.2.1
    obtain ⟨n, rfl⟩ := Int.eq_ofNat_of_zero_le hn.1
    have hn40 : n ≤ 40 := by omega
    clear HA hok hn
    go_enter Try.func51, Try.ntmps51
    go_wp2_with fail
    refine HAY.out.mono ?_
    rintro e w' ⟨rfl, rfl⟩
    clear HAY
    go_wp2_with fail
    refine (vectorsOf_any v rows _ H.out (by omega) HOK.out.short).mono ?_
    rintro e w1 ⟨s1, M, rfl, hb1, ho1, rfl⟩
    have HB1 := Lib.hid hb1
    have HO1 := Lib.hid (ho1.vs.lower (Nat.zero_le _))
    have hs1 : w.heap.size ≤ w1.heap.size := hb1.size
    clear hb1 ho1
    go_wp2_with fail
    refine (reducedList_any p s1 _ _ HOK.out.1 HO1.out HOK.out.md (fun u hu => wd_wider (HOK.out.wd u hu) (by simpa using hn40)) (by rw [List.length_map]; omega)).mono ?_
    rintro e w2 ⟨s2, R, rfl, hb2, ho2, hr, hlr⟩
    have HB2 := Lib.hid (HB1.out.trans (hb2.mono hs1))
    have HO2 := Lib.hid (ho2.vs.lower (Nat.zero_le _))
    have HR := Lib.hid hr
    have hs2 : w1.heap.size ≤ w2.heap.size := hb2.size
    have hlr2 : R.length ≤ 40 := by rw [List.length_map] at hlr; omega
    clear hb2 ho2 hr hlr HB1 HO1
    go_wp2_with fail
    refine (rowsOf_any n s2 R _ HO2.out hn40 (by omega)).mono ?_
    rintro e w3 ⟨u3, rfl, ht3, hb3⟩
    have HT3 := Lib.hid ht3
    have HB3 := Lib.hid (HB2.out.trans (hb3.mono (by omega)))
    clear hb3 ht3 HB2 HO2
    go_wp2
    go_ret2
    refine ⟨u3, R.map (toL n), 0, rfl, HT3.out.wider (by omega), HB3.out, ?_⟩
    · rw [spCode_ok HOK.out]
      have hw := HOK.out.wd
      rw [show ((n : Int)).toNat = n from Int.toNat_natCast n] at hw
      exact SpOut.of_red HR.out hw HR.out.red.md
  · have HNO := Lib.hid hok
    have HAN : Hid (Calls Try.prog 106 #[.int .i64 p, .int .i64 n, v] w (QW (.bool false) w)) := Lib.hid (bw_no HA.out hok)
    clear HA hok
    go_enter Try.func51, Try.ntmps51
    go_wp2_with fail
    refine HAN.out.mono ?_
    rintro e w' ⟨rfl, rfl⟩
    go_wp2
    go_ret2
    refine ⟨_, [], 2, rfl, TW.nil _ _ _, Below.refl _ _, ?_⟩
    rw [spCode_no HNO.out]
    exact SpOut.of_no (by decide)
end Go.Proofs.Ytpdkfidmmjlmnaa

namespace Go.Proofs.Ytpdkfidmmjlmnaa
open Go.RowKit

/-- The limits that hold for all lists alike. -/
def SpTop (p n : Int) : Prop := IsP p ∧ (0 ≤ n ∧ n ≤ 40)
def SpOne (p n : Int) (rows : List (List Int)) : Prop := rows.length ≤ 40 ∧ TabOk p (rows.length : Int) n rows
def SpsOk (p n : Int) (ls : List (List (List Int))) : Prop := SpTop p n ∧ ∀ r ∈ ls, SpOne p n r
open Classical in
noncomputable def spsCode (p n : Int) (ls : List (List (List Int))) : Int := if SpsOk p n ls then 0 else 2
theorem spsCode_ok {p n : Int} {ls : List (List (List Int))} (h : SpsOk p n ls) : spsCode p n ls = 0 := if_pos h
theorem spsCode_no {p n : Int} {ls : List (List (List Int))} (h : ¬ SpsOk p n ls) : spsCode p n ls = 2 := if_neg h
def SpsR (p n : Int) (ls : List (List (List Int))) (w : World) (e : Ending) (w' : World) : Prop := e = .returned (.int .i64 (spsCode p n ls)) ∧ Below w.heap.size w w'
theorem spsR_ok {p n : Int} {ls : List (List (List Int))} {w w' : World} (h : SpsOk p n ls) (hb : Below w.heap.size w w') : SpsR p n ls w (.returned (.int .i64 0)) w' := ⟨by rw [spsCode_ok h], hb⟩
theorem spsR_no {p n : Int} {ls : List (List (List Int))} {w w' : World} (h : ¬ SpsOk p n ls) (hb : Below w.heap.size w w') : SpsR p n ls w (.returned (.int .i64 2)) w' := ⟨by rw [spsCode_no h], hb⟩

set_option maxHeartbeats 3200000 in
set_option maxRecDepth 100000 in
theorem l01Spaces_any (p n : Int) (v : Value) (ls : List (List (List Int))) (w : World) (h : L3 0 w v ls) (hm : Bd3 1048576 ls) :
    Calls Try.prog 105 #[.int .i64 p, .int .i64 n, v] w (SpsR p n ls w) := by
  have HM := Lib.hid hm
  have H := Lib.hid h
  have hml : ls.length ≤ 1048576 := hm.1
  obtain ⟨ad, cap, rfl⟩ := Sl.shape h
  clear h hm
  by_cases hp : IsP p
  · have HP := Lib.hid hp
    clear hp
    by_cases hr : 0 ≤ n ∧ n ≤ 40
    · have HR := Lib.hid hr
      clear hr
      go_enter Try.func105, Try.ntmps105
      go_wp2_with fail
      refine (spprime_yes HP.out _).mono ?_
      rintro e w' ⟨rfl, rfl⟩
      go_wp2_with fail
      refine (spin_yes HR.out _).mono ?_
      rintro e w' ⟨rfl, rfl⟩
      go_wp2
      go_loopw [7] (fun i wr => ∃ (k : Nat), k ≤ ls.length ∧ i = .int .i64 k ∧ Hid (Below w.heap.size w wr) ∧ Hid (∀ j (h : j < ls.length), j < k → SpOne p n ls[j])) (fun i _ => ls.length - (intOf i).toNat)
      case atStart => exact ⟨0, Nat.zero_le _, rfl, Lib.hid (Below.refl _ _), Lib.hid (fun _ _ h => absurd h (Nat.not_lt_zero _))⟩
      case round =>
        obtain ⟨k, hk, rfl, HB, HD⟩ := hrel
        by_cases hlt : k < ls.length
        · refine Sl.cases H.out (fun _ _ hx _ => absurd hlt (by simp [hx])) (fun b o c2 hvv _ _ hc => ?_)
          obtain ⟨rfl, rfl⟩ : ad = some ⟨b, o, none⟩ ∧ cap = c2 := by simpa using hvv
          obtain ⟨u, hu, hr⟩ := hc k hlt
          obtain ⟨t, ht⟩ : ∃ t, t = ls[k] := ⟨_, rfl⟩
          have HTE := Lib.hid ht
          have HTB : Hid (Bd2 1048576 t) := Lib.hid (by rw [ht]; exact HM.out.2 _ (List.getElem_mem hlt))
          rw [← ht] at hr
          have htl : t.length ≤ 1048576 := HTB.out.1
          obtain ⟨au, cu, rfl⟩ := Sl.shape hr
          have hu2 := later HB.out (Nat.le_refl _) hu
          have HRT := Lib.hid (hr.below HB.out)
          have hq1 : (k : Int) < (ls.length : Int) := by omega
          have hq2 : (0 : Int) ≤ (k : Int) := by omega
          have hq3 : ((k : Int)).toNat = k := by omega
          clear hvv hc hu hr ht
          by_cases h40 : t.length ≤ 40
          · have hdec : decide ((40 : Int) < (t.length : Int)) = false := by simp; omega
            have HE := Lib.hid (fun (m2 : Nat) => l01Table_any p t.length n _ t (wr.drewN m2) HP.out (HRT.out.below (drewN_below wr m2)) HTB.out)
            by_cases htab : TabOk p t.length n t
            · have HEY : Hid (∀ m2, Calls Try.prog 148 #[.int .i64 p, .slice au t.length cu, .int .i64 t.length, .int .i64 n] (wr.drewN m2) (QW (.bool true) (wr.drewN m2))) := Lib.hid (fun m2 => bw_yes (HE.out m2) htab)
              have HTY := Lib.hid htab
              clear htab HE
              go_wp2
              go_quiet ((go_at_call 148; exact qw_quiet (HEY.out _)))
              clear hu2 hq1 hq2 hq3 hdec
              have HB2 := Lib.hid (HB.out.trans ((drewN_below wr nq).mono HB.out.size))
              generalize wr.drewN nq = w2 at *
              have HD2 : Hid (∀ j (h : j < ls.length), j < k + 1 → SpOne p n ls[j]) := Lib.hid (fun j h1 hjk => by
                by_cases e : j = k
                · subst e; rw [← HTE.out]; exact ⟨h40, HTY.out⟩
                · exact HD.out j h1 (by omega))
              go_wp2
              go_roundw
              case rel => exact ⟨k + 1, by omega, by go_num, HB2, HD2⟩
              case measure => simp [intOf]; omega
            · have HEY : Hid (∀ m2, Calls Try.prog 148 #[.int .i64 p, .slice au t.length cu, .int .i64 t.length, .int .i64 n] (wr.drewN m2) (QW (.bool false) (wr.drewN m2))) := Lib.hid (fun m2 => bw_no (HE.out m2) htab)
              have HTY := Lib.hid htab
              clear htab HE
              go_wp2
              go_quiet ((go_at_call 148; exact qw_quiet (HEY.out _)))
              clear hu2 hq1 hq2 hq3 hdec
              have HB2 := Lib.hid (HB.out.trans ((drewN_below wr nq).mono HB.out.size))
              generalize wr.drewN nq = w2 at *
              go_wp2
              go_ret
              exact spsR_no (fun h => HTY.out (by have := h.2 _ (List.getElem_mem hlt); rw [← HTE.out] at this; exact this.2)) HB2.out
          · have hdec : decide ((40 : Int) < (t.length : Int)) = true := by simp; omega
            have H40 := Lib.hid h40
            have h41 : (40 : Int) < (t.length : Int) := by omega
            clear h40
            go_wp2
            go_quiet (fail)
            clear hu2 hq1 hq2 hq3 hdec
            have HB2 := Lib.hid (HB.out.trans ((drewN_below wr nq).mono HB.out.size))
            generalize wr.drewN nq = w2 at *
            go_wp2
            go_ret
            exact spsR_no (fun h => H40.out (by have := h.2 _ (List.getElem_mem hlt); rw [← HTE.out] at this; exact this.1)) HB2.out
        · go_wp2
          go_ret
          exact spsR_ok ⟨⟨HP.out, HR.out⟩, all_of_lt (fun j hj => HD.out j hj (by omega))⟩ HB.out
    · have HR := Lib.hid hr
      clear hr
      go_enter Try.func105, Try.ntmps105
      go_wp2_with fail
      refine (spprime_yes HP.out _).mono ?_
      rintro e w' ⟨rfl, rfl⟩
      go_wp2_with fail
      refine (spin_no HR.out _).mono ?_
      rintro e w' ⟨rfl, rfl⟩
      go_wp2
      go_ret
      exact spsR_no (fun h => HR.out h.1.2) (Below.refl _ _)
  · have HP := Lib.hid hp
    clear hp
    go_enter Try.func105, Try.ntmps105
    go_wp2_with fail
    refine (spprime_no HP.out _).mono ?_
    rintro e w' ⟨rfl, rfl⟩
    go_wp2
    go_ret
    exact spsR_no (fun h => HP.out h.1.1) (Below.refl _ _)

/-- What the model answers: a table somewhere, and a code. -/
def SpS (p : Int) (n : Nat) (S : Lin.V → Prop) (c0 : Int) (w : World) (e : Ending) (w' : World) : Prop :=
  ∃ (u : Value) (out : List (List Int)) (c : Int), e = .returned (.tuple #[u, .int .i64 c]) ∧ L2 0 w' u out ∧ Below w.heap.size w w' ∧ SpOut p n S c0 out c
theorem rows_toL {p : Int} {n : Nat} {rows : List (List Int)} (h : ∀ r ∈ rows, RowOk p n r) : (rows.map ofL).map (toL n) = rows := by
  rw [List.map_map]
  have : ∀ r ∈ rows, (toL n ∘ ofL) r = id r := fun r hr => toL_ofL (by have := (h r hr).1; omega)
  rw [List.map_congr_left this, List.map_id]
theorem spsOne {p n : Int} {rows : List (List Int)} : SpsOk p n [rows] ↔ SpOk p n rows :=
  ⟨fun h => ⟨h.1.1, h.1.2, (h.2 rows (by simp)).1, (h.2 rows (by simp)).2⟩, fun h => ⟨⟨h.1, h.2.1⟩, fun r hr => by rw [List.mem_singleton.1 hr]; exact h.2.2⟩⟩
theorem spsOne_code {p n : Int} {rows : List (List Int)} : spsCode p n [rows] = spCode p n rows := by
  by_cases h : SpOk p n rows
  · rw [spCode_ok h, spsCode_ok (spsOne.2 h)]
  · rw [spCode_no h, spsCode_no (fun hh => h (spsOne.1 hh))]
theorem nil2 (w : World) : L2 0 w (.slice none 0 0) [] := Or.inl ⟨rfl, _, _, rfl⟩

set_option maxHeartbeats 1600000 in
theorem spReduceRows_any (p n : Int) (v : Value) (rows : List (List Int)) (w : World) (h : L2 0 w v rows) (hm : Bd2 1048576 rows) :
    Calls Try.prog 49 #[.int .i64 p, .int .i64 n, v] w (SpS p n.toNat (Lin.Sp p (rows.map ofL)) (spCode p n rows) w) := by
  obtain ⟨ad, cap, rfl⟩ := Sl.shape h
  have hba := below_alloc1 w (.cells #[.slice ad rows.length cap] 41)
  have HB := Lib.hid hba
  have HL : Hid (L3 0 (w.alloc (.cells #[.slice ad rows.length cap] 41)) (.slice (some ⟨w.heap.size, 0, none⟩) 1 1) [rows]) := Lib.hid (Or.inr ⟨w.heap.size, 0, 1, rfl, Nat.zero_le _, by simp, fun k hk => by
    have hk0 : k = 0 := by simpa using hk
    subst hk0
    exact ⟨_, cell_alloc1 _ _ _, h.below hba⟩⟩)
  have HV := Lib.hid (h.below hba)
  have HM : Hid (Bd3 1048576 [rows]) := Lib.hid ⟨by simp, fun r hr => by rw [List.mem_singleton.1 hr]; exact hm⟩
  clear h hm hba
  have HSP := Lib.hid (l01Spaces_any p n _ [rows] _ HL.out HM.out)
  by_cases hok : SpOk p n rows
  · have HOK := Lib.hid hok
    have hn := hok.2.1
    have hl := hok.2.2.1
    obtain ⟨n, rfl⟩ := Int.eq_ofNat_of_zero_le hn.1
    have hn40 : n ≤ 40 := by omega
    clear hok hn
    go_enter Try.func49, Try.ntmps49
    go_wp2_with fail
    refine HSP.out.mono ?_
    rintro e w1 ⟨rfl, hb1⟩
    rw [spsOne_code, spCode_ok HOK.out]
    have HB1 := Lib.hid (HB.out.trans (hb1.mono (by simp)))
    have HV1 := Lib.hid (HV.out.below hb1)
    clear hb1 HSP
    have HTO := Lib.hid (rows_toL (n := n) (fun r hr => HOK.out.row hr))
    go_wp2_with fail
    refine (l01Echelon_any p n _ (rows.map ofL) w1 HOK.out.1 (by rw [HTO.out]; exact HV1.out) HOK.out.md (fun u hu => by simpa using HOK.out.wd u hu) (by omega) (by rw [List.length_map]; omega)).mono ?_
    rintro e w2 ⟨u2, R, rfl, hg2, hb2, hr2, _⟩
    have HG2 := Lib.hid hg2.l2
    have HB2 := Lib.hid (HB1.out.trans (hb2.mono HB1.out.size))
    have HR2 := Lib.hid hr2
    clear hg2 hb2 hr2
    go_wp2
    go_ret2
    refine ⟨u2, R.map (toL n), 0, rfl, HG2.out, HB2.out, ?_⟩
    rw [spCode_ok HOK.out]
    exact SpOut.of_redN HR2.out
  · have HNO := Lib.hid hok
    clear hok
    go_enter Try.func49, Try.ntmps49
    go_wp2_with fail
    refine HSP.out.mono ?_
    rintro e w1 ⟨rfl, hb1⟩
    rw [spsOne_code, spCode_no HNO.out]
    have HB1 := Lib.hid (HB.out.trans (hb1.mono (by simp)))
    clear hb1 HSP
    go_wp2
    go_ret2
    refine ⟨_, [], 2, rfl, nil2 _, HB1.out, ?_⟩
    rw [spCode_no HNO.out]
    exact SpOut.of_no (by decide)
/-- Two equal tables compare as equal. -/
theorem eq2_true (va vb : Value) (xs : List (List Int)) (w : World) (ha : L2 0 w va xs) (hb : L2 0 w vb xs) (hm : Bd2 1048576 xs) : Calls Try.prog 39 #[va, vb] w (BR (.bool true) w) := by
  have h := eq2_any va vb xs xs w ha hb hm hm
  rw [decide_eq_true rfl] at h
  exact h.mono fun _ _ hh => qr_below hh
end Go.Proofs.Ytpdkfidmmjlmnaa

namespace Go.Proofs.Ytpdkfidmmjlmnaa
open Go.RowKit

/-- append of no elements. -/
theorem run_append_none' {P : Program} (w : World) (t ty e : TypeId) (i : TypeInfo) (ht : P.underlying t = some (.slice e)) (hi : P.info? e = some i) {base size n : Nat} {v : Value} {xs : List Value} (hown : w.ownsRow base e size v n xs) (ad : Option Addr) (cap : Nat) :
    (Builtin.append_ #[t, t] ty #[v, .slice ad 0 cap]).run P w = .ok v w := by
  cases ad with
  | none =>
    rcases hown.2 with ⟨rfl, rfl⟩ | ⟨g, cap, cur, rfl, _, _, hnc, _⟩
    · simp [Builtin.append_, run_underlying ht, sizeOf, typeInfo, hi, Builtin.lenOf, Builtin.firstCells]
    · simp [Builtin.append_, run_underlying ht, sizeOf, typeInfo, hi, Builtin.lenOf, Builtin.firstCells, hnc, storeCells]
  | some a =>
    have hl := run_loadCells_list (P := P) w a [] (by simp)
    simp at hl
    rcases hown.2 with ⟨rfl, rfl⟩ | ⟨g, cap, cur, rfl, _, _, hnc, _⟩
    · simp [Builtin.append_, run_underlying ht, sizeOf, typeInfo, hi, Builtin.lenOf, Builtin.firstCells, hl]
    · simp [Builtin.append_, run_underlying ht, sizeOf, typeInfo, hi, Builtin.lenOf, Builtin.firstCells, hnc, storeCells, hl]

/-- append of a list of vectors to one that the call owns. -/
theorem wpList_appendVs {ops : Array Oper} {rest : List Oper} {o : Oper} {a : Act} {w : World} {Q : Exit → Act → World → Prop} (hgd : o.guard = none) (dst : Option Tmp) (hdst : o.dst = dst) (s x : Operand)
    (ho : o.op = .call { callee := .builtin .append, args := #[s, x], argTypes := #[86, 86] }) (base : Nat) (v u : Value) (A B : List Lin.V) (hs : a.eval s = v) (hx : a.eval x = u) (hown : Ow base w v A) (hB : Vs 0 w u B)
    (hl : A.length + B.length ≤ 2097152) (hb : base ≤ w.heap.size)
    (h : ∀ v' w', Ow base w' v' (A ++ B) → w.grownBy w' v.ownBlock → wpList Try.prog ops Q rest (a.put dst v') w') : wpList Try.prog ops Q (o :: rest) a w := by
  obtain ⟨i, hi, hz, hs1, hb1⟩ := info_parts Try.infoVz
  subst hdst
  refine Vs.cases hB (fun ad cap hB0 hu => ?_) (fun b o' cap hu _ hpos hc => ?_)
  · subst hB0 hu
    refine Lib.wpList_append_run _ hgd s x _ _ ho _ _ hs hx _ _ (run_append_none' w _ _ _ i Try.underlyingSV hi hown ad cap) ?_
    rw [List.append_nil] at h
    exact h v w hown ⟨rfl, rfl, rfl, Nat.le_refl _, fun _ _ _ => rfl⟩
  · subst hu
    refine wpList_append_own w hgd s x 86 ho base 134 i _ 40 320 Try.underlyingSV hi hz hs1 hb1 (by simp [Value.cells, zl_length]) (by decide) v A.length (cellsOf A) hs hown ⟨b, o', none⟩ B.length cap (cellsOf B) hx (cellsOf_length _) ?_ ?_ (by unfold maxLen; omega) (by omega) hb (fun v' w' h1 h2 _ => h v' w' ?_ h2)
    · intro j y hj
      rw [Addr.add_mid]
      have hjl : j < B.length * 40 := by rw [← cellsOf_length]; exact (List.getElem?_eq_some_iff.1 hj).1
      have hq : j / 40 < B.length := Nat.div_lt_of_lt_mul (by omega)
      have hm : j % 40 < 40 := Nat.mod_lt _ (by decide)
      have := (hc (j / 40) hq).cell hm
      rw [show o' + j / 40 * 40 + j % 40 = o' + j by omega] at this
      rw [this]
      have e := cellsOf_at (L := B) hq hm
      rw [show j / 40 * 40 + j % 40 = j by omega] at e
      rw [← hj, e]
    · exact cellsOf_one' B
    · unfold Ow
      rw [List.length_append, cellsOf_append]
      exact h1

set_option maxHeartbeats 800000 in
set_option maxRecDepth 100000 in
theorem grow_any (n : Nat) (w : World) (hn : n ≤ 2097152) : Calls Try.prog 181 #[.slice none 0 0, .int .i64 n] w (VsR (fun M => M = []) w) := by
  obtain ⟨i, hi, hz, hs1, hb1⟩ := info_parts Try.infoVz
  by_cases h0 : n = 0
  · subst h0
    go_enter Try.func181, Try.ntmps181
    go_wp2
    go_ret
    exact ⟨_, [], rfl, Below.refl _ _, Ow.nil _ _, rfl⟩
  · have hpos : 0 < n := by omega
    have hpos2 : (0 : Int) < (n : Int) := by omega
    have hrun := fun ty => Lib.run_append_nil_zeros w 86 3 ty 134 i _ .i64 .i64 Try.underlyingSV Try.underlying3 hi hz n hpos (by rw [hs1]; decide) (by omega) (by rw [hb1]; omega)
    obtain ⟨G, hG⟩ : ∃ G, G = grownCap w n 0 134 := ⟨_, rfl⟩
    rw [← hG] at hrun
    have hGn : n ≤ G := by rw [hG]; exact grownCap_ge w _ _ _
    have hGm : G ≤ maxLen := by rw [hG]; exact grownCap_le_maxLen w n 0 _ (by unfold maxLen; omega)
    obtain ⟨ROW, hROW⟩ : ∃ ROW : Array Value, ROW = Builtin.zeroCells (Value.agg zl.toArray).cells n ++ Builtin.zeroCells (Value.agg zl.toArray).cells (G - n) := ⟨_, rfl⟩
    rw [← hROW] at hrun
    have hsz : ROW.size = G * 40 := by
      rw [hROW]
      simp [Builtin.zeroCells, Value.cells, zl_length]
      omega
    have HOW : Hid (Ow w.heap.size (w.drew.alloc (.cells ROW 134)) (.slice (some ⟨w.heap.size, 0, none⟩) 0 G) []) := Lib.hid (World.ownsRow_made (base := w.heap.size) (e := 134) (size := 40) w.drew ROW G (Nat.le_refl _) hGm hsz)
    have HBE : Hid (Below w.heap.size w (w.drew.alloc (.cells ROW 134))) := Lib.hid ((Below.refl _ _).drew.alloc (Nat.le_refl _) _)
    clear hROW hsz hG
    go_enter Try.func181, Try.ntmps181
    go_wp2_with (at_builtin; refine Lib.wpList_append_run _ rfl (.tmp 20) (.tmp 21) 86 3 rfl _ _ rfl rfl _ _ (hrun _) ?_)
    go_wp2
    go_ret
    exact ⟨_, [], rfl, HBE.out, HOW.out, rfl⟩

set_option maxHeartbeats 1600000 in
set_option maxRecDepth 100000 in
theorem concat_any (g : Nat) (sa sb : Value) (A B : List Lin.V) (w : World) (h0 : w.cell? ⟨g, 0, none⟩ = some sa) (h1 : w.cell? ⟨g, 1, none⟩ = some sb) (hA : Vs 0 w sa A) (hB : Vs 0 w sb B) (hl : A.length + B.length ≤ 2097152) :
    Calls Try.prog 166 #[.slice (some ⟨g, 0, none⟩) 2 2] w (VsR (fun M => M = A ++ B) w) := by
  have HA := Lib.hid hA
  have HB := Lib.hid hB
  obtain ⟨aa, ca, rfl⟩ := Vs.shape hA
  obtain ⟨ab, cb, rfl⟩ := Vs.shape hB
  have hgl : g < w.heap.size := cell_lt h0
  have hgr := grow_any (A.length + B.length) w hl
  rw [Int.natCast_add] at hgr
  have HG := Lib.hid hgr
  have n0 : ¬ ((A.length : Int) < 0) := by omega
  have n1 : ¬ ((A.length : Int) + (B.length : Int) < 0) := by omega
  clear hgr
  clear hA hB
  go_enter Try.func166, Try.ntmps166
  go_wp2
  refine wp_loop_rounds 3 ?_
  rw [rounds_succ]
  go_wp2
  rw [rounds_succ]
  go_wp2
  rw [rounds_succ]
  go_wp2_with fail
  refine HG.out.mono ?_
  rintro e w1 ⟨s6, M, rfl, hb1, ho1, rfl⟩
  have HB1 := Lib.hid hb1
  have HO1 := Lib.hid ho1
  have h0' := later hb1 (Nat.le_refl _) h0
  have h1' := later hb1 (Nat.le_refl _) h1
  have HA1 := Lib.hid (HA.out.below hb1)
  clear hb1 ho1 HG h0 h1 n0 n1
  go_wp2
  refine wp_loop_rounds 3 ?_
  rw [rounds_succ]
  go_wp2_with (at_builtin; refine wpList_appendVs rfl (some 33) rfl (.tmp 31) (.tmp 32) rfl w.heap.size _ _ [] A rfl rfl HO1.out HA1.out ?c1 ?c2 ?_)
  case c1 => simp; omega
  case c2 => exact HB1.out.size
  rw [List.nil_append]
  intro v2 w2 ho2 hg2
  have HB2 : Hid (Below w.heap.size w w2) := Lib.hid (HB1.out.grown hg2 HB1.out.size (fun g hg => ((World.ownsRow.lt HO1.out) g hg).1))
  have HO2 := Lib.hid ho2
  have h1'' : w2.cell? ⟨g, 1, none⟩ = some (.slice ab B.length cb) := by rw [World.grownBy.cell hg2 h1' (fun e => by have := ((World.ownsRow.lt HO1.out) g e.symm).1; omega)]
  have HB2b := Lib.hid (HB.out.below HB2.out)
  clear ho2 hg2 h0' h1' HA1 HO1 HB1
  go_wp2
  rw [rounds_succ]
  go_wp2_with (at_builtin; refine wpList_appendVs rfl (some 33) rfl (.tmp 31) (.tmp 32) rfl w.heap.size _ _ A B rfl rfl HO2.out HB2b.out ?c1 ?c2 ?_)
  case c1 => exact hl
  case c2 => exact HB2.out.size
  intro v3 w3 ho3 hg3
  have HB3 : Hid (Below w.heap.size w w3) := Lib.hid (HB2.out.grown hg3 HB2.out.size (fun g hg => ((World.ownsRow.lt HO2.out) g hg).1))
  have HO3 := Lib.hid ho3
  clear ho3 hg3 h1''
  go_wp2
  rw [rounds_succ]
  go_wp2
  go_ret
  exact ⟨_, A ++ B, rfl, HB3.out, HO3.out, rfl⟩

set_option maxHeartbeats 1600000 in
set_option maxRecDepth 100000 in
theorem sumSpace_any (p : Int) (sa sb : Value) (A B : List Lin.V) (w : World) (hp : IsP p) (hA : Vs 0 w sa A) (hB : Vs 0 w sb B) (hm : ∀ u ∈ A ++ B, Lin.Md p u) (hw : ∀ u ∈ A ++ B, Lin.Wd 40 u) (hl : (A ++ B).length ≤ 1048575) :
    Calls Try.prog 111 #[.int .i64 p, sa, sb] w (VsR (fun R => RedOf p R (A ++ B) ∧ R.length ≤ (A ++ B).length) w) := by
  have HP := Lib.hid hp
  have HM := Lib.hid hm
  have HW := Lib.hid hw
  obtain ⟨aa, ca, rfl⟩ := Vs.shape hA
  obtain ⟨ab, cb, rfl⟩ := Vs.shape hB
  have hba : Below w.heap.size w (w.alloc (.cells #[.slice aa A.length ca, .slice ab B.length cb] 86)) := below_alloc1 _ _
  have HBA := Lib.hid hba
  have h0 : (w.alloc (.cells #[.slice aa A.length ca, .slice ab B.length cb] 86)).cell? ⟨w.heap.size, 0, none⟩ = some (.slice aa A.length ca) := by
    unfold World.cell?
    rw [heap_alloc_new w _]
    rfl
  have h1 : (w.alloc (.cells #[.slice aa A.length ca, .slice ab B.length cb] 86)).cell? ⟨w.heap.size, 1, none⟩ = some (.slice ab B.length cb) := by
    unfold World.cell?
    rw [heap_alloc_new w _]
    rfl
  have HC := Lib.hid (concat_any w.heap.size _ _ A B _ h0 h1 (hA.below hba) (hB.below hba) (by rw [List.length_append] at hl; omega))
  clear hp hA hB hm hw hba h0 h1
  go_enter Try.func111, Try.ntmps111
  go_wp2_with fail
  refine HC.out.mono ?_
  rintro e w1 ⟨s1, M, rfl, hb1, ho1, rfl⟩
  have HB1 := Lib.hid (HBA.out.trans (hb1.mono HBA.out.size))
  have HO1 := Lib.hid (ho1.vs.lower (Nat.zero_le _))
  clear hb1 ho1 HC
  go_wp2_with fail
  refine (reducedList_any p s1 (A ++ B) _ HP.out HO1.out HM.out HW.out hl).mono ?_
  rintro e w2 ⟨s2, R, rfl, hb2, ho2, hr⟩
  have HB2 := Lib.hid (HB1.out.trans (hb2.mono HB1.out.size))
  have HO2 : Hid (Ow w.heap.size w2 s2 R) := Lib.hid ⟨ho2.1, ho2.2.imp id (fun ⟨g, cap, cur, h1, h2, h3⟩ => ⟨g, cap, cur, h1, Nat.le_trans HB1.out.size h2, h3⟩)⟩
  have HR := Lib.hid hr
  clear hb2 ho2 hr
  go_wp2
  go_ret
  exact ⟨_, R, rfl, HB2.out, HO2.out, HR.out⟩
end Go.Proofs.Ytpdkfidmmjlmnaa

namespace Go.Proofs.Ytpdkfidmmjlmnaa
open Go.RowKit

theorem spsTwo {p n : Int} {a b : List (List Int)} : SpsOk p n [a, b] ↔ SpOk p n a ∧ SpOk p n b :=
  ⟨fun h => ⟨⟨h.1.1, h.1.2, h.2 a (by simp)⟩, ⟨h.1.1, h.1.2, h.2 b (by simp)⟩⟩, fun h => ⟨⟨h.1.1, h.1.2.1⟩, fun r hr => by
    rcases List.mem_cons.1 hr with rfl | hr
    · exact h.1.2.2
    · rw [List.mem_singleton.1 hr]; exact h.2.2.2⟩⟩
theorem sum_md {p n : Int} {a b : List (List Int)} (ha : SpOk p n a) (hb : SpOk p n b) : ∀ u ∈ a.map ofL ++ b.map ofL, Lin.Md p u := fun u hu => by
  rcases List.mem_append.1 hu with h | h
  · exact ha.md u h
  · exact hb.md u h
theorem sum_wd {p n : Int} {a b : List (List Int)} (ha : SpOk p n a) (hb : SpOk p n b) : ∀ u ∈ a.map ofL ++ b.map ofL, Lin.Wd n.toNat u := fun u hu => by
  rcases List.mem_append.1 hu with h | h
  · exact ha.wd u h
  · exact hb.wd u h
theorem spsCode_zero {p n : Int} {ls : List (List (List Int))} (h : spsCode p n ls = 0) : SpsOk p n ls := Classical.byContradiction fun hn => by
  rw [spsCode_no hn] at h
  cases h

set_option maxHeartbeats 1600000 in
theorem sumOfSpaces_any (p n : Int) (va vb : Value) (a b : List (List Int)) (w : World) (ha : L2 0 w va a) (hb : L2 0 w vb b) (hma : Bd2 1048576 a) (hmb : Bd2 1048576 b) :
    Calls Try.prog 53 #[.int .i64 p, .int .i64 n, va, vb] w (SpW p n.toNat (Lin.Sp p (a.map ofL ++ b.map ofL)) (spsCode p n [a, b]) w) := by
  have HLA := Lib.hid ha
  have HLB := Lib.hid hb
  have HA := Lib.hid (areSpaceRows_any p n va a w ha hma)
  have HB := Lib.hid (areSpaceRows_any p n vb b w hb hmb)
  clear ha hb hma hmb
  by_cases hoa : SpOk p n a
  · have HAY : Hid (Calls Try.prog 106 #[.int .i64 p, .int .i64 n, va] w (QW (.bool true) w)) := Lib.hid (bw_yes HA.out hoa)
    have HOA := Lib.hid hoa
    clear HA
    by_cases hob : SpOk p n b
    · have HBY : Hid (Calls Try.prog 106 #[.int .i64 p, .int .i64 n, vb] w (QW (.bool true) w)) := Lib.hid (bw_yes HB.out hob)
      have HOB := Lib.hid hob
      have hn := hoa.2.1
      have hla := hoa.2.2.1
      have hlb := hob.2.2.1
      obtain ⟨n, rfl⟩ := Int.eq_ofNat_of_zero_le hn.1
      have hn40 : n ≤ 40 := by omega
      clear HB hoa hob hn
      go_enter Try.func53, Try.ntmps53
      go_wp2_with fail
      refine HAY.out.mono ?_
      rintro e w' ⟨rfl, rfl⟩
      clear HAY
      go_wp2_with fail
      refine HBY.out.mono ?_
      rintro e w' ⟨rfl, rfl⟩
      clear HBY
      go_wp2_with fail
      refine (vectorsOf_any va a _ HLA.out (by omega) HOA.out.short).mono ?_
      rintro e w1 ⟨s1, M, rfl, hb1, ho1, rfl⟩
      have HB1 := Lib.hid hb1
      have HO1 := Lib.hid (ho1.vs.lower (Nat.zero_le _))
      clear hb1 ho1
      go_wp2_with fail
      refine (vectorsOf_any vb b _ (HLB.out.below HB1.out) (by omega) HOB.out.short).mono ?_
      rintro e w2 ⟨s2, M, rfl, hb2, ho2, rfl⟩
      have HB2 := Lib.hid (HB1.out.trans (hb2.mono HB1.out.size))
      have HO2 := Lib.hid (ho2.vs.lower (Nat.zero_le _))
      have HO1' := Lib.hid (HO1.out.below hb2)
      clear hb2 ho2 HB1 HO1
      go_wp2_with fail
      refine (sumSpace_any p s1 s2 _ _ _ HOA.out.1 HO1'.out HO2.out (sum_md HOA.out HOB.out) (fun u hu => wd_wider (sum_wd HOA.out HOB.out u hu) (by simpa using hn40)) (by rw [List.length_append, List.length_map, List.length_map]; omega)).mono ?_
      rintro e w3 ⟨s3, R, rfl, hb3, ho3, hr, hlr⟩
      have HB3 := Lib.hid (HB2.out.trans (hb3.mono HB2.out.size))
      have HO3 := Lib.hid (ho3.vs.lower (Nat.zero_le _))
      have HR := Lib.hid hr
      have hlr2 : R.length ≤ 80 := by rw [List.length_append, List.length_map, List.length_map] at hlr; omega
      clear hb3 ho3 hr hlr HB2 HO2 HO1'
      go_wp2_with fail
      refine (rowsOf_any n s3 R _ HO3.out hn40 (by omega)).mono ?_
      rintro e w4 ⟨u4, rfl, ht4, hb4⟩
      have HT4 := Lib.hid ht4
      have hs4 : w.heap.size ≤ w3.heap.size := HB3.out.size
      have HB4 := Lib.hid (HB3.out.trans (hb4.mono HB3.out.size))
      clear hb4 ht4 HB3 HO3
      go_wp2
      go_ret2
      refine ⟨u4, R.map (toL n), 0, rfl, HT4.out.wider hs4, HB4.out, ?_⟩
      rw [spsCode_ok (spsTwo.2 ⟨HOA.out, HOB.out⟩)]
      exact SpOut.of_red HR.out (sum_wd HOA.out HOB.out) HR.out.red.md
    · have HNO := Lib.hid hob
      have HBN : Hid (Calls Try.prog 106 #[.int .i64 p, .int .i64 n, vb] w (QW (.bool false) w)) := Lib.hid (bw_no HB.out hob)
      clear HB hob hoa
      go_enter Try.func53, Try.ntmps53
      go_wp2_with fail
      refine HAY.out.mono ?_
      rintro e w' ⟨rfl, rfl⟩
      clear HAY
      go_wp2_with fail
      refine HBN.out.mono ?_
      rintro e w' ⟨rfl, rfl⟩
      go_wp2
      go_ret2
      refine ⟨_, [], 2, rfl, TW.nil _ _ _, Below.refl _ _, ?_⟩
      rw [spsCode_no (fun h => HNO.out (spsTwo.1 h).2)]
      exact SpOut.of_no (by decide)
  · have HNO := Lib.hid hoa
    have HAN : Hid (Calls Try.prog 106 #[.int .i64 p, .int .i64 n, va] w (QW (.bool false) w)) := Lib.hid (bw_no HA.out hoa)
    clear HA HB hoa
    go_enter Try.func53, Try.ntmps53
    go_wp2_with fail
    refine HAN.out.mono ?_
    rintro e w' ⟨rfl, rfl⟩
    go_wp2
    go_ret2
    refine ⟨_, [], 2, rfl, TW.nil _ _ _, Below.refl _ _, ?_⟩
    rw [spsCode_no (fun h => HNO.out (spsTwo.1 h).1)]
    exact SpOut.of_no (by decide)

/-- The rows' values of a table. -/
structure RowsAt (w : World) (v : Value) (tb : List (List Int)) (vs : List Value) : Prop where
  len : vs.length = tb.length
  row : ∀ k (h1 : k < vs.length) (h2 : k < tb.length), L1 0 w vs[k] tb[k]
  one : ∀ u ∈ vs, u.oneCell' = true
  at' : ∃ ad cap, v = .slice ad tb.length cap ∧ (0 < tb.length → ∃ a, ad = some a ∧ ∀ j u, vs[j]? = some u → w.cell? (a.add j) = some u)
theorem rowsAt {w : World} {v : Value} {tb : List (List Int)} (h : L2 0 w v tb) : ∃ vs, RowsAt w v tb vs := by
  refine Sl.cases h (fun ad cap hx hv => ?_) (fun b o cap hv _ hpos hc => ?_)
  · subst hx hv
    exact ⟨[], rfl, fun k h1 _ => absurd h1 (Nat.not_lt_zero _), by simp, ad, cap, rfl, fun h0 => absurd h0 (Nat.lt_irrefl 0)⟩
  · have hval : ∀ k (hk : k < tb.length), w.cell? ⟨b, o + k, none⟩ = some ((w.cell? ⟨b, o + k, none⟩).getD undef) ∧ L1 0 w ((w.cell? ⟨b, o + k, none⟩).getD undef) tb[k] := fun k hk => by
      obtain ⟨u, hu, hr⟩ := hc k hk
      rw [hu]
      exact ⟨rfl, hr⟩
    refine ⟨(List.range tb.length).map (fun k => (w.cell? ⟨b, o + k, none⟩).getD undef), by simp, fun k h1 h2 => ?_, fun u hu => ?_, _, cap, hv, fun _ => ⟨_, rfl, fun j u hj => ?_⟩⟩
    · simp only [List.getElem_map, List.getElem_range]
      exact (hval k h2).2
    · obtain ⟨k, hk, rfl⟩ := List.mem_map.1 hu
      obtain ⟨ad, cp, e⟩ := Sl.shape (hval k (List.mem_range.1 hk)).2
      rw [e]
      rfl
    · have hjl : j < tb.length := by have := (List.getElem?_eq_some_iff.1 hj).1; simpa using this
      rw [Addr.add_lit, (hval j hjl).1]
      simpa [hjl] using hj
theorem RowsAt.below {w w' : World} {v : Value} {tb : List (List Int)} {vs : List Value} (h : RowsAt w v tb vs) (hb : Below w.heap.size w w') : RowsAt w' v tb vs := by
  obtain ⟨ad, cap, hv, hc⟩ := h.at'
  refine ⟨h.len, fun k h1 h2 => (h.row k h1 h2).below hb, h.one, ad, cap, hv, fun h0 => ?_⟩
  obtain ⟨a, ha, hc⟩ := hc h0
  exact ⟨a, ha, fun j u hj => by rw [hb.cell (World.block_lt_of_cell? _ _ (hc j u hj)), hc j u hj]⟩
theorem wpList_appendT {ops : Array Oper} {rest : List Oper} {o : Oper} {a : Act} {w : World} {Q : Exit → Act → World → Prop} (hgd : o.guard = none) (dst : Option Tmp) (hdst : o.dst = dst) (s x : Operand)
    (ho : o.op = .call { callee := .builtin .append, args := #[s, x], argTypes := #[41, 41] }) (base n : Nat) (v u : Value) (xs : List Value) (tb : List (List Int)) (vs : List Value) (hs : a.eval s = v) (hx : a.eval x = u) (hown : w.ownsRow base 22 1 v n xs) (hT : RowsAt w u tb vs)
    (hl : n + tb.length ≤ 2097152) (hb : base ≤ w.heap.size)
    (h : ∀ v' w', w'.ownsRow base 22 1 v' (n + tb.length) (xs ++ vs) → w.grownBy w' v.ownBlock → wpList Try.prog ops Q rest (a.put dst v') w') : wpList Try.prog ops Q (o :: rest) a w := by
  obtain ⟨i, hi, hz, hs1, hb1⟩ := info_parts Try.infoS
  subst hdst
  obtain ⟨ad, cap, hv, hc⟩ := hT.at'
  subst hv
  by_cases h0 : tb.length = 0
  · have hvs : vs = [] := List.eq_nil_of_length_eq_zero (by rw [hT.len, h0])
    subst hvs
    rw [h0] at hx h
    refine Lib.wpList_append_run _ hgd s x _ _ ho _ _ hs hx _ _ (run_append_none' w _ _ _ i Try.underlying41 hi hown ad cap) ?_
    rw [List.append_nil] at h
    exact h v w hown ⟨rfl, rfl, rfl, Nat.le_refl _, fun _ _ _ => rfl⟩
  · obtain ⟨a0, rfl, hcell⟩ := hc (by omega)
    exact wpList_append_own w hgd s x 41 ho base 22 i _ 1 24 Try.underlying41 hi hz hs1 hb1 rfl (by decide) v n xs hs hown a0 tb.length cap vs hx (by rw [hT.len]; omega) hcell hT.one (by unfold maxLen; omega) (by omega) hb (fun v' w' h1 h2 _ => h v' w' h1 h2)

set_option maxHeartbeats 1600000 in
set_option maxRecDepth 100000 in
theorem l01Plus_any (p : Int) (n : Nat) (va vb : Value) (A B : List Lin.V) (w : World) (hp : IsP p) (ha : L2 0 w va (A.map (toL n))) (hb : L2 0 w vb (B.map (toL n))) (hm : ∀ u ∈ A ++ B, Lin.Md p u) (hw : ∀ u ∈ A ++ B, Lin.Wd n u) (hn : n ≤ 1048576) (hl : (A ++ B).length ≤ 1048575) :
    Calls Try.prog 110 #[.int .i64 p, va, vb] w (EchR p n (A ++ B) w) := by
  have HP := Lib.hid hp
  have HM := Lib.hid hm
  have HW := Lib.hid hw
  obtain ⟨asv, hra⟩ := rowsAt ha
  obtain ⟨bsv, hrb⟩ := rowsAt hb
  have HRA := Lib.hid hra
  have HRB := Lib.hid hrb
  have hal : (A.map (toL n)).length = A.length := List.length_map _
  have hbl : (B.map (toL n)).length = B.length := List.length_map _
  rw [List.length_append] at hl
  have HOWN0 := Lib.hid (World.ownsRow_made (base := w.heap.size) (e := 22) (size := 1) w #[] 0 (Nat.le_refl _) (by unfold maxLen; omega) (by simp))
  have hb0 : Below w.heap.size w (w.alloc (.cells #[] 22)) := (Below.refl _ _).alloc (Nat.le_refl _) _
  have HB0 := Lib.hid hb0
  have HRA0 := Lib.hid (hra.below hb0)
  clear hp ha hb hm hw hra hrb hb0
  go_enter Try.func110, Try.ntmps110
  go_wp2_with (at_builtin; refine wpList_appendT rfl (some 10) rfl (.tmp 8) (.tmp 9) rfl w.heap.size 0 _ _ [] (A.map (toL n)) asv rfl rfl HOWN0.out HRA0.out ?c1 ?c2 ?_)
  case c1 => rw [hal]; omega
  case c2 => simp
  rw [List.nil_append]
  intro v1 w1 ho1 hg1
  have HB1 : Hid (Below w.heap.size w w1) := Lib.hid (HB0.out.grown hg1 (by simp) (fun g hg => ((World.ownsRow.lt HOWN0.out) g hg).1))
  have HO1 := Lib.hid ho1
  have HRB1 := Lib.hid (HRB.out.below HB1.out)
  clear ho1 hg1 HRA0 HOWN0 HB0
  go_wp2_with (at_builtin; refine wpList_appendT rfl (some 12) rfl (.tmp 10) (.tmp 11) rfl w.heap.size _ _ _ asv (B.map (toL n)) bsv rfl rfl HO1.out HRB1.out ?c1 ?c2 ?_)
  case c1 => rw [hal, hbl]; omega
  case c2 => exact HB1.out.size
  intro v2 w2 ho2 hg2
  have HB2 : Hid (Below w.heap.size w w2) := Lib.hid (HB1.out.grown hg2 HB1.out.size (fun g hg => ((World.ownsRow.lt HO1.out) g hg).1))
  have HL2 : Hid (L2 0 w2 v2 ((A ++ B).map (toL n))) := Lib.hid (by
    rw [List.map_append]
    refine sl_of_owns ho2 (Nat.zero_le _) (by simp) (fun k h1 h2 => ?_)
    have hasl := HRA.out.len
    have hbsl := HRB.out.len
    by_cases e : k < asv.length
    · rw [List.getElem_append_left e, List.getElem_append_left (by omega)]
      exact (HRA.out.row k e (by omega)).below HB2.out
    · rw [List.getElem_append_right (by omega), List.getElem_append_right (by omega)]
      have h3 : k - asv.length < bsv.length := by rw [List.length_append] at h2; omega
      have := (HRB.out.row (k - asv.length) h3 (by omega)).below HB2.out
      simpa [hasl] using this)
  clear ho2 hg2 HO1 HRB1 HB1
  go_wp2_with fail
  refine (l01Echelon_any p n v2 (A ++ B) w2 HP.out HL2.out HM.out HW.out hn (by rw [List.length_append]; omega)).mono ?_
  rintro e w3 ⟨u3, R, rfl, hg3, hb3, hr3, hlr3⟩
  have HG3 := Lib.hid hg3
  have HR3 := Lib.hid hr3
  have HB3 := Lib.hid (HB2.out.trans (hb3.mono HB2.out.size))
  have hs2 := HB2.out.size
  clear hg3 hb3 hr3
  go_wp2
  go_ret
  exact ⟨_, R, rfl, HG3.out.mono hs2, HB3.out, HR3.out, hlr3⟩

set_option maxHeartbeats 1600000 in
theorem spSumOfSpaces_any (p n : Int) (va vb : Value) (a b : List (List Int)) (w : World) (ha : L2 0 w va a) (hb : L2 0 w vb b) (hma : Bd2 1048576 a) (hmb : Bd2 1048576 b) :
    Calls Try.prog 52 #[.int .i64 p, .int .i64 n, va, vb] w (SpS p n.toNat (Lin.Sp p (a.map ofL ++ b.map ofL)) (spsCode p n [a, b]) w) := by
  obtain ⟨ada, capa, rfl⟩ := Sl.shape ha
  obtain ⟨adb, capb, rfl⟩ := Sl.shape hb
  have hba := below_alloc1 w (.cells #[.slice ada a.length capa, .slice adb b.length capb] 41)
  have HB := Lib.hid hba
  have HL : Hid (L3 0 (w.alloc (.cells #[.slice ada a.length capa, .slice adb b.length capb] 41)) (.slice (some ⟨w.heap.size, 0, none⟩) 2 2) [a, b]) := Lib.hid (Or.inr ⟨w.heap.size, 0, 2, rfl, Nat.zero_le _, by simp, fun k hk => by
    match k, hk with
    | 0, _ => exact ⟨.slice ada a.length capa, by unfold World.cell?; rw [heap_alloc_new w _]; rfl, ha.below hba⟩
    | 1, _ => exact ⟨.slice adb b.length capb, by unfold World.cell?; rw [heap_alloc_new w _]; rfl, hb.below hba⟩⟩)
  have HVA := Lib.hid (ha.below hba)
  have HVB := Lib.hid (hb.below hba)
  have HM : Hid (Bd3 1048576 [a, b]) := Lib.hid ⟨by simp, fun r hr => by
    rcases List.mem_cons.1 hr with rfl | hr
    · exact hma
    · rw [List.mem_singleton.1 hr]; exact hmb⟩
  clear ha hb hma hmb hba
  have HSP := Lib.hid (l01Spaces_any p n _ [a, b] _ HL.out HM.out)
  by_cases hok : SpsOk p n [a, b]
  · have HOK := Lib.hid (spsTwo.1 hok)
    have HSO := Lib.hid hok
    have hn := HOK.out.1.2.1
    have hla := HOK.out.1.2.2.1
    have hlb := HOK.out.2.2.2.1
    obtain ⟨n, rfl⟩ := Int.eq_ofNat_of_zero_le hn.1
    have hn40 : n ≤ 40 := by omega
    clear hok hn
    go_enter Try.func52, Try.ntmps52
    go_wp2_with fail
    refine HSP.out.mono ?_
    rintro e w1 ⟨rfl, hb1⟩
    rw [spsCode_ok HSO.out]
    have HB1 := Lib.hid (HB.out.trans (hb1.mono (by simp)))
    have HVA1 := Lib.hid (HVA.out.below hb1)
    have HVB1 := Lib.hid (HVB.out.below hb1)
    clear hb1 HSP
    have HTA := Lib.hid (rows_toL (n := n) (fun r hr => HOK.out.1.row hr))
    have HTB := Lib.hid (rows_toL (n := n) (fun r hr => HOK.out.2.row hr))
    go_wp2_with fail
    refine (l01Plus_any p n _ _ (a.map ofL) (b.map ofL) w1 HOK.out.1.1 (by rw [HTA.out]; exact HVA1.out) (by rw [HTB.out]; exact HVB1.out) (sum_md HOK.out.1 HOK.out.2) (fun u hu => by simpa using sum_wd HOK.out.1 HOK.out.2 u hu) (by omega) (by rw [List.length_append, List.length_map, List.length_map]; omega)).mono ?_
    rintro e w2 ⟨u2, R, rfl, hg2, hb2, hr2, _⟩
    have HG2 := Lib.hid hg2.l2
    have HB2 := Lib.hid (HB1.out.trans (hb2.mono HB1.out.size))
    have HR2 := Lib.hid hr2
    clear hg2 hb2 hr2
    go_wp2
    go_ret2
    refine ⟨u2, R.map (toL n), 0, rfl, HG2.out, HB2.out, ?_⟩
    rw [spsCode_ok HSO.out]
    exact SpOut.of_redN HR2.out
  · have HNO := Lib.hid hok
    clear hok
    go_enter Try.func52, Try.ntmps52
    go_wp2_with fail
    refine HSP.out.mono ?_
    rintro e w1 ⟨rfl, hb1⟩
    rw [spsCode_no HNO.out]
    have HB1 := Lib.hid (HB.out.trans (hb1.mono (by simp)))
    clear hb1 HSP
    go_wp2
    go_ret2
    refine ⟨_, [], 2, rfl, nil2 _, HB1.out, ?_⟩
    rw [spsCode_no HNO.out]
    exact SpOut.of_no (by decide)
end Go.Proofs.Ytpdkfidmmjlmnaa
