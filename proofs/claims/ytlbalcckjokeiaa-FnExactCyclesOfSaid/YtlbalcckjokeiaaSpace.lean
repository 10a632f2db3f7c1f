/-
  Spaces of rows: what ReduceRows and its like answer; impl.ReduceRows by its contract.
-/
import Derived.Test.YtlbalcckjokeiaaRow2
import Derived.Test.YtlbalcckjokeiaaEchM
namespace Go.Proofs.Ytlbalcckjokeiaa
open Go.RowKit

/-- What the functions on spaces take. -/
def SpOk (p n : Int) (rows : List (List Int)) : Prop := IsP p ∧ (0 ≤ n ∧ n ≤ 40) ∧ rows.length ≤ 40 ∧ TabOk p (rows.length : Int) n rows
theorem SpOk.row {p n : Int} {rows : List (List Int)} (h : SpOk p n rows) {r : List Int} (hr : r ∈ rows) : RowOk p n r := h.2.2.2.2 r hr
theorem SpOk.md {p n : Int} {rows : List (List Int)} (h : SpOk p n rows) : ∀ u ∈ rows.map ofL, Lin.Md p u := fun u hu => by
  obtain ⟨r, hr, rfl⟩ := List.mem_map.1 hu
  exact ofL_md (by have := h.1.lo; omega) (h.row hr)
theorem SpOk.wd {p n : Int} {rows : List (List Int)} (h : SpOk p n rows) : ∀ u ∈ rows.map ofL, Lin.Wd n.toNat u := fun u hu => by
  obtain ⟨r, hr, rfl⟩ := List.mem_map.1 hu
  exact ofL_wd (by have := (h.row hr).1; omega)
theorem SpOk.short {p n : Int} {rows : List (List Int)} (h : SpOk p n rows) : ∀ r ∈ rows, r.length ≤ 40 := fun r hr => by
  have := (h.row hr).1
  have := h.2.1
  omega
theorem wd_wider {n m : Nat} {u : Lin.V} (h : Lin.Wd n u) (hm : n ≤ m) : Lin.Wd m u := fun i hi => h i (by omega)

theorem led_length {n : Nat} : ∀ (L : List Lin.V) (k : Nat), L.Pairwise (fun v w => Lin.ld v < Lin.ld w) → (∀ u ∈ L, k ≤ Lin.ld u ∧ Lin.ld u < n) → L.length ≤ n - k
  | [], _, _, _ => by simp
  | v :: L, k, hp, h => by
    have h1 := List.pairwise_cons.1 hp
    have h0 := h v (by simp)
    have := led_length L (Lin.ld v + 1) h1.2 (fun u hu => ⟨h1.1 u hu, (h u (by simp [hu])).2⟩)
    simp only [List.length_cons]
    omega
theorem red_length {p : Int} {n : Nat} {R : List Lin.V} (h : Lin.Red p R) (hw : ∀ u ∈ R, Lin.Wd n u) : R.length ≤ n := by
  have := led_length (n := n) R 0 h.inc (fun u hu => ⟨Nat.zero_le _, (ld_ltn (hw u hu) (h.ne hu)).1⟩)
  omega

/-- What such a function answers: the reduced list of a space, or a code. -/
structure SpOut (p : Int) (n : Nat) (S : Lin.V → Prop) (c0 : Int) (out : List (List Int)) (c : Int) : Prop where
  good : c0 = 0 → ∃ R, Lin.Red p R ∧ (∀ u ∈ R, Lin.Wd n u) ∧ (∀ v, Lin.Sp p R v ↔ S v) ∧ out = R.map (toL n)
  bad : c0 ≠ 0 → out = []
  code : c = c0
theorem SpOut.unique {p : Int} {n : Nat} {S : Lin.V → Prop} {c0 : Int} {o1 o2 : List (List Int)} {c1 c2 : Int} (hp : c0 = 0 → 1 < p) (h1 : SpOut p n S c0 o1 c1) (h2 : SpOut p n S c0 o2 c2) : o1 = o2 ∧ c1 = c2 := by
  refine ⟨?_, h1.code.trans h2.code.symm⟩
  by_cases h0 : c0 = 0
  · obtain ⟨R1, a1, _, b1, rfl⟩ := h1.good h0
    obtain ⟨R2, a2, _, b2, rfl⟩ := h2.good h0
    rw [Lin.Red.unique (hp h0) a1 a2 (fun v => (b1 v).trans (b2 v).symm)]
  · rw [h1.bad h0, h2.bad h0]
theorem SpOut.bd {p : Int} {n : Nat} {S : Lin.V → Prop} {c0 : Int} {o : List (List Int)} {c : Int} (h : SpOut p n S c0 o c) (hn : c0 = 0 → n ≤ 1048576) : Bd2 1048576 o := by
  by_cases h0 : c0 = 0
  · obtain ⟨R, a, b, _, rfl⟩ := h.good h0
    have := red_length a b
    have hn := hn h0
    refine ⟨by rw [List.length_map]; omega, fun r hr => ?_⟩
    obtain ⟨u, _, rfl⟩ := List.mem_map.1 hr
    unfold Bd1
    rw [toL_length]
    exact hn
  · rw [h.bad h0]
    exact ⟨by simp, by simp⟩
theorem SpOut.of_no {p : Int} {n : Nat} {S : Lin.V → Prop} {c0 : Int} (h : c0 ≠ 0) : SpOut p n S c0 [] c0 := ⟨fun h0 => absurd h0 h, fun _ => rfl, rfl⟩
theorem SpOut.of_red {p : Int} {n : Nat} {T R : List Lin.V} (h : RedOf p R T) (hT : ∀ u ∈ T, Lin.Wd n u) (hm : ∀ u ∈ R, Lin.Md p u) : SpOut p n (Lin.Sp p T) 0 (R.map (toL n)) 0 :=
  ⟨fun _ => ⟨R, h.red, fun u hu => Lin.Sp.wd hT ((h.eqv u).1 (Lin.Sp.mem hu (hm u hu))), h.eqv, rfl⟩, fun hh => absurd rfl hh, rfl⟩
theorem SpOut.of_redN {p : Int} {n : Nat} {T R : List Lin.V} (h : RedN p n R T) : SpOut p n (Lin.Sp p T) 0 (R.map (toL n)) 0 :=
  ⟨fun _ => ⟨R, h.red, h.wd, h.eqv, rfl⟩, fun hh => absurd rfl hh, rfl⟩

theorem TW.wider {lo lo' hi : Nat} {W : World} {u : Value} {R : List (List Int)} (h : TW lo hi W u R) (hl : lo' ≤ lo) : TW lo' hi W u R := by
  rcases h with h | ⟨g, r, c, Z, h1, h2, h3, h4, h5, h6, h7⟩
  · exact Or.inl h
  · exact Or.inr ⟨g, r, c, Z, by omega, h2, h3, h4, h5, h6, h7⟩
/-- What the program answers: a table of its own, and a code. -/
def SpW (p : Int) (n : Nat) (S : Lin.V → Prop) (c0 : Int) (w : World) (e : Ending) (w' : World) : Prop :=
  ∃ (u : Value) (out : List (List Int)) (c : Int), e = .returned (.tuple #[u, .int .i64 c]) ∧ TW w.heap.size w'.heap.size w' u out ∧ Below w.heap.size w w' ∧ SpOut p n S c0 out c

open Classical in
noncomputable def spCode (p n : Int) (rows : List (List Int)) : Int := if SpOk p n rows then 0 else 2
theorem spCode_ok {p n : Int} {rows : List (List Int)} (h : SpOk p n rows) : spCode p n rows = 0 := if_pos h
theorem spCode_no {p n : Int} {rows : List (List Int)} (h : ¬ SpOk p n rows) : spCode p n rows = 2 := if_neg h
theorem spCode_zero {p n : Int} {rows : List (List Int)} (h : spCode p n rows = 0) : SpOk p n rows := Classical.byContradiction fun hn => by
  rw [spCode_no hn] at h
  cases h

set_option maxHeartbeats 1600000 in
theorem areSpaceRows_any (p n : Int) (v : Value) (rows : List (List Int)) (w : World) (h : L2 0 w v rows) (hm : Bd2 1048576 rows) :
    Calls Try.prog 61 #[.int .i64 p, .int .i64 n, v] w (BW (SpOk p n rows) w) := by
  have HM := Lib.hid hm
  have H := Lib.hid h
  have hml : rows.length ≤ 1048576 := hm.1
  obtain ⟨ad, cap, rfl⟩ := Sl.shape h
  clear h hm
  by_cases hp : IsP p
  · have HP := Lib.hid hp
    clear hp
    by_cases hr : 0 ≤ n ∧ n ≤ 40
    · have HR := Lib.hid hr
      clear hr
      by_cases hl : rows.length ≤ 40
      · have hl2 : ¬ ((40 : Int) < (rows.length : Int)) := by omega
        go_enter Try.func61, Try.ntmps61
        go_wp2_with fail
        refine (prime_yes HP.out _).mono ?_
        rintro e w' ⟨rfl, rfl⟩
        go_wp2_with fail
        refine (in_yes HR.out _).mono ?_
        rintro e w' ⟨rfl, rfl⟩
        go_wp2_with fail
        refine (isTable_any p rows.length n _ rows _ HP.out H.out HM.out).mono ?_
        rintro e w' ⟨b, rfl, rfl, hb⟩
        have HB := Lib.hid hb
        clear hb
        go_wp2
        go_ret
        exact ⟨b, rfl, rfl, HB.out.trans ⟨fun h => ⟨HP.out, HR.out, hl, h⟩, fun h => h.2.2.2⟩⟩
      · have hl2 : (40 : Int) < (rows.length : Int) := by omega
        go_enter Try.func61, Try.ntmps61
        go_wp2_with fail
        refine (prime_yes HP.out _).mono ?_
        rintro e w' ⟨rfl, rfl⟩
        go_wp2_with fail
        refine (in_yes HR.out _).mono ?_
        rintro e w' ⟨rfl, rfl⟩
        go_wp2
        go_ret
        exact bw_false (fun h => hl h.2.2.1)
    · have HR := Lib.hid hr
      clear hr
      go_enter Try.func61, Try.ntmps61
      go_wp2_with fail
      refine (prime_yes HP.out _).mono ?_
      rintro e w' ⟨rfl, rfl⟩
      go_wp2_with fail
      refine (in_no HR.out _).mono ?_
      rintro e w' ⟨rfl, rfl⟩
      go_wp2
      go_ret
      exact bw_false (fun h => HR.out h.2.1)
  · have HP := Lib.hid hp
    clear hp
    go_enter Try.func61, Try.ntmps61
    go_wp2_with fail
    refine (prime_no HP.out _).mono ?_
    rintro e w' ⟨rfl, rfl⟩
    go_wp2
    go_ret
    exact bw_false (fun h => HP.out h.1)

set_option maxHeartbeats 1600000 in
theorem reduceRows_any (p n : Int) (v : Value) (rows : List (List Int)) (w : World) (h : L2 0 w v rows) (hm : Bd2 1048576 rows) :
    Calls Try.prog 18 #[.int .i64 p, .int .i64 n, v] w (SpW p n.toNat (Lin.Sp p (rows.map ofL)) (spCode p n rows) w) := by
  have H := Lib.hid h
  have HA := Lib.hid (areSpaceRows_any p n v rows w h hm)
  clear h hm
  by_cases hok : SpOk p n rows
  · have HOK := Lib.hid hok
    have HAY : Hid (Calls Try.prog 61 #[.int .i64 p, .int .i64 n, v] w (QW (.bool true) w)) := Lib.hid (bw_yes HA.out hok)
    have hn := hok.2.1
    have hl := hok.2.2.1
    obtain ⟨n, rfl⟩ := Int.eq_ofNat_of_zero_le hn.1
    have hn40 : n ≤ 40 := by omega
    clear HA hok hn
    go_enter Try.func18, Try.ntmps18
    go_wp2_with fail
    refine HAY.out.mono ?_
    rintro e w' ⟨rfl, rfl⟩
    clear HAY
    go_wp2_with fail
    refine (vectorsOf_any v rows _ H.out (by omega) HOK.out.short).mono ?_
    rintro e w1 ⟨s1, M, rfl, hb1, ho1, rfl⟩
    have HB1 := Lib.hid hb1
    have HO1 := Lib.hid (ho1.vs.lower (Nat.zero_le _))
    have hs1 : w.heap.size ≤ w1.heap.size := hb1.size
    clear hb1 ho1
    go_wp2_with fail
    refine (reducedList_any p s1 _ _ HOK.out.1 HO1.out HOK.out.md (fun u hu => wd_wider (HOK.out.wd u hu) (by simpa using hn40)) (by rw [List.length_map]; omega)).mono ?_
    rintro e w2 ⟨s2, R, rfl, hb2, ho2, hr, hlr⟩
    have HB2 := Lib.hid (HB1.out.trans (hb2.mono hs1))
    have HO2 := Lib.hid (ho2.vs.lower (Nat.zero_le _))
    have HR := Lib.hid hr
    have hs2 : w1.heap.size ≤ w2.heap.size := hb2.size
    have hlr2 : R.length ≤ 40 := by rw [List.length_map] at hlr; omega
    clear hb2 ho2 hr hlr HB1 HO1
    go_wp2_with fail
    refine (rowsOf_any n s2 R _ HO2.out hn40 (by omega)).mono ?_
    rintro e w3 ⟨u3, rfl, ht3, hb3⟩
    have HT3 := Lib.hid ht3
    have HB3 := Lib.hid (HB2.out.trans (hb3.mono (by omega)))
    clear hb3 ht3 HB2 HO2
    go_wp2
    go_ret2
    refine ⟨u3, R.map (toL n), 0, rfl, HT3.out.wider (by omega), HB3.out, ?_⟩
    · rw [spCode_ok HOK.out]
      have hw := HOK.out.wd
      rw [show ((n : Int)).toNat = n from Int.toNat_natCast n] at hw
      exact SpOut.of_red HR.out hw HR.out.red.md
  · have HNO := Lib.hid hok
    have HAN : Hid (Calls Try.prog 61 #[.int .i64 p, .int .i64 n, v] w (QW (.bool false) w)) := Lib.hid (bw_no HA.out hok)
    clear HA hok
    go_enter Try.func18, Try.ntmps18
    go_wp2_with fail
    refine HAN.out.mono ?_
    rintro e w' ⟨rfl, rfl⟩
    go_wp2
    go_ret2
    refine ⟨_, [], 2, rfl, TW.nil _ _ _, Below.refl _ _, ?_⟩
    rw [spCode_no HNO.out]
    exact SpOut.of_no (by decide)
end Go.Proofs.Ytlbalcckjokeiaa
