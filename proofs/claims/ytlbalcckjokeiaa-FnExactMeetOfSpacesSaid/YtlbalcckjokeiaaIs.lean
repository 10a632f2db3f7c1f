/-
  impl.IsComplex by its contract.
-/
import Derived.Test.YtlbalcckjokeiaaSq
namespace Go.Proofs.Ytlbalcckjokeiaa
open Go.RowKit

def IsCx (p : Int) (ds : List Int) (ms : List (List (List Int))) : Prop := PreOk p ds ms ∧ SqOk p ds ms

theorem bw_yes {f : FuncId} {args : Array Value} {w : World} {P : Prop} (h : Calls Try.prog f args w (BW P w)) (hp : P) : Calls Try.prog f args w (QW (.bool true) w) :=
  h.mono fun _ _ ⟨b, he, hw, hb⟩ => ⟨by rw [he, hb.2 hp], hw⟩
theorem bw_no {f : FuncId} {args : Array Value} {w : World} {P : Prop} (h : Calls Try.prog f args w (BW P w)) (hp : ¬ P) : Calls Try.prog f args w (QW (.bool false) w) :=
  h.mono fun _ _ ⟨b, he, hw, hb⟩ => ⟨by
    have : b = false := by cases b with | false => rfl | true => exact absurd (hb.1 rfl) hp
    rw [he, this], hw⟩
theorem qw_quiet {f : FuncId} {args : Array Value} {w : World} {n : Nat} {v : Value} (h : Calls Try.prog f args (w.drewN n) (QW v (w.drewN n))) : Calls Try.prog f args (w.drewN n) fun e w'' => e = .returned v ∧ ∃ m, w'' = w.drewN m :=
  h.mono fun _ _ ⟨he, hw⟩ => ⟨he, n, hw.symm⟩

theorem topOf_any (p : Int) (dv mv : Value) (n : Nat) (ad : Option Addr) (cap : Nat) (w : World) (hd : dv = .slice ad n cap) (hn : n ≤ 1048576) :
    Calls Try.prog 87 #[.agg #[.int .i64 p, dv, mv]] w (BR (.int .i64 ((n : Int) - 1)) w) := by
  subst hd
  have hb0 : Below w.heap.size w (w.alloc (.cells #[.int .i64 p, .slice ad n cap, mv] 37)) := (Below.refl _ _).alloc (Nat.le_refl _) _
  have HB0 := Lib.hid hb0
  clear hb0
  go_enter Try.func87, Try.ntmps87
  go_wp2
  go_ret
  exact ⟨rfl, HB0.out⟩

/-- What stands in the boxes of a call over a complex, in whatever later world. -/
structure Bx (w wr : World) (b : Nat) (p : Int) (dv mv : Value) (ds : List Int) (ms : List (List (List Int))) : Prop where
  below : Below w.heap.size w wr
  c0 : wr.cell? ⟨b, 0, none⟩ = some (.int .i64 p)
  c1 : wr.cell? ⟨b, 1, none⟩ = some dv
  c2 : wr.cell? ⟨b, 2, none⟩ = some mv
  lt : b < wr.heap.size
  cx : Cx 0 wr dv mv ds ms
theorem Bx.next {w wr w' : World} {b : Nat} {p : Int} {dv mv : Value} {ds : List Int} {ms : List (List (List Int))} (h : Bx w wr b p dv mv ds ms) (hb : Below wr.heap.size wr w') : Bx w w' b p dv mv ds ms :=
  ⟨h.below.trans (hb.mono h.below.size), later hb (Nat.le_refl _) h.c0, later hb (Nat.le_refl _) h.c1, later hb (Nat.le_refl _) h.c2, Nat.lt_of_lt_of_le h.lt hb.size, h.cx.below hb⟩
theorem Bx.start {w : World} {p : Int} {dv mv : Value} {ds : List Int} {ms : List (List (List Int))} (t : TypeId) (h : Cx 0 w dv mv ds ms) : Bx w (w.alloc (.cells #[.int .i64 p, dv, mv] t)) w.heap.size p dv mv ds ms :=
  ⟨(Below.refl _ _).alloc (Nat.le_refl _) _, by simp, by simp, by simp, by simp, h.below ((Below.refl _ _).alloc (Nat.le_refl _) _)⟩

set_option maxHeartbeats 3200000 in
set_option maxRecDepth 100000 in
theorem isComplex_any (p : Int) (dv mv : Value) (ds : List Int) (ms : List (List (List Int))) (w : World) (h : Cx 0 w dv mv ds ms) (hd : ds.length ≤ 1048576) (hm : Bd3 1048576 ms) :
    Calls Try.prog 81 #[.agg #[.int .i64 p, dv, mv]] w (BB (IsCx p ds ms) w) := by
  have hml : ms.length ≤ 1048576 := hm.1
  have HM := Lib.hid hm
  have H := Lib.hid h
  clear hm
  obtain ⟨ad, cap, hdv⟩ := Sl.shape h.dims
  obtain ⟨am, capm, hmv⟩ := Sl.shape h.maps
  clear h
  subst hdv hmv
  have HX0 := Lib.hid (Bx.start (p := p) 37 H.out)
  have htop := fun W => topOf_any p (.slice ad ds.length cap) (.slice am ms.length capm) ds.length ad cap W rfl hd
  have HTOP := Lib.hid htop
  clear htop
  by_cases hp : IsP p
  · have HP := Lib.hid hp
    clear hp
    by_cases hr : 0 ≤ (ds.length : Int) - 1 ∧ (ds.length : Int) - 1 ≤ 5
    · have HR := Lib.hid hr
      by_cases hl : (ms.length : Int) = (ds.length : Int) - 1
      · have hq1 : ((ms.length : Int) != (ds.length : Int) - 1) = false := by rw [hl]; simp
        have hq2 : ((ms.length : Int) == (ds.length : Int) - 1) = true := by rw [hl]; simp
        have HL := Lib.hid hl
        clear hl hr
        go_enter Try.func81, Try.ntmps81
        go_wp2_with fail
        refine (HTOP.out _).mono ?_
        rintro e w1 ⟨rfl, hb1⟩
        have hx1 := HX0.out.next hb1
        have c0 := hx1.c0
        have c1 := hx1.c1
        have c2 := hx1.c2
        have HX1 := Lib.hid hx1
        clear hb1 hx1
        go_wp2_with fail
        refine (prime_yes HP.out _).mono ?_
        rintro e w' ⟨rfl, rfl⟩
        go_wp2_with fail
        refine (in_yes HR.out _).mono ?_
        rintro e w' ⟨rfl, rfl⟩
        go_wp2
        go_loop [5, 29] (fun _ i => ∃ (k : Nat), k ≤ ds.length ∧ i = .int .i64 k ∧ Hid (∀ j (h1 : j < ds.length), j < k → 0 ≤ ds[j] ∧ ds[j] ≤ 8)) (fun _ i => ds.length - (intOf i).toNat)
        case atStart => exact ⟨0, Nat.zero_le _, rfl, Lib.hid (fun _ _ h => absurd h (Nat.not_lt_zero _))⟩
        case round =>
          obtain ⟨k, hk, rfl, HD⟩ := hrel
          by_cases hlt : k < ds.length
          · refine Sl.cases HX1.out.cx.dims (fun _ _ hx _ => absurd hlt (by simp [hx])) (fun bd od capd hv _ hposd hcld => ?_)
            injection hv with e1 _ e3
            subst e1 e3
            obtain ⟨u, hu, hr⟩ := hcld k hlt
            obtain ⟨x, hx⟩ : ∃ x, x = ds[k] := ⟨_, rfl⟩
            rw [hr, ← hx] at hu
            have HX := Lib.hid hx
            clear hx hr hcld
            by_cases hxy : 0 ≤ x ∧ x ≤ 8
            · have HXY := Lib.hid hxy
              clear hxy
              go_wp2_with fail
              refine (in_yes HXY.out _).mono ?_
              rintro e w' ⟨rfl, rfl⟩
              go_wp2
              go_round
              case rel => exact ⟨k + 1, by omega, by go_num, Lib.hid (fun j h1 hjk => by
                by_cases e : j = k
                · subst e; rw [← HX.out]; exact HXY.out
                · exact HD.out j h1 (by omega))⟩
              case measure => simp [intOf]; omega
            · have HXY := Lib.hid hxy
              clear hxy
              go_wp2_with fail
              refine (in_no HXY.out _).mono ?_
              rintro e w' ⟨rfl, rfl⟩
              go_wp2
              go_ret
              exact bb_false HX1.out.below (fun h => HXY.out (by rw [HX.out]; exact h.1.dims _ (List.getElem_mem hlt)))
          · have HDIMS : Hid (∀ d ∈ ds, 0 ≤ d ∧ d ≤ 8) := Lib.hid (all_of_lt (fun j hj => HD.out j hj (by omega)))
            clear HD
            go_wp2
            clear c0 c1 c2
            go_loopw [6, 7, 40] (fun _ _ i wr => ∃ (k m : Nat), k ≤ ms.length ∧ i = .int .i64 k ∧ wr = w1.drewN m ∧ Hid (∀ j, j < ms.length → j < k → TabOk p (ds.getD (j + 1) 0) (ds.getD j 0) (ms.getD j []))) (fun _ _ i _ => ms.length - (intOf i).toNat)
            case atStart => exact ⟨0, 0, Nat.zero_le _, rfl, rfl, Lib.hid (fun _ _ h => absurd h (Nat.not_lt_zero _))⟩
            case round =>
              obtain ⟨k, m, hk, rfl, hw, HD⟩ := hrel
              have HXR : Hid (Bx w wr w.heap.size p (.slice ad ds.length cap) (.slice am ms.length capm) ds ms) := Lib.hid (by rw [hw]; exact HX1.out.next (drewN_below _ m))
              have HW := Lib.hid hw
              clear hw
              have c0 := HXR.out.c0
              have c1 := HXR.out.c1
              have c2 := HXR.out.c2
              by_cases hlt : k < ms.length
              · refine Sl.cases HXR.out.cx.dims (fun _ _ hx _ => absurd HR.out (by simp [hx])) (fun bd od capd hv _ hposd hcld => ?_)
                injection hv with e1 _ e3
                subst e1 e3
                refine Sl.cases HXR.out.cx.maps (fun _ _ hx _ => absurd hlt (by simp [hx])) (fun bm om capm2 hv _ hposm hclm => ?_)
                injection hv with e1 _ e3
                subst e1 e3
                have hd1 : k + 1 < ds.length := by have := HL.out; omega
                obtain ⟨u, hu, hr⟩ := hclm k hlt
                obtain ⟨v0, hv0, hr0⟩ := hcld k (by omega)
                obtain ⟨v1, hv1, hr1⟩ := hcld (k + 1) hd1
                rw [hr0] at hv0
                rw [hr1] at hv1
                obtain ⟨d0, hd0⟩ : ∃ d, d = ds[k] := ⟨_, rfl⟩
                obtain ⟨d1, hd1'⟩ : ∃ d, d = ds[k + 1] := ⟨_, rfl⟩
                rw [← hd0] at hv0
                rw [← hd1'] at hv1
                have HE := Lib.hid (fun (m2 : Nat) => isTable_any p d1 d0 u ms[k] (wr.drewN m2) HP.out (hr.below (drewN_below wr m2)) (HM.out.2 _ (List.getElem_mem hlt)))
                have HT : Hid (TabOk p (ds.getD (k + 1) 0) (ds.getD k 0) (ms.getD k []) ↔ TabOk p d1 d0 ms[k]) := Lib.hid (by rw [getD_of_lt _ hd1, getD_of_lt _ (by omega : k < ds.length), getD_of_lt _ hlt, hd0, hd1'])
                clear hr hr0 hr1 hcld hclm hd0 hd1'
                have hw1 : IntKind.i64.wrap ((k : Int) + 1) = (k : Int) + 1 := IntWalk.i64_in _ (by omega)
                have hq3 : (0 : Int) ≤ (k : Int) + 1 := by omega
                have hq4 : (k : Int) + 1 < (ds.length : Int) := by omega
                have hq5 : ((k : Int) + 1).toNat = k + 1 := by omega
                have hq6 : (k : Int) < (ds.length : Int) := by omega
                by_cases ht : TabOk p d1 d0 ms[k]
                · have HEY : Hid (∀ m2, Calls Try.prog 115 #[.int .i64 p, u, .int .i64 d1, .int .i64 d0] (wr.drewN m2) (QW (.bool true) (wr.drewN m2))) := Lib.hid (fun m2 => bw_yes (HE.out m2) ht)
                  have HTY := Lib.hid ht
                  clear ht HE
                  go_wp2
                  go_quiet ((go_at_call 115; exact qw_quiet (HEY.out _)))
                  clear hw1 hq3 hq4 hq5 hq6
                  go_wp2
                  go_roundw
                  case rel => exact ⟨k + 1, m + nq, by omega, by go_num, by rw [HW.out, World.drewN_drewN], Lib.hid (fun j h1 hjk => by
                    by_cases e : j = k
                    · subst e; exact HT.out.2 HTY.out
                    · exact HD.out j h1 (by omega))⟩
                  case measure => simp [intOf]; omega
                · have HEY : Hid (∀ m2, Calls Try.prog 115 #[.int .i64 p, u, .int .i64 d1, .int .i64 d0] (wr.drewN m2) (QW (.bool false) (wr.drewN m2))) := Lib.hid (fun m2 => bw_no (HE.out m2) ht)
                  have HTY := Lib.hid ht
                  clear ht HE
                  go_wp2
                  go_quiet ((go_at_call 115; exact qw_quiet (HEY.out _)))
                  clear hw1 hq3 hq4 hq5 hq6
                  go_wp2
                  go_ret
                  exact bb_false (HXR.out.next (drewN_below _ nq)).below (fun h => HTY.out (HT.out.1 (h.1.tabs k hlt)))
              · have HPRE : Hid (PreOk p ds ms) := Lib.hid ⟨HP.out, by have := HR.out; omega, by have := HR.out; omega, by have := HL.out; omega, HDIMS.out, fun j hj => HD.out j hj (by omega)⟩
                go_wp2_with fail
                refine (squares_any p _ _ ds ms _ HXR.out.cx HPRE.out).mono ?_
                rintro e w2 ⟨bb, rfl, hb2, hbb⟩
                have HBB := Lib.hid hbb
                have HB2 := Lib.hid (HXR.out.next hb2).below
                clear hbb hb2
                go_wp2
                go_ret
                exact ⟨bb, rfl, HB2.out, ⟨fun h => ⟨HPRE.out, HBB.out.1 h⟩, fun h => HBB.out.2 h.2⟩⟩
      · have hq1 : ((ms.length : Int) != (ds.length : Int) - 1) = true := by simp [hl]
        have hq2 : ((ms.length : Int) == (ds.length : Int) - 1) = false := by simp [hl]
        have HL := Lib.hid hl
        clear hl hr
        go_enter Try.func81, Try.ntmps81
        go_wp2_with fail
        refine (HTOP.out _).mono ?_
        rintro e w1 ⟨rfl, hb1⟩
        have hx1 := HX0.out.next hb1
        have c0 := hx1.c0
        have c1 := hx1.c1
        have c2 := hx1.c2
        have HX1 := Lib.hid hx1
        clear hb1 hx1
        go_wp2_with fail
        refine (prime_yes HP.out _).mono ?_
        rintro e w' ⟨rfl, rfl⟩
        go_wp2_with fail
        refine (in_yes HR.out _).mono ?_
        rintro e w' ⟨rfl, rfl⟩
        go_wp2
        go_ret
        exact bb_false HX1.out.below (fun h => HL.out (by have := h.1.mlen; omega))
    · have HR := Lib.hid hr
      clear hr
      go_enter Try.func81, Try.ntmps81
      go_wp2_with fail
      refine (HTOP.out _).mono ?_
      rintro e w1 ⟨rfl, hb1⟩
      have hx1 := HX0.out.next hb1
      have c0 := hx1.c0
      have c1 := hx1.c1
      have c2 := hx1.c2
      have HX1 := Lib.hid hx1
      clear hb1 hx1
      go_wp2_with fail
      refine (prime_yes HP.out _).mono ?_
      rintro e w' ⟨rfl, rfl⟩
      go_wp2_with fail
      refine (in_no HR.out _).mono ?_
      rintro e w' ⟨rfl, rfl⟩
      go_wp2
      go_ret
      exact bb_false HX1.out.below (fun h => HR.out (by have := h.1.len0; have := h.1.len1; omega))
  · have HP := Lib.hid hp
    clear hp
    go_enter Try.func81, Try.ntmps81
    go_wp2_with fail
    refine (HTOP.out _).mono ?_
    rintro e w1 ⟨rfl, hb1⟩
    have hx1 := HX0.out.next hb1
    have c0 := hx1.c0
    have c1 := hx1.c1
    have c2 := hx1.c2
    have HX1 := Lib.hid hx1
    clear hb1 hx1
    go_wp2_with fail
    refine (prime_no HP.out _).mono ?_
    rintro e w' ⟨rfl, rfl⟩
    go_wp2
    go_ret
    exact bb_false HX1.out.below (fun h => HP.out h.1.prime)
end Go.Proofs.Ytlbalcckjokeiaa
