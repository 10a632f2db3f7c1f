/-
  impl.checkPrimes and impl.checkEnds on a row of complexes, by their contracts.
-/
import Derived.Test.YtpdkfidmmjlmnabEnd
import Derived.BigQuiet
import Derived.Deep.QuietTactic
import Derived.BigRegion
import Derived.Deep.Cut
import Derived.Deep.CutRange
namespace Go.Proofs.Ytpdkfidmmjlmnab
open Go.RowKit

/-- Complexes side by side in a row at block b. -/
structure Cxs (w : World) (b n : Nat) (P : Nat → Int) (dv mv : Nat → Value) (ds : Nat → List Int) (ms : Nat → List (List (List Int))) : Prop where
  c0 : ∀ j, j < n → w.cell? ⟨b, j * 3, none⟩ = some (.int .i64 (P j))
  c1 : ∀ j, j < n → w.cell? ⟨b, j * 3 + 1, none⟩ = some (dv j)
  c2 : ∀ j, j < n → w.cell? ⟨b, j * 3 + 2, none⟩ = some (mv j)
  cx : ∀ j, j < n → Cx 0 w (dv j) (mv j) (ds j) (ms j)
  bd : ∀ j, j < n → (ds j).length ≤ 1048576 ∧ Bd3 1048576 (ms j)
theorem Cxs.next {w w' : World} {b n : Nat} {P : Nat → Int} {dv mv : Nat → Value} {ds : Nat → List Int} {ms : Nat → List (List (List Int))} (h : Cxs w b n P dv mv ds ms) (hb : Below w.heap.size w w') : Cxs w' b n P dv mv ds ms :=
  ⟨fun j hj => later hb (Nat.le_refl _) (h.c0 j hj), fun j hj => later hb (Nat.le_refl _) (h.c1 j hj), fun j hj => later hb (Nat.le_refl _) (h.c2 j hj), fun j hj => (h.cx j hj).below hb, h.bd⟩
open Classical in
/-- The code of complexes that are to have the same prime. -/
noncomputable def prCodeN (n : Nat) (P : Nat → Int) (ds : Nat → List Int) (ms : Nat → List (List (List Int))) : Int :=
  if ∀ j, j < n → IsCx (P j) (ds j) (ms j) then (if ∀ j, j < n → P j = P 0 then 0 else 2) else 1
open Classical in
/-- .. and the same number of degrees. -/
noncomputable def endCodeN (n : Nat) (P : Nat → Int) (ds : Nat → List Int) (ms : Nat → List (List (List Int))) : Int :=
  if prCodeN n P ds ms = 0 then (if ∀ j, j < n → (ds j).length = (ds 0).length then 0 else 2) else prCodeN n P ds ms
structure EndOkN (n : Nat) (P : Nat → Int) (ds : Nat → List Int) (ms : Nat → List (List (List Int))) : Prop where
  cx : ∀ j, j < n → IsCx (P j) (ds j) (ms j)
  prime : ∀ j, j < n → P j = P 0
  len : ∀ j, j < n → (ds j).length = (ds 0).length
theorem endCodeN_zero {n : Nat} {P : Nat → Int} {ds : Nat → List Int} {ms : Nat → List (List (List Int))} (h : endCodeN n P ds ms = 0) : EndOkN n P ds ms := by
  unfold endCodeN at h
  by_cases h0 : prCodeN n P ds ms = 0
  · rw [if_pos h0] at h
    unfold prCodeN at h0
    by_cases h1 : ∀ j, j < n → IsCx (P j) (ds j) (ms j)
    · rw [if_pos h1] at h0
      by_cases h2 : ∀ j, j < n → P j = P 0
      · by_cases h3 : ∀ j, j < n → (ds j).length = (ds 0).length
        · exact ⟨h1, h2, h3⟩
        · rw [if_neg h3] at h; cases h
      · rw [if_neg h2] at h0; cases h0
    · rw [if_neg h1] at h0; cases h0
  · rw [if_neg h0] at h
    exact absurd h h0

set_option maxHeartbeats 3200000 in
set_option maxRecDepth 100000 in
theorem checkPrimesN_any (b n cp : Nat) (P : Nat → Int) (dv mv : Nat → Value) (ds : Nat → List Int) (ms : Nat → List (List (List Int))) (w : World) (h : Cxs w b n P dv mv ds ms) (hn : 0 < n ∧ n ≤ 100) :
    Calls Try.prog 182 #[.slice (some ⟨b, 0, none⟩) n cp] w (BR (.int .i64 (prCodeN n P ds ms)) w) := by
  have H := Lib.hid h
  obtain ⟨hn0, hn1⟩ := hn
  have hbl : b < w.heap.size := cell_lt (h.c0 0 hn0)
  clear h
  go_enter Try.func182, Try.ntmps182
  go_wp2
  go_loopw [9] (fun i wr => ∃ (k : Nat), k ≤ n ∧ i = .int .i64 k ∧ Hid (Below w.heap.size w wr) ∧ Hid (∀ j, j < k → IsCx (P j) (ds j) (ms j))) (fun i _ => n - (intOf i).toNat)
  case atStart => exact ⟨0, Nat.zero_le _, rfl, Lib.hid (Below.refl _ _), Lib.hid (fun j hj => absurd hj (Nat.not_lt_zero _))⟩
  case round =>
    obtain ⟨k, hk, rfl, HB, HD⟩ := hrel
    obtain ⟨wx, hwx⟩ : ∃ wx : World, wx = wr := ⟨_, rfl⟩
    subst hwx
    have HX := Lib.hid (H.out.next HB.out)
    have hsx := HB.out.size
    by_cases hlt : k < n
    · have c0 := HX.out.c0 k hlt
      have c1 := HX.out.c1 k hlt
      have c2 := HX.out.c2 k hlt
      obtain ⟨ad, cap, e1⟩ := Sl.shape (HX.out.cx k hlt).dims
      obtain ⟨am, capm, e2⟩ := Sl.shape (HX.out.cx k hlt).maps
      have HCK := Lib.hid (HX.out.cx k hlt)
      rw [e1, e2] at HCK
      rw [e1] at c1
      rw [e2] at c2
      have hbn : b ≠ wx.heap.size := by omega
      clear e1 e2
      go_wp2_with fail
      refine (isComplex_any (P k) _ _ (ds k) (ms k) _ (HCK.out.below (below_alloc1 _ _)) (H.out.bd k hlt).1 (H.out.bd k hlt).2).mono ?_
      rintro e w2 ⟨bb, rfl, hb2, hbb⟩
      have HB2 : Hid (Below w.heap.size w w2) := Lib.hid (HB.out.trans (((below_alloc1 wx _).trans (hb2.mono (by simp))).mono hsx))
      by_cases hc : IsCx (P k) (ds k) (ms k)
      · obtain rfl : bb = true := hbb.2 hc
        have HDN : Hid (∀ j, j < k + 1 → IsCx (P j) (ds j) (ms j)) := Lib.hid (fun j hj => by
          by_cases e : j = k
          · subst e; exact hc
          · exact HD.out j (by omega))
        clear hc hb2 hbb c0 c1 c2 hbn
        go_wp2
        go_roundw
        case rel => exact ⟨k + 1, by omega, by go_num, HB2, HDN⟩
        case measure => simp [intOf]; omega
      · obtain rfl : bb = false := bb_no hbb hc
        have HNO : Hid (prCodeN n P ds ms = 1) := Lib.hid (by unfold prCodeN; rw [if_neg (fun hh => hc (hh k hlt))])
        clear hc hb2 hbb c0 c1 c2 hbn
        go_wp2
        go_ret
        exact ⟨ret_int HNO.out.symm, HB2.out⟩
    · have HDD : Hid (∀ j, j < n → IsCx (P j) (ds j) (ms j)) := Lib.hid (fun j hj => HD.out j (by omega))
      obtain ⟨wo, hwo⟩ : ∃ wo : World, wo = wx := ⟨_, rfl⟩
      have HBO : Hid (Below w.heap.size w wo) := Lib.hid (by rw [hwo]; exact HB.out)
      rw [← hwo]
      clear HD HB HX hsx hwo
      go_wp2
      go_loopw [19] (fun i wr => ∃ (k : Nat), k ≤ n ∧ i = .int .i64 k ∧ Hid (Below w.heap.size w wr) ∧ Hid (∀ j, j < k → P j = P 0)) (fun i _ => n - (intOf i).toNat)
      case atStart => exact ⟨0, Nat.zero_le _, rfl, HBO, Lib.hid (fun j hj => absurd hj (Nat.not_lt_zero _))⟩
      case round =>
        obtain ⟨k, hk, rfl, HB, HP⟩ := hrel
        obtain ⟨wx, hwx⟩ : ∃ wx : World, wx = wr := ⟨_, rfl⟩
        subst hwx
        have HX := Lib.hid (H.out.next HB.out)
        have hsx := HB.out.size
        by_cases hlt : k < n
        · have c0 := HX.out.c0 k hlt
          have c1 := HX.out.c1 k hlt
          have c2 := HX.out.c2 k hlt
          obtain ⟨ad, cap, e1⟩ := Sl.shape (HX.out.cx k hlt).dims
          obtain ⟨am, capm, e2⟩ := Sl.shape (HX.out.cx k hlt).maps
          rw [e1] at c1
          rw [e2] at c2
          obtain ⟨wq, hwq⟩ : ∃ wq, wq = wx.alloc (.cells #[.int .i64 (P k), .slice ad (ds k).length cap, .slice am (ms k).length capm] 31) := ⟨_, rfl⟩
          have hbq : Below wx.heap.size wx wq := by rw [hwq]; exact below_alloc1 _ _
          have e0 : wq.cell? ⟨wx.heap.size, 0, none⟩ = some (.int .i64 (P k)) := by rw [hwq]; simp
          have z0 : wq.cell? ⟨b, 0, none⟩ = some (.int .i64 (P 0)) := by have := later hbq (Nat.le_refl _) (HX.out.c0 0 hn0); simpa using this
          have HBQ : Hid (Below w.heap.size w wq) := Lib.hid (HB.out.trans (hbq.mono hsx))
          have hbn : b ≠ wx.heap.size := by omega
          clear e1 e2
          go_upto_region 10 with fail
          rw [← hwq]
          clear c0 c1 c2 hbn hwq hbq
          by_cases hp : P k = P 0
          · have hp1 : (P k != P 0) = false := by simp [hp]
            have HPN : Hid (∀ j, j < k + 1 → P j = P 0) := Lib.hid (fun j hj => by
              by_cases e : j = k
              · subst e; exact hp
              · exact HP.out j (by omega))
            clear hp
            go_quiet (fail)
            have HBF : Hid (Below w.heap.size w (wq.drewN nq)) := Lib.hid (HBQ.out.trans ((drewN_below wq nq).mono HBQ.out.size))
            go_wp2
            go_roundw
            case rel => exact ⟨k + 1, by omega, by go_num, HBF, HPN⟩
            case measure => simp [intOf]; omega
          · have hp1 : (P k != P 0) = true := by simpa using hp
            have HNO : Hid (prCodeN n P ds ms = 2) := Lib.hid (by unfold prCodeN; rw [if_pos HDD.out, if_neg (fun hh => hp (hh k hlt))])
            clear hp
            go_quiet (fail)
            have HBF : Hid (Below w.heap.size w (wq.drewN nq)) := Lib.hid (HBQ.out.trans ((drewN_below wq nq).mono HBQ.out.size))
            go_wp2
            go_ret
            exact ⟨ret_int HNO.out.symm, HBF.out⟩
        · have HOK : Hid (prCodeN n P ds ms = 0) := Lib.hid (by unfold prCodeN; rw [if_pos HDD.out, if_pos (fun j hj => HP.out j (by omega))])
          go_wp2
          go_ret
          exact ⟨ret_int HOK.out.symm, HB.out⟩

set_option maxHeartbeats 3200000 in
set_option maxRecDepth 100000 in
theorem checkEndsN_any (b n cp : Nat) (P : Nat → Int) (dv mv : Nat → Value) (ds : Nat → List Int) (ms : Nat → List (List (List Int))) (w : World) (h : Cxs w b n P dv mv ds ms) (hn : 0 < n ∧ n ≤ 100) :
    Calls Try.prog 125 #[.slice (some ⟨b, 0, none⟩) n cp] w (BR (.int .i64 (endCodeN n P ds ms)) w) := by
  have HCK := Lib.hid (checkPrimesN_any b n cp P dv mv ds ms w h hn)
  have H := Lib.hid h
  obtain ⟨hn0, hn1⟩ := hn
  have hbl : b < w.heap.size := cell_lt (h.c0 0 hn0)
  obtain ⟨ec, hec⟩ : ∃ ec, ec = prCodeN n P ds ms := ⟨_, rfl⟩
  rw [← hec] at HCK
  have HEC := Lib.hid hec
  obtain ⟨ad0, cap0, e0⟩ := Sl.shape (h.cx 0 hn0).dims
  have HE0 := Lib.hid e0
  clear h hec e0
  go_enter Try.func125, Try.ntmps125
  go_wp2_with fail
  refine HCK.out.mono ?_
  rintro e w2 ⟨rfl, hb2⟩
  have HB2 := Lib.hid hb2
  clear hb2 HCK
  by_cases h0 : ec = 0
  · subst h0
    go_wp2
    go_loopw [13] (fun i wr => ∃ (k : Nat), k ≤ n ∧ i = .int .i64 k ∧ Hid (Below w.heap.size w wr) ∧ Hid (∀ j, j < k → (ds j).length = (ds 0).length)) (fun i _ => n - (intOf i).toNat)
    case atStart => exact ⟨0, Nat.zero_le _, rfl, HB2, Lib.hid (fun j hj => absurd hj (Nat.not_lt_zero _))⟩
    case round =>
      obtain ⟨k, hk, rfl, HB, HP⟩ := hrel
      obtain ⟨wx, hwx⟩ : ∃ wx : World, wx = wr := ⟨_, rfl⟩
      subst hwx
      have HX := Lib.hid (H.out.next HB.out)
      have hsx := HB.out.size
      by_cases hlt : k < n
      · have c0 := HX.out.c0 k hlt
        have c1 := HX.out.c1 k hlt
        have c2 := HX.out.c2 k hlt
        obtain ⟨ad, cap, e1⟩ := Sl.shape (HX.out.cx k hlt).dims
        obtain ⟨am, capm, e2⟩ := Sl.shape (HX.out.cx k hlt).maps
        rw [e1] at c1
        rw [e2] at c2
        obtain ⟨wq, hwq⟩ : ∃ wq, wq = wx.alloc (.cells #[.int .i64 (P k), .slice ad (ds k).length cap, .slice am (ms k).length capm] 31) := ⟨_, rfl⟩
        have hbq : Below wx.heap.size wx wq := by rw [hwq]; exact below_alloc1 _ _
        have e3 : wq.cell? ⟨wx.heap.size, 1, none⟩ = some (.slice ad (ds k).length cap) := by rw [hwq]; simp
        have z0 : wq.cell? ⟨b, 1, none⟩ = some (.slice ad0 (ds 0).length cap0) := by have := later hbq (Nat.le_refl _) (HX.out.c1 0 hn0); rw [HE0.out] at this; simpa using this
        have HBQ : Hid (Below w.heap.size w wq) := Lib.hid (HB.out.trans (hbq.mono hsx))
        have hbn : b ≠ wx.heap.size := by omega
        clear e1 e2
        go_upto_region 7 with fail
        rw [← hwq]
        clear c0 c1 c2 hbn hwq hbq
        by_cases hp : (ds k).length = (ds 0).length
        · have hp1 : ((((ds k).length : Nat) : Int) != (((ds 0).length : Nat) : Int)) = false := by simp [hp]
          have HPN : Hid (∀ j, j < k + 1 → (ds j).length = (ds 0).length) := Lib.hid (fun j hj => by
            by_cases e : j = k
            · subst e; exact hp
            · exact HP.out j (by omega))
          clear hp
          go_quiet (fail)
          have HBF : Hid (Below w.heap.size w (wq.drewN nq)) := Lib.hid (HBQ.out.trans ((drewN_below wq nq).mono HBQ.out.size))
          go_wp2
          go_roundw
          case rel => exact ⟨k + 1, by omega, by go_num, HBF, HPN⟩
          case measure => simp [intOf]; omega
        · have hp1 : ((((ds k).length : Nat) : Int) != (((ds 0).length : Nat) : Int)) = true := by
            have : ¬ (((ds k).length : Int) = ((ds 0).length : Int)) := by omega
            simpa using this
          have HNO : Hid (endCodeN n P ds ms = 2) := Lib.hid (by unfold endCodeN; rw [if_pos HEC.out.symm, if_neg (fun hh => hp (hh k hlt))])
          clear hp
          go_quiet (fail)
          have HBF : Hid (Below w.heap.size w (wq.drewN nq)) := Lib.hid (HBQ.out.trans ((drewN_below wq nq).mono HBQ.out.size))
          go_wp2
          go_ret
          exact ⟨ret_int HNO.out.symm, HBF.out⟩
      · have HOK : Hid (endCodeN n P ds ms = 0) := Lib.hid (by unfold endCodeN; rw [if_pos HEC.out.symm, if_pos (fun j hj => HP.out j (by omega))])
        go_wp2
        go_ret
        exact ⟨ret_int HOK.out.symm, HB.out⟩
  · have hne2 : (ec != 0) = true := by simp [h0]
    have hne3 : (ec == 0) = false := by simp [h0]
    have HNO : Hid (endCodeN n P ds ms = ec) := Lib.hid (by unfold endCodeN; rw [← HEC.out, if_neg h0])
    clear h0
    go_wp2
    go_ret
    exact ⟨ret_int HNO.out.symm, HB2.out⟩
end Go.Proofs.Ytpdkfidmmjlmnab
