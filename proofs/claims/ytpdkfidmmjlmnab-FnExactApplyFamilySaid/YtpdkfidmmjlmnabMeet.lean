/-
  Meets of spaces: both sides by their contracts.
-/
import Derived.Test.YtpdkfidmmjlmnabMeM
import Derived.Test.YtpdkfidmmjlmnabQb
namespace Go.Proofs.Ytpdkfidmmjlmnab
open Go.RowKit

def MeetS (p : Int) (A B : List Lin.V) (v : Lin.V) : Prop := Lin.Sp p A v ∧ Lin.Sp p B v
theorem owns_of_row {W : World} {g n : Nat} {X : Nat → Int} (h : W.rowIs g 2 n (fun i => .int .i64 (X i))) (hn : n ≤ maxLen) : W.ownsRow 0 2 1 (.slice (some ⟨g, 0, none⟩) n n) n (((List.range n).map X).map (Value.int .i64)) := by
  obtain ⟨C, hb, hs, hc⟩ := h
  refine ⟨by simp, Or.inr ⟨g, n, C, rfl, Nat.zero_le _, hb, Nat.le_refl _, hn, by omega, ?_⟩⟩
  rw [Nat.mul_one, List.take_of_length_le (by simp [hs])]
  refine List.ext_getElem (by simp [hs]) fun i h1 h2 => ?_
  have hi : i < n := by simpa [hs] using h1
  have := hc i hi
  rw [Array.getElem?_eq_getElem (by omega)] at this
  injection this with this
  simp [this]
def ApG (p : Int) (c : Nat) (v : List Int) (t : List (List Int)) (w : World) (e : Ending) (w' : World) : Prop := ∃ u, e = .returned u ∧ G1 w' u (apT p c v t) ∧ Below w.heap.size w w'
theorem Ap.doneG {w wr : World} {p : Int} {c : Nat} {v : List Int} {t : List (List Int)} (hc : c ≤ 1048576) (ok : ApOk p c v t) (h : Ap w wr 2 p c v t v.length 0) : G1 wr (.slice (some ⟨w.heap.size, 0, none⟩) c c) (apT p c v t) := by
  have hl := apTo_length ok (Nat.le_refl _)
  have h1 : wr.rowIs w.heap.size 2 c (fun i => .int .i64 ((apT p c v t).getD i 0)) := h.row.congr (fun j _ => by simp [apCell, apT])
  have h2 := owns_of_row h1 (by unfold maxLen; omega)
  have hlen : (apT p c v t).length = c := hl
  have e : (List.range c).map (fun i => (apT p c v t).getD i 0) = apT p c v t := List.ext_getElem (by simp [hlen]) fun i a b => by
    simp only [List.getElem_map, List.getElem_range]
    exact getD_of_lt _ b
  rw [e] at h2
  unfold G1
  rw [hlen]
  exact h2

set_option maxHeartbeats 3200000 in
theorem l01ApplyG_any (p : Int) (c : Nat) (va vt : Value) (v : List Int) (t : List (List Int)) (w : World) (ok : ApOk p c v t) (ha : L1 0 w va v) (ht : L2 0 w vt t) (hv : v.length ≤ 1048576) (hc : c ≤ 1048576) :
    Calls Try.prog 167 #[.int .i64 p, vt, va, .int .i64 c] w (ApG p c v t w) := by
  have hmk := run_make_row' (P := Try.prog) 22 2 (.int .i64 0) 8 Try.underlying22 Try.infoI rfl .i64 .i64 c (by omega) (by omega)
  have hp0 := ok.prime.lo
  have hp1 := ok.prime.hi
  have OK := Lib.hid ok
  clear ok
  refine Sl.cases ha (fun ad cap hx hv' => ?_) (fun b o cap hv' _ hpos hcl => ?_)
  · subst hx hv'
    clear ha ht
    go_enter Try.func167, Try.ntmps167
    go_wp2
    refine wp_loop_rounds 1 ?_
    rw [rounds_succ]
    go_wp2
    go_ret
    exact ⟨_, rfl, Ap.doneG (by omega) OK.out (Ap.start _ _ _ _ _ _), (Below.refl _ _).alloc (Nat.le_refl _) _⟩
  · refine Sl.cases ht (fun ad2 cap2 hx2 hv2 => absurd OK.out.len (by subst hx2; simp only [List.length_nil]; omega)) (fun b2 o2 cap2 hv2 _ hpos2 hcl2 => ?_)
    subst hv' hv2
    clear ha ht
    have hlen := OK.out.len
    have HC := Lib.hid hcl
    have HC2 := Lib.hid hcl2
    clear hcl hcl2
    go_enter Try.func167, Try.ntmps167
    go_wp2
    clear hmk
    go_loopw [10, 11] (fun i _ wr => ∃ (k : Nat), k ≤ v.length ∧ i = .int .i64 k ∧ Ap w wr 2 p c v t k 0) (fun i _ _ => v.length - (intOf i).toNat)
    case atStart => exact ⟨0, Nat.zero_le _, rfl, Ap.start _ _ _ _ _ _⟩
    case round =>
      obtain ⟨k, hk, rfl, HA⟩ := hrel
      by_cases hlt2 : k < v.length
      · have hlt3 : k < t.length := by omega
        obtain ⟨u, hu, hr⟩ := HC.out k hlt2
        obtain ⟨u2, hu2, hr2⟩ := HC2.out k hlt3
        have hnum := OK.out.num hlt2
        have hrow := OK.out.row hlt2
        rw [getD_of_lt _ hlt2] at hnum
        rw [getD_of_lt _ hlt3] at hrow
        obtain ⟨f, hf⟩ : ∃ f, f = v[k] := ⟨_, rfl⟩
        obtain ⟨ys, hy⟩ : ∃ ys, ys = t[k] := ⟨_, rfl⟩
        rw [← hf] at hnum
        rw [← hy] at hrow hr2
        obtain ⟨hf0, hf1⟩ := hnum
        have HU : Hid (w.cell? ⟨b, o + k, none⟩ = some (.int .i64 f)) := Lib.hid (by rw [hu, hr, hf])
        have HU2 := Lib.hid hu2
        have HF := Lib.hid hf
        have HY := Lib.hid hy
        have HROW := Lib.hid hrow
        have HR2 := Lib.hid hr2
        have HA' := Lib.hid HA
        clear hf hy hrow HA hu hr hu2 hr2
        obtain ⟨wo, hwo⟩ : ∃ wo : World, wo = wr := ⟨_, rfl⟩
        have HWO := Lib.hid hwo
        clear hwo
        go_wp2
        go_loopw [11] (fun i wr => ∃ (q : Nat), q ≤ c ∧ i = .int .i64 q ∧ Ap w wr 2 p c v t k q) (fun i _ => c - (intOf i).toNat)
        case atStart => exact ⟨0, Nat.zero_le _, rfl, HA'.out⟩
        case round =>
          obtain ⟨q, hq, rfl, HB⟩ := hrel
          by_cases hlt4 : q < c
          · have hl5 : q < ys.length := by have := HROW.out.1; omega
            refine Sl.cases HR2.out (fun ad3 cap3 hx3 hv3 => absurd hl5 (by subst hx3; simp)) (fun b3 o3 cap3 hv3 _ hpos3 hcl3 => ?_)
            obtain ⟨u3, hu3, hr3⟩ := hcl3 q hl5
            have hx := HROW.out.2 _ (List.getElem_mem hl5)
            obtain ⟨x, hxx⟩ : ∃ x, x = ys[q] := ⟨_, rfl⟩
            obtain ⟨a, haa⟩ : ∃ a, a = (apTo p c v t k).getD q 0 := ⟨_, rfl⟩
            have hab := apTo_mod OK.out (Nat.le_of_lt hlt2) q
            have hac := HB.cell hlt4
            have hfz := HB.row.frozen q
            rw [← haa] at hab hac
            rw [← hxx] at hx
            obtain ⟨hx0, hx1⟩ := hx
            obtain ⟨ha0, ha1⟩ := hab
            have hu' : wr.cell? ⟨b, o + k, none⟩ = some (.int .i64 f) := by rw [HB.below.cell (p := ⟨b, o + k, none⟩) (cell_lt HU.out)]; exact HU.out
            have hu2' : wr.cell? ⟨b2, o2 + k, none⟩ = some (.slice (some ⟨b3, o3, none⟩) ys.length cap3) := by rw [HB.below.cell (p := ⟨b2, o2 + k, none⟩) (cell_lt HU2.out)]; rw [HU2.out, hv3]
            have hu3' : wr.cell? ⟨b3, o3 + q, none⟩ = some (.int .i64 x) := by rw [HB.below.cell (p := ⟨b3, o3 + q, none⟩) (cell_lt hu3), hu3, hr3, hxx]
            have m0 : 0 ≤ f * x := Int.mul_nonneg hf0 hx0
            have m1 : f * x ≤ 36 := Int.le_trans (Int.mul_le_mul (show f ≤ 6 by omega) (show x ≤ 6 by omega) hx0 (by omega)) (by omega)
            have HS := Lib.hid (HB.step OK.out hlt2 hlt4 (x := (a + f * x) % p) (by rw [haa, HF.out, hxx, getD_of_lt _ hlt2, getD_of_lt _ hlt3, ← HY.out, getD_of_lt _ hl5]))
            clear HB hu3 hr3 haa hxx hv3 hcl3
            go_wp2
            go_region
            all_goals go_wp2
            all_goals go_roundw
            case rel => exact ⟨q + 1, by omega, by go_num, HS.out.drew⟩
            case measure => simp [intOf]; omega
          · have HB' := Lib.hid HB
            have hqc : Hid (q = c) := Lib.hid (by omega)
            clear HB
            go_wp2
            go_roundw
            case rel => exact ⟨k + 1, by omega, by go_num, Ap.next (by have := HB'.out; rwa [hqc.out] at this)⟩
            case measure => simp [intOf]; omega
      · have hkk : k = v.length := by omega
        subst hkk
        have HA' := Lib.hid HA
        clear HA
        go_wp2
        go_ret
        exact ⟨_, rfl, Ap.doneG (by omega) OK.out HA'.out, HA'.out.below⟩

def MeetR (p : Int) (n : Nat) (A B : List Lin.V) (w : World) (e : Ending) (w' : World) : Prop :=
  ∃ (u : Value) (R : List Lin.V), e = .returned u ∧ Gs w.heap.size w' u (R.map (toL n)) ∧ Below w.heap.size w w' ∧ SpF p n (MeetS p A B) R
theorem img_wd {p : Int} {n : Nat} {E : List Lin.V} (hE : ∀ u ∈ E, Lin.Wd n u) (x : Lin.V) : Lin.Wd n (img p E.length (rowsV E) x) := fun j hj => by
  simp only [img]
  rw [Lin.dot_nil (fun i hi => by
    simp only [Lin.col]
    rw [rowsV_at hi, hE _ (List.getElem_mem hi) j hj, Int.zero_mul])]
  simp

theorem Gs.rowsAt {base : Nat} {w : World} {u : Value} {tb : List (List Int)} (h : Gs base w u tb) : ∃ vs, RowsAt w u tb vs ∧ ∀ k (h1 : k < vs.length) (h2 : k < tb.length), G1 w vs[k] tb[k] := by
  obtain ⟨vs, ho, hr⟩ := h
  have hvl : vs.length = tb.length := by have := ho.1; omega
  refine ⟨vs, ⟨hvl, fun k h1 h2 => (hr k h1 h2).l1, fun x hx => ?_, ?_⟩, hr⟩
  · obtain ⟨k, hk, rfl⟩ := List.getElem_of_mem hx
    obtain ⟨ad, cap, e⟩ := Sl.shape (hr k hk (by omega)).l1
    rw [e]
    rfl
  · have ho' := ho
    rcases ho'.2 with ⟨h0, h1⟩ | ⟨g, cap, cur, hv, _, _, _⟩
    · exact ⟨none, 0, by rw [h0, h1], fun h2 => absurd h2 (by omega)⟩
    · refine ⟨_, cap, hv, fun _ => ⟨_, rfl, fun j x hj => ?_⟩⟩
      rw [hv] at ho
      have hjl : j < vs.length := (List.getElem?_eq_some_iff.1 hj).1
      rw [Addr.add_mid, Nat.zero_add, World.ownsRow.cellAt ho j (by omega)]
      exact hj

end Go.Proofs.Ytpdkfidmmjlmnab
