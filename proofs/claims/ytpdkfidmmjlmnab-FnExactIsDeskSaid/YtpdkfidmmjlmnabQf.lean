/-
  spec.l01Dim by its contract; what l01Map answers.
  spec.l01Map and spec.l01Vector by their contracts.
  spec.l01Code and impl.checkDegree by their contracts.
-/
import Derived.Test.YtpdkfidmmjlmnabQc
import Derived.Test.YtpdkfidmmjlmnabQe
namespace Go.Proofs.Ytpdkfidmmjlmnab
open Go.RowKit

/-- The dimension of a degree, 0 beyond the top. -/
def dimZ (ds : List Int) (n : Int) : Int := if 0 ≤ n ∧ n ≤ (ds.length : Int) - 1 then ds.getD n.toNat 0 else 0

set_option maxHeartbeats 800000 in
theorem l01Dim_any (p n : Int) (dv mv : Value) (ds : List Int) (ms : List (List (List Int))) (w : World) (h : Cx 0 w dv mv ds ms) (hd : ds.length ≤ 1048576) :
    Calls Try.prog 152 #[.agg #[.int .i64 p, dv, mv], .int .i64 n] w (BR (.int .i64 (dimZ ds n)) w) := by
  have hx0 := Bx.start (p := p) 31 h
  have HX0 := Lib.hid hx0
  have H := Lib.hid h
  clear h hx0
  by_cases hr : 0 ≤ n ∧ n ≤ (ds.length : Int) - 1
  · have hdz : dimZ ds n = ds.getD n.toNat 0 := if_pos hr
    rw [hdz]
    clear hdz
    obtain ⟨q, rfl⟩ : ∃ q : Nat, n = (q : Int) := ⟨n.toNat, by omega⟩
    have hq : q < ds.length := by omega
    have HR := Lib.hid hr
    clear hr
    refine Sl.cases H.out.dims (fun _ _ hx _ => absurd hq (by simp [hx])) (fun bd od capd hv _ hposd hcld => ?_)
    obtain ⟨u, hu, hru⟩ := hcld q hq
    subst hv
    have hu2 := later HX0.out.below (Nat.le_refl _) hu
    obtain ⟨x, hx⟩ : ∃ x, x = ds[q] := ⟨_, rfl⟩
    rw [hru, ← hx] at hu2
    have HX : Hid (ds.getD (q : Int).toNat 0 = x) := Lib.hid (by rw [hx, Int.toNat_natCast, getD_of_lt _ hq])
    clear hx hu hru hcld
    go_enter Try.func152, Try.ntmps152
    go_wp2_with fail
    refine (spin_yes HR.out _).mono ?_
    rintro e w' ⟨rfl, rfl⟩
    go_wp2
    go_ret
    exact ⟨ret_int HX.out.symm, HX0.out.below⟩
  · have hdz : dimZ ds n = 0 := if_neg hr
    rw [hdz]
    clear hdz
    have HR := Lib.hid hr
    clear hr
    obtain ⟨ad, cap, rfl⟩ := Sl.shape H.out.dims
    go_enter Try.func152, Try.ntmps152
    go_wp2_with fail
    refine (spin_no HR.out _).mono ?_
    rintro e w' ⟨rfl, rfl⟩
    go_wp2
    go_ret
    exact ⟨rfl, HX0.out.below⟩

/-- The rows of the differential of a degree; for the degree 0, and beyond the top, rows without numbers. -/
def mapZ (ds : List Int) (ms : List (List (List Int))) (n : Int) : List (List Int) := if 1 ≤ n ∧ n ≤ (ds.length : Int) - 1 then ms.getD (n.toNat - 1) [] else List.replicate (dimZ ds n).toNat []
def L2R (xs : List (List Int)) (w : World) (e : Ending) (w' : World) : Prop := ∃ v, e = .returned v ∧ L2 0 w' v xs ∧ Below w.heap.size w w'

end Go.Proofs.Ytpdkfidmmjlmnab

namespace Go.Proofs.Ytpdkfidmmjlmnab
open Go.RowKit

set_option maxHeartbeats 800000 in
theorem l01Map_in (p : Int) (q : Nat) (dv mv : Value) (ds : List Int) (ms : List (List (List Int))) (w : World) (h : Cx 0 w dv mv ds ms) (hd : ds.length ≤ 1048576) (hl : ms.length + 1 = ds.length) (hq : q < ms.length) :
    Calls Try.prog 144 #[.agg #[.int .i64 p, dv, mv], .int .i64 ((q : Int) + 1)] w (L2R (ms.getD q []) w) := by
  have HX0 := Lib.hid (Bx.start (p := p) 31 h)
  have H := Lib.hid h
  have HL := Lib.hid hl
  have hr : 1 ≤ (q : Int) + 1 ∧ (q : Int) + 1 ≤ (ds.length : Int) - 1 := by omega
  have HR := Lib.hid hr
  have hqb : q < 1048576 := by omega
  obtain ⟨ad, cap, rfl⟩ := Sl.shape h.dims
  refine Sl.cases H.out.maps (fun _ _ hx _ => absurd hq (by simp [hx])) (fun bm om capm hv _ hposm hclm => ?_)
  obtain ⟨u, hu, hru⟩ := hclm q hq
  subst hv
  have hu2 := later HX0.out.below (Nat.le_refl _) hu
  have HRU : Hid (L2 0 w u (ms.getD q [])) := Lib.hid (by rw [getD_of_lt _ hq]; exact hru)
  clear hu hru hclm hl hr h
  go_enter Try.func144, Try.ntmps144
  go_wp2_with fail
  refine (spin_yes HR.out _).mono ?_
  rintro e w' ⟨rfl, rfl⟩
  go_wp2
  go_ret
  exact ⟨_, rfl, HRU.out.below HX0.out.below, HX0.out.below⟩

set_option maxHeartbeats 1600000 in
theorem l01Map_out (p n : Int) (d : Nat) (dv mv : Value) (ds : List Int) (ms : List (List (List Int))) (w : World) (h : Cx 0 w dv mv ds ms) (hd : ds.length ≤ 1048576) (hr : ¬ (1 ≤ n ∧ n ≤ (ds.length : Int) - 1)) (hdz : dimZ ds n = (d : Int)) (hd8 : d ≤ 8) :
    Calls Try.prog 144 #[.agg #[.int .i64 p, dv, mv], .int .i64 n] w (L2R (List.replicate d []) w) := by
  have HX0 := Lib.hid (Bx.start (p := p) 31 h)
  have HR := Lib.hid hr
  have HDZ := Lib.hid hdz
  obtain ⟨ad, cap, rfl⟩ := Sl.shape h.dims
  obtain ⟨i0, hi, hz0, hz1, hz2⟩ := info_parts Try.infoS
  clear h hr hdz
  go_enter Try.func144, Try.ntmps144
  go_wp2_with fail
  refine (spin_no HR.out _).mono ?_
  rintro e w' ⟨rfl, rfl⟩
  go_wp2
  have hown0 := World.ownsRow_made (base := w.heap.size + 1) (e := 22) (size := 1) (w.alloc (.cells #[.int .i64 p, .slice ad ds.length cap, mv] 31)) #[] 0 (by simp) (by unfold maxLen; omega) (by simp)
  have hb1 : Below (w.heap.size + 1) (w.alloc (.cells #[.int .i64 p, .slice ad ds.length cap, mv] 31)) ((w.alloc (.cells #[.int .i64 p, .slice ad ds.length cap, mv] 31)).alloc (.cells #[] 22)) := (Below.refl _ _).alloc (by simp) _
  have HB1 := Lib.hid hb1
  have HOWN0 := Lib.hid hown0
  have HNX : Hid (∀ W, Below (w.heap.size + 1) (w.alloc (.cells #[.int .i64 p, .slice ad ds.length cap, mv] 31)) W → Bx w W w.heap.size p (.slice ad ds.length cap) mv ds ms) := Lib.hid (fun W hb => HX0.out.next (by simpa using hb))
  clear hb1 hown0
  go_loopw [5, 6] (fun o i wr => ∃ (k : Nat) (vs : List Value), k ≤ d ∧ i = .int .i64 k ∧ Hid (Below (w.heap.size + 1) (w.alloc (.cells #[.int .i64 p, .slice ad ds.length cap, mv] 31)) wr) ∧ Hid (wr.ownsRow (w.heap.size + 1) 22 1 o k vs) ∧ Hid (∀ u ∈ vs, ∃ a c, u = .slice a 0 c)) (fun _ i _ => d - (intOf i).toNat)
  case atStart => exact ⟨0, [], Nat.zero_le _, rfl, HB1, Lib.hid (by simpa using HOWN0.out), Lib.hid (by simp)⟩
  case round =>
    obtain ⟨k, vs, hk, rfl, HBE, HO, HV⟩ := hrel
    have HX := Lib.hid (HNX.out _ HBE.out)
    have c0 := HX.out.c0
    have c1 := HX.out.c1
    have c2 := HX.out.c2
    go_wp2_with fail
    have hdim := l01Dim_any p n _ mv ds ms _ HX.out.cx hd
    rw [HDZ.out] at hdim
    refine hdim.mono ?_
    clear hdim
    rintro e w2 ⟨rfl, hb2⟩
    have hsz : w.heap.size + 1 ≤ wr.heap.size := by have := HBE.out.size; simpa using this
    have HB2 := Lib.hid (HBE.out.trans (hb2.mono hsz))
    have HO2 := Lib.hid (owns_below HO.out hb2)
    have hsz2 : w.heap.size + 1 ≤ w2.heap.size := by have := hb2.size; omega
    clear hb2 c0 c1 c2
    by_cases hlt : k < d
    · go_wp2_with (at_builtin; refine wpList_append_own _ rfl (.tmp 27) (.tmp 29) 26 rfl (w.heap.size + 1) 22 i0 (.slice none 0 0) 1 24 Try.underlying26 hi hz0 hz1 hz2 rfl (by decide) _ _ _ rfl ((HO2.out.alloc _).alloc _) ⟨w2.heap.size + 1, 0, none⟩ 1 1 [.slice (some ⟨w2.heap.size, 0, none⟩) 0 0] rfl rfl ?c1 ?c2 ?c3 ?c4 ?c5 ?_)
      case c1 =>
        intro j u hj
        match j, hj with
        | 0, hj => simp at hj; subst hj; simp [Addr.add]
      case c2 => intro u hu; simp at hu; subst hu; rfl
      case c3 => unfold maxLen; omega
      case c4 => omega
      case c5 => simp; omega
      intro v' w3 hown' hgrow _
      have HB3 : Hid (Below (w.heap.size + 1) (w.alloc (.cells #[.int .i64 p, .slice ad ds.length cap, mv] 31)) w3) := Lib.hid (((HB2.out.alloc hsz2 _).alloc (by simp; omega) _).grown hgrow (by simp; omega) (fun g hg => ((HO2.out.lt) g hg).1))
      have HO3 := Lib.hid hown'
      clear hown' hgrow
      go_wp2
      go_roundw
      case rel => exact ⟨k + 1, _, by omega, by go_num, HB3, HO3, Lib.hid (fun u hu => by
        rcases List.mem_append.1 hu with h1 | h1
        · exact HV.out u h1
        · simp at h1
          exact ⟨_, _, h1⟩)⟩
      case measure => simp [intOf]; omega
    · have hkk : Hid (k = d) := Lib.hid (by omega)
      go_wp2
      go_ret
      refine ⟨_, rfl, sl_of_owns HO2.out (Nat.zero_le _) (by simp [hkk.out]) (fun j h1 h2 => ?_), (HNX.out _ HB2.out).below⟩
      obtain ⟨a, c, hu⟩ := HV.out _ (List.getElem_mem h2)
      exact Or.inl ⟨by simp, a, c, hu⟩

/-- What l01Map answers of a complex, for every degree. -/
theorem l01Map_any (p n : Int) (dv mv : Value) (ds : List Int) (ms : List (List (List Int))) (w : World) (h : Cx 0 w dv mv ds ms) (hcx : IsCx p ds ms) :
    Calls Try.prog 144 #[.agg #[.int .i64 p, dv, mv], .int .i64 n] w (L2R (mapZ ds ms n) w) := by
  have hl6 := hcx.1.len1
  by_cases hr : 1 ≤ n ∧ n ≤ (ds.length : Int) - 1
  · rw [mapZ, if_pos hr]
    obtain ⟨q, rfl⟩ : ∃ q : Nat, n = (q : Int) + 1 := ⟨(n - 1).toNat, by omega⟩
    have e : ((q : Int) + 1).toNat - 1 = q := by omega
    rw [e]
    exact l01Map_in p q dv mv ds ms w h (by omega) hcx.1.mlen (by have := hcx.1.mlen; omega)
  · rw [mapZ, if_neg hr]
    have hd : 0 ≤ dimZ ds n ∧ dimZ ds n ≤ 8 := by
      unfold dimZ
      split
      · exact hcx.1.dim _
      · omega
    obtain ⟨d, hdd⟩ := Int.eq_ofNat_of_zero_le hd.1
    have e : (dimZ ds n).toNat = d := by omega
    rw [e]
    exact l01Map_out p n d dv mv ds ms w h (by omega) hr hdd (by omega)
end Go.Proofs.Ytpdkfidmmjlmnab

namespace Go.Proofs.Ytpdkfidmmjlmnab
open Go.RowKit

/-- The code of a complex and a degree. -/
def CodeOf (p : Int) (ds : List Int) (ms : List (List (List Int))) (n c : Int) : Prop :=
  (¬ IsCx p ds ms → c = 1) ∧ (IsCx p ds ms → ¬ (0 ≤ n ∧ n ≤ (ds.length : Int) - 1) → c = 2) ∧ (IsCx p ds ms → 0 ≤ n ∧ n ≤ (ds.length : Int) - 1 → c = 0)
def CodeR (p : Int) (ds : List Int) (ms : List (List (List Int))) (n : Int) (w : World) (e : Ending) (w' : World) : Prop := ∃ c : Int, e = .returned (.int .i64 c) ∧ Below w.heap.size w w' ∧ CodeOf p ds ms n c

end Go.Proofs.Ytpdkfidmmjlmnab
