/-
  IsWhole of the program, by contracts.
-/
import Derived.Test.YtiokagnolbddlaaWz
import Derived.Test.YtiokagnolbddlaaWh
namespace Go.Proofs.Ytiokagnolbddlaa
open Go.RowKit

/-- Differentials of differentials of whole numbers are 0. -/
def SqW (ds : List Int) (ms : List (List (List Int))) : Prop := ∀ q, q + 1 < ms.length → ∀ r ∈ ms.getD (q + 1) [], ∀ c, c < (ds.getD q 0).toNat → dotTo r (ms.getD q []) c r.length = 0
def WhOk (ds : List Int) (ms : List (List (List Int))) : Prop := SizesOk 6 (-9) 9 ds ms ∧ SqW ds ms

theorem SizesOk.sz {lo hi : Int} {ds : List Int} {ms : List (List (List Int))} (h : SizesOk 6 lo hi ds ms) : SzOk ds ms :=
  ⟨h.len0, h.len1, h.mlen, fun d hd => by have := h.dims d hd; omega, fun k hk => ⟨(h.tabs k hk).1, fun x hx => ((h.tabs k hk).2 x hx).1⟩⟩
theorem SizesOk.dim6 {lo hi : Int} {ds : List Int} {ms : List (List (List Int))} (h : SizesOk 6 lo hi ds ms) (k : Nat) : 0 ≤ ds.getD k 0 ∧ ds.getD k 0 ≤ 6 := by
  by_cases hk : k < ds.length
  · rw [getD_of_lt _ hk]; exact h.dims _ (List.getElem_mem _)
  · simp [List.getD, show ds.length ≤ k by omega]
theorem SizesOk.az {ds : List Int} {ms : List (List (List Int))} (h : SizesOk 6 (-9) 9 ds ms) {q : Nat} (hq : q + 1 < ms.length) {r : List Int} (hr : r ∈ ms.getD (q + 1) []) : AzOk (ds.getD q 0).toNat r (ms.getD q []) := by
  have h1 := (h.tabs (q + 1) hq).2 r hr
  have h0 := h.tabs q (by omega)
  have d0 := h.dim6 q
  have d1 := h.dim6 (q + 1)
  have e1 := h1.1
  have e0 := h0.1
  exact ⟨by omega, by omega, h1.2, fun r2 hr2 => ⟨by have := (h0.2 r2 hr2).1; omega, (h0.2 r2 hr2).2⟩⟩
theorem sqW_iff {ds : List Int} {ms : List (List (List Int))} (h : SizesOk 6 (-9) 9 ds ms) : SqG azT ds ms ↔ SqW ds ms :=
  ⟨fun hs q hq r hr => (azT_zero (h.az hq hr)).1 (hs q hq r hr), fun hs q hq r hr => (azT_zero (h.az hq hr)).2 (hs q hq r hr)⟩

set_option maxHeartbeats 1600000 in
theorem modulo_any (p : Int) (dv mv : Value) (nd nm cd cm : Nat) (ad am : Option Addr) (w : World) (hd : dv = .slice ad nd cd) (hm : mv = .slice am nm cm) :
    Calls Try.prog 72 #[.agg #[dv, mv], .int .i64 p] w (BR (.agg #[.int .i64 p, dv, mv]) w) := by
  subst hd hm
  have hres : Try.f72.results = #[.cell 4 38] := by kernel_rfl
  have HRES := Lib.hid hres
  clear hres
  go_enter Try.func72, Try.ntmps72
  go_wp2
  refine bodyPost_ret (v := .agg #[.int .i64 p, .slice ad nd cd, .slice am nm cm]) ?_ rfl ?_
  · simp only [results, HRES.out]
    go_simp
  · exact ⟨rfl, ((Below.refl _ _).alloc (Nat.le_refl _) _).alloc (by simp) _⟩

set_option maxHeartbeats 1600000 in
theorem isWhole_any (dv mv : Value) (ds : List Int) (ms : List (List (List Int))) (w : World) (h : Wh 0 w dv mv ds ms) (hb : WhB 1048576 ds ms) :
    Calls Try.prog 23 #[.agg #[dv, mv]] w (BB (WhOk ds ms) w) := by
  have HBD := Lib.hid hb
  clear hb
  obtain ⟨⟨ad, cap, rfl⟩, am, capm, rfl⟩ := h.shapes
  have HCX : Hid (∀ W, Below w.heap.size w W → Cx 0 W (.slice ad ds.length cap) (.slice am ms.length capm) ds ms) := Lib.hid (fun W hW => ⟨(h.below hW).fd, (h.below hW).fm⟩)
  have HMO := Lib.hid (fun W => modulo_any 487 (.slice ad ds.length cap) (.slice am ms.length capm) _ _ _ _ _ _ W rfl rfl)
  clear h
  obtain ⟨w1, hw1⟩ : ∃ w1, w1 = w.alloc (.cells #[.slice ad ds.length cap, .slice am ms.length capm] 25) := ⟨_, rfl⟩
  have HB1 : Hid (Below w.heap.size w w1) := Lib.hid (by rw [hw1]; exact (Below.refl _ _).alloc (Nat.le_refl _) _)
  have hs1 : w1.heap.size = w.heap.size + 1 := by rw [hw1]; simp
  have HS1 : Hid (w.heap.size ≤ w1.heap.size) := Lib.hid (by omega)
  have c0 : w1.cell? ⟨w.heap.size, 0, none⟩ = some (.slice ad ds.length cap) := by rw [hw1]; simp
  have c1 : w1.cell? ⟨w.heap.size, 1, none⟩ = some (.slice am ms.length capm) := by rw [hw1]; simp
  clear hs1
  go_enter Try.func23, Try.ntmps23
  go_upto_region 1 with fail
  rw [← hw1]
  clear hw1
  go_wp2_with fail
  refine (HMO.out _).mono ?_
  rintro e w2 ⟨rfl, hb2⟩
  have HB2 : Hid (Below w.heap.size w w2) := Lib.hid (HB1.out.trans (hb2.mono HB1.out.size))
  clear hb2 c0 c1
  obtain ⟨w3, hw3⟩ : ∃ w3, w3 = w2.alloc (.cells #[.int .i64 487, .slice ad ds.length cap, .slice am ms.length capm] 38) := ⟨_, rfl⟩
  have HB3 : Hid (Below w.heap.size w w3) := Lib.hid (by rw [hw3]; exact HB2.out.alloc HB2.out.size _)
  have c0 : w3.cell? ⟨w2.heap.size, 0, none⟩ = some (.int .i64 487) := by rw [hw3]; simp
  have c1 : w3.cell? ⟨w2.heap.size, 1, none⟩ = some (.slice ad ds.length cap) := by rw [hw3]; simp
  have c2 : w3.cell? ⟨w2.heap.size, 2, none⟩ = some (.slice am ms.length capm) := by rw [hw3]; simp
  have hlt : w2.heap.size < w3.heap.size := by rw [hw3]; simp
  have HLT := Lib.hid hlt
  clear hlt
  go_upto_region 1 with fail
  rw [← hw3]
  clear hw3
  go_wp2_with fail
  refine (hasSizes_any 487 6 (-9) 9 _ _ ds ms _ (HCX.out _ HB3.out) HBD.out.bd HBD.out.bm).mono ?_
  rintro e w4 ⟨bb, rfl, hb4, hbb⟩
  have HB4 : Hid (Below w.heap.size w w4) := Lib.hid (HB3.out.trans (hb4.mono HB3.out.size))
  have HBB := Lib.hid hbb
  have d0 := later hb4 (Nat.le_refl _) c0
  have d1 := later hb4 (Nat.le_refl _) c1
  have d2 := later hb4 (Nat.le_refl _) c2
  clear hbb hb4 c0 c1 c2
  cases bb with
  | true =>
    have HSZ : Hid (SizesOk 6 (-9) 9 ds ms) := Lib.hid (HBB.out.1 (by simp))
    clear HBB
    go_wp2_with fail
    refine (squaresG_any 487 azT AzOk (fun _ _ _ h => azT_length h) (fun c va vt v t W h1 h2 h3 h4 h5 => applyTableZ_any c va vt v t W h1 h2 h3 h4 h5) _ _ ds ms _ (HCX.out _ HB4.out) HSZ.out.sz (fun _ hq _ hr => HSZ.out.az hq hr)).mono ?_
    rintro e w5 ⟨bb, rfl, hb5, hbb⟩
    have HBB := Lib.hid hbb
    have HB5 := Lib.hid (HB4.out.trans (hb5.mono HB4.out.size))
    clear hbb hb5
    go_wp2
    go_ret
    exact ⟨bb, rfl, HB5.out, ⟨fun h => ⟨HSZ.out, (sqW_iff HSZ.out).1 (HBB.out.1 h)⟩, fun h => HBB.out.2 ((sqW_iff HSZ.out).2 h.2)⟩⟩
  | false =>
    have HNO : Hid (¬ WhOk ds ms) := Lib.hid (fun h => absurd (HBB.out.2 h.1) (by simp))
    clear HBB
    go_wp2
    go_ret
    exact bb_false HB4.out HNO.out
end Go.Proofs.Ytiokagnolbddlaa
