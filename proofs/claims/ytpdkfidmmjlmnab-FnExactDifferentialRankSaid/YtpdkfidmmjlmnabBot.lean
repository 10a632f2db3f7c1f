/-
  The bottom in plain words; impl.bottomSpace by its contract.
-/
import Derived.Test.YtpdkfidmmjlmnabDmg
namespace Go.Proofs.Ytpdkfidmmjlmnab
open Go.RowKit

/-- Approximate cycles of the degree above, none beyond the degrees. -/
def UpP (p : Int) (ds : List Int) (ms : List (List (List Int))) (ls : List (List Int)) (k : Nat) (q q0 : Int) (R : List Lin.V) : Prop := (k < ds.length → SpF p (dimN ds (k : Int)) (ZcD p ds ms ls k q q0) R) ∧ (¬ k < ds.length → R = [])
def dimgs (p : Int) (ds : List Int) (ms : List (List (List Int))) (k : Nat) (R : List Lin.V) : List Lin.V := R.map (dimg p (dimN ds (k : Int)) (cycT ds ms k))
/-- The bottom. -/
def BotS (p : Int) (ds : List Int) (ms : List (List (List Int))) (ls : List (List Int)) (k : Nat) (r q : Int) (v : Lin.V) : Prop :=
  ∃ A R, SpF p (dimN ds (k : Int)) (ZcD p ds ms ls k (q - 1) (q - r)) A ∧ UpP p ds ms ls (k + 1) (q + r - 1) q R ∧ Lin.Sp p (A ++ dimgs p ds ms (k + 1) R) v
theorem UpP.unique {p : Int} {ds : List Int} {ms : List (List (List Int))} {ls : List (List Int)} {k : Nat} {q q0 : Int} {R R' : List Lin.V} (hp : 1 < p) (h : UpP p ds ms ls k q q0 R) (h' : UpP p ds ms ls k q q0 R') : R = R' := by
  by_cases hk : k < ds.length
  · exact (h.1 hk).unique' hp (h'.1 hk)
  · rw [h.2 hk, h'.2 hk]
theorem dimgs_md {p : Int} (hp : 0 < p) (ds : List Int) (ms : List (List (List Int))) (k : Nat) (R : List Lin.V) : ∀ u ∈ dimgs p ds ms k R, Lin.Md p u := fun u hu => by
  obtain ⟨y, _, rfl⟩ := List.mem_map.1 hu
  exact dimg_md hp _ _ _
theorem dimgs_wd {p : Int} {ds : List Int} {ms : List (List (List Int))} {ls : List (List Int)} (hcx : IsCx p ds ms) {k : Nat} {q q0 : Int} {R : List Lin.V} (h : UpP p ds ms ls (k + 1) q q0 R) : ∀ u ∈ dimgs p ds ms (k + 1) R, Lin.Wd (dimN ds (k : Int)) u := fun u hu => by
  obtain ⟨y, hy, rfl⟩ := List.mem_map.1 hu
  by_cases hk : k + 1 < ds.length
  · have hok := cyc_ok hcx hk
    have e : cycM ds (k + 1) = dimN ds (k : Int) := by simp [cycM]
    rw [e] at hok
    exact dimg_wd hok.1 hok.2.1 y
  · rw [h.2 hk] at hy
    cases hy
theorem UpP.short {p : Int} {ds : List Int} {ms : List (List (List Int))} {ls : List (List Int)} (hcx : IsCx p ds ms) {k : Nat} {q q0 : Int} {R : List Lin.V} (h : UpP p ds ms ls k q q0 R) : R.length ≤ 8 := by
  by_cases hk : k < ds.length
  · have := (h.1 hk).short
    have := (dimN_le8 hcx k).1
    omega
  · rw [h.2 hk]; simp
theorem botS_of {p : Int} {ds : List Int} {ms : List (List (List Int))} {ls : List (List Int)} (hcx : IsCx p ds ms) {k : Nat} {r q : Int} {A R E : List Lin.V} (hA : SpF p (dimN ds (k : Int)) (ZcD p ds ms ls k (q - 1) (q - r)) A) (hR : UpP p ds ms ls (k + 1) (q + r - 1) q R) (hE : Lin.Red p E) (he : Lin.Eqv p E (A ++ dimgs p ds ms (k + 1) R)) : SpF p (dimN ds (k : Int)) (BotS p ds ms ls k r q) E := by
  have hp := hcx.1.prime.lo1
  refine ⟨hE, fun u hu => Lin.Sp.wd (fun x hx => ?_) ((he u).1 (Lin.Sp.mem hu (hE.md u hu))), fun v => ?_⟩
  · rcases List.mem_append.1 hx with h | h
    · exact hA.2.1 x h
    · exact dimgs_wd hcx hR x h
  · rw [he v]
    exact ⟨fun h => ⟨A, R, hA, hR, h⟩, fun ⟨A', R', hA', hR', h⟩ => by rw [hA.unique' hp hA', hR.unique hp hR']; exact h⟩

set_option maxHeartbeats 3200000 in
set_option maxRecDepth 100000 in
theorem bottomSpace_any (p : Int) (k : Nat) (r q : Int) (dv mv lv : Value) (ds : List Int) (ms : List (List (List Int))) (ls : List (List Int)) (w : World) (h : Fi 0 w dv mv lv ds ms ls) (hf : IsFil p ds ms ls) (hk : k < ds.length) (hr : -20 ≤ r ∧ r ≤ 20) (hq : -20 ≤ q ∧ q ≤ 20) :
    Calls Try.prog 97 #[.agg #[.int .i64 p, dv, mv, lv], .int .i64 r, .int .i64 (k : Int), .int .i64 q] w (VsR (SpF p (dimN ds (k : Int)) (BotS p ds ms ls k r q)) w) := by
  have HX0 := Lib.hid (Fx.start (p := p) 33 h)
  have HCX := Lib.hid hf.1
  have hp1 := hf.1.1.prime.lo1
  have hd8 := (dimN_le8 hf.1 k).1
  have hl6 := hf.1.1.len1
  obtain ⟨k1, hk1⟩ : ∃ k1, k1 = k + 1 := ⟨_, rfl⟩
  obtain ⟨rm, hrm⟩ : ∃ rm, rm = r - 1 := ⟨_, rfl⟩
  obtain ⟨qm, hqm⟩ : ∃ qm, qm = q - 1 := ⟨_, rfl⟩
  obtain ⟨qr, hqr⟩ : ∃ qr, qr = q + r := ⟨_, rfl⟩
  obtain ⟨qs, hqs⟩ : ∃ qs, qs = qr - 1 := ⟨_, rfl⟩
  have hw1 : IntKind.i64.wrap (r - 1) = rm := by rw [hrm]; exact IntWalk.i64_in _ (by omega)
  have hw2 : IntKind.i64.wrap (q - 1) = qm := by rw [hqm]; exact IntWalk.i64_in _ (by omega)
  have hw3 : IntKind.i64.wrap (q + r) = qr := by rw [hqr]; exact IntWalk.i64_in _ (by omega)
  have hw4 : IntKind.i64.wrap (qr - 1) = qs := by rw [hqs]; exact IntWalk.i64_in _ (by omega)
  have hw5 : IntKind.i64.wrap ((k : Int) + 1) = (k1 : Int) := by rw [hk1]; exact IntWalk.i64_in _ (by omega)
  have HZ : Hid (∀ W, Fi 0 W dv mv lv ds ms ls → Calls Try.prog 95 #[.agg #[.int .i64 p, dv, mv, lv], .int .i64 rm, .int .i64 (k : Int), .int .i64 qm] W (VsR (SpF p (dimN ds (k : Int)) (ZcD p ds ms ls k (q - 1) (q - r))) W)) := Lib.hid (fun W hW => by
    have := approximateSpace_any p k rm qm dv mv lv ds ms ls W hW hf hk (by omega) (by omega)
    rw [Int.toNat_natCast, show qm - rm = q - r by omega] at this
    rw [hqm] at this ⊢
    exact this)
  have HU : Hid (∀ W, Fi 0 W dv mv lv ds ms ls → Calls Try.prog 95 #[.agg #[.int .i64 p, dv, mv, lv], .int .i64 rm, .int .i64 (k1 : Int), .int .i64 qs] W (VsR (UpP p ds ms ls (k + 1) (q + r - 1) q) W)) := Lib.hid (fun W hW => by
    by_cases hkl : k1 < ds.length
    · have := approximateSpace_any p k1 rm qs dv mv lv ds ms ls W hW hf hkl (by omega) (by omega)
      rw [Int.toNat_natCast, show qs - rm = q by omega, show qs = q + r - 1 by omega, hk1] at this
      rw [show qs = q + r - 1 by omega, hk1]
      exact this.mono (fun e w' ⟨s, L, h1, h2, h3, h4⟩ => ⟨s, L, h1, h2, h3, fun _ => h4, fun hn => absurd (by rw [← hk1]; exact hkl) hn⟩)
    · have := approximateSpace_out p (k1 : Int) rm qs dv mv lv ds ms ls W hW (by omega) (by omega)
      exact this.mono (fun e w' ⟨s, L, h1, h2, h3, h4⟩ => ⟨s, L, h1, h2, h3, fun hn => absurd (by rw [hk1]; exact hn) hkl, fun _ => h4⟩))
  have HD : Hid (∀ W sl R, Fi 0 W dv mv lv ds ms ls → Vs 0 W sl R → UpP p ds ms ls (k + 1) (q + r - 1) q R → Calls Try.prog 161 #[.agg #[.int .i64 p, dv, mv], .int .i64 (k1 : Int), sl] W (VsR (fun M => M = dimgs p ds ms (k + 1) R) W)) := Lib.hid (fun W sl R hW hV hR => by
    by_cases hkl : k1 < ds.length
    · have hR1 := hR.1 (by rw [← hk1]; exact hkl)
      have hs := hR.short hf.1
      have := differentialsOf_s p k1 sl R dv mv ds ms W hW.cx hf.1 hkl (by omega) hV hR1.1.md (by rw [hk1]; exact hR1.2.1) (by omega)
      rwa [hk1] at this ⊢
    · have hR0 := hR.2 (by rw [← hk1]; exact hkl)
      subst hR0
      exact differentialsOf_nil p (k1 : Int) sl dv mv ds ms W hW.cx hV (by omega))
  have c0 := HX0.out.c0
  have c1 := HX0.out.c1
  have c2 := HX0.out.c2
  have c3 := HX0.out.c3
  clear h hf hk1 hrm hqm hqr hqs
  go_enter Try.func97, Try.ntmps97
  go_wp2_with fail
  refine (HZ.out _ HX0.out.fi).mono ?_
  rintro e w1 ⟨s1, A, rfl, hb1, ho1, hz1⟩
  have HX1 := Lib.hid (HX0.out.next hb1)
  have HV1 := Lib.hid (ho1.vs.lower (Nat.zero_le _))
  have HZ1 := Lib.hid hz1
  have hal := hz1.short
  clear hb1 ho1 hz1 HZ c0 c1 c2 c3
  go_wp2
  have HX1D := Lib.hid (HX1.out.next (Below.refl _ _).drew)
  have HV1D := Lib.hid (HV1.out.below (Below.refl _ _).drew)
  go_region_held3 (fun w' => w'.cell? ⟨w.heap.size, 0, none⟩ = some (.int .i64 p) ∧ w'.cell? ⟨w.heap.size, 1, none⟩ = some dv ∧ w'.cell? ⟨w.heap.size, 2, none⟩ = some mv ∧ w'.cell? ⟨w.heap.size, 3, none⟩ = some lv ∧ Hid (Fx w w' w.heap.size p dv mv lv ds ms ls))
    (first | exact Fx.all HX1 | exact Fx.all HX1D | exact Fx.all HX4 | exact Fx.all HX5 | go_keep)
    (first
      | (go_at_call 95; refine (HU.out _ HX1D.out.fi).mono ?_; rintro e w4 ⟨s4, R, rfl, hb4, ho4, hr4⟩; have HX4 := Lib.hid (HX1D.out.next hb4); have HR4 := Lib.hid hr4; have HO4 := Lib.hid (And.intro (ho4.vs.lower (Nat.zero_le _)) (HV1D.out.below hb4)); clear ho4 hb4 hr4)
      | (go_at_call 161; refine (HD.out _ s4 R HX4.out.fi HO4.out.1 HR4.out).mono ?_; rintro e w5 ⟨s5, M, rfl, hb5, ho5, rfl⟩; have HX5 := Lib.hid (HX4.out.next hb5); have HO5 := Lib.hid (And.intro (ho5.vs.lower (Nat.zero_le _)) (HO4.out.2.below hb5)); clear ho5 hb5))
  have c0 := HX5.out.c0
  have c1 := HX5.out.c1
  have c2 := HX5.out.c2
  have c3 := HX5.out.c3
  have hrl := HR4.out.short HCX.out
  have HML : Hid ((dimgs p ds ms (k + 1) R).length = R.length) := Lib.hid (by simp [dimgs])
  have HMM : Hid (∀ u ∈ A ++ dimgs p ds ms (k + 1) R, Lin.Md p u) := Lib.hid (fun u hu => (List.mem_append.1 hu).elim (HZ1.out.1.md u) (dimgs_md (by omega) ds ms (k + 1) R u))
  have HMW : Hid (∀ u ∈ A ++ dimgs p ds ms (k + 1) R, Lin.Wd 40 u) := Lib.hid (fun u hu => wd_wider ((List.mem_append.1 hu).elim (HZ1.out.2.1 u) (dimgs_wd HCX.out HR4.out u)) (by omega))
  have HSS := Lib.hid (sumSpace_any p s1 s5 A (dimgs p ds ms (k + 1) R) w5 HCX.out.1.prime HO5.out.2 HO5.out.1 HMM.out HMW.out (by rw [List.length_append, HML.out]; omega))
  go_wp2_with fail
  refine HSS.out.mono ?_
  rintro e w6 ⟨s6, E, rfl, hb6, ho6, hr6, _⟩
  have HB6 := Lib.hid (HX5.out.next hb6).below
  have HO6 := Lib.hid ho6
  have HR6 := Lib.hid hr6
  have hs5 : w.heap.size ≤ w5.heap.size := HX5.out.below.size
  clear hb6 ho6 hr6 HSS c0 c1 c2 c3
  go_wp2
  go_ret
  exact ⟨s6, E, rfl, HB6.out, ⟨HO6.out.1, HO6.out.2.imp id (fun ⟨g, cap, cur, h1, h2, h3⟩ => ⟨g, cap, cur, h1, Nat.le_trans hs5 h2, h3⟩)⟩, botS_of HCX.out HZ1.out HR4.out HR6.out.red HR6.out.eqv⟩
end Go.Proofs.Ytpdkfidmmjlmnab
