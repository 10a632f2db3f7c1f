/-
  PageBasis: the program's side by its contract.
-/
import Derived.Test.YtidjjljiaakplaaBos
import Derived.Test.YtidjjljiaakplaaHom
namespace Go.Proofs.Ytidjjljiaakplaa
open Go.RowKit

/-- The space that a page's basis spans. -/
def PgS (p : Int) (ds : List Int) (ms : List (List (List Int))) (ls : List (List Int)) (k : Nat) (r q : Int) (v : Lin.V) : Prop :=
  ∃ C B, SpF p (dimN ds (k : Int)) (ZcD p ds ms ls k q (q - r)) C ∧ SpF p (dimN ds (k : Int)) (BotS p ds ms ls k r q) B ∧ Lin.Sp p (C ++ B) v ∧ ∀ w ∈ B, v (Lin.ld w) = 0
theorem pgS_of {p : Int} (hp : 1 < p) {ds : List Int} {ms : List (List (List Int))} {ls : List (List Int)} {k : Nat} {r q : Int} {C B tt R : List Lin.V} (hC : SpF p (dimN ds (k : Int)) (ZcD p ds ms ls k q (q - r)) C) (hB : SpF p (dimN ds (k : Int)) (BotS p ds ms ls k r q) B)
    (hT : RestsOf p (dimN ds (k : Int)) B C tt) (hl : tt.length = C.length) (hR : Lin.Red p R) (he : Lin.Eqv p R tt) : SpF p (dimN ds (k : Int)) (PgS p ds ms ls k r q) R := by
  refine ⟨hR, fun u hu => Lin.Sp.wd hT.wd ((he u).1 (Lin.Sp.mem hu (hR.md u hu))), fun v => ?_⟩
  rw [he v, rests_sp hp hB.1 hT hl v]
  constructor
  · exact fun h => ⟨C, B, hC, hB, h⟩
  · rintro ⟨C', B', hC', hB', h⟩
    have e1 : C = C' := hC.unique' hp hC'
    have e2 : B = B' := hB.unique' hp hB'
    subst e1 e2
    exact h

set_option maxHeartbeats 3200000 in
set_option maxRecDepth 100000 in
theorem pageSpace_any (p : Int) (k : Nat) (r q : Int) (dv mv lv : Value) (ds : List Int) (ms : List (List (List Int))) (ls : List (List Int)) (w : World) (h : Fi 0 w dv mv lv ds ms ls) (hf : IsFil p ds ms ls) (hk : k < ds.length) (hr : -20 ≤ r ∧ r ≤ 20) (hq : -20 ≤ q ∧ q ≤ 20) :
    Calls Try.prog 135 #[.agg #[.int .i64 p, dv, mv, lv], .int .i64 r, .int .i64 k, .int .i64 q] w (VsR (SpF p (dimN ds (k : Int)) (PgS p ds ms ls k r q)) w) := by
  have HX0 := Lib.hid (Fx.start (p := p) 46 h)
  have HA : Hid (∀ W, Hid (Fx w W w.heap.size p dv mv lv ds ms ls) → Calls Try.prog 172 #[.agg #[.int .i64 p, dv, mv, lv], .int .i64 r, .int .i64 (k : Int), .int .i64 q] W (VsR (SpF p (dimN ds (k : Int)) (ZcD p ds ms ls k q (q - r))) W)) := Lib.hid (fun W hW => approximateSpace_any p k r q dv mv lv ds ms ls W hW.out.fi hf hk (by omega) (by omega))
  have HB : Hid (∀ W, Hid (Fx w W w.heap.size p dv mv lv ds ms ls) → Calls Try.prog 136 #[.agg #[.int .i64 p, dv, mv, lv], .int .i64 r, .int .i64 (k : Int), .int .i64 q] W (VsR (SpF p (dimN ds (k : Int)) (BotS p ds ms ls k r q)) W)) := Lib.hid (fun W hW => bottomSpace_any p k r q dv mv lv ds ms ls W hW.out.fi hf hk (by omega) (by omega))
  have HCX := Lib.hid hf.1
  have hd8 := (dimN_le8 hf.1 k).1
  have hp1 := hf.1.1.prime.lo1
  have c0 := HX0.out.c0
  have c1 := HX0.out.c1
  have c2 := HX0.out.c2
  have c3 := HX0.out.c3
  have HXD := Lib.hid (HX0.out.next (Below.refl _ _).drew)
  clear h hf
  go_enter Try.func135, Try.ntmps135
  go_wp2
  go_region_held3 (fun w' => w'.cell? ⟨w.heap.size, 0, none⟩ = some (.int .i64 p) ∧ w'.cell? ⟨w.heap.size, 1, none⟩ = some dv ∧ w'.cell? ⟨w.heap.size, 2, none⟩ = some mv ∧ w'.cell? ⟨w.heap.size, 3, none⟩ = some lv ∧ Hid (Fx w w' w.heap.size p dv mv lv ds ms ls))
    (first | exact Fx.all HX0 | exact Fx.all HXD | exact Fx.all HX4 | exact Fx.all HX5 | exact Fx.all HX6 | go_keep)
    (first
      | (go_at_call 172; refine (HA.out _ ?_).mono ?_; (first | assumption | exact HXD); rintro e w4 ⟨s4, C, rfl, hb4, ho4, hr4⟩; have HX4 := Lib.hid (HXD.out.next hb4); have HR4 := Lib.hid hr4; have hl4 := hr4.short; have HO4 := Lib.hid (ho4.vs.lower (Nat.zero_le _)); clear ho4 hb4 hr4 HA)
      | (go_at_call 136; refine (HB.out _ HX4).mono ?_; rintro e w5 ⟨s5, B, rfl, hb5, ho5, hr5⟩; have HX5 := Lib.hid (HX4.out.next hb5); have HR5 := Lib.hid hr5; have hl5 := hr5.short; have HO5 := Lib.hid (And.intro (ho5.vs.lower (Nat.zero_le _)) (HO4.out.below hb5)); clear ho5 hb5 hr5 HB HO4)
      | (go_at_call 171; refine (spaceOfRests_any p (dimN ds (k : Int)) s4 s5 C B _ HCX.out.1.prime (by omega) HO5.out.2 HO5.out.1 HR4.out.1.md HR4.out.2.1 HR5.out.1 HR5.out.2.1 (by omega) (by omega)).mono ?_; rintro e w6 ⟨s6, R, rfl, hb6, ho6, hr6⟩; have HX6 := Lib.hid (HX5.out.next hb6); have HO6 := Lib.hid (And.intro ho6 HX5.out.below.size); have HR6 := Lib.hid hr6; clear ho6 hb6 hr6 HO5))
  go_wp2
  go_ret
  obtain ⟨tt, h1, h2, h3⟩ := HR6.out
  exact ⟨s6, R, rfl, HX6.out.below, ⟨HO6.out.1.1, HO6.out.1.2.imp id (fun ⟨g, cap, cur, h1, h2, h3⟩ => ⟨g, cap, cur, h1, Nat.le_trans HO6.out.2 h2, h3⟩)⟩, pgS_of hp1 HR4.out HR5.out h1 h2 h3.red h3.eqv⟩

end Go.Proofs.Ytidjjljiaakplaa
