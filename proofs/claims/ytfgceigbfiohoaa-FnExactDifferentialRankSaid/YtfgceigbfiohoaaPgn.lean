/-
  BottomOf and PageNumber of both sides by their contracts.
-/
import Derived.Test.YtfgceigbfiohoaaBos
namespace Go.Proofs.Ytfgceigbfiohoaa
open Go.RowKit

/-- The number of a page. -/
def PgNum (p : Int) (ds : List Int) (ms : List (List (List Int))) (ls : List (List Int)) (k : Nat) (r q x : Int) : Prop :=
  ∃ Z B, SpF p (dimN ds (k : Int)) (ZcD p ds ms ls k q (q - r)) Z ∧ SpF p (dimN ds (k : Int)) (BotS p ds ms ls k r q) B ∧ x = (Z.length : Int) - (B.length : Int)
theorem PgNum.unique {p : Int} {ds : List Int} {ms : List (List (List Int))} {ls : List (List Int)} {k : Nat} {r q x y : Int} (hp : 1 < p) (h : PgNum p ds ms ls k r q x) (h' : PgNum p ds ms ls k r q y) : x = y := by
  obtain ⟨A, B, a, b, rfl⟩ := h
  obtain ⟨C, D, c, d, rfl⟩ := h'
  rw [a.unique' hp c, b.unique' hp d]

set_option maxHeartbeats 3200000 in
set_option maxRecDepth 100000 in
theorem pageNumber_any (p : Int) (k : Nat) (r q : Int) (dv mv lv : Value) (ds : List Int) (ms : List (List (List Int))) (ls : List (List Int)) (w : World) (h : Fi 0 w dv mv lv ds ms ls) (hf : IsFil p ds ms ls) (hk : k < ds.length) (hr : 0 ≤ r ∧ r ≤ 8) (hq : 0 ≤ q ∧ q ≤ 5) :
    Calls Try.prog 186 #[.agg #[.int .i64 p, dv, mv, lv], .int .i64 r, .int .i64 k, .int .i64 q] w (IntR (PgNum p ds ms ls k r q) w) := by
  have HX0 := Lib.hid (Fx.start (p := p) 52 h)
  have HA : Hid (∀ W, Hid (Fx w W w.heap.size p dv mv lv ds ms ls) → Calls Try.prog 190 #[.agg #[.int .i64 p, dv, mv, lv], .int .i64 r, .int .i64 (k : Int), .int .i64 q] W (VsR (SpF p (dimN ds (k : Int)) (ZcD p ds ms ls k q (q - r))) W)) := Lib.hid (fun W hW => approximateSpace_any p k r q dv mv lv ds ms ls W hW.out.fi hf hk (by omega) (by omega))
  have HB : Hid (∀ W, Hid (Fx w W w.heap.size p dv mv lv ds ms ls) → Calls Try.prog 168 #[.agg #[.int .i64 p, dv, mv, lv], .int .i64 r, .int .i64 (k : Int), .int .i64 q] W (VsR (SpF p (dimN ds (k : Int)) (BotS p ds ms ls k r q)) W)) := Lib.hid (fun W hW => bottomSpace_any p k r q dv mv lv ds ms ls W hW.out.fi hf hk (by omega) (by omega))
  have HCX := Lib.hid hf.1
  have hd8 := (dimN_le8 hf.1 k).1
  have c0 := HX0.out.c0
  have c1 := HX0.out.c1
  have c2 := HX0.out.c2
  have c3 := HX0.out.c3
  have HXD := Lib.hid (HX0.out.next (Below.refl _ _).drew)
  clear h hf
  go_enter Try.func186, Try.ntmps186
  go_wp2
  go_region_held3 (fun w' => w'.cell? ⟨w.heap.size, 0, none⟩ = some (.int .i64 p) ∧ w'.cell? ⟨w.heap.size, 1, none⟩ = some dv ∧ w'.cell? ⟨w.heap.size, 2, none⟩ = some mv ∧ w'.cell? ⟨w.heap.size, 3, none⟩ = some lv ∧ Hid (Fx w w' w.heap.size p dv mv lv ds ms ls))
    (first | exact Fx.all HX0 | exact Fx.all HXD | exact Fx.all HX4 | exact Fx.all HX5 | go_keep)
    (first
      | (go_at_call 190; refine (HA.out _ ?_).mono ?_; (first | assumption | exact HXD); rintro e w4 ⟨s4, Z, rfl, hb4, ho4, hr4⟩; obtain ⟨a4, c4, rfl⟩ := ho4.shape; clear ho4; have HX4 := Lib.hid (HXD.out.next hb4); have HR4 := Lib.hid hr4; have hl4 := hr4.short; clear hb4 hr4 HA)
      | (go_at_call 168; refine (HB.out _ HX4).mono ?_; rintro e w5 ⟨s5, B, rfl, hb5, ho5, hr5⟩; obtain ⟨a5, c5, rfl⟩ := ho5.shape; clear ho5; have HX5 := Lib.hid (HX4.out.next hb5); have HR5 := Lib.hid hr5; have hl5 := hr5.short; clear hb5 hr5))
  go_wp2
  go_ret
  refine ⟨(Z.length : Int) - (B.length : Int), ret_int ?_, HX5.out.below, Z, B, HR4.out, HR5.out, rfl⟩
  first | rfl | exact IntWalk.i64_in _ (by omega)

set_option maxHeartbeats 3200000 in
set_option maxRecDepth 100000 in
theorem l02Number_any (p : Int) (k : Nat) (r q : Int) (dv mv lv : Value) (ds : List Int) (ms : List (List (List Int))) (ls : List (List Int)) (w : World) (h : Fi 0 w dv mv lv ds ms ls) (hf : IsFil p ds ms ls) (hk : k < ds.length) (hr : 0 ≤ r ∧ r ≤ 8) (hq : 0 ≤ q ∧ q ≤ 5) :
    Calls Try.prog 140 #[.agg #[.int .i64 p, dv, mv, lv], .int .i64 r, .int .i64 k, .int .i64 q] w (IntR (PgNum p ds ms ls k r q) w) := by
  have HX0 := Lib.hid (Fx.start (p := p) 52 h)
  have HA : Hid (∀ W, Hid (Fx w W w.heap.size p dv mv lv ds ms ls) → Calls Try.prog 141 #[.agg #[.int .i64 p, dv, mv, lv], .int .i64 r, .int .i64 (k : Int), .int .i64 q] W (SpG p (dimN ds (k : Int)) (ZcD p ds ms ls k q (q - r)) W)) := Lib.hid (fun W hW => l02Cycles_any p k r q dv mv lv ds ms ls W hW.out.fi hf hk (by omega) (by omega))
  have HB : Hid (∀ W, Hid (Fx w W w.heap.size p dv mv lv ds ms ls) → Calls Try.prog 164 #[.agg #[.int .i64 p, dv, mv, lv], .int .i64 r, .int .i64 (k : Int), .int .i64 q] W (SpG p (dimN ds (k : Int)) (BotS p ds ms ls k r q) W)) := Lib.hid (fun W hW => l02Bottom_any p k r q dv mv lv ds ms ls W hW.out.fi hf hk (by omega) (by omega))
  have HCX := Lib.hid hf.1
  have hd8 := (dimN_le8 hf.1 k).1
  have c0 := HX0.out.c0
  have c1 := HX0.out.c1
  have c2 := HX0.out.c2
  have c3 := HX0.out.c3
  have HXD := Lib.hid (HX0.out.next (Below.refl _ _).drew)
  clear h hf
  go_enter Try.func140, Try.ntmps140
  go_wp2
  go_region_held3 (fun w' => w'.cell? ⟨w.heap.size, 0, none⟩ = some (.int .i64 p) ∧ w'.cell? ⟨w.heap.size, 1, none⟩ = some dv ∧ w'.cell? ⟨w.heap.size, 2, none⟩ = some mv ∧ w'.cell? ⟨w.heap.size, 3, none⟩ = some lv ∧ Hid (Fx w w' w.heap.size p dv mv lv ds ms ls))
    (first | exact Fx.all HX0 | exact Fx.all HXD | exact Fx.all HX4 | exact Fx.all HX5 | go_keep)
    (first
      | (go_at_call 141; refine (HA.out _ ?_).mono ?_; (first | assumption | exact HXD); rintro e w4 ⟨s4, Z, rfl, hg4, hb4, hr4⟩; obtain ⟨a4, c4, hv4⟩ := Sl.shape hg4.l2; rw [List.length_map] at hv4; subst hv4; clear hg4; have HX4 := Lib.hid (HXD.out.next hb4); have HR4 := Lib.hid hr4; have hl4 := hr4.short; clear hb4 hr4 HA)
      | (go_at_call 164; refine (HB.out _ HX4).mono ?_; rintro e w5 ⟨s5, B, rfl, hg5, hb5, hr5⟩; obtain ⟨a5, c5, hv5⟩ := Sl.shape hg5.l2; rw [List.length_map] at hv5; subst hv5; clear hg5; have HX5 := Lib.hid (HX4.out.next hb5); have HR5 := Lib.hid hr5; have hl5 := hr5.short; clear hb5 hr5))
  go_wp2
  go_ret
  refine ⟨(Z.length : Int) - (B.length : Int), ret_int ?_, HX5.out.below, Z, B, HR4.out, HR5.out, rfl⟩
  first | rfl | exact IntWalk.i64_in _ (by omega)

end Go.Proofs.Ytfgceigbfiohoaa
