/-
  What impl.DualComplex makes: its box, its lists, its tables, each in blocks of their own.
-/
import Derived.Test.YtpdkfidmmjlmnabQe
namespace Go.Proofs.Ytpdkfidmmjlmnab
open Go.RowKit

theorem made1 (w : World) (z : Value) (n : Nat) (t : TypeId) (o2 o3 : Obj) : (((w.alloc (.cells (madeCells #[z] n) t)).alloc o2).alloc o3).drew.rowIs w.heap.size t n (fun _ => z) := (((World.rowIs_made w z n t).alloc o2).alloc o3).drew
theorem made2 (w : World) (z : Value) (n : Nat) (t : TypeId) (o1 o3 : Obj) : (((w.alloc o1).alloc (.cells (madeCells #[z] n) t)).alloc o3).drew.rowIs (w.heap.size + 1) t n (fun _ => z) := by
  have h := ((World.rowIs_made (w.alloc o1) z n t).alloc o3).drew
  simpa using h
theorem made3 (w : World) (z : Value) (n : Nat) (t : TypeId) (o1 o2 : Obj) : (((w.alloc o1).alloc o2).alloc (.cells (madeCells #[z] n) t)).drew.rowIs (w.heap.size + 1 + 1) t n (fun _ => z) := by
  have h := (World.rowIs_made ((w.alloc o1).alloc o2) z n t).drew
  simpa using h
/-- The three cells of a box of a complex. -/
def box3 (p : Int) (a b : Value) : Nat → Value := fun i => if i = 0 then .int .i64 p else if i = 1 then a else b
theorem boxIs (w : World) (p : Int) (a b : Value) (t : TypeId) : (w.alloc (.cells #[.int .i64 p, a, b] t)).rowIs w.heap.size t 3 (box3 p a b) :=
  World.rowIs_alloc w #[.int .i64 p, a, b] t _ (fun i hi => by
    match i, hi with
    | 0, _ => rfl
    | 1, _ => rfl
    | 2, _ => rfl)
theorem box1 (w : World) (p : Int) (a b : Value) (t : TypeId) (o2 o3 : Obj) : (((w.alloc (.cells #[.int .i64 p, a, b] t)).alloc o2).alloc o3).drew.rowIs w.heap.size t 3 (box3 p a b) := (((boxIs w p a b t).alloc o2).alloc o3).drew
theorem box2 (w : World) (p : Int) (a b : Value) (t : TypeId) (o1 o3 : Obj) : (((w.alloc o1).alloc (.cells #[.int .i64 p, a, b] t)).alloc o3).drew.rowIs (w.heap.size + 1) t 3 (box3 p a b) := by
  have h := ((boxIs (w.alloc o1) p a b t).alloc o3).drew
  simpa using h
theorem box3' (w : World) (p : Int) (a b : Value) (t : TypeId) (o1 o2 : Obj) : (((w.alloc o1).alloc o2).alloc (.cells #[.int .i64 p, a, b] t)).drew.rowIs (w.heap.size + 1 + 1) t 3 (box3 p a b) := by
  have h := (boxIs ((w.alloc o1).alloc o2) p a b t).drew
  simpa using h

/-- The dual while it is being made: its box, its list of dimensions, its list of tables, each in a block of its own. -/
structure Du (w wx : World) (g bd bm n m : Nat) (p : Int) (D M : Nat → Value) : Prop where
  below : Below w.heap.size w wx
  lo : w.heap.size ≤ g ∧ w.heap.size ≤ bd ∧ w.heap.size ≤ bm
  ne : g ≠ bd ∧ g ≠ bm ∧ bd ≠ bm
  box : wx.rowIs g 31 3 (box3 p (.slice (some ⟨bd, 0, none⟩) n n) (.slice (some ⟨bm, 0, none⟩) m m))
  dims : wx.rowIs bd 2 n D
  maps : wx.rowIs bm 26 m M
theorem Du.setD {w wx : World} {g bd bm n m : Nat} {p : Int} {D M : Nat → Value} (h : Du w wx g bd bm n m p D M) (k : Nat) (v : Value) : Du w (wx.setCell ⟨bd, k, none⟩ v) g bd bm n m p (fun j => if j = k then v else D j) M :=
  ⟨h.below.setCell h.lo.2.1 _, h.lo, h.ne, h.box.setOther h.ne.1 _, h.dims.set k v, h.maps.setOther (Ne.symm h.ne.2.2) _⟩
theorem Du.setM {w wx : World} {g bd bm n m : Nat} {p : Int} {D M : Nat → Value} (h : Du w wx g bd bm n m p D M) (k : Nat) (v : Value) : Du w (wx.setCell ⟨bm, k, none⟩ v) g bd bm n m p D (fun j => if j = k then v else M j) :=
  ⟨h.below.setCell h.lo.2.2 _, h.lo, h.ne, h.box.setOther h.ne.2.1 _, h.dims.setOther h.ne.2.2 _, h.maps.set k v⟩
theorem Du.drew {w wx : World} {g bd bm n m : Nat} {p : Int} {D M : Nat → Value} (h : Du w wx g bd bm n m p D M) : Du w wx.drew g bd bm n m p D M := ⟨h.below.drew, h.lo, h.ne, h.box.drew, h.dims.drew, h.maps.drew⟩
theorem Du.next {w wx w' : World} {g bd bm n m : Nat} {p : Int} {D M : Nat → Value} (h : Du w wx g bd bm n m p D M) (hb : Below wx.heap.size wx w') : Du w w' g bd bm n m p D M :=
  ⟨h.below.trans (hb.mono h.below.size), h.lo, h.ne, h.box.of_block (hb.block _ h.box.lt), h.dims.of_block (hb.block _ h.dims.lt), h.maps.of_block (hb.block _ h.maps.lt)⟩
theorem Du.congr {w wx : World} {g bd bm n m : Nat} {p : Int} {D D' M : Nat → Value} (h : Du w wx g bd bm n m p D M) (e : ∀ j, j < n → D j = D' j) : Du w wx g bd bm n m p D' M := ⟨h.below, h.lo, h.ne, h.box, h.dims.congr e, h.maps⟩
/-- The list of dimensions, k of them laid. -/
def duD (ds : List Int) (k : Nat) : Nat → Value := fun j => .int .i64 (if j < k then ds.getD (ds.length - 1 - j) 0 else 0)
theorem duD_step (ds : List Int) (k : Nat) {x : Int} (hx : x = ds.getD (ds.length - 1 - k) 0) : ∀ j, (if j = k then Value.int .i64 x else duD ds k j) = duD ds (k + 1) j := by
  intro j
  by_cases e : j = k
  · subst e
    rw [if_pos rfl, duD, if_pos (Nat.lt_succ_self _), hx]
  · rw [if_neg e]
    simp only [duD]
    by_cases h2 : j < k
    · rw [if_pos h2, if_pos (by omega)]
    · rw [if_neg h2, if_neg (by omega)]
theorem below3 (w : World) (o1 o2 o3 : Obj) : Below w.heap.size w (((w.alloc o1).alloc o2).alloc o3).drew := ((((Below.refl _ _).alloc (Nat.le_refl _) _).alloc (by simp) _).alloc (by simp; omega) _).drew

/-- A table at the block b: its row of rows there, row j at b + 1 + j. -/
structure TabAt (w : World) (b r c : Nat) (Z : Nat → Nat → Int) : Prop where
  top : w.rowIs b 22 r (fun j => .slice (some ⟨b + 1 + j, 0, none⟩) c c)
  rows : ∀ j, j < r → w.rowIs (b + 1 + j) 2 c (fun i => .int .i64 (Z j i))
theorem Mat.at {w w' : World} {r c : Nat} {Z : Nat → Nat → Int} (h : Mat w w' r c Z) : TabAt w' w.heap.size r c Z := ⟨h.top, h.rows⟩
theorem TabAt.below {w w' : World} {b r c : Nat} {Z : Nat → Nat → Int} (h : TabAt w b r c Z) (hb : Below w.heap.size w w') : TabAt w' b r c Z :=
  ⟨h.top.of_block (hb.block _ h.top.lt), fun j hj => (h.rows j hj).of_block (hb.block _ (h.rows j hj).lt)⟩
theorem TabAt.set {w : World} {b r c : Nat} {Z : Nat → Nat → Int} (h : TabAt w b r c Z) {a : Addr} (ha : a.block < b) (v : Value) : TabAt (w.setCell a v) b r c Z :=
  ⟨h.top.setOther (by omega) v, fun j hj => (h.rows j hj).setOther (by omega) v⟩
/-- The tables of the dual, k of them laid, one behind the other. -/
structure Ts (lo : Nat) (w : World) (bs r c : Nat → Nat) (Z : Nat → Nat → Nat → Int) (k : Nat) : Prop where
  at' : ∀ j, j < k → TabAt w (bs j) (r j) (c j) (Z j)
  lo' : ∀ j, j < k → lo ≤ bs j
  hi : ∀ j, j < k → bs j + 1 + r j ≤ w.heap.size
  inc : ∀ i j, i < j → j < k → bs i + 1 + r i ≤ bs j
def duR (ds : List Int) (m : Nat) (j : Nat) : Nat := (ds.getD (m - 1 - j) 0).toNat
def duC (ms : List (List (List Int))) (j : Nat) : Nat := (ms.getD (ms.length - 1 - j) []).length
def duZ (ms : List (List (List Int))) (j a b : Nat) : Int := ((ms.getD (ms.length - 1 - j) []).getD b []).getD a 0
def duM (bs r : Nat → Nat) (k : Nat) : Nat → Value := fun j => if j < k then .slice (some ⟨bs j, 0, none⟩) (r j) (r j) else .slice none 0 0
theorem Ts.step {lo k : Nat} {w w1 : World} {bs r c : Nat → Nat} {Z : Nat → Nat → Nat → Int} (h : Ts lo w bs r c Z k) (hm : Mat w w1 (r k) (c k) (Z k)) (hlo : lo ≤ w.heap.size) {a : Addr} (ha : a.block < lo) (v : Value) :
    Ts lo (w1.setCell a v) (fun j => if j = k then w.heap.size else bs j) r c Z (k + 1) := by
  refine ⟨fun j hj => ?_, fun j hj => ?_, fun j hj => ?_, fun i j hi hj => ?_⟩
  · by_cases e : j = k
    · subst e
      simp only [if_true]
      exact hm.at.set (by omega) v
    · simp only [if_neg e]
      have hj' : j < k := by omega
      have := h.lo' j hj'
      exact ((h.at' j hj').below hm.below).set (by omega) v
  · by_cases e : j = k
    · simp only [if_pos e]; exact hlo
    · simp only [if_neg e]; exact h.lo' j (by omega)
  · by_cases e : j = k
    · subst e
      simp [hm.size]
    · simp only [if_neg e]
      have := h.hi j (by omega)
      have := hm.below.size
      simp
      omega
  · by_cases e : j = k
    · subst e
      rw [if_neg (by omega), if_pos rfl]
      exact h.hi i hi
    · rw [if_neg (by omega), if_neg e]
      exact h.inc i j hi (by omega)
theorem Ts.drew {lo k : Nat} {w : World} {bs r c : Nat → Nat} {Z : Nat → Nat → Nat → Int} (h : Ts lo w bs r c Z k) : Ts lo w.drew bs r c Z k :=
  ⟨fun j hj => ⟨(h.at' j hj).top.drew, fun i hi => ((h.at' j hj).rows i hi).drew⟩, h.lo', h.hi, h.inc⟩
theorem duM_step (bs r : Nat → Nat) (k g : Nat) : ∀ j, (if j = k then Value.slice (some ⟨g, 0, none⟩) (r k) (r k) else duM bs r k j) = duM (fun j => if j = k then g else bs j) r (k + 1) j := by
  intro j
  by_cases e : j = k
  · subst e
    simp [duM]
  · rw [if_neg e]
    simp only [duM, if_neg e]
    by_cases h2 : j < k
    · rw [if_pos h2, if_pos (by omega)]
    · rw [if_neg h2, if_neg (by omega)]
theorem Du.congrM {w wx : World} {g bd bm n m : Nat} {p : Int} {D M M' : Nat → Value} (h : Du w wx g bd bm n m p D M) (e : ∀ j, j < m → M j = M' j) : Du w wx g bd bm n m p D M' := ⟨h.below, h.lo, h.ne, h.box, h.dims, h.maps.congr e⟩
end Go.Proofs.Ytpdkfidmmjlmnab
