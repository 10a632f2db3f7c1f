/-
  impl.inverseOf, unitLead, minusMultiple by their contracts.
-/
import Derived.Test.YtlbalcckjokeiaaVs
import Derived.Deep.Cut
import Derived.Deep.CutRange
import Derived.Outline
namespace Go.Proofs.Ytlbalcckjokeiaa
open Go.RowKit

theorem inv_ex {p a : Int} (hp : IsP p) (h0 : 0 < a) (h1 : a < p) : ∃ k : Nat, 1 ≤ k ∧ (k : Int) < p ∧ (k : Int) * a % p = 1 := by
  rcases hp with rfl | rfl | rfl | rfl
  · obtain rfl : a = 1 := by omega
    exact ⟨1, by decide⟩
  · have : a = 1 ∨ a = 2 := by omega
    rcases this with rfl | rfl
    · exact ⟨1, by decide⟩
    · exact ⟨2, by decide⟩
  · have : a = 1 ∨ a = 2 ∨ a = 3 ∨ a = 4 := by omega
    rcases this with rfl | rfl | rfl | rfl
    · exact ⟨1, by decide⟩
    · exact ⟨3, by decide⟩
    · exact ⟨2, by decide⟩
    · exact ⟨4, by decide⟩
  · have : a = 1 ∨ a = 2 ∨ a = 3 ∨ a = 4 ∨ a = 5 ∨ a = 6 := by omega
    rcases this with rfl | rfl | rfl | rfl | rfl | rfl
    · exact ⟨1, by decide⟩
    · exact ⟨4, by decide⟩
    · exact ⟨5, by decide⟩
    · exact ⟨2, by decide⟩
    · exact ⟨3, by decide⟩
    · exact ⟨6, by decide⟩
theorem mul_bd {p a b : Int} (hp : IsP p) (ha0 : 0 ≤ a) (ha : a < p) (hb0 : 0 ≤ b) (hb : b ≤ p) : 0 ≤ a * b ∧ a * b ≤ 42 := by
  have hp7 : p ≤ 7 := by rcases hp with rfl | rfl | rfl | rfl <;> decide
  refine ⟨Int.mul_nonneg ha0 hb0, ?_⟩
  have h1 : a * b ≤ 6 * b := Int.mul_le_mul_of_nonneg_right (by omega) hb0
  omega
theorem IsP.lo1 {p : Int} (hp : IsP p) : 1 < p := by rcases hp with rfl | rfl | rfl | rfl <;> decide
theorem IsP.hi7 {p : Int} (hp : IsP p) : p ≤ 7 := by rcases hp with rfl | rfl | rfl | rfl <;> decide

def InvR (p a : Int) (w : World) (e : Ending) (w' : World) : Prop := ∃ k : Nat, e = .returned (.int .i64 (k : Int)) ∧ w = w' ∧ 1 ≤ k ∧ (k : Int) < p ∧ (k : Int) * a % p = 1

set_option maxHeartbeats 400000 in
theorem inverseOf_any (p a : Int) (w : World) (hp : IsP p) (h0 : 0 < a) (h1 : a < p) : Calls Try.prog 133 #[.int .i64 p, .int .i64 a] w (InvR p a w) := by
  obtain ⟨d, hd1, hdp, hd⟩ := inv_ex hp h0 h1
  have hp7 := hp.hi7
  have hp1 := hp.lo1
  have HD := Lib.hid hd
  have HP := Lib.hid hp
  clear hd hp
  go_enter Try.func133, Try.ntmps133
  go_wp2
  go_loop [5] (fun i => ∃ k : Nat, 1 ≤ k ∧ k ≤ d ∧ i = .int .i64 k) (fun i => d + 1 - (intOf i).toNat)
  case atStart => exact ⟨1, Nat.le_refl _, hd1, rfl⟩
  case round =>
    obtain ⟨k, hk1, hk, rfl⟩ := hrel
    obtain ⟨hm0, hm1⟩ := mul_bd HP.out (a := (k : Int)) (b := a) (by omega) (by omega) (by omega) (by omega)
    by_cases hq : (k : Int) * a % p = 1
    · have hx : ((k : Int) * a % p != 1) = false := by rw [hq]; rfl
      have HQ := Lib.hid hq
      clear hq
      go_wp2
      go_ret
      exact ⟨k, rfl, rfl, hk1, by omega, HQ.out⟩
    · have hx : ((k : Int) * a % p != 1) = true := by simp [hq]
      have hkd : k < d := by
        rcases Nat.lt_or_ge k d with h | h
        · exact h
        · have : k = d := by omega
          subst this
          exact absurd HD.out hq
      clear hq
      go_wp2
      go_round
      case rel => exact ⟨k + 1, by omega, by omega, by go_num⟩
      case measure => simp [intOf]; omega

theorem there_new (w : World) (C : Array Value) (t : TypeId) {n : Nat} (h : n ≤ C.size) : (w.alloc (.cells C t)).there w.heap.size 0 n := fun j hj => by
  have hb := heap_alloc_new w (.cells C t)
  constructor
  · rw [cell_of_row _ _ _ _ _ _ hb, Nat.zero_add, Array.getElem?_eq_getElem (by omega)]
    rfl
  · simp
theorem there_set {w : World} {b o n : Nat} (h : w.there b o n) (a : Addr) (u : Value) : (w.setCell a u).there b o n := fun j hj => by
  obtain ⟨h1, h2⟩ := h j hj
  refine ⟨?_, by rw [World.frozen?_setCell]; exact h2⟩
  obtain ⟨x, hx⟩ := Option.isSome_iff_exists.1 h1
  by_cases e : a = ⟨b, o + j, none⟩
  · rw [e, World.cell?_setCell_same _ _ _ hx]; rfl
  · rw [World.cell?_setCell_other _ _ _ _ e, hx]; rfl
theorem there_below {w w' : World} {b o n B : Nat} (h : w.there b o n) (hb : Below B w w') (hB : b < B) : w'.there b o n := fun j hj => by
  rw [hb.cell (p := ⟨b, o + j, none⟩) hB, hb.frozen (p := ⟨b, o + j, none⟩) hB]
  exact h j hj
theorem below_setCells {B : Nat} {w : World} (b : Nat) (hB : B ≤ b) : ∀ (vs : List Value) (o : Nat) (w' : World), Below B w w' → Below B w (w'.setCells b o vs) := by
  intro vs
  induction vs with
  | nil => intro o w' h; exact h
  | cons v vs ih => intro o w' h; exact ih (o + 1) _ (h.setCell hB v)
theorem addr_ne {b o o' : Nat} (h : o ≠ o') : (⟨b, o, none⟩ : Addr) ≠ ⟨b, o', none⟩ := fun e => h (by injection e)
theorem At.set {w : World} {b o : Nat} {v : Lin.V} (h : At w b o v) {k : Nat} (hk : k < 40) (x : Int) : At (w.setCell ⟨b, o + k, none⟩ (.int .i64 x)) b o (fun i => if i = k then x else v i) := fun j u hu => by
  have hj : j < 40 := by have := (List.getElem?_eq_some_iff.1 hu).1; rwa [vl_length] at this
  rw [vl_get _ hj] at hu
  by_cases e : j = k
  · subst e
    rw [World.cell?_setCell_same _ _ _ (h.cell hj)]
    simpa using hu
  · rw [World.cell?_setCell_other _ _ _ _ (addr_ne (by omega)), h.cell hj]
    simpa [e] using hu
theorem At.setOther {w : World} {b o : Nat} {v : Lin.V} (h : At w b o v) {a : Addr} (ha : a.block ≠ b) (u : Value) : At (w.setCell a u) b o v := fun j x hx => by
  rw [World.cell?_setCell_other _ _ _ _ (by intro e; exact ha (by rw [e]))]
  exact h j x hx
theorem At.congr {w : World} {b o : Nat} {v v' : Lin.V} (h : At w b o v) (e : ∀ i, i < 40 → v i = v' i) : At w b o v' := by
  unfold At
  rw [← vl_congr e]
  exact h
theorem at_setCells (w : World) (b o : Nat) (v : Lin.V) (ht : w.there b o 40) : At (w.setCells b o (vl v)) b o v := World.rangeAt_setCells_same w b o (vl v) (by rw [vl_length]; exact ht)
theorem At.apart {w : World} {b o b' o' : Nat} {v : Lin.V} (h : At w b o v) (v' : Lin.V) (ha : b ≠ b' ∨ o + 40 ≤ o' ∨ o' + 40 ≤ o) : At (w.setCells b' o' (vl v')) b o v := World.rangeAt_setCells_apart h b' o' (vl v') (by rw [vl_length, vl_length]; exact ha)
theorem results_cell_at {P : Program} {fn : Func} {p : Tmp} {ty : TypeId} (h : fn.results = #[.cell p ty]) (tmps : Array Value) (w : World) (g : Nat) (v : Lin.V) (d : TypeDesc)
    (hp : tmps.getD p undef = .pointer (some ⟨g, 0, none⟩)) (hg : At w g 0 v) (hu : P.underlying ty = some d) (hd : d.isRow = true) (hi : (P.info? ty).map (·.size) = some (vl v).length) :
    (results fn tmps).run P w = .ok (vv v) w := by
  have hp' : tmps[p]?.getD undef = .pointer (some ⟨g, 0, none⟩) := by simpa using hp
  simp [results, h, hp', asAddr, run_loadVar_mid w g 0 ty (vl v) d hg hu hd hi, vv]

/-- What stands before a piece of code: the world by what is known of it. -/
theorem forget_wp {P : Program} {c : Code} {Q : Exit → Act → World → Prop} {a : Act} {w : World} (S : World → Prop) (h : S w) (k : ∀ W, S W → Code.wp P c Q a W) : Code.wp P c Q a w := k w h
theorem forget_list {P : Program} {ops : Array Oper} {Q : Exit → Act → World → Prop} {l : List Oper} {a : Act} {w : World} (S : World → Prop) (h : S w) (k : ∀ W, S W → wpList P ops Q l a W) : wpList P ops Q l a w := k w h

/-- A vector in a box, and a place for a vector. -/
structure Boxed (w W : World) (b g : Nat) (v : Lin.V) : Prop where
  below : Below w.heap.size w W
  lo : w.heap.size ≤ b ∧ w.heap.size ≤ g
  ne : b ≠ g
  at' : At W b 0 v
  there : W.there b 0 40
  res : W.there g 0 40
theorem Boxed.next {w W W' : World} {b g : Nat} {v : Lin.V} (h : Boxed w W b g v) (hb : Below W.heap.size W W') : Boxed w W' b g v := by
  have hg : g < W.heap.size := by
    obtain ⟨x, hx⟩ := Option.isSome_iff_exists.1 (h.res 0 (by omega)).1
    exact cell_lt hx
  exact ⟨h.below.trans (hb.mono h.below.size), h.lo, h.ne, h.at'.later hb, there_below h.there hb h.at'.lt, there_below h.res hb hg⟩
theorem Boxed.set {w W : World} {b g : Nat} {v : Lin.V} (h : Boxed w W b g v) {k : Nat} (hk : k < 40) (x : Int) : Boxed w (W.setCell ⟨b, k, none⟩ (.int .i64 x)) b g (fun i => if i = k then x else v i) := by
  have := h.at'.set hk x
  rw [Nat.zero_add] at this
  exact ⟨h.below.setCell h.lo.1 _, h.lo, h.ne, this, there_set h.there _ _, there_set h.res _ _⟩
theorem Boxed.congr {w W : World} {b g : Nat} {v v' : Lin.V} (h : Boxed w W b g v) (e : ∀ i, i < 40 → v i = v' i) : Boxed w W b g v' := ⟨h.below, h.lo, h.ne, h.at'.congr e, h.there, h.res⟩
theorem boxed_new (w : World) (v : Lin.V) (C : Array Value) (hC : 40 ≤ C.size) (t t' : TypeId) : Boxed w ((w.alloc (.cells (vl v).toArray t)).alloc (.cells C t')) w.heap.size (w.heap.size + 1) v := by
  have h1 := there_new w (vl v).toArray t (n := 40) (by simp [vl_length])
  have h2 := there_new (w.alloc (.cells (vl v).toArray t)) C t' hC
  exact ⟨below_two _ _ _, ⟨Nat.le_refl _, by omega⟩, by omega, (at_alloc w v t).later (below_alloc1 _ _), World.there_alloc h1 _, by simpa using h2⟩

def VR (P : Lin.V → Prop) (w : World) (e : Ending) (w' : World) : Prop := ∃ v, e = .returned (vv v) ∧ Below w.heap.size w w' ∧ P v

set_option maxHeartbeats 1600000 in
set_option maxRecDepth 100000 in
theorem unitLead_any (p : Int) (v : Lin.V) (w : World) (hp : IsP p) (hm : Lin.Md p v) (hw : Lin.Wd 40 v) (hne : v ≠ Lin.zv) : Calls Try.prog 120 #[.int .i64 p, vv v] w (VR (fun u => Lin.Unit p v u ∧ Lin.Wd 40 u) w) := by
  obtain ⟨h1, h2, h3⟩ := ld_lt hw hne
  have hres : Try.f120.results = #[.cell 4 107] := by kernel_rfl
  have HRES := Lib.hid hres
  have HI := Lib.hid (Try.infoVl v)
  have HP := Lib.hid hp
  have HM := Lib.hid hm
  have HW := Lib.hid hw
  have HNE := Lib.hid hne
  have hp7 := hp.hi7
  have hp1 := hp.lo1
  obtain ⟨d, hd⟩ : ∃ d, d = Lin.ld v := ⟨_, rfl⟩
  have HD := Lib.hid hd
  have hld := leadOf_any v
  have hd40 : d < 40 := by rw [hd]; exact h1
  have hx0 : v d ≠ 0 := by rw [hd]; exact h2
  obtain ⟨x, hx⟩ : ∃ x, x = v d := ⟨_, rfl⟩
  have hx1 : 0 < x ∧ x < p := by
    have := hm d
    rw [← hx] at this hx0
    omega
  have HX := Lib.hid hx
  clear hres h1 h2 h3 hp hm hw hne hd hx0 hx
  unfold vv at hld ⊢
  have HLD := Lib.hid hld
  clear hld
  go_enter Try.func120, Try.ntmps120
  go_upto_region 1 with fail
  refine forget_wp (fun W => Boxed w W w.heap.size (w.heap.size + 1) v) (boxed_new w v _ (by exact Nat.le_refl 40) _ _) ?_
  intro W HB0
  have HB := Lib.hid HB0
  clear HB0
  go_wp2_with (with_reducible refine wpList_load_mid rfl 107 (.tmp 3) rfl w.heap.size 0 rfl (vl v) _ HB.out.at'.range Try.underlyingV rfl HI.out ?_)
  refine (HLD.out _ HW.out HNE.out).mono ?_
  rw [← HD.out]
  rintro e w2 ⟨rfl, hb2⟩
  have HB2 := Lib.hid (HB.out.next hb2)
  have hc2 : w2.cell? ⟨w.heap.size, d, none⟩ = some (.int .i64 x) := by rw [HX.out]; have := HB2.out.at'.cell hd40; rwa [Nat.zero_add] at this
  clear hb2 HB
  go_wp2_with fail
  refine (inverseOf_any p x _ HP.out hx1.1 hx1.2).mono ?_
  rintro e w3 ⟨c, rfl, rfl, hc0, hcp, hcx⟩
  have HC := Lib.hid hcx
  clear hcx hc2
  go_wp2_with (with_reducible refine wpList_load_mid rfl 107 (.tmp 3) rfl w.heap.size 0 rfl (vl v) _ HB2.out.at'.range Try.underlyingV rfl HI.out ?_)
  go_loopw [15] (fun i wr => ∃ k : Nat, k ≤ 40 ∧ i = .int .i64 k ∧ Hid (Boxed w wr w.heap.size (w.heap.size + 1) (fun i => if i < k then (c : Int) * v i % p else v i))) (fun i _ => 40 - (intOf i).toNat)
  case atStart => exact ⟨0, Nat.zero_le _, rfl, Lib.hid (HB2.out.congr (fun i _ => by simp))⟩
  case round =>
    obtain ⟨k, hk, rfl, HR⟩ := hrel
    by_cases hlt : k < 40
    · have hix := hidx v hlt
      obtain ⟨y, hy⟩ : ∃ y, y = v k := ⟨_, rfl⟩
      have hyb := HM.out k
      rw [← hy] at hix hyb
      obtain ⟨hm0, hm1⟩ := mul_bd HP.out (a := (c : Int)) (b := y) (by omega) (by omega) (by omega) (by omega)
      have hcel := HR.out.at'.cell hlt
      have hfz := (HR.out.there k hlt).2
      rw [Nat.zero_add] at hcel hfz
      have HS := Lib.hid ((HR.out.set hlt ((c : Int) * y % p)).congr (v' := fun i => if i < k + 1 then (c : Int) * v i % p else v i) (fun i _ => by
        by_cases e : i = k
        · rw [if_pos e, if_pos (by omega), e, hy]
        · rw [if_neg e]
          by_cases e2 : i < k
          · rw [if_pos e2, if_pos (by omega)]
          · rw [if_neg e2, if_neg (by omega)]))
      clear hy HR
      go_wp2
      go_roundw
      case rel => exact ⟨k + 1, by omega, by go_num, HS⟩
      case measure => simp [intOf]; omega
    · have HF : Hid (Boxed w wr w.heap.size (w.heap.size + 1) (fun i => (c : Int) * v i % p)) := Lib.hid (HR.out.congr (fun i hi => by rw [if_pos (by omega)]))
      have HI2 := Lib.hid (Try.infoVl (fun i => (c : Int) * v i % p))
      have HU : Hid (Lin.Unit p v (fun i => (c : Int) * v i % p)) := Lib.hid (Lin.Unit.mk' hp1 HM.out HNE.out (by rw [← HD.out, ← HX.out]; exact HC.out))
      have HUW : Hid (Lin.Wd 40 (fun i => (c : Int) * v i % p)) := Lib.hid (fun i hi => by show (c : Int) * v i % p = 0; rw [HW.out i hi]; simp)
      obtain ⟨u, hu⟩ : ∃ u : Lin.V, u = fun i => (c : Int) * v i % p := ⟨_, rfl⟩
      rw [← hu] at HF HI2 HU HUW
      clear HR hu
      have HS : Hid (At (wr.setCells (w.heap.size + 1) 0 (vl u)) (w.heap.size + 1) 0 u) := Lib.hid (at_setCells _ _ _ _ HF.out.res)
      have HSB : Hid (Below w.heap.size w (wr.setCells (w.heap.size + 1) 0 (vl u))) := Lib.hid (below_setCells _ (by omega) _ _ _ HF.out.below)
      have HT : Hid (wr.there (w.heap.size + 1) 0 (vl u).toArray.size) := Lib.hid (by have := HF.out.res; simpa [vl_length] using this)
      have HI3 : Hid ((Try.prog.info? 107).map (·.size) = some (vl u).toArray.size) := Lib.hid (by have := HI2.out; simpa using this)
      go_wp2_with (first | (with_reducible refine wpList_load_mid rfl 107 (.tmp 3) rfl w.heap.size 0 rfl (vl u) _ HF.out.at'.range Try.underlyingV rfl HI2.out ?_) | (with_reducible refine wpList_store_mid rfl 107 (.tmp 4) (.tmp 27) rfl (w.heap.size + 1) 0 (vl u).toArray rfl rfl HT.out HI3.out (vl_all u) ?_))
      exact bodyPost_ret (v := vv u) (results_cell_at HRES.out _ _ (w.heap.size + 1) u _ rfl HS.out Try.underlyingV rfl HI2.out) rfl ⟨u, rfl, HSB.out, HU.out, HUW.out⟩

theorem boxed_new3 (w : World) (v u : Lin.V) (C : Array Value) (hC : 40 ≤ C.size) (t t' t2 : TypeId) : Boxed w (((w.alloc (.cells (vl v).toArray t)).alloc (.cells (vl u).toArray t')).alloc (.cells C t2)) w.heap.size (w.heap.size + 2) v ∧ At (((w.alloc (.cells (vl v).toArray t)).alloc (.cells (vl u).toArray t')).alloc (.cells C t2)) (w.heap.size + 1) 0 u := by
  have h1 := there_new w (vl v).toArray t (n := 40) (by simp [vl_length])
  have h2 := there_new ((w.alloc (.cells (vl v).toArray t)).alloc (.cells (vl u).toArray t')) C t2 hC
  have h3 := at_alloc (w.alloc (.cells (vl v).toArray t)) u t'
  refine ⟨⟨(below_two _ _ _).trans ((below_alloc1 _ _).mono (by simp; omega)), ⟨Nat.le_refl _, by omega⟩, by omega, ((at_alloc w v t).later (below_alloc1 _ _)).later (below_alloc1 _ _), World.there_alloc (World.there_alloc h1 _) _, by simpa using h2⟩, ?_⟩
  have := h3.later (below_alloc1 _ (.cells C t2))
  simpa using this

set_option maxHeartbeats 1600000 in
set_option maxRecDepth 100000 in
theorem minusMultiple_any (p f : Int) (v u : Lin.V) (w : World) (hp : IsP p) (hf0 : 0 ≤ f) (hf1 : f < p) (hm : Lin.Md p v) (hw : Lin.Wd 40 v) (hmu : Lin.Md p u) (hwu : Lin.Wd 40 u) : Calls Try.prog 117 #[.int .i64 p, vv v, .int .i64 f, vv u] w (BR (vv (Lin.add p v (-f) u)) w) := by
  have hres : Try.f117.results = #[.cell 8 107] := by kernel_rfl
  have HRES := Lib.hid hres
  have HI := Lib.hid (Try.infoVl u)
  have HP := Lib.hid hp
  have HM := Lib.hid hm
  have HW := Lib.hid hw
  have HMU := Lib.hid hmu
  have HWU := Lib.hid hwu
  have hp7 := hp.hi7
  have hp1 := hp.lo1
  clear hres hp hm hw hmu hwu
  unfold vv
  go_enter Try.func117, Try.ntmps117
  go_upto_region 1 with fail
  refine forget_wp (fun W => Boxed w W w.heap.size (w.heap.size + 2) v ∧ At W (w.heap.size + 1) 0 u) (boxed_new3 w v u _ (by exact Nat.le_refl 40) _ _ _) ?_
  rintro W ⟨HB0, HU0⟩
  have HB := Lib.hid HB0
  have HU := Lib.hid HU0
  clear HB0 HU0
  go_wp2_with (with_reducible refine wpList_load_mid rfl 107 (.tmp 7) rfl (w.heap.size + 1) 0 rfl (vl u) _ HU.out.range Try.underlyingV rfl HI.out ?_)
  go_loopw [12] (fun i wr => ∃ k : Nat, k ≤ 40 ∧ i = .int .i64 k ∧ Hid (Boxed w wr w.heap.size (w.heap.size + 2) (fun i => if i < k then Lin.add p v (-f) u i else v i))) (fun i _ => 40 - (intOf i).toNat)
  case atStart => exact ⟨0, Nat.zero_le _, rfl, Lib.hid (HB.out.congr (fun i _ => by simp))⟩
  case round =>
    obtain ⟨k, hk, rfl, HR⟩ := hrel
    by_cases hlt : k < 40
    · have hix := hidx u hlt
      obtain ⟨y, hy⟩ : ∃ y, y = u k := ⟨_, rfl⟩
      have hyb := HMU.out k
      rw [← hy] at hix hyb
      obtain ⟨x, hx⟩ : ∃ x, x = v k := ⟨_, rfl⟩
      have hxb := HM.out k
      rw [← hx] at hxb
      obtain ⟨hm0, hm1⟩ := mul_bd HP.out (a := y) (b := p - f) (by omega) (by omega) (by omega) (by omega)
      rw [Int.mul_comm] at hm0 hm1
      have hcel := HR.out.at'.cell hlt
      have hfz := (HR.out.there k hlt).2
      rw [Nat.zero_add] at hcel hfz
      rw [if_neg (by omega), ← hx] at hcel
      have hval : Hid ((x + (p - f) * y) % p = Lin.add p v (-f) u k) := Lib.hid (by
        rw [Lin.add, ← hx, ← hy]
        exact Lin.cg y (by grind))
      have HS := Lib.hid ((HR.out.set hlt ((x + (p - f) * y) % p)).congr (v' := fun i => if i < k + 1 then Lin.add p v (-f) u i else v i) (fun i _ => by
        by_cases e : i = k
        · rw [if_pos e, if_pos (by omega), e, hval.out]
        · rw [if_neg e]
          by_cases e2 : i < k
          · rw [if_pos e2, if_pos (by omega)]
          · rw [if_neg e2, if_neg (by omega)]))
      clear hy hx HR
      go_wp2
      go_roundw
      case rel => exact ⟨k + 1, by omega, by go_num, HS⟩
      case measure => simp [intOf]; omega
    · have HF : Hid (Boxed w wr w.heap.size (w.heap.size + 2) (Lin.add p v (-f) u)) := Lib.hid (HR.out.congr (fun i hi => by rw [if_pos (by omega)]))
      have HI2 := Lib.hid (Try.infoVl (Lin.add p v (-f) u))
      obtain ⟨r, hr⟩ : ∃ r : Lin.V, r = Lin.add p v (-f) u := ⟨_, rfl⟩
      rw [← hr] at HF HI2
      have HRE := Lib.hid hr
      clear HR hr
      have HS : Hid (At (wr.setCells (w.heap.size + 2) 0 (vl r)) (w.heap.size + 2) 0 r) := Lib.hid (at_setCells _ _ _ _ HF.out.res)
      have HSB : Hid (Below w.heap.size w (wr.setCells (w.heap.size + 2) 0 (vl r))) := Lib.hid (below_setCells _ (by omega) _ _ _ HF.out.below)
      have HT : Hid (wr.there (w.heap.size + 2) 0 (vl r).toArray.size) := Lib.hid (by have := HF.out.res; simpa [vl_length] using this)
      have HI3 : Hid ((Try.prog.info? 107).map (·.size) = some (vl r).toArray.size) := Lib.hid (by have := HI2.out; simpa using this)
      go_wp2_with (first | (with_reducible refine wpList_load_mid rfl 107 (.tmp 5) rfl w.heap.size 0 rfl (vl r) _ HF.out.at'.range Try.underlyingV rfl HI2.out ?_) | (with_reducible refine wpList_store_mid rfl 107 (.tmp 8) (.tmp 30) rfl (w.heap.size + 2) 0 (vl r).toArray rfl rfl HT.out HI3.out (vl_all r) ?_))
      exact bodyPost_ret (v := vv r) (results_cell_at HRES.out _ _ (w.heap.size + 2) r _ rfl HS.out Try.underlyingV rfl HI2.out) rfl ⟨by rw [HRE.out]; rfl, HSB.out⟩
end Go.Proofs.Ytlbalcckjokeiaa
