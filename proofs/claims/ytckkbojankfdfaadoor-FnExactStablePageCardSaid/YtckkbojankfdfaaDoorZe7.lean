/-
  Texts that ProofStl needs, part 7.
-/
import Derived.Test.YtckkbojankfdfaaDoorZe6
import Derived.ScopeJumps
import Derived.WalkMore
import Derived.Deep.RegionWith
import Derived.Deep.RegionHeld3
import Derived.BigRegion
import Derived.BigQuiet
import Derived.Deep.QuietTactic
import Derived.Test.YtckkbojankfdfaaDoorCards
import Derived.Test.YtckkbojankfdfaaDoorTie
import Derived.WalkKit
import Derived.ProofKit
import Derived.OpenShut
import Derived.Deep.DeepHandedRow
import Derived.Stop.LaidErr
import Derived.RowKitTokens
namespace Go.Proofs.YtckkbojankfdfaaDoor
open Go.RowKit

section
variable {P : Program} {ops : Array Oper} {Q : Exit → Act → World → Prop} {md : Region.Mode} {S : World → Prop}
theorem held_four {i j l m : Nat} {fuel : Nat} {listed : Array Bool} {a : Act} {w : World} (hr : Region.ready md ops listed = [i, j, l, m])
    (h0 : wpOp P ops Q i (fun a' w' => S w' ∧ wpAnyH P md ops Q S fuel (listed.setIfInBounds i true) a' w') a w)
    (h1 : wpOp P ops Q j (fun a' w' => S w' ∧ wpAnyH P md ops Q S fuel (listed.setIfInBounds j true) a' w') a w)
    (h2 : wpOp P ops Q l (fun a' w' => S w' ∧ wpAnyH P md ops Q S fuel (listed.setIfInBounds l true) a' w') a w)
    (h3 : wpOp P ops Q m (fun a' w' => S w' ∧ wpAnyH P md ops Q S fuel (listed.setIfInBounds m true) a' w') a w)
    : wpAnyH P md ops Q S (fuel + 1) listed a w :=
  wpAnyH_all hr (by simp) (fun k hk => by
    simp only [List.mem_cons, List.not_mem_nil, or_false] at hk
    rcases hk with rfl | rfl | rfl | rfl
    · exact h0
    · exact h1
    · exact h2
    · exact h3
    )
theorem held_five {i j l m n : Nat} {fuel : Nat} {listed : Array Bool} {a : Act} {w : World} (hr : Region.ready md ops listed = [i, j, l, m, n])
    (h0 : wpOp P ops Q i (fun a' w' => S w' ∧ wpAnyH P md ops Q S fuel (listed.setIfInBounds i true) a' w') a w)
    (h1 : wpOp P ops Q j (fun a' w' => S w' ∧ wpAnyH P md ops Q S fuel (listed.setIfInBounds j true) a' w') a w)
    (h2 : wpOp P ops Q l (fun a' w' => S w' ∧ wpAnyH P md ops Q S fuel (listed.setIfInBounds l true) a' w') a w)
    (h3 : wpOp P ops Q m (fun a' w' => S w' ∧ wpAnyH P md ops Q S fuel (listed.setIfInBounds m true) a' w') a w)
    (h4 : wpOp P ops Q n (fun a' w' => S w' ∧ wpAnyH P md ops Q S fuel (listed.setIfInBounds n true) a' w') a w)
    : wpAnyH P md ops Q S (fuel + 1) listed a w :=
  wpAnyH_all hr (by simp) (fun k hk => by
    simp only [List.mem_cons, List.not_mem_nil, or_false] at hk
    rcases hk with rfl | rfl | rfl | rfl | rfl
    · exact h0
    · exact h1
    · exact h2
    · exact h3
    · exact h4
    )
end
theorem hloadLn (W : World) {b : Nat} {x0 x1 x2 x3 : Value} (h : Rz W b 53 #[x0, x1, x2, x3]) : (Instr.loadAt 53 (.pointer (some ⟨b, 0, none⟩))).run Tryd.prog W = .ok (.agg #[x0, x1, x2, x3]) W := by
  have h' : W.heap[b]? = some (.cells #[x0, x1, x2, x3] 53 (0, 0)) := h
  have c0 : W.cell? ⟨b, 0, none⟩ = some x0 := by simp [World.cell?, h']
  have c1 : W.cell? ⟨b, 1, none⟩ = some x1 := by simp [World.cell?, h']
  have c2 : W.cell? ⟨b, 2, none⟩ = some x2 := by simp [World.cell?, h']
  have c3 : W.cell? ⟨b, 3, none⟩ = some x3 := by simp [World.cell?, h']
  go_simp
theorem rests_nil {p : Int} (hp : 0 < p) {v x : Lin.V} (hv : Lin.Md p v) (h : Lin.RestE p [] v ([] : List Lin.V).length x) : x = v := Lin.RestE.unique hp (Lin.Red.nil p) h (Lin.RestE.start hv)
/-- The boxes of the maps beside the couple's. -/
structure DoB (w W : World) (p : Int) (dn en : Nat) (iv jv kv dv : Value) (il jl kl dt : List (List Int)) (g0 g1 g2 g3 : Nat) : Prop where
  box : DvB w W p dn en iv jv kv il jl kl
  ri : Rz W g0 53 #[.int .i64 p, .int .i64 (dn : Int), .int .i64 (dn : Int), iv]
  rj : Rz W g1 53 #[.int .i64 p, .int .i64 (dn : Int), .int .i64 (en : Int), jv]
  rk : Rz W g2 53 #[.int .i64 p, .int .i64 (en : Int), .int .i64 (dn : Int), kv]
  rd : Rz W g3 53 #[.int .i64 p, .int .i64 (en : Int), .int .i64 (en : Int), dv]
  d : L2 0 W dv dt
theorem DoB.next {w W W' : World} {p : Int} {dn en : Nat} {iv jv kv dv : Value} {il jl kl dt : List (List Int)} {g0 g1 g2 g3 : Nat} (h : DoB w W p dn en iv jv kv dv il jl kl dt g0 g1 g2 g3) (hb : Below W.heap.size W W') : DoB w W' p dn en iv jv kv dv il jl kl dt g0 g1 g2 g3 :=
  ⟨h.box.next hb, h.ri.next hb, h.rj.next hb, h.rk.next hb, h.rd.next hb, h.d.below hb⟩

def DvP (p : Int) (dn en : Nat) (il jl kl : List (List Int)) (w : World) (e : Ending) (w' : World) : Prop :=
  ∃ (d1 e1 : Nat) (i1 j1 k1 : List (List Int)) (u : Value), e = .returned u ∧ Below w.heap.size w w' ∧ RwCp w.heap.size w'.heap.size w' u (p, d1, e1, i1, j1, k1) ∧ DcIs p dn en il jl kl d1 e1 i1 j1 k1

/-- The operations of the region in which derivedOf calls four functions beside four blocks. -/
noncomputable def dofOps : Array Oper := match Tryd.f54.body with
  | some (.seq _ (.seq (.region _ o _) _)) => o
  | _ => #[]
abbrev dofP (g : Nat) : Value := .pointer (some ⟨g, 0, none⟩)
abbrev dofA (AG b0 b1 c0 c1 c2 c3 a0 a1 a2 a3 : Value) : Act := { tmps := #[AG, b0, b1, a0, a1, a2, a3, undef, undef, undef, undef, undef, undef, undef, undef, AG, c0, AG, c1, AG, c2, AG, c3, undef, undef, undef, undef, undef, undef, undef, undef, undef, undef, undef, undef, undef, undef, undef, undef, undef, undef, undef, undef, undef, undef, undef, undef, undef, undef, undef, undef, undef, undef, undef, undef, undef, undef, undef, undef, undef, undef, undef, undef, undef, undef, undef, undef, undef, undef, undef, undef, undef, undef, undef, undef, undef, undef, undef, undef, undef, undef, undef, undef, undef, undef, undef, undef, undef, undef, undef, undef, undef, undef, undef], defers := [] }
abbrev dofL (c0 c1 c2 c3 a0 a1 a2 a3 : Bool) : Array Bool := #[true, c0, true, c1, true, c2, true, c3, a0, a1, a2, a3, false, false, false, false]
abbrev dofB (W W' : World) : Prop := Below W.heap.size W W'
noncomputable abbrev dofF (W : World) (Q : Exit → Act → World → Prop) (n : Nat) (l : Array Bool) (a : Act) (W' : World) : Prop := wpAnyH Tryd.prog .any dofOps Q (fun V => Below W.heap.size W V) n l a W'
noncomputable abbrev dofW (W' : World) : World := W'.alloc (.cells #[.int .i64 0, .int .i64 0, .int .i64 0, .slice none 0 0] 53)
theorem dofN (W' : World) : Below W'.heap.size W' (dofW W') := below_alloc1 W' _
structure dofZ (W W' : World) (g : Nat) : Prop where
  rz : Rz W' g 53 #[.int .i64 0, .int .i64 0, .int .i64 0, .slice none 0 0]
  lo : W.heap.size ≤ g
theorem dofZ.next {W W' V : World} {g : Nat} (h : dofZ W W' g) (hb : Below W'.heap.size W' V) : dofZ W V g := ⟨h.rz.next hb, h.lo⟩
theorem dofZ.lt {W W' : World} {g : Nat} (h : dofZ W W' g) : g < W'.heap.size := h.rz.lt
theorem dofZ.new {W W' : World} (hb : dofB W W') : dofZ W (dofW W') W'.heap.size := ⟨Rz.new W' 53 #[.int .i64 0, .int .i64 0, .int .i64 0, .slice none 0 0], hb.size⟩
def dofD (dt : List (List Int)) (W' : World) (au : Option Addr) (cu lo hi : Nat) : Prop := Rw2 lo hi W' (.slice au dt.length cu) dt ∧ hi ≤ W'.heap.size
theorem dofD.next {dt : List (List Int)} {W' V : World} {au : Option Addr} {cu lo hi : Nat} (h : dofD dt W' au cu lo hi) (hb : Below W'.heap.size W' V) : dofD dt V au cu lo hi := ⟨h.1.next hb h.2, Nat.le_trans h.2 hb.size⟩
section
variable {Q : Exit → Act → World → Prop} {K : Act → World → Prop} {a : Act} {W' : World} {AG v : Value}
theorem dof_a0 (h : K (a.put (some 3) (dofP W'.heap.size)) (dofW W')) : wpOp Tryd.prog dofOps Q 8 K a W' :=
  op_mem (i := 8) (v := dofP W'.heap.size) (w' := dofW W') (some 3) rfl rfl rfl (by first | kernel_rfl | (simp only [dofOps, Tryd.f54]; go_simp)) h
theorem dof_a1 (h : K (a.put (some 4) (dofP W'.heap.size)) (dofW W')) : wpOp Tryd.prog dofOps Q 9 K a W' :=
  op_mem (i := 9) (v := dofP W'.heap.size) (w' := dofW W') (some 4) rfl rfl rfl (by first | kernel_rfl | (simp only [dofOps, Tryd.f54]; go_simp)) h
theorem dof_a2 (h : K (a.put (some 5) (dofP W'.heap.size)) (dofW W')) : wpOp Tryd.prog dofOps Q 10 K a W' :=
  op_mem (i := 10) (v := dofP W'.heap.size) (w' := dofW W') (some 5) rfl rfl rfl (by first | kernel_rfl | (simp only [dofOps, Tryd.f54]; go_simp)) h
theorem dof_a3 (h : K (a.put (some 6) (dofP W'.heap.size)) (dofW W')) : wpOp Tryd.prog dofOps Q 11 K a W' :=
  op_mem (i := 11) (v := dofP W'.heap.size) (w' := dofW W') (some 6) rfl rfl rfl (by first | kernel_rfl | (simp only [dofOps, Tryd.f54]; go_simp)) h
theorem dof_c0 (hc : Calls Tryd.prog 36 #[AG] W' (BR v W')) (ha : a.eval (.tmp 15) = AG) (hK : ∀ Wn, Below W'.heap.size W' Wn → K (a.put (some 16) v) Wn) : wpOp Tryd.prog dofOps Q 1 K a W' := by
  subst ha
  refine op_enter (i := 1) (some 16) (f := 36) (args := #[a.eval (.tmp 15)]) rfl rfl rfl (by kernel_rfl) hc ?_ (fun c w' h => by cases h.1) (fun w' h => by cases h.1)
  rintro x Wn ⟨hv, hbn⟩
  injection hv with hv
  subst hv
  exact hK Wn hbn
theorem dof_c1 (hc : Calls Tryd.prog 64 #[AG] W' (BR v W')) (ha : a.eval (.tmp 17) = AG) (hK : ∀ Wn, Below W'.heap.size W' Wn → K (a.put (some 18) v) Wn) : wpOp Tryd.prog dofOps Q 3 K a W' := by
  subst ha
  refine op_enter (i := 3) (some 18) (f := 64) (args := #[a.eval (.tmp 17)]) rfl rfl rfl (by kernel_rfl) hc ?_ (fun c w' h => by cases h.1) (fun w' h => by cases h.1)
  rintro x Wn ⟨hv, hbn⟩
  injection hv with hv
  subst hv
  exact hK Wn hbn
theorem dof_c2 (hc : Calls Tryd.prog 65 #[AG] W' (BR v W')) (ha : a.eval (.tmp 19) = AG) (hK : ∀ Wn, Below W'.heap.size W' Wn → K (a.put (some 20) v) Wn) : wpOp Tryd.prog dofOps Q 5 K a W' := by
  subst ha
  refine op_enter (i := 5) (some 20) (f := 65) (args := #[a.eval (.tmp 19)]) rfl rfl rfl (by kernel_rfl) hc ?_ (fun c w' h => by cases h.1) (fun w' h => by cases h.1)
  rintro x Wn ⟨hv, hbn⟩
  injection hv with hv
  subst hv
  exact hK Wn hbn
def dofDR (dt : List (List Int)) (vd : Option Addr → Nat → Value) (W' : World) (e : Ending) (Wn : World) : Prop := ∃ au cu, e = .returned (vd au cu) ∧ dofD dt Wn au cu W'.heap.size Wn.heap.size ∧ Below W'.heap.size W' Wn
theorem dof_c3 {dt : List (List Int)} {vd : Option Addr → Nat → Value} (hc : Calls Tryd.prog 69 #[AG] W' (dofDR dt vd W')) (ha : a.eval (.tmp 21) = AG) (hK : ∀ Wn au cu, dofD dt Wn au cu W'.heap.size Wn.heap.size → Below W'.heap.size W' Wn → K (a.put (some 22) (vd au cu)) Wn) : wpOp Tryd.prog dofOps Q 7 K a W' := by
  subst ha
  refine op_enter (i := 7) (some 22) (f := 69) (args := #[a.eval (.tmp 21)]) rfl rfl rfl (by kernel_rfl) hc ?_ (fun c w' h => by obtain ⟨_, _, h, _⟩ := h; cases h) (fun w' h => by obtain ⟨_, _, h, _⟩ := h; cases h)
  rintro x Wn ⟨au, cu, hv, hd, hbn⟩
  injection hv with hv
  subst hv
  exact hK Wn au cu hd hbn
end
set_option maxHeartbeats 25600000 in
set_option maxRecDepth 100000 in
/-- All orders of that region end in one state. -/
theorem dof_orders {Q : Exit → Act → World → Prop} (AG b0 b1 vi vj vk : Value) (vd : Option Addr → Nat → Value) (dt : List (List Int)) (W wd : World)
    (H0 : ∀ W', dofB W W' → Calls Tryd.prog 36 #[AG] W' (BR vi W')) (H1 : ∀ W', dofB W W' → Calls Tryd.prog 64 #[AG] W' (BR vj W')) (H2 : ∀ W', dofB W W' → Calls Tryd.prog 65 #[AG] W' (BR vk W'))
    (H3 : ∀ W', dofB W W' → Calls Tryd.prog 69 #[AG] W' (dofDR dt vd W')) (S0 : dofB W wd)
    (L4_15 : ∀ W', dofB W W' → ∀ au cu lo hi, dofD dt W' au cu lo hi → ∀ g0, dofZ W W' g0 → (g0 < lo ∨ hi ≤ g0) → ∀ g1, dofZ W W' g1 → (g1 < lo ∨ hi ≤ g1) → ∀ g2, dofZ W W' g2 → (g2 < lo ∨ hi ≤ g2) → ∀ g3, dofZ W W' g3 → (g3 < lo ∨ hi ≤ g3) → g0 ≠ g1 → g0 ≠ g2 → g0 ≠ g3 → g1 ≠ g2 → g1 ≠ g3 → g2 ≠ g3 → dofF W Q 4 (dofL true true true true true true true true) (dofA AG b0 b1 vi vj vk (vd au cu) (dofP g0) (dofP g1) (dofP g2) (dofP g3)) W') : dofF W Q 12 (dofL false false false false false false false false) (dofA AG b0 b1 undef undef undef undef undef undef undef undef) wd := by
  have L3_15 : ∀ W', dofB W W' → ∀ g0, dofZ W W' g0 → ∀ g1, dofZ W W' g1 → ∀ g2, dofZ W W' g2 → ∀ g3, dofZ W W' g3 → g0 ≠ g1 → g0 ≠ g2 → g0 ≠ g3 → g1 ≠ g2 → g1 ≠ g3 → g2 ≠ g3 → dofF W Q 5 (dofL true true true false true true true true) (dofA AG b0 b1 vi vj vk undef (dofP g0) (dofP g1) (dofP g2) (dofP g3)) W' := by
    intro W' hb g0 h0 g1 h1 g2 h2 g3 h3 n01 n02 n03 n12 n13 n23
    refine held_one (i := 7) (by kernel_rfl) ?_
    · exact dof_c3 (H3 W' hb) rfl (fun Wn au cu hru hbn => ⟨hb.trans (hbn.mono hb.size), L4_15 Wn (hb.trans (hbn.mono hb.size)) au cu _ _ hru g0 (h0.next hbn) (Or.inl h0.lt) g1 (h1.next hbn) (Or.inl h1.lt) g2 (h2.next hbn) (Or.inl h2.lt) g3 (h3.next hbn) (Or.inl h3.lt) n01 n02 n03 n12 n13 n23⟩)
  have L4_7 : ∀ W', dofB W W' → ∀ au cu lo hi, dofD dt W' au cu lo hi → ∀ g0, dofZ W W' g0 → (g0 < lo ∨ hi ≤ g0) → ∀ g1, dofZ W W' g1 → (g1 < lo ∨ hi ≤ g1) → ∀ g2, dofZ W W' g2 → (g2 < lo ∨ hi ≤ g2) → g0 ≠ g1 → g0 ≠ g2 → g1 ≠ g2 → dofF W Q 5 (dofL true true true true true true true false) (dofA AG b0 b1 vi vj vk (vd au cu) (dofP g0) (dofP g1) (dofP g2) undef) W' := by
    intro W' hb au cu lo hi hu g0 h0 o0 g1 h1 o1 g2 h2 o2 n01 n02 n12
    refine held_one (i := 11) (by kernel_rfl) ?_
    · exact dof_a3 ⟨hb.trans ((dofN W').mono hb.size), L4_15 _ (hb.trans ((dofN W').mono hb.size)) au cu lo hi (hu.next (dofN W')) _ (h0.next (dofN W')) o0 _ (h1.next (dofN W')) o1 _ (h2.next (dofN W')) o2 _ (dofZ.new hb) (Or.inr hu.2) n01 n02 (Nat.ne_of_lt h0.lt) n12 (Nat.ne_of_lt h1.lt) (Nat.ne_of_lt h2.lt)⟩
  have L4_11 : ∀ W', dofB W W' → ∀ au cu lo hi, dofD dt W' au cu lo hi → ∀ g0, dofZ W W' g0 → (g0 < lo ∨ hi ≤ g0) → ∀ g1, dofZ W W' g1 → (g1 < lo ∨ hi ≤ g1) → ∀ g3, dofZ W W' g3 → (g3 < lo ∨ hi ≤ g3) → g0 ≠ g1 → g0 ≠ g3 → g1 ≠ g3 → dofF W Q 5 (dofL true true true true true true false true) (dofA AG b0 b1 vi vj vk (vd au cu) (dofP g0) (dofP g1) undef (dofP g3)) W' := by
    intro W' hb au cu lo hi hu g0 h0 o0 g1 h1 o1 g3 h3 o3 n01 n03 n13
    refine held_one (i := 10) (by kernel_rfl) ?_
    · exact dof_a2 ⟨hb.trans ((dofN W').mono hb.size), L4_15 _ (hb.trans ((dofN W').mono hb.size)) au cu lo hi (hu.next (dofN W')) _ (h0.next (dofN W')) o0 _ (h1.next (dofN W')) o1 _ (dofZ.new hb) (Or.inr hu.2) _ (h3.next (dofN W')) o3 n01 (Nat.ne_of_lt h0.lt) n03 (Nat.ne_of_lt h1.lt) n13 (Nat.ne_of_gt h3.lt)⟩
  have L4_13 : ∀ W', dofB W W' → ∀ au cu lo hi, dofD dt W' au cu lo hi → ∀ g0, dofZ W W' g0 → (g0 < lo ∨ hi ≤ g0) → ∀ g2, dofZ W W' g2 → (g2 < lo ∨ hi ≤ g2) → ∀ g3, dofZ W W' g3 → (g3 < lo ∨ hi ≤ g3) → g0 ≠ g2 → g0 ≠ g3 → g2 ≠ g3 → dofF W Q 5 (dofL true true true true true false true true) (dofA AG b0 b1 vi vj vk (vd au cu) (dofP g0) undef (dofP g2) (dofP g3)) W' := by
    intro W' hb au cu lo hi hu g0 h0 o0 g2 h2 o2 g3 h3 o3 n02 n03 n23
    refine held_one (i := 9) (by kernel_rfl) ?_
    · exact dof_a1 ⟨hb.trans ((dofN W').mono hb.size), L4_15 _ (hb.trans ((dofN W').mono hb.size)) au cu lo hi (hu.next (dofN W')) _ (h0.next (dofN W')) o0 _ (dofZ.new hb) (Or.inr hu.2) _ (h2.next (dofN W')) o2 _ (h3.next (dofN W')) o3 (Nat.ne_of_lt h0.lt) n02 n03 (Nat.ne_of_gt h2.lt) (Nat.ne_of_gt h3.lt) n23⟩
  have L4_14 : ∀ W', dofB W W' → ∀ au cu lo hi, dofD dt W' au cu lo hi → ∀ g1, dofZ W W' g1 → (g1 < lo ∨ hi ≤ g1) → ∀ g2, dofZ W W' g2 → (g2 < lo ∨ hi ≤ g2) → ∀ g3, dofZ W W' g3 → (g3 < lo ∨ hi ≤ g3) → g1 ≠ g2 → g1 ≠ g3 → g2 ≠ g3 → dofF W Q 5 (dofL true true true true false true true true) (dofA AG b0 b1 vi vj vk (vd au cu) undef (dofP g1) (dofP g2) (dofP g3)) W' := by
    intro W' hb au cu lo hi hu g1 h1 o1 g2 h2 o2 g3 h3 o3 n12 n13 n23
    refine held_one (i := 8) (by kernel_rfl) ?_
    · exact dof_a0 ⟨hb.trans ((dofN W').mono hb.size), L4_15 _ (hb.trans ((dofN W').mono hb.size)) au cu lo hi (hu.next (dofN W')) _ (dofZ.new hb) (Or.inr hu.2) _ (h1.next (dofN W')) o1 _ (h2.next (dofN W')) o2 _ (h3.next (dofN W')) o3 (Nat.ne_of_gt h1.lt) (Nat.ne_of_gt h2.lt) (Nat.ne_of_gt h3.lt) n12 n13 n23⟩
  have L2_15 : ∀ W', dofB W W' → ∀ g0, dofZ W W' g0 → ∀ g1, dofZ W W' g1 → ∀ g2, dofZ W W' g2 → ∀ g3, dofZ W W' g3 → g0 ≠ g1 → g0 ≠ g2 → g0 ≠ g3 → g1 ≠ g2 → g1 ≠ g3 → g2 ≠ g3 → dofF W Q 6 (dofL true true false false true true true true) (dofA AG b0 b1 vi vj undef undef (dofP g0) (dofP g1) (dofP g2) (dofP g3)) W' := by
    intro W' hb g0 h0 g1 h1 g2 h2 g3 h3 n01 n02 n03 n12 n13 n23
    refine held_one (i := 5) (by kernel_rfl) ?_
    · exact dof_c2 (H2 W' hb) rfl (fun Wn hbn => ⟨hb.trans (hbn.mono hb.size), L3_15 Wn (hb.trans (hbn.mono hb.size)) g0 (h0.next hbn) g1 (h1.next hbn) g2 (h2.next hbn) g3 (h3.next hbn) n01 n02 n03 n12 n13 n23⟩)
  have L3_7 : ∀ W', dofB W W' → ∀ g0, dofZ W W' g0 → ∀ g1, dofZ W W' g1 → ∀ g2, dofZ W W' g2 → g0 ≠ g1 → g0 ≠ g2 → g1 ≠ g2 → dofF W Q 6 (dofL true true true false true true true false) (dofA AG b0 b1 vi vj vk undef (dofP g0) (dofP g1) (dofP g2) undef) W' := by
    intro W' hb g0 h0 g1 h1 g2 h2 n01 n02 n12
    refine held_two (i := 7) (j := 11) (by kernel_rfl) ?_ ?_
    · exact dof_c3 (H3 W' hb) rfl (fun Wn au cu hru hbn => ⟨hb.trans (hbn.mono hb.size), L4_7 Wn (hb.trans (hbn.mono hb.size)) au cu _ _ hru g0 (h0.next hbn) (Or.inl h0.lt) g1 (h1.next hbn) (Or.inl h1.lt) g2 (h2.next hbn) (Or.inl h2.lt) n01 n02 n12⟩)
    · exact dof_a3 ⟨hb.trans ((dofN W').mono hb.size), L3_15 _ (hb.trans ((dofN W').mono hb.size)) _ (h0.next (dofN W')) _ (h1.next (dofN W')) _ (h2.next (dofN W')) _ (dofZ.new hb) n01 n02 (Nat.ne_of_lt h0.lt) n12 (Nat.ne_of_lt h1.lt) (Nat.ne_of_lt h2.lt)⟩
  have L3_11 : ∀ W', dofB W W' → ∀ g0, dofZ W W' g0 → ∀ g1, dofZ W W' g1 → ∀ g3, dofZ W W' g3 → g0 ≠ g1 → g0 ≠ g3 → g1 ≠ g3 → dofF W Q 6 (dofL true true true false true true false true) (dofA AG b0 b1 vi vj vk undef (dofP g0) (dofP g1) undef (dofP g3)) W' := by
    intro W' hb g0 h0 g1 h1 g3 h3 n01 n03 n13
    refine held_two (i := 7) (j := 10) (by kernel_rfl) ?_ ?_
    · exact dof_c3 (H3 W' hb) rfl (fun Wn au cu hru hbn => ⟨hb.trans (hbn.mono hb.size), L4_11 Wn (hb.trans (hbn.mono hb.size)) au cu _ _ hru g0 (h0.next hbn) (Or.inl h0.lt) g1 (h1.next hbn) (Or.inl h1.lt) g3 (h3.next hbn) (Or.inl h3.lt) n01 n03 n13⟩)
    · exact dof_a2 ⟨hb.trans ((dofN W').mono hb.size), L3_15 _ (hb.trans ((dofN W').mono hb.size)) _ (h0.next (dofN W')) _ (h1.next (dofN W')) _ (dofZ.new hb) _ (h3.next (dofN W')) n01 (Nat.ne_of_lt h0.lt) n03 (Nat.ne_of_lt h1.lt) n13 (Nat.ne_of_gt h3.lt)⟩
  have L3_13 : ∀ W', dofB W W' → ∀ g0, dofZ W W' g0 → ∀ g2, dofZ W W' g2 → ∀ g3, dofZ W W' g3 → g0 ≠ g2 → g0 ≠ g3 → g2 ≠ g3 → dofF W Q 6 (dofL true true true false true false true true) (dofA AG b0 b1 vi vj vk undef (dofP g0) undef (dofP g2) (dofP g3)) W' := by
    intro W' hb g0 h0 g2 h2 g3 h3 n02 n03 n23
    refine held_two (i := 7) (j := 9) (by kernel_rfl) ?_ ?_
    · exact dof_c3 (H3 W' hb) rfl (fun Wn au cu hru hbn => ⟨hb.trans (hbn.mono hb.size), L4_13 Wn (hb.trans (hbn.mono hb.size)) au cu _ _ hru g0 (h0.next hbn) (Or.inl h0.lt) g2 (h2.next hbn) (Or.inl h2.lt) g3 (h3.next hbn) (Or.inl h3.lt) n02 n03 n23⟩)
    · exact dof_a1 ⟨hb.trans ((dofN W').mono hb.size), L3_15 _ (hb.trans ((dofN W').mono hb.size)) _ (h0.next (dofN W')) _ (dofZ.new hb) _ (h2.next (dofN W')) _ (h3.next (dofN W')) (Nat.ne_of_lt h0.lt) n02 n03 (Nat.ne_of_gt h2.lt) (Nat.ne_of_gt h3.lt) n23⟩
  have L3_14 : ∀ W', dofB W W' → ∀ g1, dofZ W W' g1 → ∀ g2, dofZ W W' g2 → ∀ g3, dofZ W W' g3 → g1 ≠ g2 → g1 ≠ g3 → g2 ≠ g3 → dofF W Q 6 (dofL true true true false false true true true) (dofA AG b0 b1 vi vj vk undef undef (dofP g1) (dofP g2) (dofP g3)) W' := by
    intro W' hb g1 h1 g2 h2 g3 h3 n12 n13 n23
    refine held_two (i := 7) (j := 8) (by kernel_rfl) ?_ ?_
    · exact dof_c3 (H3 W' hb) rfl (fun Wn au cu hru hbn => ⟨hb.trans (hbn.mono hb.size), L4_14 Wn (hb.trans (hbn.mono hb.size)) au cu _ _ hru g1 (h1.next hbn) (Or.inl h1.lt) g2 (h2.next hbn) (Or.inl h2.lt) g3 (h3.next hbn) (Or.inl h3.lt) n12 n13 n23⟩)
    · exact dof_a0 ⟨hb.trans ((dofN W').mono hb.size), L3_15 _ (hb.trans ((dofN W').mono hb.size)) _ (dofZ.new hb) _ (h1.next (dofN W')) _ (h2.next (dofN W')) _ (h3.next (dofN W')) (Nat.ne_of_gt h1.lt) (Nat.ne_of_gt h2.lt) (Nat.ne_of_gt h3.lt) n12 n13 n23⟩
  have L4_3 : ∀ W', dofB W W' → ∀ au cu lo hi, dofD dt W' au cu lo hi → ∀ g0, dofZ W W' g0 → (g0 < lo ∨ hi ≤ g0) → ∀ g1, dofZ W W' g1 → (g1 < lo ∨ hi ≤ g1) → g0 ≠ g1 → dofF W Q 6 (dofL true true true true true true false false) (dofA AG b0 b1 vi vj vk (vd au cu) (dofP g0) (dofP g1) undef undef) W' := by
    intro W' hb au cu lo hi hu g0 h0 o0 g1 h1 o1 n01
    refine held_two (i := 10) (j := 11) (by kernel_rfl) ?_ ?_
    · exact dof_a2 ⟨hb.trans ((dofN W').mono hb.size), L4_7 _ (hb.trans ((dofN W').mono hb.size)) au cu lo hi (hu.next (dofN W')) _ (h0.next (dofN W')) o0 _ (h1.next (dofN W')) o1 _ (dofZ.new hb) (Or.inr hu.2) n01 (Nat.ne_of_lt h0.lt) (Nat.ne_of_lt h1.lt)⟩
    · exact dof_a3 ⟨hb.trans ((dofN W').mono hb.size), L4_11 _ (hb.trans ((dofN W').mono hb.size)) au cu lo hi (hu.next (dofN W')) _ (h0.next (dofN W')) o0 _ (h1.next (dofN W')) o1 _ (dofZ.new hb) (Or.inr hu.2) n01 (Nat.ne_of_lt h0.lt) (Nat.ne_of_lt h1.lt)⟩
  have L4_5 : ∀ W', dofB W W' → ∀ au cu lo hi, dofD dt W' au cu lo hi → ∀ g0, dofZ W W' g0 → (g0 < lo ∨ hi ≤ g0) → ∀ g2, dofZ W W' g2 → (g2 < lo ∨ hi ≤ g2) → g0 ≠ g2 → dofF W Q 6 (dofL true true true true true false true false) (dofA AG b0 b1 vi vj vk (vd au cu) (dofP g0) undef (dofP g2) undef) W' := by
    intro W' hb au cu lo hi hu g0 h0 o0 g2 h2 o2 n02
    refine held_two (i := 9) (j := 11) (by kernel_rfl) ?_ ?_
    · exact dof_a1 ⟨hb.trans ((dofN W').mono hb.size), L4_7 _ (hb.trans ((dofN W').mono hb.size)) au cu lo hi (hu.next (dofN W')) _ (h0.next (dofN W')) o0 _ (dofZ.new hb) (Or.inr hu.2) _ (h2.next (dofN W')) o2 (Nat.ne_of_lt h0.lt) n02 (Nat.ne_of_gt h2.lt)⟩
    · exact dof_a3 ⟨hb.trans ((dofN W').mono hb.size), L4_13 _ (hb.trans ((dofN W').mono hb.size)) au cu lo hi (hu.next (dofN W')) _ (h0.next (dofN W')) o0 _ (h2.next (dofN W')) o2 _ (dofZ.new hb) (Or.inr hu.2) n02 (Nat.ne_of_lt h0.lt) (Nat.ne_of_lt h2.lt)⟩
  have L4_9 : ∀ W', dofB W W' → ∀ au cu lo hi, dofD dt W' au cu lo hi → ∀ g0, dofZ W W' g0 → (g0 < lo ∨ hi ≤ g0) → ∀ g3, dofZ W W' g3 → (g3 < lo ∨ hi ≤ g3) → g0 ≠ g3 → dofF W Q 6 (dofL true true true true true false false true) (dofA AG b0 b1 vi vj vk (vd au cu) (dofP g0) undef undef (dofP g3)) W' := by
    intro W' hb au cu lo hi hu g0 h0 o0 g3 h3 o3 n03
    refine held_two (i := 9) (j := 10) (by kernel_rfl) ?_ ?_
    · exact dof_a1 ⟨hb.trans ((dofN W').mono hb.size), L4_11 _ (hb.trans ((dofN W').mono hb.size)) au cu lo hi (hu.next (dofN W')) _ (h0.next (dofN W')) o0 _ (dofZ.new hb) (Or.inr hu.2) _ (h3.next (dofN W')) o3 (Nat.ne_of_lt h0.lt) n03 (Nat.ne_of_gt h3.lt)⟩
    · exact dof_a2 ⟨hb.trans ((dofN W').mono hb.size), L4_13 _ (hb.trans ((dofN W').mono hb.size)) au cu lo hi (hu.next (dofN W')) _ (h0.next (dofN W')) o0 _ (dofZ.new hb) (Or.inr hu.2) _ (h3.next (dofN W')) o3 (Nat.ne_of_lt h0.lt) n03 (Nat.ne_of_gt h3.lt)⟩
  have L4_6 : ∀ W', dofB W W' → ∀ au cu lo hi, dofD dt W' au cu lo hi → ∀ g1, dofZ W W' g1 → (g1 < lo ∨ hi ≤ g1) → ∀ g2, dofZ W W' g2 → (g2 < lo ∨ hi ≤ g2) → g1 ≠ g2 → dofF W Q 6 (dofL true true true true false true true false) (dofA AG b0 b1 vi vj vk (vd au cu) undef (dofP g1) (dofP g2) undef) W' := by
    intro W' hb au cu lo hi hu g1 h1 o1 g2 h2 o2 n12
    refine held_two (i := 8) (j := 11) (by kernel_rfl) ?_ ?_
    · exact dof_a0 ⟨hb.trans ((dofN W').mono hb.size), L4_7 _ (hb.trans ((dofN W').mono hb.size)) au cu lo hi (hu.next (dofN W')) _ (dofZ.new hb) (Or.inr hu.2) _ (h1.next (dofN W')) o1 _ (h2.next (dofN W')) o2 (Nat.ne_of_gt h1.lt) (Nat.ne_of_gt h2.lt) n12⟩
    · exact dof_a3 ⟨hb.trans ((dofN W').mono hb.size), L4_14 _ (hb.trans ((dofN W').mono hb.size)) au cu lo hi (hu.next (dofN W')) _ (h1.next (dofN W')) o1 _ (h2.next (dofN W')) o2 _ (dofZ.new hb) (Or.inr hu.2) n12 (Nat.ne_of_lt h1.lt) (Nat.ne_of_lt h2.lt)⟩
  have L4_10 : ∀ W', dofB W W' → ∀ au cu lo hi, dofD dt W' au cu lo hi → ∀ g1, dofZ W W' g1 → (g1 < lo ∨ hi ≤ g1) → ∀ g3, dofZ W W' g3 → (g3 < lo ∨ hi ≤ g3) → g1 ≠ g3 → dofF W Q 6 (dofL true true true true false true false true) (dofA AG b0 b1 vi vj vk (vd au cu) undef (dofP g1) undef (dofP g3)) W' := by
    intro W' hb au cu lo hi hu g1 h1 o1 g3 h3 o3 n13
    refine held_two (i := 8) (j := 10) (by kernel_rfl) ?_ ?_
    · exact dof_a0 ⟨hb.trans ((dofN W').mono hb.size), L4_11 _ (hb.trans ((dofN W').mono hb.size)) au cu lo hi (hu.next (dofN W')) _ (dofZ.new hb) (Or.inr hu.2) _ (h1.next (dofN W')) o1 _ (h3.next (dofN W')) o3 (Nat.ne_of_gt h1.lt) (Nat.ne_of_gt h3.lt) n13⟩
    · exact dof_a2 ⟨hb.trans ((dofN W').mono hb.size), L4_14 _ (hb.trans ((dofN W').mono hb.size)) au cu lo hi (hu.next (dofN W')) _ (h1.next (dofN W')) o1 _ (dofZ.new hb) (Or.inr hu.2) _ (h3.next (dofN W')) o3 (Nat.ne_of_lt h1.lt) n13 (Nat.ne_of_gt h3.lt)⟩
  have L4_12 : ∀ W', dofB W W' → ∀ au cu lo hi, dofD dt W' au cu lo hi → ∀ g2, dofZ W W' g2 → (g2 < lo ∨ hi ≤ g2) → ∀ g3, dofZ W W' g3 → (g3 < lo ∨ hi ≤ g3) → g2 ≠ g3 → dofF W Q 6 (dofL true true true true false false true true) (dofA AG b0 b1 vi vj vk (vd au cu) undef undef (dofP g2) (dofP g3)) W' := by
    intro W' hb au cu lo hi hu g2 h2 o2 g3 h3 o3 n23
    refine held_two (i := 8) (j := 9) (by kernel_rfl) ?_ ?_
    · exact dof_a0 ⟨hb.trans ((dofN W').mono hb.size), L4_13 _ (hb.trans ((dofN W').mono hb.size)) au cu lo hi (hu.next (dofN W')) _ (dofZ.new hb) (Or.inr hu.2) _ (h2.next (dofN W')) o2 _ (h3.next (dofN W')) o3 (Nat.ne_of_gt h2.lt) (Nat.ne_of_gt h3.lt) n23⟩
    · exact dof_a1 ⟨hb.trans ((dofN W').mono hb.size), L4_14 _ (hb.trans ((dofN W').mono hb.size)) au cu lo hi (hu.next (dofN W')) _ (dofZ.new hb) (Or.inr hu.2) _ (h2.next (dofN W')) o2 _ (h3.next (dofN W')) o3 (Nat.ne_of_gt h2.lt) (Nat.ne_of_gt h3.lt) n23⟩
  have L1_15 : ∀ W', dofB W W' → ∀ g0, dofZ W W' g0 → ∀ g1, dofZ W W' g1 → ∀ g2, dofZ W W' g2 → ∀ g3, dofZ W W' g3 → g0 ≠ g1 → g0 ≠ g2 → g0 ≠ g3 → g1 ≠ g2 → g1 ≠ g3 → g2 ≠ g3 → dofF W Q 7 (dofL true false false false true true true true) (dofA AG b0 b1 vi undef undef undef (dofP g0) (dofP g1) (dofP g2) (dofP g3)) W' := by
    intro W' hb g0 h0 g1 h1 g2 h2 g3 h3 n01 n02 n03 n12 n13 n23
    refine held_one (i := 3) (by kernel_rfl) ?_
    · exact dof_c1 (H1 W' hb) rfl (fun Wn hbn => ⟨hb.trans (hbn.mono hb.size), L2_15 Wn (hb.trans (hbn.mono hb.size)) g0 (h0.next hbn) g1 (h1.next hbn) g2 (h2.next hbn) g3 (h3.next hbn) n01 n02 n03 n12 n13 n23⟩)
  have L2_7 : ∀ W', dofB W W' → ∀ g0, dofZ W W' g0 → ∀ g1, dofZ W W' g1 → ∀ g2, dofZ W W' g2 → g0 ≠ g1 → g0 ≠ g2 → g1 ≠ g2 → dofF W Q 7 (dofL true true false false true true true false) (dofA AG b0 b1 vi vj undef undef (dofP g0) (dofP g1) (dofP g2) undef) W' := by
    intro W' hb g0 h0 g1 h1 g2 h2 n01 n02 n12
    refine held_two (i := 5) (j := 11) (by kernel_rfl) ?_ ?_
    · exact dof_c2 (H2 W' hb) rfl (fun Wn hbn => ⟨hb.trans (hbn.mono hb.size), L3_7 Wn (hb.trans (hbn.mono hb.size)) g0 (h0.next hbn) g1 (h1.next hbn) g2 (h2.next hbn) n01 n02 n12⟩)
    · exact dof_a3 ⟨hb.trans ((dofN W').mono hb.size), L2_15 _ (hb.trans ((dofN W').mono hb.size)) _ (h0.next (dofN W')) _ (h1.next (dofN W')) _ (h2.next (dofN W')) _ (dofZ.new hb) n01 n02 (Nat.ne_of_lt h0.lt) n12 (Nat.ne_of_lt h1.lt) (Nat.ne_of_lt h2.lt)⟩
  have L2_11 : ∀ W', dofB W W' → ∀ g0, dofZ W W' g0 → ∀ g1, dofZ W W' g1 → ∀ g3, dofZ W W' g3 → g0 ≠ g1 → g0 ≠ g3 → g1 ≠ g3 → dofF W Q 7 (dofL true true false false true true false true) (dofA AG b0 b1 vi vj undef undef (dofP g0) (dofP g1) undef (dofP g3)) W' := by
    intro W' hb g0 h0 g1 h1 g3 h3 n01 n03 n13
    refine held_two (i := 5) (j := 10) (by kernel_rfl) ?_ ?_
    · exact dof_c2 (H2 W' hb) rfl (fun Wn hbn => ⟨hb.trans (hbn.mono hb.size), L3_11 Wn (hb.trans (hbn.mono hb.size)) g0 (h0.next hbn) g1 (h1.next hbn) g3 (h3.next hbn) n01 n03 n13⟩)
    · exact dof_a2 ⟨hb.trans ((dofN W').mono hb.size), L2_15 _ (hb.trans ((dofN W').mono hb.size)) _ (h0.next (dofN W')) _ (h1.next (dofN W')) _ (dofZ.new hb) _ (h3.next (dofN W')) n01 (Nat.ne_of_lt h0.lt) n03 (Nat.ne_of_lt h1.lt) n13 (Nat.ne_of_gt h3.lt)⟩
  have L2_13 : ∀ W', dofB W W' → ∀ g0, dofZ W W' g0 → ∀ g2, dofZ W W' g2 → ∀ g3, dofZ W W' g3 → g0 ≠ g2 → g0 ≠ g3 → g2 ≠ g3 → dofF W Q 7 (dofL true true false false true false true true) (dofA AG b0 b1 vi vj undef undef (dofP g0) undef (dofP g2) (dofP g3)) W' := by
    intro W' hb g0 h0 g2 h2 g3 h3 n02 n03 n23
    refine held_two (i := 5) (j := 9) (by kernel_rfl) ?_ ?_
    · exact dof_c2 (H2 W' hb) rfl (fun Wn hbn => ⟨hb.trans (hbn.mono hb.size), L3_13 Wn (hb.trans (hbn.mono hb.size)) g0 (h0.next hbn) g2 (h2.next hbn) g3 (h3.next hbn) n02 n03 n23⟩)
    · exact dof_a1 ⟨hb.trans ((dofN W').mono hb.size), L2_15 _ (hb.trans ((dofN W').mono hb.size)) _ (h0.next (dofN W')) _ (dofZ.new hb) _ (h2.next (dofN W')) _ (h3.next (dofN W')) (Nat.ne_of_lt h0.lt) n02 n03 (Nat.ne_of_gt h2.lt) (Nat.ne_of_gt h3.lt) n23⟩
  have L2_14 : ∀ W', dofB W W' → ∀ g1, dofZ W W' g1 → ∀ g2, dofZ W W' g2 → ∀ g3, dofZ W W' g3 → g1 ≠ g2 → g1 ≠ g3 → g2 ≠ g3 → dofF W Q 7 (dofL true true false false false true true true) (dofA AG b0 b1 vi vj undef undef undef (dofP g1) (dofP g2) (dofP g3)) W' := by
    intro W' hb g1 h1 g2 h2 g3 h3 n12 n13 n23
    refine held_two (i := 5) (j := 8) (by kernel_rfl) ?_ ?_
    · exact dof_c2 (H2 W' hb) rfl (fun Wn hbn => ⟨hb.trans (hbn.mono hb.size), L3_14 Wn (hb.trans (hbn.mono hb.size)) g1 (h1.next hbn) g2 (h2.next hbn) g3 (h3.next hbn) n12 n13 n23⟩)
    · exact dof_a0 ⟨hb.trans ((dofN W').mono hb.size), L2_15 _ (hb.trans ((dofN W').mono hb.size)) _ (dofZ.new hb) _ (h1.next (dofN W')) _ (h2.next (dofN W')) _ (h3.next (dofN W')) (Nat.ne_of_gt h1.lt) (Nat.ne_of_gt h2.lt) (Nat.ne_of_gt h3.lt) n12 n13 n23⟩
  have L3_3 : ∀ W', dofB W W' → ∀ g0, dofZ W W' g0 → ∀ g1, dofZ W W' g1 → g0 ≠ g1 → dofF W Q 7 (dofL true true true false true true false false) (dofA AG b0 b1 vi vj vk undef (dofP g0) (dofP g1) undef undef) W' := by
    intro W' hb g0 h0 g1 h1 n01
    refine held_three (i := 7) (j := 10) (l := 11) (by kernel_rfl) ?_ ?_ ?_
    · exact dof_c3 (H3 W' hb) rfl (fun Wn au cu hru hbn => ⟨hb.trans (hbn.mono hb.size), L4_3 Wn (hb.trans (hbn.mono hb.size)) au cu _ _ hru g0 (h0.next hbn) (Or.inl h0.lt) g1 (h1.next hbn) (Or.inl h1.lt) n01⟩)
    · exact dof_a2 ⟨hb.trans ((dofN W').mono hb.size), L3_7 _ (hb.trans ((dofN W').mono hb.size)) _ (h0.next (dofN W')) _ (h1.next (dofN W')) _ (dofZ.new hb) n01 (Nat.ne_of_lt h0.lt) (Nat.ne_of_lt h1.lt)⟩
    · exact dof_a3 ⟨hb.trans ((dofN W').mono hb.size), L3_11 _ (hb.trans ((dofN W').mono hb.size)) _ (h0.next (dofN W')) _ (h1.next (dofN W')) _ (dofZ.new hb) n01 (Nat.ne_of_lt h0.lt) (Nat.ne_of_lt h1.lt)⟩
  have L3_5 : ∀ W', dofB W W' → ∀ g0, dofZ W W' g0 → ∀ g2, dofZ W W' g2 → g0 ≠ g2 → dofF W Q 7 (dofL true true true false true false true false) (dofA AG b0 b1 vi vj vk undef (dofP g0) undef (dofP g2) undef) W' := by
    intro W' hb g0 h0 g2 h2 n02
    refine held_three (i := 7) (j := 9) (l := 11) (by kernel_rfl) ?_ ?_ ?_
    · exact dof_c3 (H3 W' hb) rfl (fun Wn au cu hru hbn => ⟨hb.trans (hbn.mono hb.size), L4_5 Wn (hb.trans (hbn.mono hb.size)) au cu _ _ hru g0 (h0.next hbn) (Or.inl h0.lt) g2 (h2.next hbn) (Or.inl h2.lt) n02⟩)
    · exact dof_a1 ⟨hb.trans ((dofN W').mono hb.size), L3_7 _ (hb.trans ((dofN W').mono hb.size)) _ (h0.next (dofN W')) _ (dofZ.new hb) _ (h2.next (dofN W')) (Nat.ne_of_lt h0.lt) n02 (Nat.ne_of_gt h2.lt)⟩
    · exact dof_a3 ⟨hb.trans ((dofN W').mono hb.size), L3_13 _ (hb.trans ((dofN W').mono hb.size)) _ (h0.next (dofN W')) _ (h2.next (dofN W')) _ (dofZ.new hb) n02 (Nat.ne_of_lt h0.lt) (Nat.ne_of_lt h2.lt)⟩
  have L3_9 : ∀ W', dofB W W' → ∀ g0, dofZ W W' g0 → ∀ g3, dofZ W W' g3 → g0 ≠ g3 → dofF W Q 7 (dofL true true true false true false false true) (dofA AG b0 b1 vi vj vk undef (dofP g0) undef undef (dofP g3)) W' := by
    intro W' hb g0 h0 g3 h3 n03
    refine held_three (i := 7) (j := 9) (l := 10) (by kernel_rfl) ?_ ?_ ?_
    · exact dof_c3 (H3 W' hb) rfl (fun Wn au cu hru hbn => ⟨hb.trans (hbn.mono hb.size), L4_9 Wn (hb.trans (hbn.mono hb.size)) au cu _ _ hru g0 (h0.next hbn) (Or.inl h0.lt) g3 (h3.next hbn) (Or.inl h3.lt) n03⟩)
    · exact dof_a1 ⟨hb.trans ((dofN W').mono hb.size), L3_11 _ (hb.trans ((dofN W').mono hb.size)) _ (h0.next (dofN W')) _ (dofZ.new hb) _ (h3.next (dofN W')) (Nat.ne_of_lt h0.lt) n03 (Nat.ne_of_gt h3.lt)⟩
    · exact dof_a2 ⟨hb.trans ((dofN W').mono hb.size), L3_13 _ (hb.trans ((dofN W').mono hb.size)) _ (h0.next (dofN W')) _ (dofZ.new hb) _ (h3.next (dofN W')) (Nat.ne_of_lt h0.lt) n03 (Nat.ne_of_gt h3.lt)⟩
  have L3_6 : ∀ W', dofB W W' → ∀ g1, dofZ W W' g1 → ∀ g2, dofZ W W' g2 → g1 ≠ g2 → dofF W Q 7 (dofL true true true false false true true false) (dofA AG b0 b1 vi vj vk undef undef (dofP g1) (dofP g2) undef) W' := by
    intro W' hb g1 h1 g2 h2 n12
    refine held_three (i := 7) (j := 8) (l := 11) (by kernel_rfl) ?_ ?_ ?_
    · exact dof_c3 (H3 W' hb) rfl (fun Wn au cu hru hbn => ⟨hb.trans (hbn.mono hb.size), L4_6 Wn (hb.trans (hbn.mono hb.size)) au cu _ _ hru g1 (h1.next hbn) (Or.inl h1.lt) g2 (h2.next hbn) (Or.inl h2.lt) n12⟩)
    · exact dof_a0 ⟨hb.trans ((dofN W').mono hb.size), L3_7 _ (hb.trans ((dofN W').mono hb.size)) _ (dofZ.new hb) _ (h1.next (dofN W')) _ (h2.next (dofN W')) (Nat.ne_of_gt h1.lt) (Nat.ne_of_gt h2.lt) n12⟩
    · exact dof_a3 ⟨hb.trans ((dofN W').mono hb.size), L3_14 _ (hb.trans ((dofN W').mono hb.size)) _ (h1.next (dofN W')) _ (h2.next (dofN W')) _ (dofZ.new hb) n12 (Nat.ne_of_lt h1.lt) (Nat.ne_of_lt h2.lt)⟩
  have L3_10 : ∀ W', dofB W W' → ∀ g1, dofZ W W' g1 → ∀ g3, dofZ W W' g3 → g1 ≠ g3 → dofF W Q 7 (dofL true true true false false true false true) (dofA AG b0 b1 vi vj vk undef undef (dofP g1) undef (dofP g3)) W' := by
    intro W' hb g1 h1 g3 h3 n13
    refine held_three (i := 7) (j := 8) (l := 10) (by kernel_rfl) ?_ ?_ ?_
    · exact dof_c3 (H3 W' hb) rfl (fun Wn au cu hru hbn => ⟨hb.trans (hbn.mono hb.size), L4_10 Wn (hb.trans (hbn.mono hb.size)) au cu _ _ hru g1 (h1.next hbn) (Or.inl h1.lt) g3 (h3.next hbn) (Or.inl h3.lt) n13⟩)
    · exact dof_a0 ⟨hb.trans ((dofN W').mono hb.size), L3_11 _ (hb.trans ((dofN W').mono hb.size)) _ (dofZ.new hb) _ (h1.next (dofN W')) _ (h3.next (dofN W')) (Nat.ne_of_gt h1.lt) (Nat.ne_of_gt h3.lt) n13⟩
    · exact dof_a2 ⟨hb.trans ((dofN W').mono hb.size), L3_14 _ (hb.trans ((dofN W').mono hb.size)) _ (h1.next (dofN W')) _ (dofZ.new hb) _ (h3.next (dofN W')) (Nat.ne_of_lt h1.lt) n13 (Nat.ne_of_gt h3.lt)⟩
  have L3_12 : ∀ W', dofB W W' → ∀ g2, dofZ W W' g2 → ∀ g3, dofZ W W' g3 → g2 ≠ g3 → dofF W Q 7 (dofL true true true false false false true true) (dofA AG b0 b1 vi vj vk undef undef undef (dofP g2) (dofP g3)) W' := by
    intro W' hb g2 h2 g3 h3 n23
    refine held_three (i := 7) (j := 8) (l := 9) (by kernel_rfl) ?_ ?_ ?_
    · exact dof_c3 (H3 W' hb) rfl (fun Wn au cu hru hbn => ⟨hb.trans (hbn.mono hb.size), L4_12 Wn (hb.trans (hbn.mono hb.size)) au cu _ _ hru g2 (h2.next hbn) (Or.inl h2.lt) g3 (h3.next hbn) (Or.inl h3.lt) n23⟩)
    · exact dof_a0 ⟨hb.trans ((dofN W').mono hb.size), L3_13 _ (hb.trans ((dofN W').mono hb.size)) _ (dofZ.new hb) _ (h2.next (dofN W')) _ (h3.next (dofN W')) (Nat.ne_of_gt h2.lt) (Nat.ne_of_gt h3.lt) n23⟩
    · exact dof_a1 ⟨hb.trans ((dofN W').mono hb.size), L3_14 _ (hb.trans ((dofN W').mono hb.size)) _ (dofZ.new hb) _ (h2.next (dofN W')) _ (h3.next (dofN W')) (Nat.ne_of_gt h2.lt) (Nat.ne_of_gt h3.lt) n23⟩
  have L4_1 : ∀ W', dofB W W' → ∀ au cu lo hi, dofD dt W' au cu lo hi → ∀ g0, dofZ W W' g0 → (g0 < lo ∨ hi ≤ g0) → dofF W Q 7 (dofL true true true true true false false false) (dofA AG b0 b1 vi vj vk (vd au cu) (dofP g0) undef undef undef) W' := by
    intro W' hb au cu lo hi hu g0 h0 o0
    refine held_three (i := 9) (j := 10) (l := 11) (by kernel_rfl) ?_ ?_ ?_
    · exact dof_a1 ⟨hb.trans ((dofN W').mono hb.size), L4_3 _ (hb.trans ((dofN W').mono hb.size)) au cu lo hi (hu.next (dofN W')) _ (h0.next (dofN W')) o0 _ (dofZ.new hb) (Or.inr hu.2) (Nat.ne_of_lt h0.lt)⟩
    · exact dof_a2 ⟨hb.trans ((dofN W').mono hb.size), L4_5 _ (hb.trans ((dofN W').mono hb.size)) au cu lo hi (hu.next (dofN W')) _ (h0.next (dofN W')) o0 _ (dofZ.new hb) (Or.inr hu.2) (Nat.ne_of_lt h0.lt)⟩
    · exact dof_a3 ⟨hb.trans ((dofN W').mono hb.size), L4_9 _ (hb.trans ((dofN W').mono hb.size)) au cu lo hi (hu.next (dofN W')) _ (h0.next (dofN W')) o0 _ (dofZ.new hb) (Or.inr hu.2) (Nat.ne_of_lt h0.lt)⟩
  have L4_2 : ∀ W', dofB W W' → ∀ au cu lo hi, dofD dt W' au cu lo hi → ∀ g1, dofZ W W' g1 → (g1 < lo ∨ hi ≤ g1) → dofF W Q 7 (dofL true true true true false true false false) (dofA AG b0 b1 vi vj vk (vd au cu) undef (dofP g1) undef undef) W' := by
    intro W' hb au cu lo hi hu g1 h1 o1
    refine held_three (i := 8) (j := 10) (l := 11) (by kernel_rfl) ?_ ?_ ?_
    · exact dof_a0 ⟨hb.trans ((dofN W').mono hb.size), L4_3 _ (hb.trans ((dofN W').mono hb.size)) au cu lo hi (hu.next (dofN W')) _ (dofZ.new hb) (Or.inr hu.2) _ (h1.next (dofN W')) o1 (Nat.ne_of_gt h1.lt)⟩
    · exact dof_a2 ⟨hb.trans ((dofN W').mono hb.size), L4_6 _ (hb.trans ((dofN W').mono hb.size)) au cu lo hi (hu.next (dofN W')) _ (h1.next (dofN W')) o1 _ (dofZ.new hb) (Or.inr hu.2) (Nat.ne_of_lt h1.lt)⟩
    · exact dof_a3 ⟨hb.trans ((dofN W').mono hb.size), L4_10 _ (hb.trans ((dofN W').mono hb.size)) au cu lo hi (hu.next (dofN W')) _ (h1.next (dofN W')) o1 _ (dofZ.new hb) (Or.inr hu.2) (Nat.ne_of_lt h1.lt)⟩
  have L4_4 : ∀ W', dofB W W' → ∀ au cu lo hi, dofD dt W' au cu lo hi → ∀ g2, dofZ W W' g2 → (g2 < lo ∨ hi ≤ g2) → dofF W Q 7 (dofL true true true true false false true false) (dofA AG b0 b1 vi vj vk (vd au cu) undef undef (dofP g2) undef) W' := by
    intro W' hb au cu lo hi hu g2 h2 o2
    refine held_three (i := 8) (j := 9) (l := 11) (by kernel_rfl) ?_ ?_ ?_
    · exact dof_a0 ⟨hb.trans ((dofN W').mono hb.size), L4_5 _ (hb.trans ((dofN W').mono hb.size)) au cu lo hi (hu.next (dofN W')) _ (dofZ.new hb) (Or.inr hu.2) _ (h2.next (dofN W')) o2 (Nat.ne_of_gt h2.lt)⟩
    · exact dof_a1 ⟨hb.trans ((dofN W').mono hb.size), L4_6 _ (hb.trans ((dofN W').mono hb.size)) au cu lo hi (hu.next (dofN W')) _ (dofZ.new hb) (Or.inr hu.2) _ (h2.next (dofN W')) o2 (Nat.ne_of_gt h2.lt)⟩
    · exact dof_a3 ⟨hb.trans ((dofN W').mono hb.size), L4_12 _ (hb.trans ((dofN W').mono hb.size)) au cu lo hi (hu.next (dofN W')) _ (h2.next (dofN W')) o2 _ (dofZ.new hb) (Or.inr hu.2) (Nat.ne_of_lt h2.lt)⟩
  have L4_8 : ∀ W', dofB W W' → ∀ au cu lo hi, dofD dt W' au cu lo hi → ∀ g3, dofZ W W' g3 → (g3 < lo ∨ hi ≤ g3) → dofF W Q 7 (dofL true true true true false false false true) (dofA AG b0 b1 vi vj vk (vd au cu) undef undef undef (dofP g3)) W' := by
    intro W' hb au cu lo hi hu g3 h3 o3
    refine held_three (i := 8) (j := 9) (l := 10) (by kernel_rfl) ?_ ?_ ?_
    · exact dof_a0 ⟨hb.trans ((dofN W').mono hb.size), L4_9 _ (hb.trans ((dofN W').mono hb.size)) au cu lo hi (hu.next (dofN W')) _ (dofZ.new hb) (Or.inr hu.2) _ (h3.next (dofN W')) o3 (Nat.ne_of_gt h3.lt)⟩
    · exact dof_a1 ⟨hb.trans ((dofN W').mono hb.size), L4_10 _ (hb.trans ((dofN W').mono hb.size)) au cu lo hi (hu.next (dofN W')) _ (dofZ.new hb) (Or.inr hu.2) _ (h3.next (dofN W')) o3 (Nat.ne_of_gt h3.lt)⟩
    · exact dof_a2 ⟨hb.trans ((dofN W').mono hb.size), L4_12 _ (hb.trans ((dofN W').mono hb.size)) au cu lo hi (hu.next (dofN W')) _ (dofZ.new hb) (Or.inr hu.2) _ (h3.next (dofN W')) o3 (Nat.ne_of_gt h3.lt)⟩
  have L0_15 : ∀ W', dofB W W' → ∀ g0, dofZ W W' g0 → ∀ g1, dofZ W W' g1 → ∀ g2, dofZ W W' g2 → ∀ g3, dofZ W W' g3 → g0 ≠ g1 → g0 ≠ g2 → g0 ≠ g3 → g1 ≠ g2 → g1 ≠ g3 → g2 ≠ g3 → dofF W Q 8 (dofL false false false false true true true true) (dofA AG b0 b1 undef undef undef undef (dofP g0) (dofP g1) (dofP g2) (dofP g3)) W' := by
    intro W' hb g0 h0 g1 h1 g2 h2 g3 h3 n01 n02 n03 n12 n13 n23
    refine held_one (i := 1) (by kernel_rfl) ?_
    · exact dof_c0 (H0 W' hb) rfl (fun Wn hbn => ⟨hb.trans (hbn.mono hb.size), L1_15 Wn (hb.trans (hbn.mono hb.size)) g0 (h0.next hbn) g1 (h1.next hbn) g2 (h2.next hbn) g3 (h3.next hbn) n01 n02 n03 n12 n13 n23⟩)
  have L1_7 : ∀ W', dofB W W' → ∀ g0, dofZ W W' g0 → ∀ g1, dofZ W W' g1 → ∀ g2, dofZ W W' g2 → g0 ≠ g1 → g0 ≠ g2 → g1 ≠ g2 → dofF W Q 8 (dofL true false false false true true true false) (dofA AG b0 b1 vi undef undef undef (dofP g0) (dofP g1) (dofP g2) undef) W' := by
    intro W' hb g0 h0 g1 h1 g2 h2 n01 n02 n12
    refine held_two (i := 3) (j := 11) (by kernel_rfl) ?_ ?_
    · exact dof_c1 (H1 W' hb) rfl (fun Wn hbn => ⟨hb.trans (hbn.mono hb.size), L2_7 Wn (hb.trans (hbn.mono hb.size)) g0 (h0.next hbn) g1 (h1.next hbn) g2 (h2.next hbn) n01 n02 n12⟩)
    · exact dof_a3 ⟨hb.trans ((dofN W').mono hb.size), L1_15 _ (hb.trans ((dofN W').mono hb.size)) _ (h0.next (dofN W')) _ (h1.next (dofN W')) _ (h2.next (dofN W')) _ (dofZ.new hb) n01 n02 (Nat.ne_of_lt h0.lt) n12 (Nat.ne_of_lt h1.lt) (Nat.ne_of_lt h2.lt)⟩
  have L1_11 : ∀ W', dofB W W' → ∀ g0, dofZ W W' g0 → ∀ g1, dofZ W W' g1 → ∀ g3, dofZ W W' g3 → g0 ≠ g1 → g0 ≠ g3 → g1 ≠ g3 → dofF W Q 8 (dofL true false false false true true false true) (dofA AG b0 b1 vi undef undef undef (dofP g0) (dofP g1) undef (dofP g3)) W' := by
    intro W' hb g0 h0 g1 h1 g3 h3 n01 n03 n13
    refine held_two (i := 3) (j := 10) (by kernel_rfl) ?_ ?_
    · exact dof_c1 (H1 W' hb) rfl (fun Wn hbn => ⟨hb.trans (hbn.mono hb.size), L2_11 Wn (hb.trans (hbn.mono hb.size)) g0 (h0.next hbn) g1 (h1.next hbn) g3 (h3.next hbn) n01 n03 n13⟩)
    · exact dof_a2 ⟨hb.trans ((dofN W').mono hb.size), L1_15 _ (hb.trans ((dofN W').mono hb.size)) _ (h0.next (dofN W')) _ (h1.next (dofN W')) _ (dofZ.new hb) _ (h3.next (dofN W')) n01 (Nat.ne_of_lt h0.lt) n03 (Nat.ne_of_lt h1.lt) n13 (Nat.ne_of_gt h3.lt)⟩
  have L1_13 : ∀ W', dofB W W' → ∀ g0, dofZ W W' g0 → ∀ g2, dofZ W W' g2 → ∀ g3, dofZ W W' g3 → g0 ≠ g2 → g0 ≠ g3 → g2 ≠ g3 → dofF W Q 8 (dofL true false false false true false true true) (dofA AG b0 b1 vi undef undef undef (dofP g0) undef (dofP g2) (dofP g3)) W' := by
    intro W' hb g0 h0 g2 h2 g3 h3 n02 n03 n23
    refine held_two (i := 3) (j := 9) (by kernel_rfl) ?_ ?_
    · exact dof_c1 (H1 W' hb) rfl (fun Wn hbn => ⟨hb.trans (hbn.mono hb.size), L2_13 Wn (hb.trans (hbn.mono hb.size)) g0 (h0.next hbn) g2 (h2.next hbn) g3 (h3.next hbn) n02 n03 n23⟩)
    · exact dof_a1 ⟨hb.trans ((dofN W').mono hb.size), L1_15 _ (hb.trans ((dofN W').mono hb.size)) _ (h0.next (dofN W')) _ (dofZ.new hb) _ (h2.next (dofN W')) _ (h3.next (dofN W')) (Nat.ne_of_lt h0.lt) n02 n03 (Nat.ne_of_gt h2.lt) (Nat.ne_of_gt h3.lt) n23⟩
  have L1_14 : ∀ W', dofB W W' → ∀ g1, dofZ W W' g1 → ∀ g2, dofZ W W' g2 → ∀ g3, dofZ W W' g3 → g1 ≠ g2 → g1 ≠ g3 → g2 ≠ g3 → dofF W Q 8 (dofL true false false false false true true true) (dofA AG b0 b1 vi undef undef undef undef (dofP g1) (dofP g2) (dofP g3)) W' := by
    intro W' hb g1 h1 g2 h2 g3 h3 n12 n13 n23
    refine held_two (i := 3) (j := 8) (by kernel_rfl) ?_ ?_
    · exact dof_c1 (H1 W' hb) rfl (fun Wn hbn => ⟨hb.trans (hbn.mono hb.size), L2_14 Wn (hb.trans (hbn.mono hb.size)) g1 (h1.next hbn) g2 (h2.next hbn) g3 (h3.next hbn) n12 n13 n23⟩)
    · exact dof_a0 ⟨hb.trans ((dofN W').mono hb.size), L1_15 _ (hb.trans ((dofN W').mono hb.size)) _ (dofZ.new hb) _ (h1.next (dofN W')) _ (h2.next (dofN W')) _ (h3.next (dofN W')) (Nat.ne_of_gt h1.lt) (Nat.ne_of_gt h2.lt) (Nat.ne_of_gt h3.lt) n12 n13 n23⟩
  have L2_3 : ∀ W', dofB W W' → ∀ g0, dofZ W W' g0 → ∀ g1, dofZ W W' g1 → g0 ≠ g1 → dofF W Q 8 (dofL true true false false true true false false) (dofA AG b0 b1 vi vj undef undef (dofP g0) (dofP g1) undef undef) W' := by
    intro W' hb g0 h0 g1 h1 n01
    refine held_three (i := 5) (j := 10) (l := 11) (by kernel_rfl) ?_ ?_ ?_
    · exact dof_c2 (H2 W' hb) rfl (fun Wn hbn => ⟨hb.trans (hbn.mono hb.size), L3_3 Wn (hb.trans (hbn.mono hb.size)) g0 (h0.next hbn) g1 (h1.next hbn) n01⟩)
    · exact dof_a2 ⟨hb.trans ((dofN W').mono hb.size), L2_7 _ (hb.trans ((dofN W').mono hb.size)) _ (h0.next (dofN W')) _ (h1.next (dofN W')) _ (dofZ.new hb) n01 (Nat.ne_of_lt h0.lt) (Nat.ne_of_lt h1.lt)⟩
    · exact dof_a3 ⟨hb.trans ((dofN W').mono hb.size), L2_11 _ (hb.trans ((dofN W').mono hb.size)) _ (h0.next (dofN W')) _ (h1.next (dofN W')) _ (dofZ.new hb) n01 (Nat.ne_of_lt h0.lt) (Nat.ne_of_lt h1.lt)⟩
  have L2_5 : ∀ W', dofB W W' → ∀ g0, dofZ W W' g0 → ∀ g2, dofZ W W' g2 → g0 ≠ g2 → dofF W Q 8 (dofL true true false false true false true false) (dofA AG b0 b1 vi vj undef undef (dofP g0) undef (dofP g2) undef) W' := by
    intro W' hb g0 h0 g2 h2 n02
    refine held_three (i := 5) (j := 9) (l := 11) (by kernel_rfl) ?_ ?_ ?_
    · exact dof_c2 (H2 W' hb) rfl (fun Wn hbn => ⟨hb.trans (hbn.mono hb.size), L3_5 Wn (hb.trans (hbn.mono hb.size)) g0 (h0.next hbn) g2 (h2.next hbn) n02⟩)
    · exact dof_a1 ⟨hb.trans ((dofN W').mono hb.size), L2_7 _ (hb.trans ((dofN W').mono hb.size)) _ (h0.next (dofN W')) _ (dofZ.new hb) _ (h2.next (dofN W')) (Nat.ne_of_lt h0.lt) n02 (Nat.ne_of_gt h2.lt)⟩
    · exact dof_a3 ⟨hb.trans ((dofN W').mono hb.size), L2_13 _ (hb.trans ((dofN W').mono hb.size)) _ (h0.next (dofN W')) _ (h2.next (dofN W')) _ (dofZ.new hb) n02 (Nat.ne_of_lt h0.lt) (Nat.ne_of_lt h2.lt)⟩
  have L2_9 : ∀ W', dofB W W' → ∀ g0, dofZ W W' g0 → ∀ g3, dofZ W W' g3 → g0 ≠ g3 → dofF W Q 8 (dofL true true false false true false false true) (dofA AG b0 b1 vi vj undef undef (dofP g0) undef undef (dofP g3)) W' := by
    intro W' hb g0 h0 g3 h3 n03
    refine held_three (i := 5) (j := 9) (l := 10) (by kernel_rfl) ?_ ?_ ?_
    · exact dof_c2 (H2 W' hb) rfl (fun Wn hbn => ⟨hb.trans (hbn.mono hb.size), L3_9 Wn (hb.trans (hbn.mono hb.size)) g0 (h0.next hbn) g3 (h3.next hbn) n03⟩)
    · exact dof_a1 ⟨hb.trans ((dofN W').mono hb.size), L2_11 _ (hb.trans ((dofN W').mono hb.size)) _ (h0.next (dofN W')) _ (dofZ.new hb) _ (h3.next (dofN W')) (Nat.ne_of_lt h0.lt) n03 (Nat.ne_of_gt h3.lt)⟩
    · exact dof_a2 ⟨hb.trans ((dofN W').mono hb.size), L2_13 _ (hb.trans ((dofN W').mono hb.size)) _ (h0.next (dofN W')) _ (dofZ.new hb) _ (h3.next (dofN W')) (Nat.ne_of_lt h0.lt) n03 (Nat.ne_of_gt h3.lt)⟩
  have L2_6 : ∀ W', dofB W W' → ∀ g1, dofZ W W' g1 → ∀ g2, dofZ W W' g2 → g1 ≠ g2 → dofF W Q 8 (dofL true true false false false true true false) (dofA AG b0 b1 vi vj undef undef undef (dofP g1) (dofP g2) undef) W' := by
    intro W' hb g1 h1 g2 h2 n12
    refine held_three (i := 5) (j := 8) (l := 11) (by kernel_rfl) ?_ ?_ ?_
    · exact dof_c2 (H2 W' hb) rfl (fun Wn hbn => ⟨hb.trans (hbn.mono hb.size), L3_6 Wn (hb.trans (hbn.mono hb.size)) g1 (h1.next hbn) g2 (h2.next hbn) n12⟩)
    · exact dof_a0 ⟨hb.trans ((dofN W').mono hb.size), L2_7 _ (hb.trans ((dofN W').mono hb.size)) _ (dofZ.new hb) _ (h1.next (dofN W')) _ (h2.next (dofN W')) (Nat.ne_of_gt h1.lt) (Nat.ne_of_gt h2.lt) n12⟩
    · exact dof_a3 ⟨hb.trans ((dofN W').mono hb.size), L2_14 _ (hb.trans ((dofN W').mono hb.size)) _ (h1.next (dofN W')) _ (h2.next (dofN W')) _ (dofZ.new hb) n12 (Nat.ne_of_lt h1.lt) (Nat.ne_of_lt h2.lt)⟩
  have L2_10 : ∀ W', dofB W W' → ∀ g1, dofZ W W' g1 → ∀ g3, dofZ W W' g3 → g1 ≠ g3 → dofF W Q 8 (dofL true true false false false true false true) (dofA AG b0 b1 vi vj undef undef undef (dofP g1) undef (dofP g3)) W' := by
    intro W' hb g1 h1 g3 h3 n13
    refine held_three (i := 5) (j := 8) (l := 10) (by kernel_rfl) ?_ ?_ ?_
    · exact dof_c2 (H2 W' hb) rfl (fun Wn hbn => ⟨hb.trans (hbn.mono hb.size), L3_10 Wn (hb.trans (hbn.mono hb.size)) g1 (h1.next hbn) g3 (h3.next hbn) n13⟩)
    · exact dof_a0 ⟨hb.trans ((dofN W').mono hb.size), L2_11 _ (hb.trans ((dofN W').mono hb.size)) _ (dofZ.new hb) _ (h1.next (dofN W')) _ (h3.next (dofN W')) (Nat.ne_of_gt h1.lt) (Nat.ne_of_gt h3.lt) n13⟩
    · exact dof_a2 ⟨hb.trans ((dofN W').mono hb.size), L2_14 _ (hb.trans ((dofN W').mono hb.size)) _ (h1.next (dofN W')) _ (dofZ.new hb) _ (h3.next (dofN W')) (Nat.ne_of_lt h1.lt) n13 (Nat.ne_of_gt h3.lt)⟩
  have L2_12 : ∀ W', dofB W W' → ∀ g2, dofZ W W' g2 → ∀ g3, dofZ W W' g3 → g2 ≠ g3 → dofF W Q 8 (dofL true true false false false false true true) (dofA AG b0 b1 vi vj undef undef undef undef (dofP g2) (dofP g3)) W' := by
    intro W' hb g2 h2 g3 h3 n23
    refine held_three (i := 5) (j := 8) (l := 9) (by kernel_rfl) ?_ ?_ ?_
    · exact dof_c2 (H2 W' hb) rfl (fun Wn hbn => ⟨hb.trans (hbn.mono hb.size), L3_12 Wn (hb.trans (hbn.mono hb.size)) g2 (h2.next hbn) g3 (h3.next hbn) n23⟩)
    · exact dof_a0 ⟨hb.trans ((dofN W').mono hb.size), L2_13 _ (hb.trans ((dofN W').mono hb.size)) _ (dofZ.new hb) _ (h2.next (dofN W')) _ (h3.next (dofN W')) (Nat.ne_of_gt h2.lt) (Nat.ne_of_gt h3.lt) n23⟩
    · exact dof_a1 ⟨hb.trans ((dofN W').mono hb.size), L2_14 _ (hb.trans ((dofN W').mono hb.size)) _ (dofZ.new hb) _ (h2.next (dofN W')) _ (h3.next (dofN W')) (Nat.ne_of_gt h2.lt) (Nat.ne_of_gt h3.lt) n23⟩
  have L3_1 : ∀ W', dofB W W' → ∀ g0, dofZ W W' g0 → dofF W Q 8 (dofL true true true false true false false false) (dofA AG b0 b1 vi vj vk undef (dofP g0) undef undef undef) W' := by
    intro W' hb g0 h0
    refine held_four (i := 7) (j := 9) (l := 10) (m := 11) (by kernel_rfl) ?_ ?_ ?_ ?_
    · exact dof_c3 (H3 W' hb) rfl (fun Wn au cu hru hbn => ⟨hb.trans (hbn.mono hb.size), L4_1 Wn (hb.trans (hbn.mono hb.size)) au cu _ _ hru g0 (h0.next hbn) (Or.inl h0.lt)⟩)
    · exact dof_a1 ⟨hb.trans ((dofN W').mono hb.size), L3_3 _ (hb.trans ((dofN W').mono hb.size)) _ (h0.next (dofN W')) _ (dofZ.new hb) (Nat.ne_of_lt h0.lt)⟩
    · exact dof_a2 ⟨hb.trans ((dofN W').mono hb.size), L3_5 _ (hb.trans ((dofN W').mono hb.size)) _ (h0.next (dofN W')) _ (dofZ.new hb) (Nat.ne_of_lt h0.lt)⟩
    · exact dof_a3 ⟨hb.trans ((dofN W').mono hb.size), L3_9 _ (hb.trans ((dofN W').mono hb.size)) _ (h0.next (dofN W')) _ (dofZ.new hb) (Nat.ne_of_lt h0.lt)⟩
  have L3_2 : ∀ W', dofB W W' → ∀ g1, dofZ W W' g1 → dofF W Q 8 (dofL true true true false false true false false) (dofA AG b0 b1 vi vj vk undef undef (dofP g1) undef undef) W' := by
    intro W' hb g1 h1
    refine held_four (i := 7) (j := 8) (l := 10) (m := 11) (by kernel_rfl) ?_ ?_ ?_ ?_
    · exact dof_c3 (H3 W' hb) rfl (fun Wn au cu hru hbn => ⟨hb.trans (hbn.mono hb.size), L4_2 Wn (hb.trans (hbn.mono hb.size)) au cu _ _ hru g1 (h1.next hbn) (Or.inl h1.lt)⟩)
    · exact dof_a0 ⟨hb.trans ((dofN W').mono hb.size), L3_3 _ (hb.trans ((dofN W').mono hb.size)) _ (dofZ.new hb) _ (h1.next (dofN W')) (Nat.ne_of_gt h1.lt)⟩
    · exact dof_a2 ⟨hb.trans ((dofN W').mono hb.size), L3_6 _ (hb.trans ((dofN W').mono hb.size)) _ (h1.next (dofN W')) _ (dofZ.new hb) (Nat.ne_of_lt h1.lt)⟩
    · exact dof_a3 ⟨hb.trans ((dofN W').mono hb.size), L3_10 _ (hb.trans ((dofN W').mono hb.size)) _ (h1.next (dofN W')) _ (dofZ.new hb) (Nat.ne_of_lt h1.lt)⟩
  have L3_4 : ∀ W', dofB W W' → ∀ g2, dofZ W W' g2 → dofF W Q 8 (dofL true true true false false false true false) (dofA AG b0 b1 vi vj vk undef undef undef (dofP g2) undef) W' := by
    intro W' hb g2 h2
    refine held_four (i := 7) (j := 8) (l := 9) (m := 11) (by kernel_rfl) ?_ ?_ ?_ ?_
    · exact dof_c3 (H3 W' hb) rfl (fun Wn au cu hru hbn => ⟨hb.trans (hbn.mono hb.size), L4_4 Wn (hb.trans (hbn.mono hb.size)) au cu _ _ hru g2 (h2.next hbn) (Or.inl h2.lt)⟩)
    · exact dof_a0 ⟨hb.trans ((dofN W').mono hb.size), L3_5 _ (hb.trans ((dofN W').mono hb.size)) _ (dofZ.new hb) _ (h2.next (dofN W')) (Nat.ne_of_gt h2.lt)⟩
    · exact dof_a1 ⟨hb.trans ((dofN W').mono hb.size), L3_6 _ (hb.trans ((dofN W').mono hb.size)) _ (dofZ.new hb) _ (h2.next (dofN W')) (Nat.ne_of_gt h2.lt)⟩
    · exact dof_a3 ⟨hb.trans ((dofN W').mono hb.size), L3_12 _ (hb.trans ((dofN W').mono hb.size)) _ (h2.next (dofN W')) _ (dofZ.new hb) (Nat.ne_of_lt h2.lt)⟩
  have L3_8 : ∀ W', dofB W W' → ∀ g3, dofZ W W' g3 → dofF W Q 8 (dofL true true true false false false false true) (dofA AG b0 b1 vi vj vk undef undef undef undef (dofP g3)) W' := by
    intro W' hb g3 h3
    refine held_four (i := 7) (j := 8) (l := 9) (m := 10) (by kernel_rfl) ?_ ?_ ?_ ?_
    · exact dof_c3 (H3 W' hb) rfl (fun Wn au cu hru hbn => ⟨hb.trans (hbn.mono hb.size), L4_8 Wn (hb.trans (hbn.mono hb.size)) au cu _ _ hru g3 (h3.next hbn) (Or.inl h3.lt)⟩)
    · exact dof_a0 ⟨hb.trans ((dofN W').mono hb.size), L3_9 _ (hb.trans ((dofN W').mono hb.size)) _ (dofZ.new hb) _ (h3.next (dofN W')) (Nat.ne_of_gt h3.lt)⟩
    · exact dof_a1 ⟨hb.trans ((dofN W').mono hb.size), L3_10 _ (hb.trans ((dofN W').mono hb.size)) _ (dofZ.new hb) _ (h3.next (dofN W')) (Nat.ne_of_gt h3.lt)⟩
    · exact dof_a2 ⟨hb.trans ((dofN W').mono hb.size), L3_12 _ (hb.trans ((dofN W').mono hb.size)) _ (dofZ.new hb) _ (h3.next (dofN W')) (Nat.ne_of_gt h3.lt)⟩
  have L4_0 : ∀ W', dofB W W' → ∀ au cu lo hi, dofD dt W' au cu lo hi → dofF W Q 8 (dofL true true true true false false false false) (dofA AG b0 b1 vi vj vk (vd au cu) undef undef undef undef) W' := by
    intro W' hb au cu lo hi hu
    refine held_four (i := 8) (j := 9) (l := 10) (m := 11) (by kernel_rfl) ?_ ?_ ?_ ?_
    · exact dof_a0 ⟨hb.trans ((dofN W').mono hb.size), L4_1 _ (hb.trans ((dofN W').mono hb.size)) au cu lo hi (hu.next (dofN W')) _ (dofZ.new hb) (Or.inr hu.2)⟩
    · exact dof_a1 ⟨hb.trans ((dofN W').mono hb.size), L4_2 _ (hb.trans ((dofN W').mono hb.size)) au cu lo hi (hu.next (dofN W')) _ (dofZ.new hb) (Or.inr hu.2)⟩
    · exact dof_a2 ⟨hb.trans ((dofN W').mono hb.size), L4_4 _ (hb.trans ((dofN W').mono hb.size)) au cu lo hi (hu.next (dofN W')) _ (dofZ.new hb) (Or.inr hu.2)⟩
    · exact dof_a3 ⟨hb.trans ((dofN W').mono hb.size), L4_8 _ (hb.trans ((dofN W').mono hb.size)) au cu lo hi (hu.next (dofN W')) _ (dofZ.new hb) (Or.inr hu.2)⟩
  have L0_7 : ∀ W', dofB W W' → ∀ g0, dofZ W W' g0 → ∀ g1, dofZ W W' g1 → ∀ g2, dofZ W W' g2 → g0 ≠ g1 → g0 ≠ g2 → g1 ≠ g2 → dofF W Q 9 (dofL false false false false true true true false) (dofA AG b0 b1 undef undef undef undef (dofP g0) (dofP g1) (dofP g2) undef) W' := by
    intro W' hb g0 h0 g1 h1 g2 h2 n01 n02 n12
    refine held_two (i := 1) (j := 11) (by kernel_rfl) ?_ ?_
    · exact dof_c0 (H0 W' hb) rfl (fun Wn hbn => ⟨hb.trans (hbn.mono hb.size), L1_7 Wn (hb.trans (hbn.mono hb.size)) g0 (h0.next hbn) g1 (h1.next hbn) g2 (h2.next hbn) n01 n02 n12⟩)
    · exact dof_a3 ⟨hb.trans ((dofN W').mono hb.size), L0_15 _ (hb.trans ((dofN W').mono hb.size)) _ (h0.next (dofN W')) _ (h1.next (dofN W')) _ (h2.next (dofN W')) _ (dofZ.new hb) n01 n02 (Nat.ne_of_lt h0.lt) n12 (Nat.ne_of_lt h1.lt) (Nat.ne_of_lt h2.lt)⟩
  have L0_11 : ∀ W', dofB W W' → ∀ g0, dofZ W W' g0 → ∀ g1, dofZ W W' g1 → ∀ g3, dofZ W W' g3 → g0 ≠ g1 → g0 ≠ g3 → g1 ≠ g3 → dofF W Q 9 (dofL false false false false true true false true) (dofA AG b0 b1 undef undef undef undef (dofP g0) (dofP g1) undef (dofP g3)) W' := by
    intro W' hb g0 h0 g1 h1 g3 h3 n01 n03 n13
    refine held_two (i := 1) (j := 10) (by kernel_rfl) ?_ ?_
    · exact dof_c0 (H0 W' hb) rfl (fun Wn hbn => ⟨hb.trans (hbn.mono hb.size), L1_11 Wn (hb.trans (hbn.mono hb.size)) g0 (h0.next hbn) g1 (h1.next hbn) g3 (h3.next hbn) n01 n03 n13⟩)
    · exact dof_a2 ⟨hb.trans ((dofN W').mono hb.size), L0_15 _ (hb.trans ((dofN W').mono hb.size)) _ (h0.next (dofN W')) _ (h1.next (dofN W')) _ (dofZ.new hb) _ (h3.next (dofN W')) n01 (Nat.ne_of_lt h0.lt) n03 (Nat.ne_of_lt h1.lt) n13 (Nat.ne_of_gt h3.lt)⟩
  have L0_13 : ∀ W', dofB W W' → ∀ g0, dofZ W W' g0 → ∀ g2, dofZ W W' g2 → ∀ g3, dofZ W W' g3 → g0 ≠ g2 → g0 ≠ g3 → g2 ≠ g3 → dofF W Q 9 (dofL false false false false true false true true) (dofA AG b0 b1 undef undef undef undef (dofP g0) undef (dofP g2) (dofP g3)) W' := by
    intro W' hb g0 h0 g2 h2 g3 h3 n02 n03 n23
    refine held_two (i := 1) (j := 9) (by kernel_rfl) ?_ ?_
    · exact dof_c0 (H0 W' hb) rfl (fun Wn hbn => ⟨hb.trans (hbn.mono hb.size), L1_13 Wn (hb.trans (hbn.mono hb.size)) g0 (h0.next hbn) g2 (h2.next hbn) g3 (h3.next hbn) n02 n03 n23⟩)
    · exact dof_a1 ⟨hb.trans ((dofN W').mono hb.size), L0_15 _ (hb.trans ((dofN W').mono hb.size)) _ (h0.next (dofN W')) _ (dofZ.new hb) _ (h2.next (dofN W')) _ (h3.next (dofN W')) (Nat.ne_of_lt h0.lt) n02 n03 (Nat.ne_of_gt h2.lt) (Nat.ne_of_gt h3.lt) n23⟩
  have L0_14 : ∀ W', dofB W W' → ∀ g1, dofZ W W' g1 → ∀ g2, dofZ W W' g2 → ∀ g3, dofZ W W' g3 → g1 ≠ g2 → g1 ≠ g3 → g2 ≠ g3 → dofF W Q 9 (dofL false false false false false true true true) (dofA AG b0 b1 undef undef undef undef undef (dofP g1) (dofP g2) (dofP g3)) W' := by
    intro W' hb g1 h1 g2 h2 g3 h3 n12 n13 n23
    refine held_two (i := 1) (j := 8) (by kernel_rfl) ?_ ?_
    · exact dof_c0 (H0 W' hb) rfl (fun Wn hbn => ⟨hb.trans (hbn.mono hb.size), L1_14 Wn (hb.trans (hbn.mono hb.size)) g1 (h1.next hbn) g2 (h2.next hbn) g3 (h3.next hbn) n12 n13 n23⟩)
    · exact dof_a0 ⟨hb.trans ((dofN W').mono hb.size), L0_15 _ (hb.trans ((dofN W').mono hb.size)) _ (dofZ.new hb) _ (h1.next (dofN W')) _ (h2.next (dofN W')) _ (h3.next (dofN W')) (Nat.ne_of_gt h1.lt) (Nat.ne_of_gt h2.lt) (Nat.ne_of_gt h3.lt) n12 n13 n23⟩
  have L1_3 : ∀ W', dofB W W' → ∀ g0, dofZ W W' g0 → ∀ g1, dofZ W W' g1 → g0 ≠ g1 → dofF W Q 9 (dofL true false false false true true false false) (dofA AG b0 b1 vi undef undef undef (dofP g0) (dofP g1) undef undef) W' := by
    intro W' hb g0 h0 g1 h1 n01
    refine held_three (i := 3) (j := 10) (l := 11) (by kernel_rfl) ?_ ?_ ?_
    · exact dof_c1 (H1 W' hb) rfl (fun Wn hbn => ⟨hb.trans (hbn.mono hb.size), L2_3 Wn (hb.trans (hbn.mono hb.size)) g0 (h0.next hbn) g1 (h1.next hbn) n01⟩)
    · exact dof_a2 ⟨hb.trans ((dofN W').mono hb.size), L1_7 _ (hb.trans ((dofN W').mono hb.size)) _ (h0.next (dofN W')) _ (h1.next (dofN W')) _ (dofZ.new hb) n01 (Nat.ne_of_lt h0.lt) (Nat.ne_of_lt h1.lt)⟩
    · exact dof_a3 ⟨hb.trans ((dofN W').mono hb.size), L1_11 _ (hb.trans ((dofN W').mono hb.size)) _ (h0.next (dofN W')) _ (h1.next (dofN W')) _ (dofZ.new hb) n01 (Nat.ne_of_lt h0.lt) (Nat.ne_of_lt h1.lt)⟩
  have L1_5 : ∀ W', dofB W W' → ∀ g0, dofZ W W' g0 → ∀ g2, dofZ W W' g2 → g0 ≠ g2 → dofF W Q 9 (dofL true false false false true false true false) (dofA AG b0 b1 vi undef undef undef (dofP g0) undef (dofP g2) undef) W' := by
    intro W' hb g0 h0 g2 h2 n02
    refine held_three (i := 3) (j := 9) (l := 11) (by kernel_rfl) ?_ ?_ ?_
    · exact dof_c1 (H1 W' hb) rfl (fun Wn hbn => ⟨hb.trans (hbn.mono hb.size), L2_5 Wn (hb.trans (hbn.mono hb.size)) g0 (h0.next hbn) g2 (h2.next hbn) n02⟩)
    · exact dof_a1 ⟨hb.trans ((dofN W').mono hb.size), L1_7 _ (hb.trans ((dofN W').mono hb.size)) _ (h0.next (dofN W')) _ (dofZ.new hb) _ (h2.next (dofN W')) (Nat.ne_of_lt h0.lt) n02 (Nat.ne_of_gt h2.lt)⟩
    · exact dof_a3 ⟨hb.trans ((dofN W').mono hb.size), L1_13 _ (hb.trans ((dofN W').mono hb.size)) _ (h0.next (dofN W')) _ (h2.next (dofN W')) _ (dofZ.new hb) n02 (Nat.ne_of_lt h0.lt) (Nat.ne_of_lt h2.lt)⟩
  have L1_9 : ∀ W', dofB W W' → ∀ g0, dofZ W W' g0 → ∀ g3, dofZ W W' g3 → g0 ≠ g3 → dofF W Q 9 (dofL true false false false true false false true) (dofA AG b0 b1 vi undef undef undef (dofP g0) undef undef (dofP g3)) W' := by
    intro W' hb g0 h0 g3 h3 n03
    refine held_three (i := 3) (j := 9) (l := 10) (by kernel_rfl) ?_ ?_ ?_
    · exact dof_c1 (H1 W' hb) rfl (fun Wn hbn => ⟨hb.trans (hbn.mono hb.size), L2_9 Wn (hb.trans (hbn.mono hb.size)) g0 (h0.next hbn) g3 (h3.next hbn) n03⟩)
    · exact dof_a1 ⟨hb.trans ((dofN W').mono hb.size), L1_11 _ (hb.trans ((dofN W').mono hb.size)) _ (h0.next (dofN W')) _ (dofZ.new hb) _ (h3.next (dofN W')) (Nat.ne_of_lt h0.lt) n03 (Nat.ne_of_gt h3.lt)⟩
    · exact dof_a2 ⟨hb.trans ((dofN W').mono hb.size), L1_13 _ (hb.trans ((dofN W').mono hb.size)) _ (h0.next (dofN W')) _ (dofZ.new hb) _ (h3.next (dofN W')) (Nat.ne_of_lt h0.lt) n03 (Nat.ne_of_gt h3.lt)⟩
  have L1_6 : ∀ W', dofB W W' → ∀ g1, dofZ W W' g1 → ∀ g2, dofZ W W' g2 → g1 ≠ g2 → dofF W Q 9 (dofL true false false false false true true false) (dofA AG b0 b1 vi undef undef undef undef (dofP g1) (dofP g2) undef) W' := by
    intro W' hb g1 h1 g2 h2 n12
    refine held_three (i := 3) (j := 8) (l := 11) (by kernel_rfl) ?_ ?_ ?_
    · exact dof_c1 (H1 W' hb) rfl (fun Wn hbn => ⟨hb.trans (hbn.mono hb.size), L2_6 Wn (hb.trans (hbn.mono hb.size)) g1 (h1.next hbn) g2 (h2.next hbn) n12⟩)
    · exact dof_a0 ⟨hb.trans ((dofN W').mono hb.size), L1_7 _ (hb.trans ((dofN W').mono hb.size)) _ (dofZ.new hb) _ (h1.next (dofN W')) _ (h2.next (dofN W')) (Nat.ne_of_gt h1.lt) (Nat.ne_of_gt h2.lt) n12⟩
    · exact dof_a3 ⟨hb.trans ((dofN W').mono hb.size), L1_14 _ (hb.trans ((dofN W').mono hb.size)) _ (h1.next (dofN W')) _ (h2.next (dofN W')) _ (dofZ.new hb) n12 (Nat.ne_of_lt h1.lt) (Nat.ne_of_lt h2.lt)⟩
  have L1_10 : ∀ W', dofB W W' → ∀ g1, dofZ W W' g1 → ∀ g3, dofZ W W' g3 → g1 ≠ g3 → dofF W Q 9 (dofL true false false false false true false true) (dofA AG b0 b1 vi undef undef undef undef (dofP g1) undef (dofP g3)) W' := by
    intro W' hb g1 h1 g3 h3 n13
    refine held_three (i := 3) (j := 8) (l := 10) (by kernel_rfl) ?_ ?_ ?_
    · exact dof_c1 (H1 W' hb) rfl (fun Wn hbn => ⟨hb.trans (hbn.mono hb.size), L2_10 Wn (hb.trans (hbn.mono hb.size)) g1 (h1.next hbn) g3 (h3.next hbn) n13⟩)
    · exact dof_a0 ⟨hb.trans ((dofN W').mono hb.size), L1_11 _ (hb.trans ((dofN W').mono hb.size)) _ (dofZ.new hb) _ (h1.next (dofN W')) _ (h3.next (dofN W')) (Nat.ne_of_gt h1.lt) (Nat.ne_of_gt h3.lt) n13⟩
    · exact dof_a2 ⟨hb.trans ((dofN W').mono hb.size), L1_14 _ (hb.trans ((dofN W').mono hb.size)) _ (h1.next (dofN W')) _ (dofZ.new hb) _ (h3.next (dofN W')) (Nat.ne_of_lt h1.lt) n13 (Nat.ne_of_gt h3.lt)⟩
  have L1_12 : ∀ W', dofB W W' → ∀ g2, dofZ W W' g2 → ∀ g3, dofZ W W' g3 → g2 ≠ g3 → dofF W Q 9 (dofL true false false false false false true true) (dofA AG b0 b1 vi undef undef undef undef undef (dofP g2) (dofP g3)) W' := by
    intro W' hb g2 h2 g3 h3 n23
    refine held_three (i := 3) (j := 8) (l := 9) (by kernel_rfl) ?_ ?_ ?_
    · exact dof_c1 (H1 W' hb) rfl (fun Wn hbn => ⟨hb.trans (hbn.mono hb.size), L2_12 Wn (hb.trans (hbn.mono hb.size)) g2 (h2.next hbn) g3 (h3.next hbn) n23⟩)
    · exact dof_a0 ⟨hb.trans ((dofN W').mono hb.size), L1_13 _ (hb.trans ((dofN W').mono hb.size)) _ (dofZ.new hb) _ (h2.next (dofN W')) _ (h3.next (dofN W')) (Nat.ne_of_gt h2.lt) (Nat.ne_of_gt h3.lt) n23⟩
    · exact dof_a1 ⟨hb.trans ((dofN W').mono hb.size), L1_14 _ (hb.trans ((dofN W').mono hb.size)) _ (dofZ.new hb) _ (h2.next (dofN W')) _ (h3.next (dofN W')) (Nat.ne_of_gt h2.lt) (Nat.ne_of_gt h3.lt) n23⟩
  have L2_1 : ∀ W', dofB W W' → ∀ g0, dofZ W W' g0 → dofF W Q 9 (dofL true true false false true false false false) (dofA AG b0 b1 vi vj undef undef (dofP g0) undef undef undef) W' := by
    intro W' hb g0 h0
    refine held_four (i := 5) (j := 9) (l := 10) (m := 11) (by kernel_rfl) ?_ ?_ ?_ ?_
    · exact dof_c2 (H2 W' hb) rfl (fun Wn hbn => ⟨hb.trans (hbn.mono hb.size), L3_1 Wn (hb.trans (hbn.mono hb.size)) g0 (h0.next hbn)⟩)
    · exact dof_a1 ⟨hb.trans ((dofN W').mono hb.size), L2_3 _ (hb.trans ((dofN W').mono hb.size)) _ (h0.next (dofN W')) _ (dofZ.new hb) (Nat.ne_of_lt h0.lt)⟩
    · exact dof_a2 ⟨hb.trans ((dofN W').mono hb.size), L2_5 _ (hb.trans ((dofN W').mono hb.size)) _ (h0.next (dofN W')) _ (dofZ.new hb) (Nat.ne_of_lt h0.lt)⟩
    · exact dof_a3 ⟨hb.trans ((dofN W').mono hb.size), L2_9 _ (hb.trans ((dofN W').mono hb.size)) _ (h0.next (dofN W')) _ (dofZ.new hb) (Nat.ne_of_lt h0.lt)⟩
  have L2_2 : ∀ W', dofB W W' → ∀ g1, dofZ W W' g1 → dofF W Q 9 (dofL true true false false false true false false) (dofA AG b0 b1 vi vj undef undef undef (dofP g1) undef undef) W' := by
    intro W' hb g1 h1
    refine held_four (i := 5) (j := 8) (l := 10) (m := 11) (by kernel_rfl) ?_ ?_ ?_ ?_
    · exact dof_c2 (H2 W' hb) rfl (fun Wn hbn => ⟨hb.trans (hbn.mono hb.size), L3_2 Wn (hb.trans (hbn.mono hb.size)) g1 (h1.next hbn)⟩)
    · exact dof_a0 ⟨hb.trans ((dofN W').mono hb.size), L2_3 _ (hb.trans ((dofN W').mono hb.size)) _ (dofZ.new hb) _ (h1.next (dofN W')) (Nat.ne_of_gt h1.lt)⟩
    · exact dof_a2 ⟨hb.trans ((dofN W').mono hb.size), L2_6 _ (hb.trans ((dofN W').mono hb.size)) _ (h1.next (dofN W')) _ (dofZ.new hb) (Nat.ne_of_lt h1.lt)⟩
    · exact dof_a3 ⟨hb.trans ((dofN W').mono hb.size), L2_10 _ (hb.trans ((dofN W').mono hb.size)) _ (h1.next (dofN W')) _ (dofZ.new hb) (Nat.ne_of_lt h1.lt)⟩
  have L2_4 : ∀ W', dofB W W' → ∀ g2, dofZ W W' g2 → dofF W Q 9 (dofL true true false false false false true false) (dofA AG b0 b1 vi vj undef undef undef undef (dofP g2) undef) W' := by
    intro W' hb g2 h2
    refine held_four (i := 5) (j := 8) (l := 9) (m := 11) (by kernel_rfl) ?_ ?_ ?_ ?_
    · exact dof_c2 (H2 W' hb) rfl (fun Wn hbn => ⟨hb.trans (hbn.mono hb.size), L3_4 Wn (hb.trans (hbn.mono hb.size)) g2 (h2.next hbn)⟩)
    · exact dof_a0 ⟨hb.trans ((dofN W').mono hb.size), L2_5 _ (hb.trans ((dofN W').mono hb.size)) _ (dofZ.new hb) _ (h2.next (dofN W')) (Nat.ne_of_gt h2.lt)⟩
    · exact dof_a1 ⟨hb.trans ((dofN W').mono hb.size), L2_6 _ (hb.trans ((dofN W').mono hb.size)) _ (dofZ.new hb) _ (h2.next (dofN W')) (Nat.ne_of_gt h2.lt)⟩
    · exact dof_a3 ⟨hb.trans ((dofN W').mono hb.size), L2_12 _ (hb.trans ((dofN W').mono hb.size)) _ (h2.next (dofN W')) _ (dofZ.new hb) (Nat.ne_of_lt h2.lt)⟩
  have L2_8 : ∀ W', dofB W W' → ∀ g3, dofZ W W' g3 → dofF W Q 9 (dofL true true false false false false false true) (dofA AG b0 b1 vi vj undef undef undef undef undef (dofP g3)) W' := by
    intro W' hb g3 h3
    refine held_four (i := 5) (j := 8) (l := 9) (m := 10) (by kernel_rfl) ?_ ?_ ?_ ?_
    · exact dof_c2 (H2 W' hb) rfl (fun Wn hbn => ⟨hb.trans (hbn.mono hb.size), L3_8 Wn (hb.trans (hbn.mono hb.size)) g3 (h3.next hbn)⟩)
    · exact dof_a0 ⟨hb.trans ((dofN W').mono hb.size), L2_9 _ (hb.trans ((dofN W').mono hb.size)) _ (dofZ.new hb) _ (h3.next (dofN W')) (Nat.ne_of_gt h3.lt)⟩
    · exact dof_a1 ⟨hb.trans ((dofN W').mono hb.size), L2_10 _ (hb.trans ((dofN W').mono hb.size)) _ (dofZ.new hb) _ (h3.next (dofN W')) (Nat.ne_of_gt h3.lt)⟩
    · exact dof_a2 ⟨hb.trans ((dofN W').mono hb.size), L2_12 _ (hb.trans ((dofN W').mono hb.size)) _ (dofZ.new hb) _ (h3.next (dofN W')) (Nat.ne_of_gt h3.lt)⟩
  have L3_0 : ∀ W', dofB W W' → dofF W Q 9 (dofL true true true false false false false false) (dofA AG b0 b1 vi vj vk undef undef undef undef undef) W' := by
    intro W' hb
    refine held_five (i := 7) (j := 8) (l := 9) (m := 10) (n := 11) (by kernel_rfl) ?_ ?_ ?_ ?_ ?_
    · exact dof_c3 (H3 W' hb) rfl (fun Wn au cu hru hbn => ⟨hb.trans (hbn.mono hb.size), L4_0 Wn (hb.trans (hbn.mono hb.size)) au cu _ _ hru⟩)
    · exact dof_a0 ⟨hb.trans ((dofN W').mono hb.size), L3_1 _ (hb.trans ((dofN W').mono hb.size)) _ (dofZ.new hb)⟩
    · exact dof_a1 ⟨hb.trans ((dofN W').mono hb.size), L3_2 _ (hb.trans ((dofN W').mono hb.size)) _ (dofZ.new hb)⟩
    · exact dof_a2 ⟨hb.trans ((dofN W').mono hb.size), L3_4 _ (hb.trans ((dofN W').mono hb.size)) _ (dofZ.new hb)⟩
    · exact dof_a3 ⟨hb.trans ((dofN W').mono hb.size), L3_8 _ (hb.trans ((dofN W').mono hb.size)) _ (dofZ.new hb)⟩
  have L0_3 : ∀ W', dofB W W' → ∀ g0, dofZ W W' g0 → ∀ g1, dofZ W W' g1 → g0 ≠ g1 → dofF W Q 10 (dofL false false false false true true false false) (dofA AG b0 b1 undef undef undef undef (dofP g0) (dofP g1) undef undef) W' := by
    intro W' hb g0 h0 g1 h1 n01
    refine held_three (i := 1) (j := 10) (l := 11) (by kernel_rfl) ?_ ?_ ?_
    · exact dof_c0 (H0 W' hb) rfl (fun Wn hbn => ⟨hb.trans (hbn.mono hb.size), L1_3 Wn (hb.trans (hbn.mono hb.size)) g0 (h0.next hbn) g1 (h1.next hbn) n01⟩)
    · exact dof_a2 ⟨hb.trans ((dofN W').mono hb.size), L0_7 _ (hb.trans ((dofN W').mono hb.size)) _ (h0.next (dofN W')) _ (h1.next (dofN W')) _ (dofZ.new hb) n01 (Nat.ne_of_lt h0.lt) (Nat.ne_of_lt h1.lt)⟩
    · exact dof_a3 ⟨hb.trans ((dofN W').mono hb.size), L0_11 _ (hb.trans ((dofN W').mono hb.size)) _ (h0.next (dofN W')) _ (h1.next (dofN W')) _ (dofZ.new hb) n01 (Nat.ne_of_lt h0.lt) (Nat.ne_of_lt h1.lt)⟩
  have L0_5 : ∀ W', dofB W W' → ∀ g0, dofZ W W' g0 → ∀ g2, dofZ W W' g2 → g0 ≠ g2 → dofF W Q 10 (dofL false false false false true false true false) (dofA AG b0 b1 undef undef undef undef (dofP g0) undef (dofP g2) undef) W' := by
    intro W' hb g0 h0 g2 h2 n02
    refine held_three (i := 1) (j := 9) (l := 11) (by kernel_rfl) ?_ ?_ ?_
    · exact dof_c0 (H0 W' hb) rfl (fun Wn hbn => ⟨hb.trans (hbn.mono hb.size), L1_5 Wn (hb.trans (hbn.mono hb.size)) g0 (h0.next hbn) g2 (h2.next hbn) n02⟩)
    · exact dof_a1 ⟨hb.trans ((dofN W').mono hb.size), L0_7 _ (hb.trans ((dofN W').mono hb.size)) _ (h0.next (dofN W')) _ (dofZ.new hb) _ (h2.next (dofN W')) (Nat.ne_of_lt h0.lt) n02 (Nat.ne_of_gt h2.lt)⟩
    · exact dof_a3 ⟨hb.trans ((dofN W').mono hb.size), L0_13 _ (hb.trans ((dofN W').mono hb.size)) _ (h0.next (dofN W')) _ (h2.next (dofN W')) _ (dofZ.new hb) n02 (Nat.ne_of_lt h0.lt) (Nat.ne_of_lt h2.lt)⟩
  have L0_9 : ∀ W', dofB W W' → ∀ g0, dofZ W W' g0 → ∀ g3, dofZ W W' g3 → g0 ≠ g3 → dofF W Q 10 (dofL false false false false true false false true) (dofA AG b0 b1 undef undef undef undef (dofP g0) undef undef (dofP g3)) W' := by
    intro W' hb g0 h0 g3 h3 n03
    refine held_three (i := 1) (j := 9) (l := 10) (by kernel_rfl) ?_ ?_ ?_
    · exact dof_c0 (H0 W' hb) rfl (fun Wn hbn => ⟨hb.trans (hbn.mono hb.size), L1_9 Wn (hb.trans (hbn.mono hb.size)) g0 (h0.next hbn) g3 (h3.next hbn) n03⟩)
    · exact dof_a1 ⟨hb.trans ((dofN W').mono hb.size), L0_11 _ (hb.trans ((dofN W').mono hb.size)) _ (h0.next (dofN W')) _ (dofZ.new hb) _ (h3.next (dofN W')) (Nat.ne_of_lt h0.lt) n03 (Nat.ne_of_gt h3.lt)⟩
    · exact dof_a2 ⟨hb.trans ((dofN W').mono hb.size), L0_13 _ (hb.trans ((dofN W').mono hb.size)) _ (h0.next (dofN W')) _ (dofZ.new hb) _ (h3.next (dofN W')) (Nat.ne_of_lt h0.lt) n03 (Nat.ne_of_gt h3.lt)⟩
  have L0_6 : ∀ W', dofB W W' → ∀ g1, dofZ W W' g1 → ∀ g2, dofZ W W' g2 → g1 ≠ g2 → dofF W Q 10 (dofL false false false false false true true false) (dofA AG b0 b1 undef undef undef undef undef (dofP g1) (dofP g2) undef) W' := by
    intro W' hb g1 h1 g2 h2 n12
    refine held_three (i := 1) (j := 8) (l := 11) (by kernel_rfl) ?_ ?_ ?_
    · exact dof_c0 (H0 W' hb) rfl (fun Wn hbn => ⟨hb.trans (hbn.mono hb.size), L1_6 Wn (hb.trans (hbn.mono hb.size)) g1 (h1.next hbn) g2 (h2.next hbn) n12⟩)
    · exact dof_a0 ⟨hb.trans ((dofN W').mono hb.size), L0_7 _ (hb.trans ((dofN W').mono hb.size)) _ (dofZ.new hb) _ (h1.next (dofN W')) _ (h2.next (dofN W')) (Nat.ne_of_gt h1.lt) (Nat.ne_of_gt h2.lt) n12⟩
    · exact dof_a3 ⟨hb.trans ((dofN W').mono hb.size), L0_14 _ (hb.trans ((dofN W').mono hb.size)) _ (h1.next (dofN W')) _ (h2.next (dofN W')) _ (dofZ.new hb) n12 (Nat.ne_of_lt h1.lt) (Nat.ne_of_lt h2.lt)⟩
  have L0_10 : ∀ W', dofB W W' → ∀ g1, dofZ W W' g1 → ∀ g3, dofZ W W' g3 → g1 ≠ g3 → dofF W Q 10 (dofL false false false false false true false true) (dofA AG b0 b1 undef undef undef undef undef (dofP g1) undef (dofP g3)) W' := by
    intro W' hb g1 h1 g3 h3 n13
    refine held_three (i := 1) (j := 8) (l := 10) (by kernel_rfl) ?_ ?_ ?_
    · exact dof_c0 (H0 W' hb) rfl (fun Wn hbn => ⟨hb.trans (hbn.mono hb.size), L1_10 Wn (hb.trans (hbn.mono hb.size)) g1 (h1.next hbn) g3 (h3.next hbn) n13⟩)
    · exact dof_a0 ⟨hb.trans ((dofN W').mono hb.size), L0_11 _ (hb.trans ((dofN W').mono hb.size)) _ (dofZ.new hb) _ (h1.next (dofN W')) _ (h3.next (dofN W')) (Nat.ne_of_gt h1.lt) (Nat.ne_of_gt h3.lt) n13⟩
    · exact dof_a2 ⟨hb.trans ((dofN W').mono hb.size), L0_14 _ (hb.trans ((dofN W').mono hb.size)) _ (h1.next (dofN W')) _ (dofZ.new hb) _ (h3.next (dofN W')) (Nat.ne_of_lt h1.lt) n13 (Nat.ne_of_gt h3.lt)⟩
  have L0_12 : ∀ W', dofB W W' → ∀ g2, dofZ W W' g2 → ∀ g3, dofZ W W' g3 → g2 ≠ g3 → dofF W Q 10 (dofL false false false false false false true true) (dofA AG b0 b1 undef undef undef undef undef undef (dofP g2) (dofP g3)) W' := by
    intro W' hb g2 h2 g3 h3 n23
    refine held_three (i := 1) (j := 8) (l := 9) (by kernel_rfl) ?_ ?_ ?_
    · exact dof_c0 (H0 W' hb) rfl (fun Wn hbn => ⟨hb.trans (hbn.mono hb.size), L1_12 Wn (hb.trans (hbn.mono hb.size)) g2 (h2.next hbn) g3 (h3.next hbn) n23⟩)
    · exact dof_a0 ⟨hb.trans ((dofN W').mono hb.size), L0_13 _ (hb.trans ((dofN W').mono hb.size)) _ (dofZ.new hb) _ (h2.next (dofN W')) _ (h3.next (dofN W')) (Nat.ne_of_gt h2.lt) (Nat.ne_of_gt h3.lt) n23⟩
    · exact dof_a1 ⟨hb.trans ((dofN W').mono hb.size), L0_14 _ (hb.trans ((dofN W').mono hb.size)) _ (dofZ.new hb) _ (h2.next (dofN W')) _ (h3.next (dofN W')) (Nat.ne_of_gt h2.lt) (Nat.ne_of_gt h3.lt) n23⟩
  have L1_1 : ∀ W', dofB W W' → ∀ g0, dofZ W W' g0 → dofF W Q 10 (dofL true false false false true false false false) (dofA AG b0 b1 vi undef undef undef (dofP g0) undef undef undef) W' := by
    intro W' hb g0 h0
    refine held_four (i := 3) (j := 9) (l := 10) (m := 11) (by kernel_rfl) ?_ ?_ ?_ ?_
    · exact dof_c1 (H1 W' hb) rfl (fun Wn hbn => ⟨hb.trans (hbn.mono hb.size), L2_1 Wn (hb.trans (hbn.mono hb.size)) g0 (h0.next hbn)⟩)
    · exact dof_a1 ⟨hb.trans ((dofN W').mono hb.size), L1_3 _ (hb.trans ((dofN W').mono hb.size)) _ (h0.next (dofN W')) _ (dofZ.new hb) (Nat.ne_of_lt h0.lt)⟩
    · exact dof_a2 ⟨hb.trans ((dofN W').mono hb.size), L1_5 _ (hb.trans ((dofN W').mono hb.size)) _ (h0.next (dofN W')) _ (dofZ.new hb) (Nat.ne_of_lt h0.lt)⟩
    · exact dof_a3 ⟨hb.trans ((dofN W').mono hb.size), L1_9 _ (hb.trans ((dofN W').mono hb.size)) _ (h0.next (dofN W')) _ (dofZ.new hb) (Nat.ne_of_lt h0.lt)⟩
  have L1_2 : ∀ W', dofB W W' → ∀ g1, dofZ W W' g1 → dofF W Q 10 (dofL true false false false false true false false) (dofA AG b0 b1 vi undef undef undef undef (dofP g1) undef undef) W' := by
    intro W' hb g1 h1
    refine held_four (i := 3) (j := 8) (l := 10) (m := 11) (by kernel_rfl) ?_ ?_ ?_ ?_
    · exact dof_c1 (H1 W' hb) rfl (fun Wn hbn => ⟨hb.trans (hbn.mono hb.size), L2_2 Wn (hb.trans (hbn.mono hb.size)) g1 (h1.next hbn)⟩)
    · exact dof_a0 ⟨hb.trans ((dofN W').mono hb.size), L1_3 _ (hb.trans ((dofN W').mono hb.size)) _ (dofZ.new hb) _ (h1.next (dofN W')) (Nat.ne_of_gt h1.lt)⟩
    · exact dof_a2 ⟨hb.trans ((dofN W').mono hb.size), L1_6 _ (hb.trans ((dofN W').mono hb.size)) _ (h1.next (dofN W')) _ (dofZ.new hb) (Nat.ne_of_lt h1.lt)⟩
    · exact dof_a3 ⟨hb.trans ((dofN W').mono hb.size), L1_10 _ (hb.trans ((dofN W').mono hb.size)) _ (h1.next (dofN W')) _ (dofZ.new hb) (Nat.ne_of_lt h1.lt)⟩
  have L1_4 : ∀ W', dofB W W' → ∀ g2, dofZ W W' g2 → dofF W Q 10 (dofL true false false false false false true false) (dofA AG b0 b1 vi undef undef undef undef undef (dofP g2) undef) W' := by
    intro W' hb g2 h2
    refine held_four (i := 3) (j := 8) (l := 9) (m := 11) (by kernel_rfl) ?_ ?_ ?_ ?_
    · exact dof_c1 (H1 W' hb) rfl (fun Wn hbn => ⟨hb.trans (hbn.mono hb.size), L2_4 Wn (hb.trans (hbn.mono hb.size)) g2 (h2.next hbn)⟩)
    · exact dof_a0 ⟨hb.trans ((dofN W').mono hb.size), L1_5 _ (hb.trans ((dofN W').mono hb.size)) _ (dofZ.new hb) _ (h2.next (dofN W')) (Nat.ne_of_gt h2.lt)⟩
    · exact dof_a1 ⟨hb.trans ((dofN W').mono hb.size), L1_6 _ (hb.trans ((dofN W').mono hb.size)) _ (dofZ.new hb) _ (h2.next (dofN W')) (Nat.ne_of_gt h2.lt)⟩
    · exact dof_a3 ⟨hb.trans ((dofN W').mono hb.size), L1_12 _ (hb.trans ((dofN W').mono hb.size)) _ (h2.next (dofN W')) _ (dofZ.new hb) (Nat.ne_of_lt h2.lt)⟩
  have L1_8 : ∀ W', dofB W W' → ∀ g3, dofZ W W' g3 → dofF W Q 10 (dofL true false false false false false false true) (dofA AG b0 b1 vi undef undef undef undef undef undef (dofP g3)) W' := by
    intro W' hb g3 h3
    refine held_four (i := 3) (j := 8) (l := 9) (m := 10) (by kernel_rfl) ?_ ?_ ?_ ?_
    · exact dof_c1 (H1 W' hb) rfl (fun Wn hbn => ⟨hb.trans (hbn.mono hb.size), L2_8 Wn (hb.trans (hbn.mono hb.size)) g3 (h3.next hbn)⟩)
    · exact dof_a0 ⟨hb.trans ((dofN W').mono hb.size), L1_9 _ (hb.trans ((dofN W').mono hb.size)) _ (dofZ.new hb) _ (h3.next (dofN W')) (Nat.ne_of_gt h3.lt)⟩
    · exact dof_a1 ⟨hb.trans ((dofN W').mono hb.size), L1_10 _ (hb.trans ((dofN W').mono hb.size)) _ (dofZ.new hb) _ (h3.next (dofN W')) (Nat.ne_of_gt h3.lt)⟩
    · exact dof_a2 ⟨hb.trans ((dofN W').mono hb.size), L1_12 _ (hb.trans ((dofN W').mono hb.size)) _ (dofZ.new hb) _ (h3.next (dofN W')) (Nat.ne_of_gt h3.lt)⟩
  have L2_0 : ∀ W', dofB W W' → dofF W Q 10 (dofL true true false false false false false false) (dofA AG b0 b1 vi vj undef undef undef undef undef undef) W' := by
    intro W' hb
    refine held_five (i := 5) (j := 8) (l := 9) (m := 10) (n := 11) (by kernel_rfl) ?_ ?_ ?_ ?_ ?_
    · exact dof_c2 (H2 W' hb) rfl (fun Wn hbn => ⟨hb.trans (hbn.mono hb.size), L3_0 Wn (hb.trans (hbn.mono hb.size))⟩)
    · exact dof_a0 ⟨hb.trans ((dofN W').mono hb.size), L2_1 _ (hb.trans ((dofN W').mono hb.size)) _ (dofZ.new hb)⟩
    · exact dof_a1 ⟨hb.trans ((dofN W').mono hb.size), L2_2 _ (hb.trans ((dofN W').mono hb.size)) _ (dofZ.new hb)⟩
    · exact dof_a2 ⟨hb.trans ((dofN W').mono hb.size), L2_4 _ (hb.trans ((dofN W').mono hb.size)) _ (dofZ.new hb)⟩
    · exact dof_a3 ⟨hb.trans ((dofN W').mono hb.size), L2_8 _ (hb.trans ((dofN W').mono hb.size)) _ (dofZ.new hb)⟩
  have L0_1 : ∀ W', dofB W W' → ∀ g0, dofZ W W' g0 → dofF W Q 11 (dofL false false false false true false false false) (dofA AG b0 b1 undef undef undef undef (dofP g0) undef undef undef) W' := by
    intro W' hb g0 h0
    refine held_four (i := 1) (j := 9) (l := 10) (m := 11) (by kernel_rfl) ?_ ?_ ?_ ?_
    · exact dof_c0 (H0 W' hb) rfl (fun Wn hbn => ⟨hb.trans (hbn.mono hb.size), L1_1 Wn (hb.trans (hbn.mono hb.size)) g0 (h0.next hbn)⟩)
    · exact dof_a1 ⟨hb.trans ((dofN W').mono hb.size), L0_3 _ (hb.trans ((dofN W').mono hb.size)) _ (h0.next (dofN W')) _ (dofZ.new hb) (Nat.ne_of_lt h0.lt)⟩
    · exact dof_a2 ⟨hb.trans ((dofN W').mono hb.size), L0_5 _ (hb.trans ((dofN W').mono hb.size)) _ (h0.next (dofN W')) _ (dofZ.new hb) (Nat.ne_of_lt h0.lt)⟩
    · exact dof_a3 ⟨hb.trans ((dofN W').mono hb.size), L0_9 _ (hb.trans ((dofN W').mono hb.size)) _ (h0.next (dofN W')) _ (dofZ.new hb) (Nat.ne_of_lt h0.lt)⟩
  have L0_2 : ∀ W', dofB W W' → ∀ g1, dofZ W W' g1 → dofF W Q 11 (dofL false false false false false true false false) (dofA AG b0 b1 undef undef undef undef undef (dofP g1) undef undef) W' := by
    intro W' hb g1 h1
    refine held_four (i := 1) (j := 8) (l := 10) (m := 11) (by kernel_rfl) ?_ ?_ ?_ ?_
    · exact dof_c0 (H0 W' hb) rfl (fun Wn hbn => ⟨hb.trans (hbn.mono hb.size), L1_2 Wn (hb.trans (hbn.mono hb.size)) g1 (h1.next hbn)⟩)
    · exact dof_a0 ⟨hb.trans ((dofN W').mono hb.size), L0_3 _ (hb.trans ((dofN W').mono hb.size)) _ (dofZ.new hb) _ (h1.next (dofN W')) (Nat.ne_of_gt h1.lt)⟩
    · exact dof_a2 ⟨hb.trans ((dofN W').mono hb.size), L0_6 _ (hb.trans ((dofN W').mono hb.size)) _ (h1.next (dofN W')) _ (dofZ.new hb) (Nat.ne_of_lt h1.lt)⟩
    · exact dof_a3 ⟨hb.trans ((dofN W').mono hb.size), L0_10 _ (hb.trans ((dofN W').mono hb.size)) _ (h1.next (dofN W')) _ (dofZ.new hb) (Nat.ne_of_lt h1.lt)⟩
  have L0_4 : ∀ W', dofB W W' → ∀ g2, dofZ W W' g2 → dofF W Q 11 (dofL false false false false false false true false) (dofA AG b0 b1 undef undef undef undef undef undef (dofP g2) undef) W' := by
    intro W' hb g2 h2
    refine held_four (i := 1) (j := 8) (l := 9) (m := 11) (by kernel_rfl) ?_ ?_ ?_ ?_
    · exact dof_c0 (H0 W' hb) rfl (fun Wn hbn => ⟨hb.trans (hbn.mono hb.size), L1_4 Wn (hb.trans (hbn.mono hb.size)) g2 (h2.next hbn)⟩)
    · exact dof_a0 ⟨hb.trans ((dofN W').mono hb.size), L0_5 _ (hb.trans ((dofN W').mono hb.size)) _ (dofZ.new hb) _ (h2.next (dofN W')) (Nat.ne_of_gt h2.lt)⟩
    · exact dof_a1 ⟨hb.trans ((dofN W').mono hb.size), L0_6 _ (hb.trans ((dofN W').mono hb.size)) _ (dofZ.new hb) _ (h2.next (dofN W')) (Nat.ne_of_gt h2.lt)⟩
    · exact dof_a3 ⟨hb.trans ((dofN W').mono hb.size), L0_12 _ (hb.trans ((dofN W').mono hb.size)) _ (h2.next (dofN W')) _ (dofZ.new hb) (Nat.ne_of_lt h2.lt)⟩
  have L0_8 : ∀ W', dofB W W' → ∀ g3, dofZ W W' g3 → dofF W Q 11 (dofL false false false false false false false true) (dofA AG b0 b1 undef undef undef undef undef undef undef (dofP g3)) W' := by
    intro W' hb g3 h3
    refine held_four (i := 1) (j := 8) (l := 9) (m := 10) (by kernel_rfl) ?_ ?_ ?_ ?_
    · exact dof_c0 (H0 W' hb) rfl (fun Wn hbn => ⟨hb.trans (hbn.mono hb.size), L1_8 Wn (hb.trans (hbn.mono hb.size)) g3 (h3.next hbn)⟩)
    · exact dof_a0 ⟨hb.trans ((dofN W').mono hb.size), L0_9 _ (hb.trans ((dofN W').mono hb.size)) _ (dofZ.new hb) _ (h3.next (dofN W')) (Nat.ne_of_gt h3.lt)⟩
    · exact dof_a1 ⟨hb.trans ((dofN W').mono hb.size), L0_10 _ (hb.trans ((dofN W').mono hb.size)) _ (dofZ.new hb) _ (h3.next (dofN W')) (Nat.ne_of_gt h3.lt)⟩
    · exact dof_a2 ⟨hb.trans ((dofN W').mono hb.size), L0_12 _ (hb.trans ((dofN W').mono hb.size)) _ (dofZ.new hb) _ (h3.next (dofN W')) (Nat.ne_of_gt h3.lt)⟩
  have L1_0 : ∀ W', dofB W W' → dofF W Q 11 (dofL true false false false false false false false) (dofA AG b0 b1 vi undef undef undef undef undef undef undef) W' := by
    intro W' hb
    refine held_five (i := 3) (j := 8) (l := 9) (m := 10) (n := 11) (by kernel_rfl) ?_ ?_ ?_ ?_ ?_
    · exact dof_c1 (H1 W' hb) rfl (fun Wn hbn => ⟨hb.trans (hbn.mono hb.size), L2_0 Wn (hb.trans (hbn.mono hb.size))⟩)
    · exact dof_a0 ⟨hb.trans ((dofN W').mono hb.size), L1_1 _ (hb.trans ((dofN W').mono hb.size)) _ (dofZ.new hb)⟩
    · exact dof_a1 ⟨hb.trans ((dofN W').mono hb.size), L1_2 _ (hb.trans ((dofN W').mono hb.size)) _ (dofZ.new hb)⟩
    · exact dof_a2 ⟨hb.trans ((dofN W').mono hb.size), L1_4 _ (hb.trans ((dofN W').mono hb.size)) _ (dofZ.new hb)⟩
    · exact dof_a3 ⟨hb.trans ((dofN W').mono hb.size), L1_8 _ (hb.trans ((dofN W').mono hb.size)) _ (dofZ.new hb)⟩
  have L0_0 : ∀ W', dofB W W' → dofF W Q 12 (dofL false false false false false false false false) (dofA AG b0 b1 undef undef undef undef undef undef undef undef) W' := by
    intro W' hb
    refine held_five (i := 1) (j := 8) (l := 9) (m := 10) (n := 11) (by kernel_rfl) ?_ ?_ ?_ ?_ ?_
    · exact dof_c0 (H0 W' hb) rfl (fun Wn hbn => ⟨hb.trans (hbn.mono hb.size), L1_0 Wn (hb.trans (hbn.mono hb.size))⟩)
    · exact dof_a0 ⟨hb.trans ((dofN W').mono hb.size), L0_1 _ (hb.trans ((dofN W').mono hb.size)) _ (dofZ.new hb)⟩
    · exact dof_a1 ⟨hb.trans ((dofN W').mono hb.size), L0_2 _ (hb.trans ((dofN W').mono hb.size)) _ (dofZ.new hb)⟩
    · exact dof_a2 ⟨hb.trans ((dofN W').mono hb.size), L0_4 _ (hb.trans ((dofN W').mono hb.size)) _ (dofZ.new hb)⟩
    · exact dof_a3 ⟨hb.trans ((dofN W').mono hb.size), L0_8 _ (hb.trans ((dofN W').mono hb.size)) _ (dofZ.new hb)⟩
  exact L0_0 wd S0

set_option maxHeartbeats 25600000 in
set_option maxRecDepth 100000 in
theorem derivedOf_any (p : Int) (dn en : Nat) (iv jv kv : Value) (il jl kl : List (List Int)) (w : World) (h : Cp 0 w iv jv kv il jl kl) (hm : CpB 1048576 il jl kl) (hc : IsCp p dn en il jl kl) :
    Calls Tryd.prog 54 #[.agg #[.int .i64 p, .int .i64 (dn : Int), .int .i64 (en : Int), iv, jv, kv]] w (DvP p dn en il jl kl w) := by
  obtain ⟨⟨ai, ci, rfl⟩, ⟨aj, cj, rfl⟩, ⟨ak, ck, rfl⟩⟩ := h.shapes
  have hres : Tryd.f54.results = #[.cell 2 26] := by kernel_rfl
  have HRES := Lib.hid hres
  have HP := Lib.hid hc.1
  have HC := Lib.hid hc
  have HM := Lib.hid hm
  have hd24 := hc.d24.1
  have he24 := hc.d24.2
  have HLI := Lib.hid hc.li
  have HLJ := Lib.hid hc.lj
  have HLK := Lib.hid hc.lk
  have HLD := Lib.hid hc.ld
  have HRD := Lib.hid hc.rd
  obtain ⟨dt, hdt⟩ : ∃ dt, dt = cdT p en jl kl := ⟨_, rfl⟩
  have HDT := Lib.hid hdt
  rw [← hdt] at HLD HRD
  have HWI : Hid (∀ u ∈ il.map ofL, Lin.Wd dn u) := Lib.hid (fun u hu => by
    obtain ⟨r, hr, rfl⟩ := List.mem_map.1 hu
    exact ofL_wd (by have := (hc.2.2.2.1.2 r hr).1; omega))
  have HWD : Hid (∀ u ∈ dt.map ofL, Lin.Wd en u) := Lib.hid (fun u hu => by
    obtain ⟨r, hr, rfl⟩ := List.mem_map.1 hu
    exact ofL_wd (by have := (HRD.out r hr).1; omega))
  have HMI := Lib.hid hc.mi
  have HDC : Hid (∀ W', Cp 0 W' (.slice ai il.length ci) (.slice aj jl.length cj) (.slice ak kl.length ck) il jl kl → Calls Tryd.prog 69 #[.agg #[.int .i64 p, .int .i64 (dn : Int), .int .i64 (en : Int), .slice ai il.length ci, .slice aj jl.length cj, .slice ak kl.length ck]] W' (DifR p en dt W')) := Lib.hid (fun W' h => by rw [hdt]; exact differential_any p dn en _ _ _ il jl kl W' h hm hc)
  have HH := Lib.hid h
  clear h hm hc hres hdt
  go_enter Tryd.func54, Tryd.ntmps54
  go_upto_region 1 with fail
  refine forget_wp (fun W => DvB w W p dn en (.slice ai il.length ci) (.slice aj jl.length cj) (.slice ak kl.length ck) il jl kl) (DvB.start HH.out _ _ _ _ _ _) ?_
  intro W hxx
  have HXW := Lib.hid hxx
  clear hxx HH
  have HNX : Hid (∀ W', Below W.heap.size W W' → BxCp w W' w.heap.size p dn en (.slice ai il.length ci) (.slice aj jl.length cj) (.slice ak kl.length ck) il jl kl) := Lib.hid (fun W' h => (HXW.out.next h).box)
  refine wp_region_held (S := fun W' => Below W.heap.size W W') (by kernel_rfl) ?_
  have S0 : Below W.heap.size W W.drew := (Below.refl _ _).drew
  change wpAnyH _ _ _ _ _ _ _ _ W.drew
  generalize W.drew = wd at *
  refine held_take (i := 0) (v := .agg #[.int .i64 p, .int .i64 (dn : Int), .int .i64 (en : Int), .slice ai il.length ci, .slice aj jl.length cj, .slice ak kl.length ck]) (some 15) rfl rfl (by kernel_rfl) (by kernel_rfl) (by kernel_rfl) (fun _ _ _ h => h) (yieldsIf_cell (by kernel_rfl) rfl (by kernel_rfl) (fun W' h => by have hb := HNX.out W' h; exact hload6 W' hb.c0 hb.c1 hb.c2 hb.c3 hb.c4 hb.c5)) S0 ?_
  refine held_take (i := 2) (v := .agg #[.int .i64 p, .int .i64 (dn : Int), .int .i64 (en : Int), .slice ai il.length ci, .slice aj jl.length cj, .slice ak kl.length ck]) (some 17) rfl rfl (by kernel_rfl) (by kernel_rfl) (by kernel_rfl) (fun _ _ _ h => h) (yieldsIf_cell (by kernel_rfl) rfl (by kernel_rfl) (fun W' h => by have hb := HNX.out W' h; exact hload6 W' hb.c0 hb.c1 hb.c2 hb.c3 hb.c4 hb.c5)) S0 ?_
  refine held_take (i := 4) (v := .agg #[.int .i64 p, .int .i64 (dn : Int), .int .i64 (en : Int), .slice ai il.length ci, .slice aj jl.length cj, .slice ak kl.length ck]) (some 19) rfl rfl (by kernel_rfl) (by kernel_rfl) (by kernel_rfl) (fun _ _ _ h => h) (yieldsIf_cell (by kernel_rfl) rfl (by kernel_rfl) (fun W' h => by have hb := HNX.out W' h; exact hload6 W' hb.c0 hb.c1 hb.c2 hb.c3 hb.c4 hb.c5)) S0 ?_
  refine held_take (i := 6) (v := .agg #[.int .i64 p, .int .i64 (dn : Int), .int .i64 (en : Int), .slice ai il.length ci, .slice aj jl.length cj, .slice ak kl.length ck]) (some 21) rfl rfl (by kernel_rfl) (by kernel_rfl) (by kernel_rfl) (fun _ _ _ h => h) (yieldsIf_cell (by kernel_rfl) rfl (by kernel_rfl) (fun W' h => by have hb := HNX.out W' h; exact hload6 W' hb.c0 hb.c1 hb.c2 hb.c3 hb.c4 hb.c5)) S0 ?_
  refine dof_orders (.agg #[.int .i64 p, .int .i64 (dn : Int), .int .i64 (en : Int), .slice ai il.length ci, .slice aj jl.length cj, .slice ak kl.length ck]) _ _ (.agg #[.int .i64 p, .int .i64 (dn : Int), .int .i64 (dn : Int), .slice ai il.length ci]) (.agg #[.int .i64 p, .int .i64 (dn : Int), .int .i64 (en : Int), .slice aj jl.length cj]) (.agg #[.int .i64 p, .int .i64 (en : Int), .int .i64 (dn : Int), .slice ak kl.length ck]) (fun au cu => .agg #[.int .i64 p, .int .i64 (en : Int), .int .i64 (en : Int), .slice au dt.length cu]) dt W wd (fun W' hb => mapI_any p dn en _ _ _ il jl kl W' (HNX.out W' hb).cx) (fun W' hb => mapJ_any p dn en _ _ _ il jl kl W' (HNX.out W' hb).cx) (fun W' hb => mapK_any p dn en _ _ _ il jl kl W' (HNX.out W' hb).cx) (fun W' hb => (HDC.out W' (HNX.out W' hb).cx).mono fun e Wn h => ?_) S0 ?_
  · obtain ⟨u, rfl, hru, hbn⟩ := h
    obtain ⟨au, cu, rfl⟩ := hru.shape
    exact ⟨au, cu, rfl, ⟨hru, Nat.le_refl _⟩, hbn⟩
  intro W' hb au cu lo hi hu0 g0 z0 o0 g1 z1 o1 g2 z2 o2 g3 z3 o3 n01 n02 n03 n12 n13 n23
  obtain ⟨hu, hhi⟩ := hu0
  obtain ⟨h0, b0⟩ := z0
  obtain ⟨h1, b1⟩ := z1
  obtain ⟨h2, b2⟩ := z2
  obtain ⟨h3, b3⟩ := z3
  refine held_one (i := 12) (by kernel_rfl) ?_
  refine op_row (i := 12) rfl rfl rfl 53 (.tmp 3) (.tmp 16) rfl g0 #[.int .i64 p, .int .i64 (dn : Int), .int .i64 (dn : Int), .slice ai il.length ci] (by kernel_rfl) (by kernel_rfl) 53 _ h0 (by kernel_rfl) (by kernel_rfl) (by kernel_rfl) ?_
  have s0 := below_setRow hb b0 #[.int .i64 p, .int .i64 (dn : Int), .int .i64 (dn : Int), .slice ai il.length ci]
  refine ⟨s0, ?_⟩
  have k00 := h0.set #[.int .i64 p, .int .i64 (dn : Int), .int .i64 (dn : Int), .slice ai il.length ci]
  have k01 := h1.off (Ne.symm n01) #[.int .i64 p, .int .i64 (dn : Int), .int .i64 (dn : Int), .slice ai il.length ci]
  have k02 := h2.off (Ne.symm n02) #[.int .i64 p, .int .i64 (dn : Int), .int .i64 (dn : Int), .slice ai il.length ci]
  have k03 := h3.off (Ne.symm n03) #[.int .i64 p, .int .i64 (dn : Int), .int .i64 (dn : Int), .slice ai il.length ci]
  refine held_one (i := 13) (by kernel_rfl) ?_
  refine op_row (i := 13) rfl rfl rfl 53 (.tmp 4) (.tmp 18) rfl g1 #[.int .i64 p, .int .i64 (dn : Int), .int .i64 (en : Int), .slice aj jl.length cj] (by kernel_rfl) (by kernel_rfl) 53 _ k01 (by kernel_rfl) (by kernel_rfl) (by kernel_rfl) ?_
  have s1 := below_setRow s0 b1 #[.int .i64 p, .int .i64 (dn : Int), .int .i64 (en : Int), .slice aj jl.length cj]
  refine ⟨s1, ?_⟩
  have k10 := k00.off n01 #[.int .i64 p, .int .i64 (dn : Int), .int .i64 (en : Int), .slice aj jl.length cj]
  have k11 := k01.set #[.int .i64 p, .int .i64 (dn : Int), .int .i64 (en : Int), .slice aj jl.length cj]
  have k12 := k02.off (Ne.symm n12) #[.int .i64 p, .int .i64 (dn : Int), .int .i64 (en : Int), .slice aj jl.length cj]
  have k13 := k03.off (Ne.symm n13) #[.int .i64 p, .int .i64 (dn : Int), .int .i64 (en : Int), .slice aj jl.length cj]
  refine held_one (i := 14) (by kernel_rfl) ?_
  refine op_row (i := 14) rfl rfl rfl 53 (.tmp 5) (.tmp 20) rfl g2 #[.int .i64 p, .int .i64 (en : Int), .int .i64 (dn : Int), .slice ak kl.length ck] (by kernel_rfl) (by kernel_rfl) 53 _ k12 (by kernel_rfl) (by kernel_rfl) (by kernel_rfl) ?_
  have s2 := below_setRow s1 b2 #[.int .i64 p, .int .i64 (en : Int), .int .i64 (dn : Int), .slice ak kl.length ck]
  refine ⟨s2, ?_⟩
  have k20 := k10.off n02 #[.int .i64 p, .int .i64 (en : Int), .int .i64 (dn : Int), .slice ak kl.length ck]
  have k21 := k11.off n12 #[.int .i64 p, .int .i64 (en : Int), .int .i64 (dn : Int), .slice ak kl.length ck]
  have k22 := k12.set #[.int .i64 p, .int .i64 (en : Int), .int .i64 (dn : Int), .slice ak kl.length ck]
  have k23 := k13.off (Ne.symm n23) #[.int .i64 p, .int .i64 (en : Int), .int .i64 (dn : Int), .slice ak kl.length ck]
  refine held_one (i := 15) (by kernel_rfl) ?_
  refine op_row (i := 15) rfl rfl rfl 53 (.tmp 6) (.tmp 22) rfl g3 #[.int .i64 p, .int .i64 (en : Int), .int .i64 (en : Int), .slice au dt.length cu] (by kernel_rfl) (by kernel_rfl) 53 _ k23 (by kernel_rfl) (by kernel_rfl) (by kernel_rfl) ?_
  have s3 := below_setRow s2 b3 #[.int .i64 p, .int .i64 (en : Int), .int .i64 (en : Int), .slice au dt.length cu]
  refine ⟨s3, ?_⟩
  have k30 := k20.off n03 #[.int .i64 p, .int .i64 (en : Int), .int .i64 (en : Int), .slice au dt.length cu]
  have k31 := k21.off n13 #[.int .i64 p, .int .i64 (en : Int), .int .i64 (en : Int), .slice au dt.length cu]
  have k32 := k22.off n23 #[.int .i64 p, .int .i64 (en : Int), .int .i64 (en : Int), .slice au dt.length cu]
  have k33 := k23.set #[.int .i64 p, .int .i64 (en : Int), .int .i64 (en : Int), .slice au dt.length cu]
  refine wpAnyH_done (by kernel_rfl) ?_ _
  simp only [dofA, dofP, Act.put, List.setIfInBounds_toArray, List.set_cons_zero, List.set_cons_succ]
  have hdo : DoB w ((((W'.setRow g0 #[.int .i64 p, .int .i64 (dn : Int), .int .i64 (dn : Int), .slice ai il.length ci]).setRow g1 #[.int .i64 p, .int .i64 (dn : Int), .int .i64 (en : Int), .slice aj jl.length cj]).setRow g2 #[.int .i64 p, .int .i64 (en : Int), .int .i64 (dn : Int), .slice ak kl.length ck]).setRow g3 #[.int .i64 p, .int .i64 (en : Int), .int .i64 (en : Int), .slice au dt.length cu]) p dn en (.slice ai il.length ci) (.slice aj jl.length cj) (.slice ak kl.length ck) (.slice au dt.length cu) il jl kl dt g0 g1 g2 g3 := ⟨HXW.out.next s3, k30, k31, k32, k33, ((((hu.same (Same.setRow _ o0)).same (Same.setRow _ o1)).same (Same.setRow _ o2)).same (Same.setRow _ o3)).l⟩
  have HDO0 := Lib.hid hdo
  clear hdo hu o0 o1 o2 o3 h0 h1 h2 h3 b0 b1 b2 b3 n01 n02 n03 n12 n13 n23 s0 s1 s2 s3 k00 k01 k02 k03 k10 k11 k12 k13 k20 k21 k22 k23 k30 k31 k32 k33 hb hhi
  clear HNX HXW S0 HDC
  go_upto_region 2 with fail
  refine forget_wp (fun W => DoB w W p dn en (.slice ai il.length ci) (.slice aj jl.length cj) (.slice ak kl.length ck) (.slice au dt.length cu) il jl kl dt g0 g1 g2 g3) HDO0.out ?_
  intro WB hdo
  have HDO := Lib.hid hdo
  clear hdo HDO0
  have HNO : Hid (∀ W', Below WB.heap.size WB W' → DoB w W' p dn en (.slice ai il.length ci) (.slice aj jl.length cj) (.slice ak kl.length ck) (.slice au dt.length cu) il jl kl dt g0 g1 g2 g3) := Lib.hid (fun W' h => HDO.out.next h)
  refine wp_region_held (S := fun W' => Below WB.heap.size WB W') (by kernel_rfl) ?_
  have S0 : Below WB.heap.size WB WB.drew := (Below.refl _ _).drew
  change wpAnyH _ _ _ _ _ _ _ _ WB.drew
  generalize WB.drew = wd at *
  refine held_take (i := 0) (v := .agg #[.int .i64 p, .int .i64 (dn : Int), .int .i64 (dn : Int), .slice ai il.length ci]) (some 23) rfl rfl (by kernel_rfl) (by kernel_rfl) (by kernel_rfl) (fun _ _ _ h => h) (yieldsIf_cell (by kernel_rfl) rfl (by kernel_rfl) (fun W' h => hloadLn W' (HNO.out W' h).ri)) S0 ?_
  refine held_take (i := 2) (v := .agg #[.int .i64 p, .int .i64 (en : Int), .int .i64 (en : Int), .slice au dt.length cu]) (some 25) rfl rfl (by kernel_rfl) (by kernel_rfl) (by kernel_rfl) (fun _ _ _ h => h) (yieldsIf_cell (by kernel_rfl) rfl (by kernel_rfl) (fun W' h => hloadLn W' (HNO.out W' h).rd)) S0 ?_
  refine held_enter (i := 1) (some 24) (f := 55) (args := #[.agg #[.int .i64 p, .int .i64 (dn : Int), .int .i64 (dn : Int), .slice ai il.length ci]]) (by kernel_rfl) rfl rfl rfl (by kernel_rfl) (images_any p dn dn _ il dn wd HP.out (HNO.out wd S0).box.box.cx.fi (by omega) HC.out.2.2.2.1.2 (by rw [HLI.out]; omega)) ?_ (fun c w' h => by obtain ⟨_, _, h, _⟩ := h; cases h) (fun w' h => by obtain ⟨_, _, h, _⟩ := h; cases h)
  rintro e1 W1 ⟨s1, R, he1, hb1, ho1, hr1, hn1⟩
  injection he1 with he1
  subst he1
  have S1 : Below WB.heap.size WB W1 := S0.trans (hb1.mono S0.size)
  obtain ⟨aR, cR, rfl⟩ := Vs.shape ho1.vs
  have HVR := Lib.hid (ho1.vs.lower (Nat.zero_le _))
  have HRR := Lib.hid hr1
  have hR24 : R.length ≤ 24 := by rw [List.length_map, HLI.out] at hn1; omega
  refine ⟨S1, ?_⟩
  refine held_enter (i := 3) (some 26) (f := 55) (args := #[.agg #[.int .i64 p, .int .i64 (en : Int), .int .i64 (en : Int), .slice au dt.length cu]]) (by kernel_rfl) rfl rfl rfl (by kernel_rfl) (images_any p en en _ dt en W1 HP.out (HNO.out W1 S1).d (by omega) HRD.out (by rw [HLD.out]; omega)) ?_ (fun c w' h => by obtain ⟨_, _, h, _⟩ := h; cases h) (fun w' h => by obtain ⟨_, _, h, _⟩ := h; cases h)
  rintro e2 W2 ⟨s2, B, he2, hb2, ho2, hr2, hn2⟩
  injection he2 with he2
  subst he2
  have S2 : Below WB.heap.size WB W2 := S1.trans (hb2.mono S1.size)
  obtain ⟨aB, cB, rfl⟩ := Vs.shape ho2.vs
  have HVB := Lib.hid (ho2.vs.lower (Nat.zero_le _))
  have HVR2 := Lib.hid (HVR.out.below hb2)
  have HBR := Lib.hid hr2
  have hB24 : B.length ≤ 24 := by rw [List.length_map, HLD.out] at hn2; omega
  refine ⟨S2, ?_⟩
  refine held_take (i := 4) (v := .slice aR R.length cR) (some 7) rfl rfl (by kernel_rfl) (by kernel_rfl) (by kernel_rfl) (fun _ _ _ h => h) (yieldsIf_assign (by kernel_rfl) rfl (by kernel_rfl)) S2 ?_
  refine held_take (i := 5) (v := .slice aB B.length cB) (some 8) rfl rfl (by kernel_rfl) (by kernel_rfl) (by kernel_rfl) (fun _ _ _ h => h) (yieldsIf_assign (by kernel_rfl) rfl (by kernel_rfl)) S2 ?_
  refine wpAnyH_done (by kernel_rfl) ?_ _
  simp only [Act.put, List.setIfInBounds_toArray, List.set_cons_zero, List.set_cons_succ]
  have HS2 := Lib.hid S2
  clear S0 S1 S2 hb1 hb2 ho1 ho2 hr1 hr2 hn1 hn2 HVR
  have HBW : Hid (∀ u ∈ B, Lin.Wd en u) := Lib.hid (fun u hu => Lin.Sp.wd HWD.out ((HBR.out.eqv u).1 (Lin.Sp.mem hu (HBR.out.red.md u hu))))
  have HRW : Hid (∀ u ∈ R, Lin.Wd dn u) := Lib.hid (fun u hu => Lin.Sp.wd HWI.out ((HRR.out.eqv u).1 (Lin.Sp.mem hu (HRR.out.red.md u hu))))
  go_upto_region 3 with fail
  refine wp_region_held (S := fun W' => Below WB.heap.size WB W') (by kernel_rfl) ?_
  have S0 : Below WB.heap.size WB W2.drew := HS2.out.drew
  have hbd : Below W2.heap.size W2 W2.drew := (Below.refl _ _).drew
  have HVB3 := Lib.hid (HVB.out.below hbd)
  have HVR3 := Lib.hid (HVR2.out.below hbd)
  change wpAnyH _ _ _ _ _ _ _ _ W2.drew
  clear HVB HVR2 hbd HS2
  generalize W2.drew = we at *
  refine held_take (i := 0) (v := .pointer (some ⟨w.heap.size, 0, none⟩)) (some 27) rfl rfl (by kernel_rfl) (by kernel_rfl) (by kernel_rfl) (fun _ _ _ h => h) (yieldsIf_run (by kernel_rfl) (fun W _ => by kernel_rfl)) S0 ?_
  refine held_take (i := 1) (v := .int .i64 p) (some 28) rfl rfl (by kernel_rfl) (by kernel_rfl) (by kernel_rfl) (fun _ _ _ h => h) (yieldsIf_cell (by kernel_rfl) rfl (by kernel_rfl) (fun W' h => hload W' (HNO.out W' h).box.box.c0)) S0 ?_
  refine held_take (i := 2) (v := .agg #[.int .i64 p, .int .i64 (en : Int), .int .i64 (en : Int), .slice au dt.length cu]) (some 29) rfl rfl (by kernel_rfl) (by kernel_rfl) (by kernel_rfl) (fun _ _ _ h => h) (yieldsIf_cell (by kernel_rfl) rfl (by kernel_rfl) (fun W' h => hloadLn W' (HNO.out W' h).rd)) S0 ?_
  refine held_take (i := 4) (v := .slice aB B.length cB) (some 31) rfl rfl (by kernel_rfl) (by kernel_rfl) (by kernel_rfl) (fun _ _ _ h => h) (yieldsIf_move (by kernel_rfl) rfl (by kernel_rfl)) S0 ?_
  refine held_enter (i := 3) (some 30) (f := 68) (args := #[.agg #[.int .i64 p, .int .i64 (en : Int), .int .i64 (en : Int), .slice au dt.length cu]]) (by kernel_rfl) rfl rfl rfl (by kernel_rfl) (kernel_any p en en en _ dt we HP.out (HNO.out we S0).d HLD.out HRD.out (by omega) (by omega)) ?_ (fun c w' h => by obtain ⟨_, _, h, _⟩ := h; cases h) (fun w' h => by obtain ⟨_, _, h, _⟩ := h; cases h)
  rintro e3 W3 ⟨s3, Y, he3, hb3, ho3, hr3⟩
  injection he3 with he3
  subst he3
  have S3 : Below WB.heap.size WB W3 := S0.trans (hb3.mono S0.size)
  obtain ⟨aY, cY, rfl⟩ := Vs.shape ho3.vs
  have HVY := Lib.hid (ho3.vs.lower (Nat.zero_le _))
  have HVB4 := Lib.hid (HVB3.out.below hb3)
  have HVR4 := Lib.hid (HVR3.out.below hb3)
  have HYS := Lib.hid hr3
  have hY24 : Y.length ≤ 24 := by have := hr3.short; omega
  refine ⟨S3, ?_⟩
  refine held_enter (i := 5) (some 32) (f := 70) (args := #[.int .i64 p, .slice aY Y.length cY, .slice aB B.length cB]) (by kernel_rfl) rfl rfl rfl (by kernel_rfl) (spaceOfRests_any p en _ _ Y B W3 HP.out (by omega) HVY.out HVB4.out HYS.out.1.md HYS.out.2.1 HBR.out.red HBW.out (by omega) (by omega)) ?_ (fun c w' h => by obtain ⟨_, _, h, _⟩ := h; cases h) (fun w' h => by obtain ⟨_, _, h, _⟩ := h; cases h)
  rintro e4 W4 ⟨s4, C, he4, hb4, ho4, tt, hrt, hrl, hrc⟩
  injection he4 with he4
  subst he4
  have S4 : Below WB.heap.size WB W4 := S3.trans (hb4.mono S3.size)
  obtain ⟨aC, cC, rfl⟩ := Vs.shape ho4.vs
  have HVC := Lib.hid (ho4.vs.lower (Nat.zero_le _))
  have HVB5 := Lib.hid (HVB4.out.below hb4)
  have HVR5 := Lib.hid (HVR4.out.below hb4)
  have HRT := Lib.hid hrt
  have HRL := Lib.hid hrl
  have HCR := Lib.hid hrc
  have HCW : Hid (∀ u ∈ C, Lin.Wd en u) := Lib.hid (fun u hu => Lin.Sp.wd hrt.wd ((hrc.eqv u).1 (Lin.Sp.mem hu (hrc.red.md u hu))))
  have hC24 : C.length ≤ 24 := by have := red_length hrc.red HCW.out; omega
  refine ⟨S4, ?_⟩
  refine held_take (i := 6) (v := .slice aC C.length cC) (some 9) rfl rfl (by kernel_rfl) (by kernel_rfl) (by kernel_rfl) (fun _ _ _ h => h) (yieldsIf_assign (by kernel_rfl) rfl (by kernel_rfl)) S4 ?_
  refine wpAnyH_done (by kernel_rfl) ?_ _
  simp only [Act.put, List.setIfInBounds_toArray, List.set_cons_zero, List.set_cons_succ]
  have HX4 := Lib.hid (HNO.out W4 S4)
  clear S0 S3 S4 hb3 hb4 ho3 ho4 hr3 hrt hrl hrc HVB3 HVR3 HVB4 HVR4 HVY HNO HDO
  have k0 := HX4.out.box.box.c0
  go_upto_region 5 with fail
  refine forget_wp (fun W => Hid (Tq W4.heap.size W W4.heap.size p R.length C.length (tq3 (.slice none 0 0) (.slice none 0 0) (.slice none 0 0)) (tq3 [] [] []) (tq3 [] [] []) ∧ Below W4.heap.size W4 W)) (Lib.hid ⟨Tq.start (heap_alloc_new W4 _) (Nat.le_refl _), below_alloc1 _ _⟩) ?_
  intro WA hta
  have HTR := Lib.hid hta.out.1
  have HBA := Lib.hid hta.out.2
  clear hta k0
  have HNZ : Hid (∀ W', Below W4.heap.size W4 W' → DoB w W' p dn en (.slice ai il.length ci) (.slice aj jl.length cj) (.slice ak kl.length ck) (.slice au dt.length cu) il jl kl dt g0 g1 g2 g3) := Lib.hid (fun W' h => HX4.out.next h)
  have HNR : Hid (∀ W', Below W4.heap.size W4 W' → Vs 0 W' (.slice aR R.length cR) R) := Lib.hid (fun W' h => HVR5.out.below h)
  have HNB : Hid (∀ W', Below W4.heap.size W4 W' → Vs 0 W' (.slice aB B.length cB) B) := Lib.hid (fun W' h => HVB5.out.below h)
  have HNC : Hid (∀ W', Below W4.heap.size W4 W' → Vs 0 W' (.slice aC C.length cC) C) := Lib.hid (fun W' h => HVC.out.below h)
  have HSP : Hid (∀ k (h : k < R.length), ∃ s, (Lin.Md p s ∧ Lin.Wd dn s) ∧ dimg p dn il s = R[k]) := Lib.hid (fun k h => (sp_pre HP.out.lo1 HLI.out HMI.out).1 ((HRR.out.eqv _).1 (Lin.Sp.mem (List.getElem_mem h) (HRR.out.red.md _ (List.getElem_mem h)))))
  have HW40 : Hid (∀ u, Lin.Wd dn u → Lin.Wd 40 u) := Lib.hid (fun u hu i hi => hu i (by omega))
  have HE40 : Hid (∀ u, Lin.Wd en u → Lin.Wd 40 u) := Lib.hid (fun u hu i hi => hu i (by omega))
  have HVN : Hid (∀ W' : World, Vs 0 W' (.slice none 0 0) []) := Lib.hid (fun W' => Or.inl ⟨rfl, none, 0, rfl⟩)
  clear HX4 HVR5 HVB5 HVC
  go_wp2
  go_loopw [42] (fun i wr => ∃ (k : Nat) (iv jv : Value) (rs : List Lin.V) (I : Nat → List Iv), k ≤ R.length ∧ i = .int .i64 k ∧ rs.length = k ∧ Hid (Below W4.heap.size W4 wr) ∧ Hid (Tq W4.heap.size wr W4.heap.size p R.length C.length (tq3 iv jv (.slice none 0 0)) (tq3 ((dcI p dn il R R).take k) (rs.map (leadRow C)) []) I) ∧ Hid (∀ q (h : q < R.length) (h' : q < rs.length), ∃ s, Lin.Md p s ∧ Lin.Wd dn s ∧ dimg p dn il s = R[q] ∧ Lin.RestE p B (dimg p dn jl s) B.length rs[q])) (fun i _ => R.length - (intOf i).toNat)
  case atStart => exact ⟨0, _, _, [], _, Nat.zero_le _, rfl, rfl, HBA, HTR, Lib.hid (fun q _ h => absurd h (Nat.not_lt_zero _))⟩
  case round =>
    clear HTR HBA
    obtain ⟨k, iv, jv, rs, I, hk, rfl, hrl, HB, HTR, HRS⟩ := hrel
    obtain ⟨wx, hwx⟩ : ∃ wx : World, wx = wr := ⟨_, rfl⟩
    subst hwx
    have hsx : W4.heap.size < wx.heap.size := HTR.out.lt
    by_cases hlt : k < R.length
    · refine Vs.cases (HNR.out wx HB.out) (fun _ _ hx _ => absurd hlt (by rw [hx]; simp)) (fun b o cap2 hv _ _ hcl => ?_)
      obtain ⟨rfl, rfl⟩ : aR = some ⟨b, o, none⟩ ∧ cR = cap2 := by simpa using hv
      obtain ⟨u, hu⟩ : ∃ u, u = R[k] := ⟨_, rfl⟩
      have HVT : Hid (At wx b (o + k * 40) u) := Lib.hid (by rw [hu]; exact hcl k hlt)
      have HI2T := Lib.hid (Tryd.infoVl u)
      have HIT : Hid ((Tryd.prog.info? 82).map (·.size) = some (vl u).toArray.size) := Lib.hid (by have := HI2T.out; simpa using this)
      have HUM : Hid (Lin.Md p u) := Lib.hid (by rw [hu]; exact HRR.out.red.md _ (List.getElem_mem hlt))
      have HUW : Hid (Lin.Wd dn u) := Lib.hid (by rw [hu]; exact HRW.out _ (List.getElem_mem hlt))
      have HUE := Lib.hid hu
      have hkl : (k : Int) < (R.length : Int) := by omega
      clear hv hcl hu
      go_upto_region 8 with (first | (with_reducible refine wpList_load_mid rfl 82 (.tmp 44) rfl b (o + k * 40) rfl (vl u) _ HVT.out.range Tryd.underlyingV rfl HI2T.out ?_) | (with_reducible refine wpList_allocV rfl (some 12) rfl rfl ?_; intro W7 hn7; have HN7 := Lib.hid hn7; have HT7 : Hid (W7.there wx.heap.size 0 (vl u).toArray.size) := (Lib.hid (by have := hn7.there; simpa [vl_length] using this)); clear hn7) | (with_reducible refine wpList_store_mid rfl 82 (.tmp 12) (.tmp 45) rfl wx.heap.size 0 (vl u).toArray rfl rfl HT7.out HIT.out (vl_all _) ?_))
      refine forget_wp (fun W => Hid (At W wx.heap.size 0 u ∧ Below wx.heap.size wx W)) (Lib.hid ?_) ?_
      · have hp2 := HN7.out.put u
        exact ⟨hp2.2.1, hp2.1⟩
      intro W8 HS8
      clear HN7 HT7 HVT HIT
      have HB8 := Lib.hid (HB.out.trans (HS8.out.2.mono (Nat.le_of_lt hsx)))
      have HA8 := Lib.hid HS8.out.1
      have HT8 := Lib.hid (HTR.out.next HS8.out.2)
      have HOB : Hid (∀ q, q < 3 → ∀ g, (tq3 iv jv (.slice none 0 0) q).ownBlock = some g → g ≠ wx.heap.size) := Lib.hid (fun q hq g hg => by
        obtain ⟨vq, hvq⟩ := HTR.out.own hq
        have := owns_lt hvq hg
        omega)
      have hs8 : wx.heap.size < W8.heap.size := HS8.out.1.lt
      clear HS8 HTR HB
      have hcv : W8.cell? ⟨W4.heap.size, 3, none⟩ = some iv := HT8.out.cell rfl
      refine wp_region_last (fun W' => Below W4.heap.size W4 W' ∧ W'.cell? ⟨W4.heap.size, 3, none⟩ = some iv ∧ At W' wx.heap.size 0 u) 12 (by kernel_rfl) rfl (by kernel_rfl) ?_
      have hbd : Below W8.heap.size W8 W8.drew := (Below.refl _ _).drew
      have S0 : Below W4.heap.size W4 W8.drew ∧ W8.drew.cell? ⟨W4.heap.size, 3, none⟩ = some iv ∧ At W8.drew wx.heap.size 0 u := ⟨HB8.out.drew, later hbd (Nat.le_refl _) hcv, HA8.out.later hbd⟩
      have HTD := Lib.hid (HT8.out.next hbd)
      change wpAnyH _ _ _ _ _ _ _ _ W8.drew
      clear hcv hbd HT8 HB8 HA8
      generalize W8.drew = wd at *
      refine held_take (i := 0) (v := .pointer (some ⟨W4.heap.size, 3, none⟩)) (some 46) rfl rfl (by kernel_rfl) (by kernel_rfl) (by kernel_rfl) (fun _ _ _ h => h) (yieldsIf_run (by kernel_rfl) (fun W _ => by kernel_rfl)) S0 ?_
      refine held_take (i := 1) (v := iv) (some 47) rfl rfl (by kernel_rfl) (by kernel_rfl) (by kernel_rfl) (fun _ _ _ h => h) (yieldsIf_cell (by kernel_rfl) rfl (by kernel_rfl) (fun W' h => hloadSSc W' h.2.1)) S0 ?_
      refine held_take (i := 2) (v := .pointer (some ⟨w.heap.size, 0, none⟩)) (some 48) rfl rfl (by kernel_rfl) (by kernel_rfl) (by kernel_rfl) (fun _ _ _ h => h) (yieldsIf_run (by kernel_rfl) (fun W _ => by kernel_rfl)) S0 ?_
      refine held_take (i := 3) (v := .int .i64 p) (some 49) rfl rfl (by kernel_rfl) (by kernel_rfl) (by kernel_rfl) (fun _ _ _ h => h) (yieldsIf_cell (by kernel_rfl) rfl (by kernel_rfl) (fun W' h => hload W' (HNZ.out W' h.1).box.box.c0)) S0 ?_
      refine held_take (i := 4) (v := .agg #[.int .i64 p, .int .i64 (dn : Int), .int .i64 (dn : Int), .slice ai il.length ci]) (some 50) rfl rfl (by kernel_rfl) (by kernel_rfl) (by kernel_rfl) (fun _ _ _ h => h) (yieldsIf_cell (by kernel_rfl) rfl (by kernel_rfl) (fun W' h => hloadLn W' (HNZ.out W' h.1).ri)) S0 ?_
      refine held_take (i := 5) (v := .agg (vl u).toArray) (some 51) rfl rfl (by kernel_rfl) (by kernel_rfl) (by kernel_rfl) (fun _ _ _ h => h) (yieldsIf_load_mid (by kernel_rfl) 82 (.tmp 12) (by kernel_rfl) wx.heap.size 0 (by kernel_rfl) (vl u) _ (fun W h => h.2.2.range) Tryd.underlyingV rfl HI2T.out) S0 ?_
      refine held_take (i := 7) (v := .slice (some ⟨b, o, none⟩) R.length cR) (some 53) rfl rfl (by kernel_rfl) (by kernel_rfl) (by kernel_rfl) (fun _ _ _ h => h) (yieldsIf_move (by kernel_rfl) rfl (by kernel_rfl)) S0 ?_
      have HDM : Hid (Lin.Md p (dimg p dn il u)) := Lib.hid (dimg_md (by have := HP.out.lo; omega) _ _ _)
      have HDW : Hid (Lin.Wd dn (dimg p dn il u)) := Lib.hid (dimg_wd HLI.out HC.out.2.2.2.1.2 u)
      have HIK : Hid ((dcI p dn il R R).take (k + 1) = (dcI p dn il R R).take k ++ [leadRow R (dimg p dn il u)]) := Lib.hid (by
        have hl : k < (dcI p dn il R R).length := by unfold dcI; rw [List.length_map]; exact hlt
        rw [List.take_succ_eq_append_getElem hl, HUE.out]
        simp [dcI])
      have HIL : Hid (((dcI p dn il R R).take k).length = k) := Lib.hid (by unfold dcI; rw [List.length_take, List.length_map]; omega)
      refine held_enter (i := 6) (some 52) (f := 72) (args := #[.agg #[.int .i64 p, .int .i64 (dn : Int), .int .i64 (dn : Int), .slice ai il.length ci], vv u]) (by kernel_rfl) rfl rfl rfl (by kernel_rfl) (lead_any p dn dn u _ il wd HP.out (HNZ.out wd S0.1).box.box.cx.fi HLI.out HC.out.2.2.2.1.2 (by omega) (by omega) HUM.out) ?_ (fun c w' h => by obtain ⟨h, _⟩ := h; cases h) (fun w' h => by obtain ⟨h, _⟩ := h; cases h)
      rintro ea Wa ⟨hea, hbea⟩
      injection hea with hea
      subst hea
      have Sa : Below W4.heap.size W4 Wa ∧ Wa.cell? ⟨W4.heap.size, 3, none⟩ = some iv ∧ At Wa wx.heap.size 0 u := ⟨S0.1.trans (hbea.mono S0.1.size), later hbea (Nat.le_refl _) S0.2.1, S0.2.2.later hbea⟩
      have HTa := Lib.hid (HTD.out.next hbea)
      refine ⟨Sa, ?_⟩
      refine held_enter (i := 8) (some 54) (f := 71) (args := #[.int .i64 p, vv (dimg p dn il u), .slice none 0 0, .slice (some ⟨b, o, none⟩) R.length cR]) (by kernel_rfl) rfl rfl rfl (by kernel_rfl) (classNumbers_any p (dimg p dn il u) _ _ [] R Wa HP.out HDM.out (HW40.out _ HDW.out) (HVN.out Wa) (Lin.Red.nil p) (by simp) (by simp) (HNR.out Wa Sa.1) HRR.out.red HRR.out.wd (by omega)) ?_ (fun c w' h => by obtain ⟨_, _, h, _⟩ := h; cases h) (fun w' h => by obtain ⟨_, _, h, _⟩ := h; cases h)
      rintro ec Wc ⟨uc, xc, hec, hgc, hbec, hxc⟩
      injection hec with hec
      subst hec
      have Sb : Below W4.heap.size W4 Wc ∧ Wc.cell? ⟨W4.heap.size, 3, none⟩ = some iv ∧ At Wc wx.heap.size 0 u := ⟨Sa.1.trans (hbec.mono Sa.1.size), later hbec (Nat.le_refl _) Sa.2.1, Sa.2.2.later hbec⟩
      have HTc := Lib.hid (HTa.out.next hbec)
      obtain rfl := rests_nil (by have := HP.out.lo; omega) HDM.out hxc
      have HGc := Lib.hid hgc
      refine ⟨Sb, ?_⟩
      obtain ⟨ab, nb, cb, hvb⟩ : ∃ a n c, ec = .slice a n c := by obtain ⟨a, cc, ee⟩ := HGc.out.shape; exact ⟨a, _, cc, ee⟩
      subst hvb
      have hbc : Below Wc.heap.size Wc (Wc.alloc (.cells #[.slice ab nb cb] 33)) := below_alloc1 _ _
      have Sc : Below W4.heap.size W4 (Wc.alloc (.cells #[.slice ab nb cb] 33)) ∧ (Wc.alloc (.cells #[.slice ab nb cb] 33)).cell? ⟨W4.heap.size, 3, none⟩ = some iv ∧ At (Wc.alloc (.cells #[.slice ab nb cb] 33)) wx.heap.size 0 u := ⟨Sb.1.trans (hbc.mono Sb.1.size), later hbc (Nat.le_refl _) Sb.2.1, Sb.2.2.later hbc⟩
      have HGd := Lib.hid ((HGc.out.next hbc (Nat.le_refl _)).wider (Nat.le_refl _) hbc.size)
      refine held_buildS (i := 9) (some 55) (by kernel_rfl) rfl rfl rfl (.tmp 54) ab nb cb rfl (by kernel_rfl) ⟨Sc, ?_⟩
      refine held_appendTq (i := 10) (some 56) (by kernel_rfl) rfl rfl rfl (.tmp 47) (.tmp 55) rfl W4.heap.size W4.heap.size p R.length C.length (tq3 iv jv (.slice none 0 0)) (tq3 ((dcI p dn il R R).take k) (rs.map (leadRow C)) []) I 0 (by omega) iv rfl (by kernel_rfl) HTa.out (hbec.trans (hbc.mono hbec.size)) Sa.1.size Wc.heap.size ab nb cb (by kernel_rfl) (cell_alloc1 Wc _ _) (leadRow R (dimg p dn il u)) HGd.out ?hlen ?_
      case hlen => show ((dcI p dn il R R).take k).length ≤ _; rw [HIL.out]; omega
      intro a9 n9 c9 W9 I9 hT9 hgr9 hcs9 hlo9 hat9
      have hbx := Sc.2.2.lt
      have S9 : Below W4.heap.size W4 W9 ∧ W9.cell? ⟨W4.heap.size, 3, none⟩ = some iv ∧ At W9 wx.heap.size 0 u := ⟨Sc.1.grown hgr9 Sc.1.size hlo9, by simp [World.cell?, hcs9, tq3], Sc.2.2.grown hgr9 (fun e => HOB.out 0 (by omega) _ e.symm rfl)⟩
      have hf9 : W9.frozen? ⟨W4.heap.size, 3, none⟩ = false := by simp [World.frozen?, hcs9]
      refine ⟨S9, ?_⟩
      refine held_take (i := 11) (v := .pointer (some ⟨W4.heap.size, 3, none⟩)) (some 57) rfl rfl (by kernel_rfl) (by kernel_rfl) (by kernel_rfl) (fun _ _ _ h => h) (yieldsIf_run (by kernel_rfl) (fun W _ => by kernel_rfl)) S9 ?_
      refine held_none (i := 12) (v := .bool false) rfl rfl (by kernel_rfl) (by kernel_rfl) (by kernel_rfl) (fun _ _ _ h => h) (yieldsIf_move (by kernel_rfl) rfl (by kernel_rfl)) S9 ?_
      refine wpAnyH_done (by kernel_rfl) (lastQ_storeTt rfl (by kernel_rfl) (by kernel_rfl) (.tmp 57) (.tmp 56) (by kernel_rfl) W4.heap.size 3 a9 n9 c9 iv (by kernel_rfl) (by kernel_rfl) S9.2.1 hf9 ?_) _
      simp only [Act.put, List.setIfInBounds_toArray, List.set_cons_zero, List.set_cons_succ]
      have HB9 : Hid (Below W4.heap.size W4 (W9.setCell ⟨W4.heap.size, 3, none⟩ (.slice a9 n9 c9))) := Lib.hid (S9.1.setCell (Nat.le_refl _) _)
      have HA9 : Hid (At (W9.setCell ⟨W4.heap.size, 3, none⟩ (.slice a9 n9 c9)) wx.heap.size 0 u) := Lib.hid (S9.2.2.setOther (by show W4.heap.size ≠ wx.heap.size; omega) _)
      have HT9 := Lib.hid hT9
      rw [tqu0, tqu0, show tq3 ((dcI p dn il R R).take k) (rs.map (leadRow C)) [] 0 = (dcI p dn il R R).take k from rfl, ← HIK.out] at HT9
      have HOB9 : Hid (∀ q, q < 3 → ∀ g, (tq3 (.slice a9 n9 c9) jv (.slice none 0 0) q).ownBlock = some g → g ≠ wx.heap.size) := Lib.hid (fun q hq g hg e => by
        match q, hq with
        | 0, _ =>
          rcases hat9 with e2 | e2
          · exact HOB.out 0 (by omega) g (e2.symm.trans hg) e
          · have e3 := e2.symm.trans hg
            injection e3 with e3
            omega
        | 1, _ => exact HOB.out 1 (by omega) g hg e
        | 2, _ => exact absurd hg (by simp [tq3, Value.ownBlock]))
      clear S0 Sa Sb Sc S9 HTD HTa HTc HGc HGd hbea hbec hbc hgc hxc hT9 hgr9 hcs9 hlo9 hat9 hbx hf9 HIK HIL HDM HDW HOB
      go_upto_region 9 with fail
      refine forget_wp (fun W => Hid (Tq W4.heap.size W W4.heap.size p R.length C.length (tq3 (.slice a9 n9 c9) jv (.slice none 0 0)) (tq3 ((dcI p dn il R R).take (k + 1)) (rs.map (leadRow C)) []) I9 ∧ Below W4.heap.size W4 W ∧ At W wx.heap.size 0 u)) (Lib.hid ⟨HT9.out, HB9.out, HA9.out⟩) ?_
      intro WE hE
      have HTE := Lib.hid hE.out.1
      have HBE := Lib.hid hE.out.2.1
      have HAE := Lib.hid hE.out.2.2
      clear hE HT9 HB9 HA9
      obtain ⟨iv, hiv⟩ : ∃ iv : Value, iv = .slice a9 n9 c9 := ⟨_, rfl⟩
      rw [← hiv] at HTE HOB9
      clear hiv
      obtain ⟨u0, hu0⟩ := HSP.out k hlt
      rw [← HUE.out] at hu0
      have HU0 := Lib.hid hu0
      clear hu0
      obtain ⟨I, hI⟩ : ∃ I, I = I9 := ⟨_, rfl⟩
      subst hI
      have HOB := HOB9
      clear HOB9
      have hcv : WE.cell? ⟨W4.heap.size, 4, none⟩ = some jv := HTE.out.cell rfl
      refine wp_region_last (fun W' => Below W4.heap.size W4 W' ∧ W'.cell? ⟨W4.heap.size, 4, none⟩ = some jv ∧ At W' wx.heap.size 0 u) 15 (by kernel_rfl) rfl (by kernel_rfl) ?_
      have hbd : Below WE.heap.size WE WE.drew := (Below.refl _ _).drew
      have S0 : Below W4.heap.size W4 WE.drew ∧ WE.drew.cell? ⟨W4.heap.size, 4, none⟩ = some jv ∧ At WE.drew wx.heap.size 0 u := ⟨HBE.out.drew, later hbd (Nat.le_refl _) hcv, HAE.out.later hbd⟩
      have HTD := Lib.hid (HTE.out.next hbd)
      change wpAnyH _ _ _ _ _ _ _ _ WE.drew
      clear hcv hbd HTE HBE HAE
      generalize WE.drew = wd at *
      refine held_take (i := 0) (v := .pointer (some ⟨W4.heap.size, 4, none⟩)) (some 58) rfl rfl (by kernel_rfl) (by kernel_rfl) (by kernel_rfl) (fun _ _ _ h => h) (yieldsIf_run (by kernel_rfl) (fun W _ => by kernel_rfl)) S0 ?_
      refine held_take (i := 1) (v := jv) (some 59) rfl rfl (by kernel_rfl) (by kernel_rfl) (by kernel_rfl) (fun _ _ _ h => h) (yieldsIf_cell (by kernel_rfl) rfl (by kernel_rfl) (fun W' h => hloadSSc W' h.2.1)) S0 ?_
      refine held_take (i := 2) (v := .pointer (some ⟨w.heap.size, 0, none⟩)) (some 60) rfl rfl (by kernel_rfl) (by kernel_rfl) (by kernel_rfl) (fun _ _ _ h => h) (yieldsIf_run (by kernel_rfl) (fun W _ => by kernel_rfl)) S0 ?_
      refine held_take (i := 3) (v := .int .i64 p) (some 61) rfl rfl (by kernel_rfl) (by kernel_rfl) (by kernel_rfl) (fun _ _ _ h => h) (yieldsIf_cell (by kernel_rfl) rfl (by kernel_rfl) (fun W' h => hload W' (HNZ.out W' h.1).box.box.c0)) S0 ?_
      refine held_take (i := 4) (v := .agg #[.int .i64 p, .int .i64 (dn : Int), .int .i64 (en : Int), .slice aj jl.length cj]) (some 62) rfl rfl (by kernel_rfl) (by kernel_rfl) (by kernel_rfl) (fun _ _ _ h => h) (yieldsIf_cell (by kernel_rfl) rfl (by kernel_rfl) (fun W' h => hloadLn W' (HNZ.out W' h.1).rj)) S0 ?_
      refine held_take (i := 5) (v := .agg #[.int .i64 p, .int .i64 (dn : Int), .int .i64 (dn : Int), .slice ai il.length ci]) (some 63) rfl rfl (by kernel_rfl) (by kernel_rfl) (by kernel_rfl) (fun _ _ _ h => h) (yieldsIf_cell (by kernel_rfl) rfl (by kernel_rfl) (fun W' h => hloadLn W' (HNZ.out W' h.1).ri)) S0 ?_
      refine held_take (i := 6) (v := .agg (vl u).toArray) (some 64) rfl rfl (by kernel_rfl) (by kernel_rfl) (by kernel_rfl) (fun _ _ _ h => h) (yieldsIf_load_mid (by kernel_rfl) 82 (.tmp 12) (by kernel_rfl) wx.heap.size 0 (by kernel_rfl) (vl u) _ (fun W h => h.2.2.range) Tryd.underlyingV rfl HI2T.out) S0 ?_
      refine held_take (i := 9) (v := .slice aB B.length cB) (some 67) rfl rfl (by kernel_rfl) (by kernel_rfl) (by kernel_rfl) (fun _ _ _ h => h) (yieldsIf_move (by kernel_rfl) rfl (by kernel_rfl)) S0 ?_
      refine held_take (i := 10) (v := .slice aC C.length cC) (some 68) rfl rfl (by kernel_rfl) (by kernel_rfl) (by kernel_rfl) (fun _ _ _ h => h) (yieldsIf_move (by kernel_rfl) rfl (by kernel_rfl)) S0 ?_
      refine held_enter (i := 7) (some 65) (f := 73) (args := #[.agg #[.int .i64 p, .int .i64 (dn : Int), .int .i64 (dn : Int), .slice ai il.length ci], vv u]) (by kernel_rfl) rfl rfl rfl (by kernel_rfl) (sourceOf_any p dn dn u u0 _ il wd HP.out (HNZ.out wd S0.1).box.box.cx.fi HLI.out HC.out.2.2.2.1.2 (by omega) (by omega) HUM.out HUW.out HU0.out.1.2 HU0.out.2) ?_ (fun c w' h => by obtain ⟨_, h, _⟩ := h; cases h) (fun w' h => by obtain ⟨_, h, _⟩ := h; cases h)
      rintro es Ws ⟨s, hes, hbes, hsm, hsw, hsu⟩
      injection hes with hes
      subst hes
      have Ss : Below W4.heap.size W4 Ws ∧ Ws.cell? ⟨W4.heap.size, 4, none⟩ = some jv ∧ At Ws wx.heap.size 0 u := ⟨S0.1.trans (hbes.mono S0.1.size), later hbes (Nat.le_refl _) S0.2.1, S0.2.2.later hbes⟩
      have HTs := Lib.hid (HTD.out.next hbes)
      have HSM := Lib.hid hsm
      have HSW := Lib.hid hsw
      have HSU := Lib.hid hsu
      have HDM : Hid (Lin.Md p (dimg p dn jl s)) := Lib.hid (dimg_md (by have := HP.out.lo; omega) _ _ _)
      have HDW : Hid (Lin.Wd en (dimg p dn jl s)) := Lib.hid (dimg_wd HLJ.out HC.out.2.2.2.2.1.2 s)
      refine ⟨Ss, ?_⟩
      refine held_enter (i := 8) (some 66) (f := 72) (args := #[.agg #[.int .i64 p, .int .i64 (dn : Int), .int .i64 (en : Int), .slice aj jl.length cj], vv s]) (by kernel_rfl) rfl rfl rfl (by kernel_rfl) (lead_any p dn en s _ jl Ws HP.out (HNZ.out Ws Ss.1).box.box.cx.fj HLJ.out HC.out.2.2.2.2.1.2 (by omega) (by omega) HSM.out) ?_ (fun c w' h => by obtain ⟨h, _⟩ := h; cases h) (fun w' h => by obtain ⟨h, _⟩ := h; cases h)
      rintro ea Wa ⟨hea, hbea⟩
      injection hea with hea
      subst hea
      have Sa : Below W4.heap.size W4 Wa ∧ Wa.cell? ⟨W4.heap.size, 4, none⟩ = some jv ∧ At Wa wx.heap.size 0 u := ⟨Ss.1.trans (hbea.mono Ss.1.size), later hbea (Nat.le_refl _) Ss.2.1, Ss.2.2.later hbea⟩
      have HTa := Lib.hid (HTs.out.next hbea)
      refine ⟨Sa, ?_⟩
      refine held_enter (i := 11) (some 69) (f := 71) (args := #[.int .i64 p, vv (dimg p dn jl s), .slice aB B.length cB, .slice aC C.length cC]) (by kernel_rfl) rfl rfl rfl (by kernel_rfl) (classNumbers_any p (dimg p dn jl s) _ _ B C Wa HP.out HDM.out (HE40.out _ HDW.out) (HNB.out Wa Sa.1) HBR.out.red HBR.out.wd (by omega) (HNC.out Wa Sa.1) HCR.out.red HCR.out.wd (by omega)) ?_ (fun c w' h => by obtain ⟨_, _, h, _⟩ := h; cases h) (fun w' h => by obtain ⟨_, _, h, _⟩ := h; cases h)
      rintro ec Wc ⟨uc, xc, hec, hgc, hbec, hxc⟩
      injection hec with hec
      subst hec
      have Sb : Below W4.heap.size W4 Wc ∧ Wc.cell? ⟨W4.heap.size, 4, none⟩ = some jv ∧ At Wc wx.heap.size 0 u := ⟨Sa.1.trans (hbec.mono Sa.1.size), later hbec (Nat.le_refl _) Sa.2.1, Sa.2.2.later hbec⟩
      have HTc := Lib.hid (HTa.out.next hbec)
      have HGc := Lib.hid hgc
      have HXC := Lib.hid hxc
      refine ⟨Sb, ?_⟩
      obtain ⟨ab, nb, cb, hvb⟩ : ∃ a n c, ec = .slice a n c := by obtain ⟨a, cc, ee⟩ := HGc.out.shape; exact ⟨a, _, cc, ee⟩
      subst hvb
      have hbc : Below Wc.heap.size Wc (Wc.alloc (.cells #[.slice ab nb cb] 33)) := below_alloc1 _ _
      have Sc : Below W4.heap.size W4 (Wc.alloc (.cells #[.slice ab nb cb] 33)) ∧ (Wc.alloc (.cells #[.slice ab nb cb] 33)).cell? ⟨W4.heap.size, 4, none⟩ = some jv ∧ At (Wc.alloc (.cells #[.slice ab nb cb] 33)) wx.heap.size 0 u := ⟨Sb.1.trans (hbc.mono Sb.1.size), later hbc (Nat.le_refl _) Sb.2.1, Sb.2.2.later hbc⟩
      have HGd := Lib.hid ((HGc.out.next hbc (Nat.le_refl _)).wider (Nat.le_refl _) hbc.size)
      refine held_buildS (i := 12) (some 70) (by kernel_rfl) rfl rfl rfl (.tmp 69) ab nb cb rfl (by kernel_rfl) ⟨Sc, ?_⟩
      refine held_appendTq (i := 13) (some 71) (by kernel_rfl) rfl rfl rfl (.tmp 59) (.tmp 70) rfl W4.heap.size W4.heap.size p R.length C.length (tq3 iv jv (.slice none 0 0)) (tq3 ((dcI p dn il R R).take (k + 1)) (rs.map (leadRow C)) []) I 1 (by omega) jv rfl (by kernel_rfl) HTa.out (hbec.trans (hbc.mono hbec.size)) Sa.1.size Wc.heap.size ab nb cb (by kernel_rfl) (cell_alloc1 Wc _ _) (leadRow C xc) HGd.out ?hlen ?_
      case hlen => show (rs.map (leadRow C)).length ≤ _; rw [List.length_map]; omega
      intro a9 n9 c9 W9 I9 hT9 hgr9 hcs9 hlo9 hat9
      have hbx := Sc.2.2.lt
      have S9 : Below W4.heap.size W4 W9 ∧ W9.cell? ⟨W4.heap.size, 4, none⟩ = some jv ∧ At W9 wx.heap.size 0 u := ⟨Sc.1.grown hgr9 Sc.1.size hlo9, by simp [World.cell?, hcs9, tq3], Sc.2.2.grown hgr9 (fun e => HOB.out 1 (by omega) _ e.symm rfl)⟩
      have hf9 : W9.frozen? ⟨W4.heap.size, 4, none⟩ = false := by simp [World.frozen?, hcs9]
      refine ⟨S9, ?_⟩
      refine held_take (i := 14) (v := .pointer (some ⟨W4.heap.size, 4, none⟩)) (some 72) rfl rfl (by kernel_rfl) (by kernel_rfl) (by kernel_rfl) (fun _ _ _ h => h) (yieldsIf_run (by kernel_rfl) (fun W _ => by kernel_rfl)) S9 ?_
      refine held_none (i := 15) (v := .bool false) rfl rfl (by kernel_rfl) (by kernel_rfl) (by kernel_rfl) (fun _ _ _ h => h) (yieldsIf_move (by kernel_rfl) rfl (by kernel_rfl)) S9 ?_
      refine wpAnyH_done (by kernel_rfl) (lastQ_storeTt rfl (by kernel_rfl) (by kernel_rfl) (.tmp 72) (.tmp 71) (by kernel_rfl) W4.heap.size 4 a9 n9 c9 jv (by kernel_rfl) (by kernel_rfl) S9.2.1 hf9 ?_) _
      simp only [Act.put, List.setIfInBounds_toArray, List.set_cons_zero, List.set_cons_succ]
      have HB9 : Hid (Below W4.heap.size W4 (W9.setCell ⟨W4.heap.size, 4, none⟩ (.slice a9 n9 c9))) := Lib.hid (S9.1.setCell (Nat.le_refl _) _)
      have HA9 : Hid (At (W9.setCell ⟨W4.heap.size, 4, none⟩ (.slice a9 n9 c9)) wx.heap.size 0 u) := Lib.hid (S9.2.2.setOther (by show W4.heap.size ≠ wx.heap.size; omega) _)
      have HT9 := Lib.hid hT9
      rw [tqu1, tqu1, show tq3 ((dcI p dn il R R).take (k + 1)) (rs.map (leadRow C)) [] 1 = rs.map (leadRow C) from rfl, show rs.map (leadRow C) ++ [leadRow C xc] = (rs ++ [xc]).map (leadRow C) by simp] at HT9
      have HRS2 : Hid (∀ q (h : q < R.length) (h' : q < (rs ++ [xc]).length), ∃ s, Lin.Md p s ∧ Lin.Wd dn s ∧ dimg p dn il s = R[q] ∧ Lin.RestE p B (dimg p dn jl s) B.length (rs ++ [xc])[q]) := Lib.hid (fun q h h' => by
        by_cases e : q < rs.length
        · rw [List.getElem_append_left e]
          exact HRS.out q h e
        · have e2 : q = rs.length := by simp at h'; omega
          subst e2
          rw [List.getElem_append_right (Nat.le_refl _)]
          simp only [Nat.sub_self, List.getElem_singleton]
          refine ⟨s, HSM.out, HSW.out, ?_, HXC.out⟩
          rw [HSU.out, HUE.out]
          congr 1
          exact hrl.symm)
      clear S0 Sa Sb Sc S9 Ss HTD HTa HTc HTs HGc HGd hbea hbec hbes hbc hgc hxc hT9 hgr9 hcs9 hlo9 hat9 hbx hf9 HDM HDW HOB HA9 HRS HSM HSW HSU HXC hsm hsw hsu HU0
      have hrl2 : (rs ++ [xc]).length = k + 1 := by simp [hrl]
      have HRL2 := Lib.hid hrl2
      clear hrl hrl2
      go_wp2
      go_roundw
      case rel => exact ⟨k + 1, _, _, rs ++ [xc], _, by omega, by go_num, HRL2.out, HB9, HT9, HRS2⟩
      case measure => simp [intOf]; omega
    · have HKR : Hid (k = R.length) := Lib.hid (by omega)
      have HIF : Hid ((dcI p dn il R R).take k = dcI p dn il R R) := Lib.hid (List.take_of_length_le (by unfold dcI; rw [List.length_map]; omega))
      rw [HIF.out] at HTR
      have HJ : Hid (DcJ p dn il jl R B rs) := Lib.hid ⟨by omega, HRS.out⟩
      clear HIF HRS hrl HSP HNB
      go_wp2
      go_loopw [76] (fun i wr => ∃ (m : Nat) (kv : Value) (I : Nat → List Iv), m ≤ C.length ∧ i = .int .i64 m ∧ Hid (Below W4.heap.size W4 wr) ∧ Hid (Tq W4.heap.size wr W4.heap.size p R.length C.length (tq3 iv jv kv) (tq3 (dcI p dn il R R) (rs.map (leadRow C)) ((dcI p en kl C R).take m)) I)) (fun i _ => C.length - (intOf i).toNat)
      case atStart => exact ⟨0, _, _, Nat.zero_le _, rfl, HB, by rw [List.take_zero]; exact HTR⟩
      case round =>
        clear HB HTR hsx hlt
        obtain ⟨m, kv, I, hm, rfl, HB, HTR⟩ := hrel
        obtain ⟨wx, hwx⟩ : ∃ wx : World, wx = wr := ⟨_, rfl⟩
        subst hwx
        have hsx : W4.heap.size < wx.heap.size := HTR.out.lt
        by_cases hlt : m < C.length
        · refine Vs.cases (HNC.out wx HB.out) (fun _ _ hx _ => absurd hlt (by rw [hx]; simp)) (fun b o cap2 hv _ _ hcl => ?_)
          obtain ⟨rfl, rfl⟩ : aC = some ⟨b, o, none⟩ ∧ cC = cap2 := by simpa using hv
          obtain ⟨u, hu⟩ : ∃ u, u = C[m] := ⟨_, rfl⟩
          have HVT : Hid (At wx b (o + m * 40) u) := Lib.hid (by rw [hu]; exact hcl m hlt)
          have HI2T := Lib.hid (Tryd.infoVl u)
          have HIT : Hid ((Tryd.prog.info? 82).map (·.size) = some (vl u).toArray.size) := Lib.hid (by have := HI2T.out; simpa using this)
          have HUM : Hid (Lin.Md p u) := Lib.hid (by rw [hu]; exact HCR.out.red.md _ (List.getElem_mem hlt))
          have HUW : Hid (Lin.Wd en u) := Lib.hid (by rw [hu]; exact HCW.out _ (List.getElem_mem hlt))
          have HUE := Lib.hid hu
          have hkl : (m : Int) < (C.length : Int) := by omega
          clear hv hcl hu
          go_upto_region 14 with (first | (with_reducible refine wpList_load_mid rfl 82 (.tmp 78) rfl b (o + m * 40) rfl (vl u) _ HVT.out.range Tryd.underlyingV rfl HI2T.out ?_) | (with_reducible refine wpList_allocV rfl (some 14) rfl rfl ?_; intro W7 hn7; have HN7 := Lib.hid hn7; have HT7 : Hid (W7.there wx.heap.size 0 (vl u).toArray.size) := (Lib.hid (by have := hn7.there; simpa [vl_length] using this)); clear hn7) | (with_reducible refine wpList_store_mid rfl 82 (.tmp 14) (.tmp 79) rfl wx.heap.size 0 (vl u).toArray rfl rfl HT7.out HIT.out (vl_all _) ?_))
          refine forget_wp (fun W => Hid (At W wx.heap.size 0 u ∧ Below wx.heap.size wx W)) (Lib.hid ?_) ?_
          · have hp2 := HN7.out.put u
            exact ⟨hp2.2.1, hp2.1⟩
          intro W8 HS8
          clear HN7 HT7 HVT HIT
          have HB8 := Lib.hid (HB.out.trans (HS8.out.2.mono (Nat.le_of_lt hsx)))
          have HA8 := Lib.hid HS8.out.1
          have HT8 := Lib.hid (HTR.out.next HS8.out.2)
          have HOB : Hid (∀ q, q < 3 → ∀ g, (tq3 iv jv kv q).ownBlock = some g → g ≠ wx.heap.size) := Lib.hid (fun q hq g hg => by
            obtain ⟨vq, hvq⟩ := HTR.out.own hq
            have := owns_lt hvq hg
            omega)
          have hs8 : wx.heap.size < W8.heap.size := HS8.out.1.lt
          clear HS8 HTR HB
          have hcv : W8.cell? ⟨W4.heap.size, 5, none⟩ = some kv := HT8.out.cell rfl
          refine wp_region_last (fun W' => Below W4.heap.size W4 W' ∧ W'.cell? ⟨W4.heap.size, 5, none⟩ = some kv ∧ At W' wx.heap.size 0 u) 12 (by kernel_rfl) rfl (by kernel_rfl) ?_
          have hbd : Below W8.heap.size W8 W8.drew := (Below.refl _ _).drew
          have S0 : Below W4.heap.size W4 W8.drew ∧ W8.drew.cell? ⟨W4.heap.size, 5, none⟩ = some kv ∧ At W8.drew wx.heap.size 0 u := ⟨HB8.out.drew, later hbd (Nat.le_refl _) hcv, HA8.out.later hbd⟩
          have HTD := Lib.hid (HT8.out.next hbd)
          change wpAnyH _ _ _ _ _ _ _ _ W8.drew
          clear hcv hbd HT8 HB8 HA8
          generalize W8.drew = wd at *
          refine held_take (i := 0) (v := .pointer (some ⟨W4.heap.size, 5, none⟩)) (some 80) rfl rfl (by kernel_rfl) (by kernel_rfl) (by kernel_rfl) (fun _ _ _ h => h) (yieldsIf_run (by kernel_rfl) (fun W _ => by kernel_rfl)) S0 ?_
          refine held_take (i := 1) (v := kv) (some 81) rfl rfl (by kernel_rfl) (by kernel_rfl) (by kernel_rfl) (fun _ _ _ h => h) (yieldsIf_cell (by kernel_rfl) rfl (by kernel_rfl) (fun W' h => hloadSSc W' h.2.1)) S0 ?_
          refine held_take (i := 2) (v := .pointer (some ⟨w.heap.size, 0, none⟩)) (some 82) rfl rfl (by kernel_rfl) (by kernel_rfl) (by kernel_rfl) (fun _ _ _ h => h) (yieldsIf_run (by kernel_rfl) (fun W _ => by kernel_rfl)) S0 ?_
          refine held_take (i := 3) (v := .int .i64 p) (some 83) rfl rfl (by kernel_rfl) (by kernel_rfl) (by kernel_rfl) (fun _ _ _ h => h) (yieldsIf_cell (by kernel_rfl) rfl (by kernel_rfl) (fun W' h => hload W' (HNZ.out W' h.1).box.box.c0)) S0 ?_
          refine held_take (i := 4) (v := .agg #[.int .i64 p, .int .i64 (en : Int), .int .i64 (dn : Int), .slice ak kl.length ck]) (some 84) rfl rfl (by kernel_rfl) (by kernel_rfl) (by kernel_rfl) (fun _ _ _ h => h) (yieldsIf_cell (by kernel_rfl) rfl (by kernel_rfl) (fun W' h => hloadLn W' (HNZ.out W' h.1).rk)) S0 ?_
          refine held_take (i := 5) (v := .agg (vl u).toArray) (some 85) rfl rfl (by kernel_rfl) (by kernel_rfl) (by kernel_rfl) (fun _ _ _ h => h) (yieldsIf_load_mid (by kernel_rfl) 82 (.tmp 14) (by kernel_rfl) wx.heap.size 0 (by kernel_rfl) (vl u) _ (fun W h => h.2.2.range) Tryd.underlyingV rfl HI2T.out) S0 ?_
          refine held_take (i := 7) (v := .slice aR R.length cR) (some 87) rfl rfl (by kernel_rfl) (by kernel_rfl) (by kernel_rfl) (fun _ _ _ h => h) (yieldsIf_move (by kernel_rfl) rfl (by kernel_rfl)) S0 ?_
          have HDM : Hid (Lin.Md p (dimg p en kl u)) := Lib.hid (dimg_md (by have := HP.out.lo; omega) _ _ _)
          have HDW : Hid (Lin.Wd dn (dimg p en kl u)) := Lib.hid (dimg_wd HLK.out HC.out.2.2.2.2.2.2 u)
          have HIK : Hid ((dcI p en kl C R).take (m + 1) = (dcI p en kl C R).take m ++ [leadRow R (dimg p en kl u)]) := Lib.hid (by
            have hl : m < (dcI p en kl C R).length := by unfold dcI; rw [List.length_map]; exact hlt
            rw [List.take_succ_eq_append_getElem hl, HUE.out]
            simp [dcI])
          have HIL : Hid (((dcI p en kl C R).take m).length = m) := Lib.hid (by unfold dcI; rw [List.length_take, List.length_map]; omega)
          refine held_enter (i := 6) (some 86) (f := 72) (args := #[.agg #[.int .i64 p, .int .i64 (en : Int), .int .i64 (dn : Int), .slice ak kl.length ck], vv u]) (by kernel_rfl) rfl rfl rfl (by kernel_rfl) (lead_any p en dn u _ kl wd HP.out (HNZ.out wd S0.1).box.box.cx.fk HLK.out HC.out.2.2.2.2.2.2 (by omega) (by omega) HUM.out) ?_ (fun c w' h => by obtain ⟨h, _⟩ := h; cases h) (fun w' h => by obtain ⟨h, _⟩ := h; cases h)
          rintro ea Wa ⟨hea, hbea⟩
          injection hea with hea
          subst hea
          have Sa : Below W4.heap.size W4 Wa ∧ Wa.cell? ⟨W4.heap.size, 5, none⟩ = some kv ∧ At Wa wx.heap.size 0 u := ⟨S0.1.trans (hbea.mono S0.1.size), later hbea (Nat.le_refl _) S0.2.1, S0.2.2.later hbea⟩
          have HTa := Lib.hid (HTD.out.next hbea)
          refine ⟨Sa, ?_⟩
          refine held_enter (i := 8) (some 88) (f := 71) (args := #[.int .i64 p, vv (dimg p en kl u), .slice none 0 0, .slice aR R.length cR]) (by kernel_rfl) rfl rfl rfl (by kernel_rfl) (classNumbers_any p (dimg p en kl u) _ _ [] R Wa HP.out HDM.out (HW40.out _ HDW.out) (HVN.out Wa) (Lin.Red.nil p) (by simp) (by simp) (HNR.out Wa Sa.1) HRR.out.red HRR.out.wd (by omega)) ?_ (fun c w' h => by obtain ⟨_, _, h, _⟩ := h; cases h) (fun w' h => by obtain ⟨_, _, h, _⟩ := h; cases h)
          rintro ec Wc ⟨uc, xc, hec, hgc, hbec, hxc⟩
          injection hec with hec
          subst hec
          have Sb : Below W4.heap.size W4 Wc ∧ Wc.cell? ⟨W4.heap.size, 5, none⟩ = some kv ∧ At Wc wx.heap.size 0 u := ⟨Sa.1.trans (hbec.mono Sa.1.size), later hbec (Nat.le_refl _) Sa.2.1, Sa.2.2.later hbec⟩
          have HTc := Lib.hid (HTa.out.next hbec)
          obtain rfl := rests_nil (by have := HP.out.lo; omega) HDM.out hxc
          have HGc := Lib.hid hgc
          refine ⟨Sb, ?_⟩
          obtain ⟨ab, nb, cb, hvb⟩ : ∃ a n c, ec = .slice a n c := by obtain ⟨a, cc, ee⟩ := HGc.out.shape; exact ⟨a, _, cc, ee⟩
          subst hvb
          have hbc : Below Wc.heap.size Wc (Wc.alloc (.cells #[.slice ab nb cb] 33)) := below_alloc1 _ _
          have Sc : Below W4.heap.size W4 (Wc.alloc (.cells #[.slice ab nb cb] 33)) ∧ (Wc.alloc (.cells #[.slice ab nb cb] 33)).cell? ⟨W4.heap.size, 5, none⟩ = some kv ∧ At (Wc.alloc (.cells #[.slice ab nb cb] 33)) wx.heap.size 0 u := ⟨Sb.1.trans (hbc.mono Sb.1.size), later hbc (Nat.le_refl _) Sb.2.1, Sb.2.2.later hbc⟩
          have HGd := Lib.hid ((HGc.out.next hbc (Nat.le_refl _)).wider (Nat.le_refl _) hbc.size)
          refine held_buildS (i := 9) (some 89) (by kernel_rfl) rfl rfl rfl (.tmp 88) ab nb cb rfl (by kernel_rfl) ⟨Sc, ?_⟩
          refine held_appendTq (i := 10) (some 90) (by kernel_rfl) rfl rfl rfl (.tmp 81) (.tmp 89) rfl W4.heap.size W4.heap.size p R.length C.length (tq3 iv jv kv) (tq3 (dcI p dn il R R) (rs.map (leadRow C)) ((dcI p en kl C R).take m)) I 2 (by omega) kv rfl (by kernel_rfl) HTa.out (hbec.trans (hbc.mono hbec.size)) Sa.1.size Wc.heap.size ab nb cb (by kernel_rfl) (cell_alloc1 Wc _ _) (leadRow R (dimg p en kl u)) HGd.out ?hlen ?_
          case hlen => show ((dcI p en kl C R).take m).length ≤ _; rw [HIL.out]; omega
          intro a9 n9 c9 W9 I9 hT9 hgr9 hcs9 hlo9 hat9
          have hbx := Sc.2.2.lt
          have S9 : Below W4.heap.size W4 W9 ∧ W9.cell? ⟨W4.heap.size, 5, none⟩ = some kv ∧ At W9 wx.heap.size 0 u := ⟨Sc.1.grown hgr9 Sc.1.size hlo9, by simp [World.cell?, hcs9, tq3], Sc.2.2.grown hgr9 (fun e => HOB.out 2 (by omega) _ e.symm rfl)⟩
          have hf9 : W9.frozen? ⟨W4.heap.size, 5, none⟩ = false := by simp [World.frozen?, hcs9]
          refine ⟨S9, ?_⟩
          refine held_take (i := 11) (v := .pointer (some ⟨W4.heap.size, 5, none⟩)) (some 91) rfl rfl (by kernel_rfl) (by kernel_rfl) (by kernel_rfl) (fun _ _ _ h => h) (yieldsIf_run (by kernel_rfl) (fun W _ => by kernel_rfl)) S9 ?_
          refine held_none (i := 12) (v := .bool false) rfl rfl (by kernel_rfl) (by kernel_rfl) (by kernel_rfl) (fun _ _ _ h => h) (yieldsIf_move (by kernel_rfl) rfl (by kernel_rfl)) S9 ?_
          refine wpAnyH_done (by kernel_rfl) (lastQ_storeTt rfl (by kernel_rfl) (by kernel_rfl) (.tmp 91) (.tmp 90) (by kernel_rfl) W4.heap.size 5 a9 n9 c9 kv (by kernel_rfl) (by kernel_rfl) S9.2.1 hf9 ?_) _
          simp only [Act.put, List.setIfInBounds_toArray, List.set_cons_zero, List.set_cons_succ]
          have HB9 : Hid (Below W4.heap.size W4 (W9.setCell ⟨W4.heap.size, 5, none⟩ (.slice a9 n9 c9))) := Lib.hid (S9.1.setCell (Nat.le_refl _) _)
          have HA9 : Hid (At (W9.setCell ⟨W4.heap.size, 5, none⟩ (.slice a9 n9 c9)) wx.heap.size 0 u) := Lib.hid (S9.2.2.setOther (by show W4.heap.size ≠ wx.heap.size; omega) _)
          have HT9 := Lib.hid hT9
          rw [tqu2, tqu2, show tq3 (dcI p dn il R R) (rs.map (leadRow C)) ((dcI p en kl C R).take m) 2 = (dcI p en kl C R).take m from rfl, ← HIK.out] at HT9
          clear S0 Sa Sb Sc S9 HTD HTa HTc HGc HGd hbea hbec hbc hgc hxc hT9 hgr9 hcs9 hlo9 hat9 hbx hf9 HIK HIL HDM HDW HOB HA9
          go_wp2
          go_roundw
          case rel => exact ⟨m + 1, _, _, by omega, by go_num, HB9, HT9⟩
          case measure => simp [intOf]; omega
        · have HKF : Hid ((dcI p en kl C R).take m = dcI p en kl C R) := Lib.hid (List.take_of_length_le (by unfold dcI; rw [List.length_map]; omega))
          rw [HKF.out] at HTR
          have HL3 : Hid (∀ a, a < 3 → (tq3 (dcI p dn il R R) (rs.map (leadRow C)) (dcI p en kl C R) a).length ≤ 1048576) := Lib.hid (fun a ha => by
            match a, ha with
            | 0, _ => show (dcI p dn il R R).length ≤ _; unfold dcI; rw [List.length_map]; omega
            | 1, _ => show (rs.map (leadRow C)).length ≤ _; rw [List.length_map, HJ.out.len]; omega
            | 2, _ => show (dcI p en kl C R).length ≤ _; unfold dcI; rw [List.length_map]; omega)
          have HRCP := Lib.hid (HTR.out.rc HL3.out)
          obtain ⟨_, _, hg0⟩ := HTR.out.ga 0 (by omega)
          obtain ⟨_, _, hg1⟩ := HTR.out.ga 1 (by omega)
          obtain ⟨_, _, hg2⟩ := HTR.out.ga 2 (by omega)
          obtain ⟨x1, y1, hv1⟩ := hg0.shape
          obtain ⟨x2, y2, hv2⟩ := hg1.shape
          obtain ⟨x3, y3, hv3⟩ := hg2.shape
          replace hv1 : iv = .slice x1 (dcI p dn il R R).length y1 := hv1
          replace hv2 : jv = .slice x2 (rs.map (leadRow C)).length y2 := hv2
          replace hv3 : kv = .slice x3 (dcI p en kl C R).length y3 := hv3
          clear hg0 hg1 hg2
          obtain ⟨n1, hn1⟩ : ∃ n, n = (dcI p dn il R R).length := ⟨_, rfl⟩
          obtain ⟨n2, hn2⟩ : ∃ n, n = (rs.map (leadRow C)).length := ⟨_, rfl⟩
          obtain ⟨n3, hn3⟩ : ∃ n, n = (dcI p en kl C R).length := ⟨_, rfl⟩
          have HN1 := Lib.hid hn1
          have HN2 := Lib.hid hn2
          have HN3 := Lib.hid hn3
          rw [← hn1] at hv1
          rw [← hn2] at hv2
          rw [← hn3] at hv3
          subst hv1 hv2 hv3
          clear hn1 hn2 hn3
          obtain ⟨z0, z1, z2, z3, z4, z5, hz⟩ := (HNZ.out wx HB.out).box.res
          have k0 : wx.cell? ⟨W4.heap.size, 0, none⟩ = some (.int .i64 p) := HTR.out.cell (i := 0) rfl
          have k1 : wx.cell? ⟨W4.heap.size, 1, none⟩ = some (.int .i64 (R.length : Int)) := HTR.out.cell (i := 1) rfl
          have k2 : wx.cell? ⟨W4.heap.size, 2, none⟩ = some (.int .i64 (C.length : Int)) := HTR.out.cell (i := 2) rfl
          have k3 : wx.cell? ⟨W4.heap.size, 3, none⟩ = some (.slice x1 n1 y1) := HTR.out.cell (i := 3) rfl
          have k4 : wx.cell? ⟨W4.heap.size, 4, none⟩ = some (.slice x2 n2 y2) := HTR.out.cell (i := 4) rfl
          have k5 : wx.cell? ⟨W4.heap.size, 5, none⟩ = some (.slice x3 n3 y3) := HTR.out.cell (i := 5) rfl
          have r0 : wx.cell? ⟨w.heap.size + 1, 0, none⟩ = some z0 := by simp [World.cell?, hz]
          have r1 : wx.cell? ⟨w.heap.size + 1, 1, none⟩ = some z1 := by simp [World.cell?, hz]
          have r2 : wx.cell? ⟨w.heap.size + 1, 2, none⟩ = some z2 := by simp [World.cell?, hz]
          have r3 : wx.cell? ⟨w.heap.size + 1, 3, none⟩ = some z3 := by simp [World.cell?, hz]
          have r4 : wx.cell? ⟨w.heap.size + 1, 4, none⟩ = some z4 := by simp [World.cell?, hz]
          have r5 : wx.cell? ⟨w.heap.size + 1, 5, none⟩ = some z5 := by simp [World.cell?, hz]
          have rf : ∀ o, wx.frozen? ⟨w.heap.size + 1, o, none⟩ = false := fun o => by simp [World.frozen?, hz]
          have hlz : w.heap.size + 1 < wx.heap.size := (Array.getElem?_eq_some_iff.1 hz).1
          have hlw : w.heap.size + 1 < W4.heap.size := by
            obtain ⟨q0, q1, q2, q3, q4, q5, hq⟩ := (HNZ.out W4 (Below.refl _ _)).box.res
            exact (Array.getElem?_eq_some_iff.1 hq).1
          have HBW := Lib.hid ((HNZ.out wx HB.out).box.box.below)
          clear hz HTR
          go_wp2
          refine bodyPost_ret (v := .agg #[.int .i64 p, .int .i64 (R.length : Int), .int .i64 (C.length : Int), .slice x1 n1 y1, .slice x2 n2 y2, .slice x3 n3 y3]) ?_ rfl ?_
          · simp only [results, HRES.out]
            go_simp
          · refine ⟨R.length, C.length, dcI p dn il R R, rs.map (leadRow C), dcI p en kl C R, _, rfl, ?_, ⟨x1, y1, x2, y2, x3, y3, by rw [HN1.out, HN2.out, HN3.out], ?_⟩, ⟨R, B, Y, C, tt, rs, HRR.out.red, HRR.out.eqv, HBR.out.red, by rw [← HDT.out]; exact HBR.out.eqv, by rw [← HDT.out]; exact HYS.out, HRT.out, HRL.out, HCR.out.red, HCR.out.eqv, HJ.out, rfl, rfl, rfl, rfl, rfl⟩⟩
            · exact ((((((HBW.out.setCell (by show w.heap.size ≤ w.heap.size + 1; omega) _).setCell (by show w.heap.size ≤ w.heap.size + 1; omega) _).setCell (by show w.heap.size ≤ w.heap.size + 1; omega) _).setCell (by show w.heap.size ≤ w.heap.size + 1; omega) _).setCell (by show w.heap.size ≤ w.heap.size + 1; omega) _).setCell (by show w.heap.size ≤ w.heap.size + 1; omega) _)
            · have h1 := HRCP.out
              have e0 : ∀ {α : Type} [Inhabited α] (a b c : α), tq3 a b c 0 = a := fun _ _ _ => rfl
              have e1 : ∀ {α : Type} [Inhabited α] (a b c : α), tq3 a b c 1 = b := fun _ _ _ => rfl
              have e2 : ∀ {α : Type} [Inhabited α] (a b c : α), tq3 a b c 2 = c := fun _ _ _ => rfl
              simp only [e0, e1, e2] at h1
              simp only
              rw [← HN1.out, ← HN2.out, ← HN3.out]
              refine ((((((h1.same (Same.set _ (Or.inl hlw))).same (Same.set _ (Or.inl hlw))).same (Same.set _ (Or.inl hlw))).same (Same.set _ (Or.inl hlw))).same (Same.set _ (Or.inl hlw))).same (Same.set _ (Or.inl hlw))).wider (by omega) (by simp)
end Go.Proofs.YtckkbojankfdfaaDoor


namespace Go.Proofs.YtckkbojankfdfaaDoor
open Go.RowKit

theorem set6_block {w : World} {g : Nat} {y0 y1 y2 y3 y4 y5 : Value} {t : TypeId} {fr : Nat × Nat} (h : w.heap[g]? = some (.cells #[y0, y1, y2, y3, y4, y5] t fr)) (x0 x1 x2 x3 x4 x5 : Value) :
    ((((((w.setCell ⟨g, 0, none⟩ x0).setCell ⟨g, 1, none⟩ x1).setCell ⟨g, 2, none⟩ x2).setCell ⟨g, 3, none⟩ x3).setCell ⟨g, 4, none⟩ x4).setCell ⟨g, 5, none⟩ x5).heap[g]? = some (.cells #[x0, x1, x2, x3, x4, x5] t fr) := by
  have b0 := set_block (i := 0) h x0
  have b1 := set_block (i := 1) b0 x1
  have b2 := set_block (i := 2) b1 x2
  have b3 := set_block (i := 3) b2 x3
  have b4 := set_block (i := 4) b3 x4
  have b5 := set_block (i := 5) b4 x5
  rw [b5]
  rfl
/-- A page in its box, and the place of the result. -/
structure FpB (w W : World) (p : Int) (dn en : Nat) (iv jv kv : Value) (il jl kl : List (List Int)) (fst : Prop) : Prop where
  below : Below w.heap.size w W
  box : W.heap[w.heap.size]? = some (.cells #[.int .i64 p, .int .i64 (dn : Int), .int .i64 (en : Int), iv, jv, kv] 26 (0, 0))
  res : ∃ x0 x1 x2 x3 x4 x5, W.heap[w.heap.size + 1]? = some (.cells #[x0, x1, x2, x3, x4, x5] 26 (0, 0))
  cx : Cp 0 W iv jv kv il jl kl
  rc : fst ∨ RcCp (w.heap.size + 2) W.heap.size W iv jv kv il jl kl
theorem FpB.lt {w W : World} {p : Int} {dn en : Nat} {iv jv kv : Value} {il jl kl : List (List Int)} {fst : Prop} (h : FpB w W p dn en iv jv kv il jl kl fst) : w.heap.size + 1 < W.heap.size := by
  obtain ⟨x0, x1, x2, x3, x4, x5, hr⟩ := h.res
  exact (Array.getElem?_eq_some_iff.1 hr).1
theorem FpB.next {w W W' : World} {p : Int} {dn en : Nat} {iv jv kv : Value} {il jl kl : List (List Int)} {fst : Prop} (h : FpB w W p dn en iv jv kv il jl kl fst) (hb : Below W.heap.size W W') : FpB w W' p dn en iv jv kv il jl kl fst := by
  have hl := h.lt
  obtain ⟨x0, x1, x2, x3, x4, x5, hr⟩ := h.res
  exact ⟨h.below.trans (hb.mono h.below.size), (hb.block _ (by omega)).trans h.box, ⟨x0, x1, x2, x3, x4, x5, (hb.block _ hl).trans hr⟩, h.cx.below hb, h.rc.imp id (fun r => (r.same (Same.of_below hb (Nat.le_refl _))).wider (Nat.le_refl _) hb.size)⟩
theorem FpB.cell {w W : World} {p : Int} {dn en : Nat} {iv jv kv : Value} {il jl kl : List (List Int)} {fst : Prop} (h : FpB w W p dn en iv jv kv il jl kl fst) {i : Nat} {x : Value} (hv : #[.int .i64 p, .int .i64 (dn : Int), .int .i64 (en : Int), iv, jv, kv][i]? = some x) : W.cell? ⟨w.heap.size, i, none⟩ = some x := by
  have h' := h.box
  simp [World.cell?, h', hv]
theorem FpB.frozen {w W : World} {p : Int} {dn en : Nat} {iv jv kv : Value} {il jl kl : List (List Int)} {fst : Prop} (h : FpB w W p dn en iv jv kv il jl kl fst) (i : Nat) : W.frozen? ⟨w.heap.size, i, none⟩ = false := by
  have h' := h.box
  simp [World.frozen?, h']
theorem FpB.start {w : World} {p : Int} {dn en : Nat} {iv jv kv : Value} {il jl kl : List (List Int)} {fst : Prop} (hf : fst) (h : Cp 0 w iv jv kv il jl kl) (x0 x1 x2 x3 x4 x5 : Value) :
    FpB w ((w.alloc (.cells #[.int .i64 p, .int .i64 (dn : Int), .int .i64 (en : Int), iv, jv, kv] 26)).alloc (.cells #[x0, x1, x2, x3, x4, x5] 26)) p dn en iv jv kv il jl kl fst := by
  have b1 := below_alloc1 w (.cells #[.int .i64 p, .int .i64 (dn : Int), .int .i64 (en : Int), iv, jv, kv] 26)
  have h1 := heap_alloc_new w (.cells #[.int .i64 p, .int .i64 (dn : Int), .int .i64 (en : Int), iv, jv, kv] 26)
  obtain ⟨w1, hw1⟩ : ∃ w1, w1 = w.alloc (.cells #[.int .i64 p, .int .i64 (dn : Int), .int .i64 (en : Int), iv, jv, kv] 26) := ⟨_, rfl⟩
  have s1 : w1.heap.size = w.heap.size + 1 := by rw [hw1]; simp
  rw [← hw1] at b1 h1 ⊢
  have b2 := below_alloc1 w1 (.cells #[x0, x1, x2, x3, x4, x5] 26)
  have h2 := heap_alloc_new w1 (.cells #[x0, x1, x2, x3, x4, x5] 26)
  rw [s1] at h2
  exact ⟨b1.trans (b2.mono b1.size), (b2.block _ (by omega)).trans h1, ⟨x0, x1, x2, x3, x4, x5, h2⟩, (h.below b1).below b2, Or.inl hf⟩
/-- The derived page in the box. -/
theorem FpB.put {w W W1 : World} {p : Int} {dn en d1 e1 : Nat} {iv jv kv x3 x4 x5 : Value} {il jl kl i1 j1 k1 : List (List Int)} {fst : Prop} (h : FpB w W p dn en iv jv kv il jl kl fst) (hb : Below W.heap.size W W1) (hr : RcCp W.heap.size W1.heap.size W1 x3 x4 x5 i1 j1 k1) (f' : Prop) :
    FpB w ((((((W1.setCell ⟨w.heap.size, 0, none⟩ (.int .i64 p)).setCell ⟨w.heap.size, 1, none⟩ (.int .i64 (d1 : Int))).setCell ⟨w.heap.size, 2, none⟩ (.int .i64 (e1 : Int))).setCell ⟨w.heap.size, 3, none⟩ x3).setCell ⟨w.heap.size, 4, none⟩ x4).setCell ⟨w.heap.size, 5, none⟩ x5) p d1 e1 x3 x4 x5 i1 j1 k1 f' := by
  have h1 := h.next hb
  have hl := h.lt
  have hS : ∀ o x (V : World), Same W.heap.size W1.heap.size V (V.setCell ⟨w.heap.size, o, none⟩ x) := fun o x V => Same.set x (Or.inl (by omega))
  have hr6 := (((((hr.same (hS 0 (.int .i64 p) _)).same (hS 1 (.int .i64 (d1 : Int)) _)).same (hS 2 (.int .i64 (e1 : Int)) _)).same (hS 3 x3 _)).same (hS 4 x4 _)).same (hS 5 x5 _)
  have hO : ∀ o x (V : World), (V.setCell ⟨w.heap.size, o, none⟩ x).heap[w.heap.size + 1]? = V.heap[w.heap.size + 1]? := fun o x V => Below.heap_setCell V ⟨w.heap.size, o, none⟩ x _ (by show w.heap.size + 1 ≠ w.heap.size; omega)
  refine ⟨((((((h1.below.setCell (Nat.le_refl _) _).setCell (Nat.le_refl _) _).setCell (Nat.le_refl _) _).setCell (Nat.le_refl _) _).setCell (Nat.le_refl _) _).setCell (Nat.le_refl _) _), set6_block h1.box _ _ _ _ _ _, ?_, hr6.cx, Or.inr (hr6.wider (by omega) (by simp))⟩
  obtain ⟨y0, y1, y2, y3, y4, y5, hy⟩ := h1.res
  exact ⟨y0, y1, y2, y3, y4, y5, by rw [hO, hO, hO, hO, hO, hO]; exact hy⟩
/-- What the predicate answers. -/
def WtR (P : Prop) (w : World) (e : Ending) (w' : World) : Prop := ∃ b : Bool, e = .returned (.bool b) ∧ Below w.heap.size w w' ∧ (b = true ↔ P)
/-- The same without what the tables hold. -/
structure FpS (w W : World) (p : Int) (dn en : Nat) (iv jv kv : Value) (il jl kl : List (List Int)) (fst : Prop) : Prop where
  below : Below w.heap.size w W
  box : W.heap[w.heap.size]? = some (.cells #[.int .i64 p, .int .i64 (dn : Int), .int .i64 (en : Int), iv, jv, kv] 26 (0, 0))
  res : ∃ x0 x1 x2 x3 x4 x5, W.heap[w.heap.size + 1]? = some (.cells #[x0, x1, x2, x3, x4, x5] 26 (0, 0))
  rc : fst ∨ RcCp (w.heap.size + 2) W.heap.size W iv jv kv il jl kl
theorem FpB.s {w W : World} {p : Int} {dn en : Nat} {iv jv kv : Value} {il jl kl : List (List Int)} {fst : Prop} (h : FpB w W p dn en iv jv kv il jl kl fst) : FpS w W p dn en iv jv kv il jl kl fst := ⟨h.below, h.box, h.res, h.rc⟩
theorem FpS.cell {w W : World} {p : Int} {dn en : Nat} {iv jv kv : Value} {il jl kl : List (List Int)} {fst : Prop} (h : FpS w W p dn en iv jv kv il jl kl fst) {i : Nat} {x : Value} (hv : #[.int .i64 p, .int .i64 (dn : Int), .int .i64 (en : Int), iv, jv, kv][i]? = some x) : W.cell? ⟨w.heap.size, i, none⟩ = some x := by
  have h' := h.box
  simp [World.cell?, h', hv]
theorem FpS.back {w W : World} {p : Int} {dn en : Nat} {iv jv kv : Value} {il jl kl : List (List Int)} {fst : Prop} (h : FpS w W p dn en iv jv kv il jl kl fst) (z0 z1 z2 z3 z4 z5 : Value) : FpS w (W.setRow (w.heap.size + 1) #[z0, z1, z2, z3, z4, z5]) p dn en iv jv kv il jl kl fst := by
  obtain ⟨x0, x1, x2, x3, x4, x5, hr⟩ := h.res
  exact ⟨below_setRow h.below (Nat.le_succ _) _, (setRow_other W _ _ _ (by omega)).trans h.box, ⟨z0, z1, z2, z3, z4, z5, setRow_heap W _ _ _ _ _ hr⟩, h.rc.imp id (fun r => (r.same (Same.setRow _ (Or.inl (by omega)))).wider (Nat.le_refl _) (by simp))⟩
def FpR (want : Int → CpO → Prop) (o : CpO) (w : World) (e : Ending) (w' : World) : Prop :=
  ∃ (r : Int) (a : CpO) (u : Value), e = .returned (.tuple #[.int .i64 r, u]) ∧ Below w.heap.size w w' ∧ Fp want 1 o r a ∧ (r = 1 ∨ RwCp w.heap.size w'.heap.size w' u a) ∧ ∃ (q0 q1 q2 : Int) (x1 : Option Addr) (n1 t1 : Nat) (x2 : Option Addr) (n2 t2 : Nat) (x3 : Option Addr) (n3 t3 : Nat), u = .agg #[.int .i64 q0, .int .i64 q1, .int .i64 q2, .slice x1 n1 t1, .slice x2 n2 t2, .slice x3 n3 t3]

set_option maxHeartbeats 6400000 in
set_option maxRecDepth 100000 in
theorem firstPage_any (want : Int → CpO → Prop) (mu : Int → CpO → Nat) (F1 : FuncId) (p : Int) (dn en : Nat) (iv jv kv : Value) (il jl kl : List (List Int)) (w : World) (h : Cp 0 w iv jv kv il jl kl) (hg : CpG (p, ((dn : Nat) : Int), ((en : Nat) : Int), il, jl, kl))
    (hw : ∀ (r : Int) (dn en : Nat) (iv jv kv : Value) (il jl kl : List (List Int)) (W : World), Cp 0 W iv jv kv il jl kl → CpG (p, ((dn : Nat) : Int), ((en : Nat) : Int), il, jl, kl) → Calls Tryd.prog F1 #[.int .i64 r, .agg #[.int .i64 p, .int .i64 (dn : Int), .int .i64 (en : Int), iv, jv, kv]] W (WtR (want r (p, ((dn : Nat) : Int), ((en : Nat) : Int), il, jl, kl)) W))
    (hcf : ∀ (args : Array Value) (w : World), (callFunc F1 args).run Tryd.prog w = .ok (.enter F1 args) w)
    (hmu : ∀ (r : Int) (a a1 : CpO), 1 ≤ r → r + mu r a ≤ 1 + mu 1 (p, ((dn : Nat) : Int), ((en : Nat) : Int), il, jl, kl) → CpG a → ¬ want r a → DcO a a1 → mu (r + 1) a1 < mu r a) (hN : mu 1 (p, ((dn : Nat) : Int), ((en : Nat) : Int), il, jl, kl) ≤ 100) :
    Calls Tryd.prog 26 #[.agg #[.int .i64 p, .int .i64 (dn : Int), .int .i64 (en : Int), iv, jv, kv], .func (.func F1) #[] #[]] w (FpR want (p, ((dn : Nat) : Int), ((en : Nat) : Int), il, jl, kl) w) := by
  obtain ⟨⟨ai, ci, rfl⟩, ⟨aj, cj, rfl⟩, ⟨ak, ck, rfl⟩⟩ := h.shapes
  have hres : Tryd.f26.results = #[.tmp 4, .cell 5 26] := by kernel_rfl
  have HRES := Lib.hid hres
  have HH := Lib.hid h
  have HG := Lib.hid hg
  have HW := Lib.hid hw
  obtain ⟨o, ho⟩ : ∃ o : CpO, o = (p, ((dn : Nat) : Int), ((en : Nat) : Int), il, jl, kl) := ⟨_, rfl⟩
  obtain ⟨M, hM⟩ : ∃ M : Nat, M = mu 1 (p, ((dn : Nat) : Int), ((en : Nat) : Int), il, jl, kl) := ⟨_, rfl⟩
  have HMU := Lib.hid hmu
  rw [← hM] at HMU hN
  have HON := Lib.hid ho
  rw [← ho]
  have HMM := Lib.hid hM
  clear h hg hw hres hmu ho hM
  obtain ⟨agg0, hagg⟩ : ∃ v : Value, v = .agg #[.int .i64 p, .int .i64 (dn : Int), .int .i64 (en : Int), .slice ai il.length ci, .slice aj jl.length cj, .slice ak kl.length ck] := ⟨_, rfl⟩
  go_enter Tryd.func26, Tryd.ntmps26
  go_upto_region 1 with fail
  refine forget_wp (fun W => FpB w W p dn en (.slice ai il.length ci) (.slice aj jl.length cj) (.slice ak kl.length ck) il jl kl True) (FpB.start trivial HH.out _ _ _ _ _ _) ?_
  intro W hx
  have HX := Lib.hid hx
  clear hx HH
  go_wp2
  refine wp_scope_jumps 0 (fun a' w' => ∃ (r : Int) (dx ex : Nat) (ix jx kx : Value) (il' jl' kl' : List (List Int)) (u7 u8 u9 u10 u11 u12 u13 u14 u15 u16 : Value), a' = { tmps := #[.agg #[.int .i64 p, .int .i64 (dn : Int), .int .i64 (en : Int), .slice ai il.length ci, .slice aj jl.length cj, .slice ak kl.length ck], .func (.func F1) #[] #[], .pointer (some ⟨w.heap.size, 0, none⟩), undef, .int .i64 0, .pointer (some ⟨w.heap.size + 1, 0, none⟩), .int .i64 r, u7, u8, u9, u10, u11, u12, u13, u14, u15, u16], defers := [] } ∧ Hid (FpB w w' p dx ex ix jx kx il' jl' kl' (r = 1)) ∧ Hid (CpG (p, (dx : Int), (ex : Int), il', jl', kl')) ∧ (1 ≤ r ∧ r + mu r (p, (dx : Int), (ex : Int), il', jl', kl') ≤ 1 + M) ∧ Hid (∀ r2 a2, Fp want r (p, (dx : Int), (ex : Int), il', jl', kl') r2 a2 → Fp want 1 o r2 a2)) (fun a' _ => (1 + (M : Int) - intOf (a'.tmps.getD 6 undef)).toNat) rfl ?_ ?_
  · have hr1 : (1 : Int) ≤ 1 ∧ (1 : Int) + mu 1 (p, ((dn : Nat) : Int), ((en : Nat) : Int), il, jl, kl) ≤ 1 + M := ⟨by omega, by rw [HMM.out]; exact Int.le_refl _⟩
    have HF : Hid (∀ r2 a2, Fp want 1 (p, ((dn : Nat) : Int), ((en : Nat) : Int), il, jl, kl) r2 a2 → Fp want 1 o r2 a2) := Lib.hid (fun r2 a2 h => by rw [HON.out]; exact h)
    have c0 := HX.out.cell (i := 0) rfl
    have c1 := HX.out.cell (i := 1) rfl
    have c2 := HX.out.cell (i := 2) rfl
    have c3 := HX.out.cell (i := 3) rfl
    have c4 := HX.out.cell (i := 4) rfl
    have c5 := HX.out.cell (i := 5) rfl
    have HWW := Lib.hid (HW.out (1 : Int) dn en _ _ _ il jl kl _ HX.out.cx HG.out)
    go_wp2
    go_step3
    go_wp2_with fail
    refine HWW.out.mono ?_
    rintro e W2 ⟨b, rfl, hb2, hbw⟩
    have HX2 := Lib.hid (HX.out.next hb2)
    have HBW := Lib.hid hbw
    clear hb2 hbw HWW c0 c1 c2 c3 c4 c5
    cases b with
    | true =>
      have HFP := Lib.hid (HF.out _ _ (Fp.here (HBW.out.1 rfl)))
      go_wp2
      refine wp_region_held (S := fun W' => FpS w W' p dn en (.slice ai il.length ci) (.slice aj jl.length cj) (.slice ak kl.length ck) il jl kl True) (by kernel_rfl) ?_
      have S0 := (HX2.out.next (Below.refl W2.heap.size W2).drew).s
      change wpAnyH _ _ _ _ _ _ _ _ W2.drew
      generalize W2.drew = wd at *
      refine held_take (i := 0) (v := .int .i64 (1 : Int)) (some 11) rfl rfl (by kernel_rfl) (by kernel_rfl) (by kernel_rfl) (fun _ _ _ h => h) (yieldsIf_move (by kernel_rfl) rfl (by kernel_rfl)) S0 ?_
      refine held_take (i := 1) (v := .agg #[.int .i64 p, .int .i64 (dn : Int), .int .i64 (en : Int), .slice ai il.length ci, .slice aj jl.length cj, .slice ak kl.length ck]) (some 12) rfl rfl (by kernel_rfl) (by kernel_rfl) (by kernel_rfl) (fun _ _ _ h => h) (yieldsIf_cell (by kernel_rfl) rfl (by kernel_rfl) (fun W' h => hload6 W' (h.cell (i := 0) rfl) (h.cell (i := 1) rfl) (h.cell (i := 2) rfl) (h.cell (i := 3) rfl) (h.cell (i := 4) rfl) (h.cell (i := 5) rfl))) S0 ?_
      refine held_take (i := 2) (v := .int .i64 (1 : Int)) (some 4) rfl rfl (by kernel_rfl) (by kernel_rfl) (by kernel_rfl) (fun _ _ _ h => h) (yieldsIf_assign (by kernel_rfl) rfl (by kernel_rfl)) S0 ?_
      obtain ⟨z0, z1, z2, z3, z4, z5, hz⟩ := S0.res
      have SB := S0.back (.int .i64 p) (.int .i64 (dn : Int)) (.int .i64 (en : Int)) (.slice ai il.length ci) (.slice aj jl.length cj) (.slice ak kl.length ck)
      have hz5 := setRow_heap wd (w.heap.size + 1) _ #[.int .i64 p, .int .i64 (dn : Int), .int .i64 (en : Int), .slice ai il.length ci, .slice aj jl.length cj, .slice ak kl.length ck] 26 _ hz
      refine held_one (i := 3) (by kernel_rfl) ?_
      refine op_row (i := 3) rfl rfl rfl 26 (.tmp 5) (.tmp 12) rfl (w.heap.size + 1) #[.int .i64 p, .int .i64 (dn : Int), .int .i64 (en : Int), .slice ai il.length ci, .slice aj jl.length cj, .slice ak kl.length ck] (by kernel_rfl) (by kernel_rfl) 26 _ hz (by kernel_rfl) (by kernel_rfl) (by kernel_rfl) ?_
      obtain ⟨W5, hW5⟩ : ∃ W5, W5 = wd.setRow (w.heap.size + 1) #[.int .i64 p, .int .i64 (dn : Int), .int .i64 (en : Int), .slice ai il.length ci, .slice aj jl.length cj, .slice ak kl.length ck] := ⟨_, rfl⟩
      rw [← hW5] at SB hz5 ⊢
      clear hW5
      refine ⟨SB, ?_⟩
      refine wpAnyH_done (by kernel_rfl) ?_ _
      simp only [Act.put, List.setIfInBounds_toArray, List.set_cons_zero, List.set_cons_succ]
      have HB5 := Lib.hid SB.below
      have HRC := Lib.hid SB.rc
      have q0 : W5.cell? ⟨w.heap.size + 1, 0, none⟩ = some (.int .i64 p) := by simp [World.cell?, hz5]
      have q1 : W5.cell? ⟨w.heap.size + 1, 1, none⟩ = some (.int .i64 (dn : Int)) := by simp [World.cell?, hz5]
      have q2 : W5.cell? ⟨w.heap.size + 1, 2, none⟩ = some (.int .i64 (en : Int)) := by simp [World.cell?, hz5]
      have q3 : W5.cell? ⟨w.heap.size + 1, 3, none⟩ = some (.slice ai il.length ci) := by simp [World.cell?, hz5]
      have q4 : W5.cell? ⟨w.heap.size + 1, 4, none⟩ = some (.slice aj jl.length cj) := by simp [World.cell?, hz5]
      have q5 : W5.cell? ⟨w.heap.size + 1, 5, none⟩ = some (.slice ak kl.length ck) := by simp [World.cell?, hz5]
      clear S0 SB hz HX2 HBW hz5
      go_wp2
      simp only [Exit.jump, Exit.noGoto]
      refine bodyPost_ret (v := .tuple #[.int .i64 (1 : Int), .agg #[.int .i64 p, .int .i64 (dn : Int), .int .i64 (en : Int), .slice ai il.length ci, .slice aj jl.length cj, .slice ak kl.length ck]]) ?_ rfl ?_
      · simp only [results, HRES.out]
        go_simp
      · exact ⟨(1 : Int), _, _, rfl, HB5.out, HFP.out, Or.inl rfl, _, _, _, _, _, _, _, _, _, _, _, _, rfl⟩
    | false =>
      have HNW : Hid (¬ want (1 : Int) (p, ((dn : Nat) : Int), ((en : Nat) : Int), il, jl, kl)) := Lib.hid (fun hh => absurd (HBW.out.2 hh) (by simp))
      have c0 := HX2.out.cell (i := 0) rfl
      have c1 := HX2.out.cell (i := 1) rfl
      have c2 := HX2.out.cell (i := 2) rfl
      have c3 := HX2.out.cell (i := 3) rfl
      have c4 := HX2.out.cell (i := 4) rfl
      have c5 := HX2.out.cell (i := 5) rfl
      have hfz := HX2.out.frozen
      have HDV := Lib.hid (derivedOf_any p dn en _ _ _ il jl kl _ HX2.out.cx HG.out.bd HG.out.cp)
      go_wp2_with fail
      refine HDV.out.mono ?_
      rintro e W3 ⟨d1, e1, i1, j1, k1, u, rfl, hb3, ⟨x1, y1, x2, y2, x3, y3, rfl, hrc⟩, hdc⟩
      simp only at hrc ⊢
      have HD1 : Hid (DcO (p, ((dn : Nat) : Int), ((en : Nat) : Int), il, jl, kl) (p, (d1 : Int), (e1 : Int), i1, j1, k1)) := Lib.hid ⟨d1, e1, i1, j1, k1, rfl, by simpa using hdc⟩
      have HP3 := Lib.hid (HX2.out.put (d1 := d1) (e1 := e1) hb3 hrc ((2 : Int) = 1))
      have HX3 := Lib.hid (HX2.out.next hb3)
      have dd0 := HX3.out.cell (i := 0) rfl
      have dd1 := HX3.out.cell (i := 1) rfl
      have dd2 := HX3.out.cell (i := 2) rfl
      have dd3 := HX3.out.cell (i := 3) rfl
      have dd4 := HX3.out.cell (i := 4) rfl
      have dd5 := HX3.out.cell (i := 5) rfl
      have hfz3 := HX3.out.frozen
      have hl3 := HX3.out.lt
      obtain ⟨n1, hn1⟩ : ∃ n, n = i1.length := ⟨_, rfl⟩
      obtain ⟨n2, hn2⟩ : ∃ n, n = j1.length := ⟨_, rfl⟩
      obtain ⟨n3, hn3⟩ : ∃ n, n = k1.length := ⟨_, rfl⟩
      rw [← hn1, ← hn2, ← hn3] at HP3
      rw [← hn1, ← hn2, ← hn3]
      have hmu := HMU.out (1 : Int) _ _ hr1.1 hr1.2 HG.out HNW.out HD1.out
      have HG3 := Lib.hid (DcO.good HG.out HD1.out)
      have HF3 : Hid (∀ r2 a2, Fp want (2 : Int) (p, (d1 : Int), (e1 : Int), i1, j1, k1) r2 a2 → Fp want 1 o r2 a2) := Lib.hid (fun r2 a2 h => HF.out _ _ (Fp.next HNW.out HD1.out h))
      have hr3 : (1 : Int) ≤ (2 : Int) ∧ (2 : Int) + mu (2 : Int) (p, (d1 : Int), (e1 : Int), i1, j1, k1) ≤ 1 + (M : Int) := ⟨by omega, by first | omega | (show (2 : Int) + mu (1 + 1) _ ≤ _; omega)⟩
      have hr4 : (1 + (M : Int) - (2 : Int)).toNat < (1 + (M : Int) - (1 : Int)).toNat := by omega
      clear HDV hb3 hrc hdc hn1 hn2 hn3 HX2 HX3 c0 c1 c2 c3 c4 c5 hfz HBW HD1 hmu
      go_wp2
      go_step3
      exact ⟨rfl, _, d1, e1, _, _, _, i1, j1, k1, _, _, _, _, _, _, _, _, _, _, rfl, HP3, HG3, hr3, HF3⟩
  · rintro a' W2' ⟨r, dn, en, iv, jv, kv, il, jl, kl, u7, u8, u9, u10, u11, u12, u13, u14, u15, u16, rfl, HX, HG, hr1, HF⟩
    obtain ⟨⟨ai2, ci2, rfl⟩, ⟨aj2, cj2, rfl⟩, ⟨ak2, ck2, rfl⟩⟩ := HX.out.cx.shapes
    have c0 := HX.out.cell (i := 0) rfl
    have c1 := HX.out.cell (i := 1) rfl
    have c2 := HX.out.cell (i := 2) rfl
    have c3 := HX.out.cell (i := 3) rfl
    have c4 := HX.out.cell (i := 4) rfl
    have c5 := HX.out.cell (i := 5) rfl
    have HWW := Lib.hid (HW.out r dn en _ _ _ il jl kl _ HX.out.cx HG.out)
    go_wp2_with fail
    refine HWW.out.mono ?_
    rintro e W2 ⟨b, rfl, hb2, hbw⟩
    have HX2 := Lib.hid (HX.out.next hb2)
    have HBW := Lib.hid hbw
    clear hb2 hbw HWW c0 c1 c2 c3 c4 c5
    cases b with
    | true =>
      have HFP := Lib.hid (HF.out _ _ (Fp.here (HBW.out.1 rfl)))
      go_wp2
      refine wp_region_held (S := fun W' => FpS w W' p dn en (.slice ai2 il.length ci2) (.slice aj2 jl.length cj2) (.slice ak2 kl.length ck2) il jl kl (r = 1)) (by kernel_rfl) ?_
      have S0 := (HX2.out.next (Below.refl W2.heap.size W2).drew).s
      change wpAnyH _ _ _ _ _ _ _ _ W2.drew
      generalize W2.drew = wd at *
      refine held_take (i := 0) (v := .int .i64 r) (some 11) rfl rfl (by kernel_rfl) (by kernel_rfl) (by kernel_rfl) (fun _ _ _ h => h) (yieldsIf_move (by kernel_rfl) rfl (by kernel_rfl)) S0 ?_
      refine held_take (i := 1) (v := .agg #[.int .i64 p, .int .i64 (dn : Int), .int .i64 (en : Int), .slice ai2 il.length ci2, .slice aj2 jl.length cj2, .slice ak2 kl.length ck2]) (some 12) rfl rfl (by kernel_rfl) (by kernel_rfl) (by kernel_rfl) (fun _ _ _ h => h) (yieldsIf_cell (by kernel_rfl) rfl (by kernel_rfl) (fun W' h => hload6 W' (h.cell (i := 0) rfl) (h.cell (i := 1) rfl) (h.cell (i := 2) rfl) (h.cell (i := 3) rfl) (h.cell (i := 4) rfl) (h.cell (i := 5) rfl))) S0 ?_
      refine held_take (i := 2) (v := .int .i64 r) (some 4) rfl rfl (by kernel_rfl) (by kernel_rfl) (by kernel_rfl) (fun _ _ _ h => h) (yieldsIf_assign (by kernel_rfl) rfl (by kernel_rfl)) S0 ?_
      obtain ⟨z0, z1, z2, z3, z4, z5, hz⟩ := S0.res
      have SB := S0.back (.int .i64 p) (.int .i64 (dn : Int)) (.int .i64 (en : Int)) (.slice ai2 il.length ci2) (.slice aj2 jl.length cj2) (.slice ak2 kl.length ck2)
      have hz5 := setRow_heap wd (w.heap.size + 1) _ #[.int .i64 p, .int .i64 (dn : Int), .int .i64 (en : Int), .slice ai2 il.length ci2, .slice aj2 jl.length cj2, .slice ak2 kl.length ck2] 26 _ hz
      refine held_one (i := 3) (by kernel_rfl) ?_
      refine op_row (i := 3) rfl rfl rfl 26 (.tmp 5) (.tmp 12) rfl (w.heap.size + 1) #[.int .i64 p, .int .i64 (dn : Int), .int .i64 (en : Int), .slice ai2 il.length ci2, .slice aj2 jl.length cj2, .slice ak2 kl.length ck2] (by kernel_rfl) (by kernel_rfl) 26 _ hz (by kernel_rfl) (by kernel_rfl) (by kernel_rfl) ?_
      obtain ⟨W5, hW5⟩ : ∃ W5, W5 = wd.setRow (w.heap.size + 1) #[.int .i64 p, .int .i64 (dn : Int), .int .i64 (en : Int), .slice ai2 il.length ci2, .slice aj2 jl.length cj2, .slice ak2 kl.length ck2] := ⟨_, rfl⟩
      rw [← hW5] at SB hz5 ⊢
      clear hW5
      refine ⟨SB, ?_⟩
      refine wpAnyH_done (by kernel_rfl) ?_ _
      simp only [Act.put, List.setIfInBounds_toArray, List.set_cons_zero, List.set_cons_succ]
      have HB5 := Lib.hid SB.below
      have HRC := Lib.hid SB.rc
      have q0 : W5.cell? ⟨w.heap.size + 1, 0, none⟩ = some (.int .i64 p) := by simp [World.cell?, hz5]
      have q1 : W5.cell? ⟨w.heap.size + 1, 1, none⟩ = some (.int .i64 (dn : Int)) := by simp [World.cell?, hz5]
      have q2 : W5.cell? ⟨w.heap.size + 1, 2, none⟩ = some (.int .i64 (en : Int)) := by simp [World.cell?, hz5]
      have q3 : W5.cell? ⟨w.heap.size + 1, 3, none⟩ = some (.slice ai2 il.length ci2) := by simp [World.cell?, hz5]
      have q4 : W5.cell? ⟨w.heap.size + 1, 4, none⟩ = some (.slice aj2 jl.length cj2) := by simp [World.cell?, hz5]
      have q5 : W5.cell? ⟨w.heap.size + 1, 5, none⟩ = some (.slice ak2 kl.length ck2) := by simp [World.cell?, hz5]
      clear S0 SB hz HX2 HBW hz5
      go_wp2
      simp only [Exit.jump, Exit.noGoto]
      refine bodyPost_ret (v := .tuple #[.int .i64 r, .agg #[.int .i64 p, .int .i64 (dn : Int), .int .i64 (en : Int), .slice ai2 il.length ci2, .slice aj2 jl.length cj2, .slice ak2 kl.length ck2]]) ?_ rfl ?_
      · simp only [results, HRES.out]
        go_simp
      · exact ⟨r, _, _, rfl, HB5.out, HFP.out, HRC.out.imp id (fun h => ⟨_, _, _, _, _, _, rfl, h.wider (by omega) (Nat.le_refl _)⟩), _, _, _, _, _, _, _, _, _, _, _, _, rfl⟩
    | false =>
      have HNW : Hid (¬ want r (p, ((dn : Nat) : Int), ((en : Nat) : Int), il, jl, kl)) := Lib.hid (fun hh => absurd (HBW.out.2 hh) (by simp))
      have c0 := HX2.out.cell (i := 0) rfl
      have c1 := HX2.out.cell (i := 1) rfl
      have c2 := HX2.out.cell (i := 2) rfl
      have c3 := HX2.out.cell (i := 3) rfl
      have c4 := HX2.out.cell (i := 4) rfl
      have c5 := HX2.out.cell (i := 5) rfl
      have hfz := HX2.out.frozen
      have HDV := Lib.hid (derivedOf_any p dn en _ _ _ il jl kl _ HX2.out.cx HG.out.bd HG.out.cp)
      go_wp2_with fail
      refine HDV.out.mono ?_
      rintro e W3 ⟨d1, e1, i1, j1, k1, u, rfl, hb3, ⟨x1, y1, x2, y2, x3, y3, rfl, hrc⟩, hdc⟩
      simp only at hrc ⊢
      have HD1 : Hid (DcO (p, ((dn : Nat) : Int), ((en : Nat) : Int), il, jl, kl) (p, (d1 : Int), (e1 : Int), i1, j1, k1)) := Lib.hid ⟨d1, e1, i1, j1, k1, rfl, by simpa using hdc⟩
      have HP3 := Lib.hid (HX2.out.put (d1 := d1) (e1 := e1) hb3 hrc ((r + 1) = 1))
      have HX3 := Lib.hid (HX2.out.next hb3)
      have dd0 := HX3.out.cell (i := 0) rfl
      have dd1 := HX3.out.cell (i := 1) rfl
      have dd2 := HX3.out.cell (i := 2) rfl
      have dd3 := HX3.out.cell (i := 3) rfl
      have dd4 := HX3.out.cell (i := 4) rfl
      have dd5 := HX3.out.cell (i := 5) rfl
      have hfz3 := HX3.out.frozen
      have hl3 := HX3.out.lt
      obtain ⟨n1, hn1⟩ : ∃ n, n = i1.length := ⟨_, rfl⟩
      obtain ⟨n2, hn2⟩ : ∃ n, n = j1.length := ⟨_, rfl⟩
      obtain ⟨n3, hn3⟩ : ∃ n, n = k1.length := ⟨_, rfl⟩
      rw [← hn1, ← hn2, ← hn3] at HP3
      rw [← hn1, ← hn2, ← hn3]
      have hmu := HMU.out r _ _ hr1.1 hr1.2 HG.out HNW.out HD1.out
      have HG3 := Lib.hid (DcO.good HG.out HD1.out)
      have HF3 : Hid (∀ r2 a2, Fp want (r + 1) (p, (d1 : Int), (e1 : Int), i1, j1, k1) r2 a2 → Fp want 1 o r2 a2) := Lib.hid (fun r2 a2 h => HF.out _ _ (Fp.next HNW.out HD1.out h))
      have hr3 : (1 : Int) ≤ (r + 1) ∧ (r + 1) + mu (r + 1) (p, (d1 : Int), (e1 : Int), i1, j1, k1) ≤ 1 + (M : Int) := ⟨by omega, by first | omega | (show (2 : Int) + mu (1 + 1) _ ≤ _; omega)⟩
      have hr4 : (1 + (M : Int) - (r + 1)).toNat < (1 + (M : Int) - r).toNat := by omega
      clear HDV hb3 hrc hdc hn1 hn2 hn3 HX2 HX3 c0 c1 c2 c3 c4 c5 hfz HBW HD1 hmu
      go_wp2
      go_step3
      refine ⟨rfl, ⟨_, d1, e1, _, _, _, i1, j1, k1, ⟨_, _, _, _, _, _, _, _, _, _, rfl, HP3, HG3, hr3, HF3⟩⟩, ?_⟩
      simpa [intOf] using hr4
end Go.Proofs.YtckkbojankfdfaaDoor


namespace Go.Proofs.YtckkbojankfdfaaDoor
open Go.RowKit

theorem heqI {a b : Int} {c : Bool} (h : (a == b) = c) (w : World) : (binOp .eql 2 (.int .i64 a) (.int .i64 b)).run Tryd.prog w = .ok (.bool c) w := by subst h; go_simp
/-- The map I of a page has an inverse. -/
def StW (_ : Int) (o : CpO) : Prop := RkT o.1 o.2.2.2.1 o.2.1
/-- The stable page of a couple. -/
def StP (o : CpO) (x : Int) : Prop := ∃ a, Fp StW 1 o x a
theorem stw_less {o a : CpO} (g : CpG o) (h : ¬ StW 0 o) (hd : DcO o a) : a.2.1 < o.2.1 := by
  have hle := (DcO.le g hd).2.1
  rcases Int.lt_or_eq_of_le hle with h1 | e
  · exact h1
  refine absurd ?_ h
  obtain ⟨d1, e1, i1, j1, k1, rfl, hdc⟩ := hd
  obtain ⟨R, B, Y, C, tt, rs, h1, h2, _, _, _, _, _, _, _, _, rfl, rfl, _⟩ := hdc.of
  exact ⟨R, h1, h2, e.symm⟩

set_option maxHeartbeats 1600000 in
set_option maxRecDepth 100000 in
theorem stablePage1_any (r p : Int) (dn en : Nat) (iv jv kv : Value) (il jl kl : List (List Int)) (w : World) (h : Cp 0 w iv jv kv il jl kl) (hg : CpG (p, (dn : Int), (en : Int), il, jl, kl)) :
    Calls Tryd.prog 35 #[.int .i64 r, .agg #[.int .i64 p, .int .i64 (dn : Int), .int .i64 (en : Int), iv, jv, kv]] w (WtR (StW r (p, (dn : Int), (en : Int), il, jl, kl)) w) := by
  obtain ⟨⟨ai, ci, rfl⟩, ⟨aj, cj, rfl⟩, ⟨ak, ck, rfl⟩⟩ := h.shapes
  have HX0 := Lib.hid (BxCp.start 26 h (p := p) (d := dn) (e := en))
  have HG := Lib.hid hg
  have hd24 : (dn : Int) ≤ 24 := hg.cp.2.1.2
  have hil : (il.length : Int) = dn := hg.cp.2.2.2.1.1
  have hil2 : il.length ≤ 24 := by omega
  have hp1 : 2 ≤ p := hg.cp.1.lo
  clear hil
  clear h hg
  go_enter Tryd.func35, Tryd.ntmps35
  go_upto_region 1 with fail
  refine forget_wp (fun W => BxCp w W w.heap.size p dn en (.slice ai il.length ci) (.slice aj jl.length cj) (.slice ak kl.length ck) il jl kl) HX0.out ?_
  intro W hx
  have HX := Lib.hid hx
  clear hx HX0
  have HNX : Hid (∀ W', Below W.heap.size W W' → BxCp w W' w.heap.size p dn en (.slice ai il.length ci) (.slice aj jl.length cj) (.slice ak kl.length ck) il jl kl) := Lib.hid (fun W' h => HX.out.next h)
  refine wp_region_held (S := fun W' => Below W.heap.size W W') (by kernel_rfl) ?_
  have S0 : Below W.heap.size W W.drew := (Below.refl _ _).drew
  change wpAnyH _ _ _ _ _ _ _ _ W.drew
  generalize W.drew = wd at *
  refine held_take (i := 0) (v := .agg #[.int .i64 p, .int .i64 (dn : Int), .int .i64 (en : Int), .slice ai il.length ci, .slice aj jl.length cj, .slice ak kl.length ck]) (some 5) rfl rfl (by kernel_rfl) (by kernel_rfl) (by kernel_rfl) (fun _ _ _ h => h) (yieldsIf_cell (by kernel_rfl) rfl (by kernel_rfl) (fun W' h => by have hb := HNX.out W' h; exact hload6 W' hb.c0 hb.c1 hb.c2 hb.c3 hb.c4 hb.c5)) S0 ?_
  refine held_take (i := 3) (v := .pointer (some ⟨w.heap.size, 1, none⟩)) (some 8) rfl rfl (by kernel_rfl) (by kernel_rfl) (by kernel_rfl) (fun _ _ _ h => h) (yieldsIf_run (by kernel_rfl) (fun W _ => by kernel_rfl)) S0 ?_
  refine held_take (i := 4) (v := .int .i64 (dn : Int)) (some 9) rfl rfl (by kernel_rfl) (by kernel_rfl) (by kernel_rfl) (fun _ _ _ h => h) (yieldsIf_cell (by kernel_rfl) rfl (by kernel_rfl) (fun W' h => hload W' (HNX.out W' h).c1)) S0 ?_
  refine held_enter (i := 1) (some 6) (f := 36) (args := #[.agg #[.int .i64 p, .int .i64 (dn : Int), .int .i64 (en : Int), .slice ai il.length ci, .slice aj jl.length cj, .slice ak kl.length ck]]) (by kernel_rfl) rfl rfl rfl (by kernel_rfl) (mapI_any p dn en _ _ _ il jl kl wd (HNX.out wd S0).cx) ?_ (fun c w' h => by cases h.1) (fun w' h => by cases h.1)
  rintro e1 W1 ⟨he1, hb1⟩
  injection he1 with he1
  subst he1
  have S1 : Below W.heap.size W W1 := S0.trans (hb1.mono S0.size)
  refine ⟨S1, ?_⟩
  refine held_enter (i := 2) (some 7) (f := 37) (args := #[.agg #[.int .i64 p, .int .i64 (dn : Int), .int .i64 (dn : Int), .slice ai il.length ci]]) (by kernel_rfl) rfl rfl rfl (by kernel_rfl) (rank_any p dn dn _ il dn W1 HG.out.cp.1 (HNX.out W1 S1).cx.fi (by omega) HG.out.cp.2.2.2.1.2 (by omega)) ?_ (fun c w' h => by obtain ⟨_, h, _⟩ := h; cases h) (fun w' h => by obtain ⟨_, h, _⟩ := h; cases h)
  rintro e2 W2 ⟨x, he2, hb2, hrk⟩
  injection he2 with he2
  subst he2
  have S2 : Below W.heap.size W W2 := S1.trans (hb2.mono S1.size)
  have HB2 := Lib.hid (HNX.out W2 S2).below
  have hiff : x = (dn : Int) ↔ StW r (p, (dn : Int), (en : Int), il, jl, kl) := ⟨fun e => by subst e; exact hrk, fun hh => hrk.unique (by omega) hh⟩
  refine ⟨S2, ?_⟩
  by_cases hxd : x = (dn : Int)
  · have HI := Lib.hid (hiff.1 hxd)
    clear hiff hrk
    subst hxd
    refine held_take (i := 5) (v := .bool true) (some 10) rfl rfl (by kernel_rfl) (by kernel_rfl) (by kernel_rfl) (fun _ _ _ h => h) (yieldsIf_bin (by kernel_rfl) rfl (by kernel_rfl) (by kernel_rfl) (fun _ => rfl) (heqI (show ((dn : Int) == (dn : Int)) = true by simp))) S2 ?_
    refine held_take (i := 6) (v := .bool true) (some 4) rfl rfl (by kernel_rfl) (by kernel_rfl) (by kernel_rfl) (fun _ _ _ h => h) (yieldsIf_assign (by kernel_rfl) rfl (by kernel_rfl)) S2 ?_
    refine wpAnyH_done (by kernel_rfl) ?_ _
    simp only [Act.put, List.setIfInBounds_toArray, List.set_cons_zero, List.set_cons_succ]
    clear S0 S1 S2 hb1 hb2
    go_wp2
    go_ret
    exact ⟨true, rfl, HB2.out, fun _ => HI.out, fun _ => rfl⟩
  · have HI := Lib.hid (fun h => hxd (hiff.2 h))
    have hxf : (x == (dn : Int)) = false := by simp [hxd]
    clear hiff hrk
    refine held_take (i := 5) (v := .bool false) (some 10) rfl rfl (by kernel_rfl) (by kernel_rfl) (by kernel_rfl) (fun _ _ _ h => h) (yieldsIf_bin (by kernel_rfl) rfl (by kernel_rfl) (by kernel_rfl) (fun _ => rfl) (heqI (by exact hxf))) S2 ?_
    refine held_take (i := 6) (v := .bool false) (some 4) rfl rfl (by kernel_rfl) (by kernel_rfl) (by kernel_rfl) (fun _ _ _ h => h) (yieldsIf_assign (by kernel_rfl) rfl (by kernel_rfl)) S2 ?_
    refine wpAnyH_done (by kernel_rfl) ?_ _
    simp only [Act.put, List.setIfInBounds_toArray, List.set_cons_zero, List.set_cons_succ]
    clear S0 S1 S2 hb1 hb2
    go_wp2
    go_ret
    exact ⟨false, rfl, HB2.out, (fun h => absurd h (by decide)), fun h => absurd h HI.out⟩

set_option maxHeartbeats 3200000 in
set_option maxRecDepth 100000 in
theorem stablePage_any {pv : Value} (p d e : Int) (iv jv kv : Value) (il jl kl : List (List Int)) (w : World) (h : Cp 0 w iv jv kv il jl kl) (hm : CpB 1048576 il jl kl) (hgl : w.cell? ⟨0, 0, none⟩ = some (.iface 109 pv)) :
    Calls Tryd.prog 19 #[.agg #[.int .i64 p, .int .i64 d, .int .i64 e, iv, jv, kv]] w (NumW (StP (p, d, e, il, jl, kl)) (xcCode p d e il jl kl) w) := by
  obtain ⟨⟨ai, ci, rfl⟩, ⟨aj, cj, rfl⟩, ⟨ak, ck, rfl⟩⟩ := h.shapes
  have HM := Lib.hid hm
  have HX0 := Lib.hid (BxCp.start 26 h (p := p) (d := d) (e := e))
  have HGL : Hid (∀ W, Below w.heap.size w W → W.cell? ⟨0, 0, none⟩ = some (.iface 109 pv)) := Lib.hid (fun W hb => later hb (Nat.le_refl _) hgl)
  clear h hm hgl
  go_enter Tryd.func19, Tryd.ntmps19
  go_upto_region 1 with fail
  refine forget_wp (fun W => BxCp w W w.heap.size p d e (.slice ai il.length ci) (.slice aj jl.length cj) (.slice ak kl.length ck) il jl kl) HX0.out ?_
  intro W hxx
  have HX := Lib.hid hxx
  clear hxx HX0
  have k0 := HX.out.c0
  have k1 := HX.out.c1
  have k2 := HX.out.c2
  have k3 := HX.out.c3
  have k4 := HX.out.c4
  have k5 := HX.out.c5
  go_wp2_with fail
  refine (isCouple_any p d e _ _ _ il jl kl W HX.out.cx HM.out).mono ?_
  rintro ee w2 ⟨b, rfl, hb, hbb⟩
  have HX2 := Lib.hid (HX.out.next hb)
  clear hb HX k0 k1 k2 k3 k4 k5
  by_cases hc : IsCp p d e il jl kl
  · obtain rfl : b = true := hbb.2 hc
    have HC := Lib.hid hc
    obtain ⟨dn, hdn⟩ := Int.eq_ofNat_of_zero_le hc.2.1.1
    obtain ⟨en, hen⟩ := Int.eq_ofNat_of_zero_le hc.2.2.1.1
    clear hbb hc
    subst hdn hen
    have HK := Lib.hid (checkExact_any pv p dn en _ _ _ il jl kl w2 HX2.out.cx HM.out HC.out (HGL.out _ HX2.out.below))
    have k0 := HX2.out.c0
    have k1 := HX2.out.c1
    have k2 := HX2.out.c2
    have k3 := HX2.out.c3
    have k4 := HX2.out.c4
    have k5 := HX2.out.c5
    go_wp2_with fail
    refine HK.out.mono ?_
    rintro ee w3 ⟨c, rfl, hb3, hcc⟩
    have HX3 := Lib.hid (HX2.out.next hb3)
    clear HK hb3 HX2 k0 k1 k2 k3 k4 k5
    rcases hcc with ⟨rfl, hx⟩ | ⟨rfl, hx⟩
    · have HG : Hid (CpG (p, (dn : Int), (en : Int), il, jl, kl)) := Lib.hid ⟨HC.out, by simpa using hx⟩
      have HFP := Lib.hid (firstPage_any StW (fun _ a => a.2.1.toNat) 35 p dn en _ _ _ il jl kl w3 HX3.out.cx HG.out (fun r dn en iv jv kv il jl kl W hcx hg => stablePage1_any r p dn en iv jv kv il jl kl W hcx hg) (fun _ _ => by kernel_rfl) (fun r a a1 _ _ g h3 hd => by
        have h1 := stw_less g h3 hd
        have h2 := (DcO.good g hd).cp.2.1.1
        first | omega | (simp only; omega)) (by have := HC.out.2.1.2; first | omega | (simp only; omega)))
      have k0 := HX3.out.c0
      have k1 := HX3.out.c1
      have k2 := HX3.out.c2
      have k3 := HX3.out.c3
      have k4 := HX3.out.c4
      have k5 := HX3.out.c5
      have HXC : Hid (xcCode p dn en il jl kl = 0) := Lib.hid (xc_ok HC.out (by simpa using hx))
      clear hx
      go_wp2_with fail
      refine HFP.out.mono ?_
      rintro ee w4 ⟨r, a, u, rfl, hb4, hfp, _, y0, y1, y2, a3, b3, c3, a4, b4, c4, a5, b5, c5, rfl⟩
      have HFR := Lib.hid hfp
      have HB4 := Lib.hid (HX3.out.next hb4).below
      clear hb4 hfp HFP HX3 k0 k1 k2 k3 k4 k5
      go_upto_region 7 with fail
      refine forget_wp (fun W => Hid (Below w4.heap.size w4 W)) (Lib.hid (below_alloc1 _ _)) ?_
      intro w5 h5
      have HB5 := Lib.hid (HB4.out.trans (h5.out.mono HB4.out.size))
      clear h5
      go_wp2
      go_ret2
      exact ⟨r, 0, rfl, HB5.out, by rw [HXC.out]; exact NOut.of_ok ⟨a, HFR.out⟩⟩
    · have HXC : Hid (xcCode p dn en il jl kl = 5) := Lib.hid (xc_st HC.out (by simpa using hx))
      clear hx
      go_wp2
      go_ret2
      exact ⟨0, 5, rfl, HX3.out.below, by rw [HXC.out]; exact NOut.of_no (by decide)⟩
  · obtain rfl : b = false := bb_no hbb hc
    have HXC := Lib.hid (xc_no hc)
    clear hbb hc
    go_wp2
    go_ret2
    exact ⟨0, 1, rfl, HX2.out.below, by rw [HXC.out]; exact NOut.of_no (by decide)⟩
end Go.Proofs.YtckkbojankfdfaaDoor


namespace Go.Proofs.YtckkbojankfdfaaDoor
open Go.RowKit

/-- A page of the model in its box. -/
structure SpB (w W : World) (p : Int) (dn en : Nat) (iv jv kv : Value) (il jl kl : List (List Int)) : Prop where
  below : Below w.heap.size w W
  box : W.heap[w.heap.size]? = some (.cells #[.int .i64 p, .int .i64 (dn : Int), .int .i64 (en : Int), iv, jv, kv] 26 (0, 0))
  cx : Cp 0 W iv jv kv il jl kl
theorem SpB.lt {w W : World} {p : Int} {dn en : Nat} {iv jv kv : Value} {il jl kl : List (List Int)} (h : SpB w W p dn en iv jv kv il jl kl) : w.heap.size < W.heap.size := (Array.getElem?_eq_some_iff.1 h.box).1
theorem SpB.next {w W W' : World} {p : Int} {dn en : Nat} {iv jv kv : Value} {il jl kl : List (List Int)} (h : SpB w W p dn en iv jv kv il jl kl) (hb : Below W.heap.size W W') : SpB w W' p dn en iv jv kv il jl kl :=
  ⟨h.below.trans (hb.mono h.below.size), (hb.block _ h.lt).trans h.box, h.cx.below hb⟩
theorem SpB.cell {w W : World} {p : Int} {dn en : Nat} {iv jv kv : Value} {il jl kl : List (List Int)} (h : SpB w W p dn en iv jv kv il jl kl) {i : Nat} {x : Value} (hv : #[.int .i64 p, .int .i64 (dn : Int), .int .i64 (en : Int), iv, jv, kv][i]? = some x) : W.cell? ⟨w.heap.size, i, none⟩ = some x := by
  have h' := h.box
  simp [World.cell?, h', hv]
theorem SpB.frozen {w W : World} {p : Int} {dn en : Nat} {iv jv kv : Value} {il jl kl : List (List Int)} (h : SpB w W p dn en iv jv kv il jl kl) (i : Nat) : W.frozen? ⟨w.heap.size, i, none⟩ = false := by
  have h' := h.box
  simp [World.frozen?, h']
theorem SpB.start {w : World} {p : Int} {dn en : Nat} {iv jv kv : Value} {il jl kl : List (List Int)} (h : Cp 0 w iv jv kv il jl kl) : SpB w (w.alloc (.cells #[.int .i64 p, .int .i64 (dn : Int), .int .i64 (en : Int), iv, jv, kv] 26)) p dn en iv jv kv il jl kl :=
  ⟨below_alloc1 _ _, heap_alloc_new _ _, h.below (below_alloc1 _ _)⟩
theorem SpB.put {w W W1 : World} {p : Int} {dn en d1 e1 : Nat} {iv jv kv x3 x4 x5 : Value} {il jl kl i1 j1 k1 : List (List Int)} (h : SpB w W p dn en iv jv kv il jl kl) (hb : Below W.heap.size W W1) (g1 : Gs 0 W1 x3 i1) (g2 : Gs 0 W1 x4 j1) (g3 : Gs 0 W1 x5 k1) :
    SpB w ((((((W1.setCell ⟨w.heap.size, 0, none⟩ (.int .i64 p)).setCell ⟨w.heap.size, 1, none⟩ (.int .i64 (d1 : Int))).setCell ⟨w.heap.size, 2, none⟩ (.int .i64 (e1 : Int))).setCell ⟨w.heap.size, 3, none⟩ x3).setCell ⟨w.heap.size, 4, none⟩ x4).setCell ⟨w.heap.size, 5, none⟩ x5) p d1 e1 x3 x4 x5 i1 j1 k1 := by
  have h1 := h.next hb
  exact ⟨((((((h1.below.setCell (Nat.le_refl _) _).setCell (Nat.le_refl _) _).setCell (Nat.le_refl _) _).setCell (Nat.le_refl _) _).setCell (Nat.le_refl _) _).setCell (Nat.le_refl _) _), set6_block h1.box _ _ _ _ _ _,
    (gs_set6 g1 h1.box _ _ _ _ _ _).l2, (gs_set6 g2 h1.box _ _ _ _ _ _).l2, (gs_set6 g3 h1.box _ _ _ _ _ _).l2⟩

set_option maxHeartbeats 3200000 in
set_option maxRecDepth 100000 in
theorem spStablePage_any (p d e : Int) (iv jv kv : Value) (il jl kl : List (List Int)) (w : World) (h : Cp 0 w iv jv kv il jl kl) (hm : CpB 1048576 il jl kl) :
    Calls Tryd.prog 18 #[.agg #[.int .i64 p, .int .i64 d, .int .i64 e, iv, jv, kv]] w (NumW (StP (p, d, e, il, jl, kl)) (xcCode p d e il jl kl) w) := by
  obtain ⟨⟨ai, ci, rfl⟩, ⟨aj, cj, rfl⟩, ⟨ak, ck, rfl⟩⟩ := h.shapes
  have HM := Lib.hid hm
  have HX0 := Lib.hid (BxCp.start 26 h (p := p) (d := d) (e := e))
  have HH := Lib.hid h
  clear h hm
  obtain ⟨ec, hec⟩ : ∃ ec, ec = xcCode p d e il jl kl := ⟨_, rfl⟩
  rw [← hec]
  have HEC := Lib.hid hec
  clear hec
  by_cases h0 : ec = 0
  · subst h0
    obtain ⟨hc, hx⟩ := xc_zero HEC.out.symm
    obtain ⟨dn, hdn⟩ := Int.eq_ofNat_of_zero_le hc.2.1.1
    obtain ⟨en, hen⟩ := Int.eq_ofNat_of_zero_le hc.2.2.1.1
    subst hdn hen
    have HG0 : Hid (CpG (p, (dn : Int), (en : Int), il, jl, kl)) := Lib.hid ⟨hc, hx⟩
    obtain ⟨o, ho⟩ : ∃ o : CpO, o = (p, (dn : Int), (en : Int), il, jl, kl) := ⟨_, rfl⟩
    have HO := Lib.hid ho
    obtain ⟨M, hM⟩ : ∃ M : Nat, M = dn := ⟨_, rfl⟩
    have hM24 : M ≤ 24 := by have := hc.2.1; omega
    have HMM := Lib.hid hM
    rw [← ho]
    clear hc hx ho hM HX0
    go_enter Tryd.func18, Tryd.ntmps18
    go_upto_region 1 with fail
    refine forget_wp (fun W => SpB w W p dn en (.slice ai il.length ci) (.slice aj jl.length cj) (.slice ak kl.length ck) il jl kl) (SpB.start HH.out) ?_
    intro W hxx
    have HX := Lib.hid hxx
    clear hxx HH
    have k0 := HX.out.cell (i := 0) rfl
    have k1 := HX.out.cell (i := 1) rfl
    have k2 := HX.out.cell (i := 2) rfl
    have k3 := HX.out.cell (i := 3) rfl
    have k4 := HX.out.cell (i := 4) rfl
    have k5 := HX.out.cell (i := 5) rfl
    go_wp2_with fail
    refine (l05Code_any p dn en _ _ _ il jl kl W HX.out.cx HM.out).mono ?_
    rintro ee w2 ⟨rfl, hb⟩
    rw [← HEC.out]
    have HX2 := Lib.hid (HX.out.next hb)
    clear hb HX k0 k1 k2 k3 k4 k5
    go_wp2
    go_loopw [5] (fun i wr => ∃ (r : Int) (dn en : Nat) (iv jv kv : Value) (il jl kl : List (List Int)), i = .int .i64 r ∧ Hid (SpB w wr p dn en iv jv kv il jl kl) ∧ Hid (CpG (p, (dn : Int), (en : Int), il, jl, kl)) ∧ (1 ≤ r ∧ r + dn ≤ 1 + M) ∧ Hid (∀ r2 a2, Fp StW r (p, (dn : Int), (en : Int), il, jl, kl) r2 a2 → Fp StW 1 o r2 a2)) (fun i _ => (1 + (M : Int) - intOf i).toNat)
    case atStart => exact ⟨1, dn, en, _, _, _, il, jl, kl, rfl, HX2, HG0, ⟨by omega, by have := HMM.out; omega⟩, Lib.hid (fun r2 a2 h => by rw [HO.out]; exact h)⟩
    case round =>
      clear HX2 HG0 HMM HO
      obtain ⟨r, dn, en, iv, jv, kv, il, jl, kl, rfl, HX, HG, hr1, HF⟩ := hrel
      obtain ⟨wx, hwx⟩ : ∃ wx : World, wx = wr := ⟨_, rfl⟩
      subst hwx
      obtain ⟨⟨ai, ci, rfl⟩, ⟨aj, cj, rfl⟩, ⟨ak, ck, rfl⟩⟩ := HX.out.cx.shapes
      have hd24 : (dn : Int) ≤ 24 := HG.out.cp.2.1.2
      have hil : (il.length : Int) = dn := HG.out.cp.2.2.2.1.1
      have hp1 : 2 ≤ p := HG.out.cp.1.lo
      have HIL := Lib.hid hil
      have hil2 : il.length ≤ 24 := by omega
      clear hil
      go_upto_region 6 with fail
      have HNX : Hid (∀ W', Below wx.heap.size wx W' → SpB w W' p dn en (.slice ai il.length ci) (.slice aj jl.length cj) (.slice ak kl.length ck) il jl kl) := Lib.hid (fun W' h => HX.out.next h)
      refine wp_region_held (S := fun W' => Below wx.heap.size wx W') (by kernel_rfl) ?_
      have S0 : Below wx.heap.size wx wx.drew := (Below.refl _ _).drew
      change wpAnyH _ _ _ _ _ _ _ _ wx.drew
      generalize wx.drew = wd at *
      refine held_take (i := 0) (v := .pointer (some ⟨w.heap.size, 0, none⟩)) (some 13) rfl rfl (by kernel_rfl) (by kernel_rfl) (by kernel_rfl) (fun _ _ _ h => h) (yieldsIf_run (by kernel_rfl) (fun W _ => by kernel_rfl)) S0 ?_
      refine held_take (i := 1) (v := .int .i64 p) (some 14) rfl rfl (by kernel_rfl) (by kernel_rfl) (by kernel_rfl) (fun _ _ _ h => h) (yieldsIf_cell (by kernel_rfl) rfl (by kernel_rfl) (fun W' h => hload W' ((HNX.out W' h).cell (i := 0) rfl))) S0 ?_
      refine held_take (i := 2) (v := .pointer (some ⟨w.heap.size, 3, none⟩)) (some 15) rfl rfl (by kernel_rfl) (by kernel_rfl) (by kernel_rfl) (fun _ _ _ h => h) (yieldsIf_run (by kernel_rfl) (fun W _ => by kernel_rfl)) S0 ?_
      refine held_take (i := 3) (v := .slice ai il.length ci) (some 16) rfl rfl (by kernel_rfl) (by kernel_rfl) (by kernel_rfl) (fun _ _ _ h => h) (yieldsIf_cell (by kernel_rfl) rfl (by kernel_rfl) (fun W' h => hloadSSc W' ((HNX.out W' h).cell (i := 3) rfl))) S0 ?_
      refine held_take (i := 5) (v := .pointer (some ⟨w.heap.size, 1, none⟩)) (some 18) rfl rfl (by kernel_rfl) (by kernel_rfl) (by kernel_rfl) (fun _ _ _ h => h) (yieldsIf_run (by kernel_rfl) (fun W _ => by kernel_rfl)) S0 ?_
      refine held_take (i := 6) (v := .int .i64 (dn : Int)) (some 19) rfl rfl (by kernel_rfl) (by kernel_rfl) (by kernel_rfl) (fun _ _ _ h => h) (yieldsIf_cell (by kernel_rfl) rfl (by kernel_rfl) (fun W' h => hload W' ((HNX.out W' h).cell (i := 1) rfl))) S0 ?_
      refine held_enter (i := 4) (some 17) (f := 34) (args := #[.int .i64 p, .slice ai il.length ci]) (by kernel_rfl) rfl rfl rfl (by kernel_rfl) (l01Rank_any p _ il dn wd HG.out.cp.1 (HNX.out wd S0).cx.fi (by omega) HG.out.cp.2.2.2.1.2 (by omega)) ?_ (fun c w' h => by obtain ⟨_, h, _⟩ := h; cases h) (fun w' h => by obtain ⟨_, h, _⟩ := h; cases h)
      rintro e2 W2 ⟨x, he2, hb2, hrk⟩
      injection he2 with he2
      subst he2
      have S2 : Below wx.heap.size wx W2 := S0.trans (hb2.mono S0.size)
      have HX2 := Lib.hid (HNX.out W2 S2)
      have hiff : x = (dn : Int) ↔ StW r (p, (dn : Int), (en : Int), il, jl, kl) := ⟨fun e => by subst e; exact hrk, fun hh => hrk.unique (by omega) hh⟩
      refine ⟨S2, ?_⟩
      by_cases hxd : x = (dn : Int)
      · have HI := Lib.hid (hiff.1 hxd)
        clear hiff hrk
        subst hxd
        refine held_take (i := 7) (v := .bool true) (some 20) rfl rfl (by kernel_rfl) (by kernel_rfl) (by kernel_rfl) (fun _ _ _ h => h) (yieldsIf_bin (by kernel_rfl) rfl (by kernel_rfl) (by kernel_rfl) (fun _ => rfl) (heqI (show ((dn : Int) == (dn : Int)) = true by simp))) S2 ?_
        refine wpAnyH_done (by kernel_rfl) ?_ _
        simp only [Act.put, List.setIfInBounds_toArray, List.set_cons_zero, List.set_cons_succ]
        have HB2 := Lib.hid HX2.out.below
        have HFF := Lib.hid (HF.out _ _ (Fp.here HI.out))
        clear S0 S2 hb2 HX2 HX HNX HF
        go_wp2
        go_ret2
        exact ⟨r, 0, rfl, HB2.out, NOut.of_ok ⟨_, HFF.out⟩⟩
      · have HI := Lib.hid (fun h => hxd (hiff.2 h))
        have hxf : (x == (dn : Int)) = false := by simp [hxd]
        clear hiff hrk
        refine held_take (i := 7) (v := .bool false) (some 20) rfl rfl (by kernel_rfl) (by kernel_rfl) (by kernel_rfl) (fun _ _ _ h => h) (yieldsIf_bin (by kernel_rfl) rfl (by kernel_rfl) (by kernel_rfl) (fun _ => rfl) (heqI (by exact hxf))) S2 ?_
        refine wpAnyH_done (by kernel_rfl) ?_ _
        simp only [Act.put, List.setIfInBounds_toArray, List.set_cons_zero, List.set_cons_succ]
        clear S0 S2 hb2 HX HNX hxf hxd
        have HDV := Lib.hid (l05Derive_any p dn en _ _ _ il jl kl W2 HX2.out.cx HG.out.bd HG.out.cp (by simpa using HG.out.ex))
        have k0 := HX2.out.cell (i := 0) rfl
        have k1 := HX2.out.cell (i := 1) rfl
        have k2 := HX2.out.cell (i := 2) rfl
        have k3 := HX2.out.cell (i := 3) rfl
        have k4 := HX2.out.cell (i := 4) rfl
        have k5 := HX2.out.cell (i := 5) rfl
        go_wp2_with fail
        refine HDV.out.mono ?_
        rintro ee W3 ⟨d1, e1, i1, j1, k1', u, rfl, hb3, hg3, hdc⟩
        obtain ⟨x1, y1, x2, y2, x3, y3, rfl, g1, g2, g3⟩ := hg3
        simp only at g1 g2 g3 ⊢
        have HD1 : Hid (DcO (p, (dn : Int), (en : Int), il, jl, kl) (p, (d1 : Int), (e1 : Int), i1, j1, k1')) := Lib.hid ⟨d1, e1, i1, j1, k1', rfl, by simpa using hdc⟩
        have HP3 := Lib.hid (HX2.out.put (d1 := d1) (e1 := e1) hb3 g1 g2 g3)
        have HX3 := Lib.hid (HX2.out.next hb3)
        obtain ⟨n1, hn1⟩ : ∃ n, n = i1.length := ⟨_, rfl⟩
        obtain ⟨n2, hn2⟩ : ∃ n, n = j1.length := ⟨_, rfl⟩
        obtain ⟨n3, hn3⟩ : ∃ n, n = k1'.length := ⟨_, rfl⟩
        rw [← hn1, ← hn2, ← hn3] at HP3
        rw [← hn1, ← hn2, ← hn3]
        have hle := stw_less HG.out HI.out HD1.out
        simp only at hle
        have HG3 := Lib.hid (DcO.good HG.out HD1.out)
        have HF3 : Hid (∀ r2 a2, Fp StW (r + 1) (p, (d1 : Int), (e1 : Int), i1, j1, k1') r2 a2 → Fp StW 1 o r2 a2) := Lib.hid (fun r2 a2 h => HF.out _ _ (Fp.next HI.out HD1.out h))
        have hr3 : 1 ≤ r + 1 ∧ r + 1 + (d1 : Int) ≤ 1 + (M : Int) := ⟨by omega, by omega⟩
        have hr4 : (1 + (M : Int) - (r + 1)).toNat < (1 + (M : Int) - r).toNat := by omega
        have dd0 := HX3.out.cell (i := 0) rfl
        have dd1 := HX3.out.cell (i := 1) rfl
        have dd2 := HX3.out.cell (i := 2) rfl
        have dd3 := HX3.out.cell (i := 3) rfl
        have dd4 := HX3.out.cell (i := 4) rfl
        have dd5 := HX3.out.cell (i := 5) rfl
        have hfz3 := HX3.out.frozen
        have hl3 := HX3.out.lt
        clear HDV hb3 g1 g2 g3 hdc hn1 hn2 hn3 HX2 HX3 HD1 hle k0 k1 k2 k3 k4 k5
        go_wp2
        go_roundw
        case rel => exact ⟨r + 1, d1, e1, _, _, _, i1, j1, k1', by go_num, HP3, HG3, hr3, HF3⟩
        case measure => simpa [intOf] using hr4
  · have HNE := Lib.hid h0
    have hne2 : (ec != 0) = true := by simp [h0]
    go_enter Tryd.func18, Tryd.ntmps18
    go_upto_region 1 with fail
    refine forget_wp (fun W => BxCp w W w.heap.size p d e (.slice ai il.length ci) (.slice aj jl.length cj) (.slice ak kl.length ck) il jl kl) HX0.out ?_
    intro W hxx
    have HX := Lib.hid hxx
    clear hxx HX0 h0
    have k0 := HX.out.c0
    have k1 := HX.out.c1
    have k2 := HX.out.c2
    have k3 := HX.out.c3
    have k4 := HX.out.c4
    have k5 := HX.out.c5
    go_wp2_with fail
    refine (l05Code_any p d e _ _ _ il jl kl W HX.out.cx HM.out).mono ?_
    rintro ee w2 ⟨rfl, hb⟩
    rw [← HEC.out]
    have HB2 := Lib.hid (HX.out.next hb).below
    clear hb HX k0 k1 k2 k3 k4 k5
    go_wp2
    go_ret2
    exact ⟨0, ec, rfl, HB2.out, NOut.of_no HNE.out⟩
end Go.Proofs.YtckkbojankfdfaaDoor


namespace Go.Proofs.YtckkbojankfdfaaDoor
open Go.RowKit

set_option maxHeartbeats 12800000 in
set_option maxRecDepth 100000 in
theorem lawStl_any (p0 d0 e0 : Int) (iv0 jv0 kv0 : Value) (il0 : List (List Int)) (jl0 : List (List Int)) (kl0 : List (List Int)) (w : World) (h0 : Cp 0 w iv0 jv0 kv0 il0 jl0 kl0) (hml0 : CpB 9223372036854775807 il0 jl0 kl0) {pvg : Value} (hgl : w.cell? ⟨0, 0, none⟩ = some (.iface 109 pvg)) :
    Calls Tryd.prog 5 #[.agg #[.int .i64 p0, .int .i64 d0, .int .i64 e0, iv0, jv0, kv0]] w (BR (.bool true) w) := by
  obtain ⟨W0, hW0⟩ : ∃ W0, W0 = (w.alloc (.cells #[.int .i64 p0, .int .i64 d0, .int .i64 e0, iv0, jv0, kv0] 24)) := ⟨_, rfl⟩
  have HS0 : Hid (W0.heap.size = w.heap.size + 1) := Lib.hid (by rw [hW0]; simp)
  have HZ0 : Hid (Below w.heap.size w W0) := Lib.hid (by rw [hW0]; exact below_alloc1 _ _)
  have HK0 : Hid (BxCp w W0 (w.heap.size) p0 d0 e0 iv0 jv0 kv0 il0 jl0 kl0) := Lib.hid (by rw [hW0]; exact BxCp.start _ h0)
  have HN0 : Hid (∀ W, Below (w.heap.size + 1) W0 W → BxCp w W (w.heap.size) p0 d0 e0 iv0 jv0 kv0 il0 jl0 kl0) := Lib.hid (fun W hb => HK0.out.next (by rw [HS0.out]; exact hb))
  have HNW : Hid (∀ W, Below (w.heap.size + 1) W0 W → Below w.heap.size w W) := Lib.hid (fun W hb => HZ0.out.trans (hb.mono (by omega)))
  have HB : Hid (Below (w.heap.size + 1) W0 W0) := Lib.hid (Below.refl _ _)
  have hs0 : w.heap.size + 1 ≤ W0.heap.size := by have := HS0.out; omega
  have HGL : Hid (∀ W, Below (w.heap.size + 1) W0 W → W.cell? ⟨0, 0, none⟩ = some (.iface 109 pvg)) := Lib.hid (fun W hb => later (HNW.out W hb) (Nat.le_refl _) hgl)
  clear hgl
  have HML0 := Lib.hid hml0
  clear h0 hml0 HK0
  go_enter Tryd.func5, Tryd.ntmps5
  go_upto_region 1 with fail
  rw [← hW0]
  clear hW0
  have c00 := (HN0.out _ HB.out).c0
  have c01 := (HN0.out _ HB.out).c1
  have c02 := (HN0.out _ HB.out).c2
  have c03 := (HN0.out _ HB.out).c3
  have c04 := (HN0.out _ HB.out).c4
  have c05 := (HN0.out _ HB.out).c5
  go_wp2_with fail
  refine (szCouple_any p0 d0 e0 iv0 jv0 kv0 il0 jl0 kl0 1048576 _ (HN0.out _ HB.out).cx (by omega) (by omega) HML0.out).mono ?_
  rintro ee wz0 ⟨sz0, rfl, hb, hpost⟩
  have hsz0 : W0.heap.size ≤ wz0.heap.size := hb.size
  have HB' := Lib.hid (HB.out.trans (hb.mono (by omega)))
  clear c00 c01 c02 c03 c04 c05
  clear hb HB
  have HB := HB'
  clear HB'
  rcases hpost with rfl | ⟨hp00, hp01, hpm0⟩
  · go_wp2
    go_ret
    exact ⟨rfl, HNW.out _ HB.out⟩
  have HMS0 := Lib.hid hpm0
  clear hpm0
  have c00 := (HN0.out _ HB.out).c0
  have c01 := (HN0.out _ HB.out).c1
  have c02 := (HN0.out _ HB.out).c2
  have c03 := (HN0.out _ HB.out).c3
  have c04 := (HN0.out _ HB.out).c4
  have c05 := (HN0.out _ HB.out).c5
  have HQd : Hid (Below wz0.heap.size wz0 wz0) := Lib.hid (Below.refl _ _)
  go_wp2_with fail
  refine (toCouple_any p0 d0 e0 iv0 jv0 kv0 il0 jl0 kl0 _ (HN0.out _ HB.out).cx HMS0.out).mono ?_
  rintro ee wS0 ⟨xiv0_S, xjv0_S, xkv0_S, rfl, hc, hb⟩
  have hsS0 : wz0.heap.size ≤ wS0.heap.size := hb.size
  have HBS0 := Lib.hid (HB.out.trans (hb.mono (by omega)))
  have HQ0 := Lib.hid (HQd.out.trans (hb.mono (by omega)))
  have HXS00 := Lib.hid (hc.zero)
  clear hb hc
  clear c00 c01 c02 c03 c04 c05
  go_wp2_with fail
  refine (spStablePage_any p0 d0 e0 xiv0_S xjv0_S xkv0_S il0 jl0 kl0 _ (HXS00.out) HMS0.out).mono ?_
  rintro ee wSr ⟨gS0, gS1, rfl, hb, hoS⟩
  have hsSr : wS0.heap.size ≤ wSr.heap.size := hb.size
  have HBSr := Lib.hid (HBS0.out.trans (hb.mono (by omega)))
  have HQr := Lib.hid (HQ0.out.trans (hb.mono (by omega)))
  have HOS := Lib.hid hoS
  clear hb hoS
  have hb := HQr.out
  clear HQd HQr HQ0 HXS00 HBS0 HBSr
  have HB' := Lib.hid (HB.out.trans (hb.mono (by omega)))
  clear hb HB
  have HB := HB'
  clear HB'
  have c00 := (HN0.out _ HB.out).c0
  have c01 := (HN0.out _ HB.out).c1
  have c02 := (HN0.out _ HB.out).c2
  have c03 := (HN0.out _ HB.out).c3
  have c04 := (HN0.out _ HB.out).c4
  have c05 := (HN0.out _ HB.out).c5
  go_wp2_with fail
  refine (toCouplew_any p0 d0 e0 iv0 jv0 kv0 il0 jl0 kl0 _ (HN0.out _ HB.out).cx HMS0.out).mono ?_
  rintro ee wc0 ⟨yiv0, yjv0, ykv0, rfl, hc, hb⟩
  have hsc0 : wSr.heap.size ≤ wc0.heap.size := hb.size
  clear c00 c01 c02 c03 c04 c05
  have HB' := Lib.hid (HB.out.trans (hb.mono (by omega)))
  clear hb HB
  have HB := HB'
  clear HB'
  have HC0 := Lib.hid hc
  obtain ⟨⟨ya0i, yc0i, rfl⟩, ⟨ya0j, yc0j, rfl⟩, ⟨ya0k, yc0k, rfl⟩⟩ := hc.cx.shapes
  clear hc
  obtain ⟨wb0, hwb⟩ : ∃ wb0, wb0 = wc0.alloc (.cells #[.int .i64 p0, .int .i64 d0, .int .i64 e0, .slice ya0i il0.length yc0i, .slice ya0j jl0.length yc0j, .slice ya0k kl0.length yc0k] 26) := ⟨_, rfl⟩
  have hb : Below wc0.heap.size wc0 wb0 := by rw [hwb]; exact below_alloc1 _ _
  have hsb0 : wc0.heap.size + 1 = wb0.heap.size := by rw [hwb]; simp
  have hsB0 : wc0.heap.size ≤ wb0.heap.size := by omega
  have HY0 : Hid (BqCp wb0 wc0.heap.size p0 d0 e0 (.slice ya0i il0.length yc0i) (.slice ya0j jl0.length yc0j) (.slice ya0k kl0.length yc0k) il0 jl0 kl0) := Lib.hid (by rw [hwb]; exact (BxCp.start _ HC0.out.cx.zero).bq)
  have HB' := Lib.hid (HB.out.trans (hb.mono (by omega)))
  have HC0' := Lib.hid (HC0.out.same (Same.of_below hb (by omega)))
  clear hb HB HC0
  have HB := HB'
  have HC0 := HC0'
  clear HB' HC0'
  go_upto_region 7 with fail
  rw [← hwb]
  clear hwb
  have d00 := HY0.out.c0
  have d01 := HY0.out.c1
  have d02 := HY0.out.c2
  have d03 := HY0.out.c3
  have d04 := HY0.out.c4
  have d05 := HY0.out.c5
  go_wp2_with fail
  refine (stablePage_any p0 d0 e0 _ _ _ il0 jl0 kl0 _ (HC0.out.cx.zero) HMS0.out (HGL.out _ HB.out)).mono ?_
  rintro ee w7 ⟨gI0, gI1, rfl, hb, hoI⟩
  obtain ⟨rfl, rfl⟩ := NOut.unique (fun h0 _ _ ⟨_, ha⟩ ⟨_, hb⟩ => (ha.unique ⟨(xc_zero h0).1, (xc_zero h0).2⟩ hb).1) HOS.out hoI
  have hs7 : wb0.heap.size ≤ w7.heap.size := hb.size
  clear d00 d01 d02 d03 d04 d05
  have HB' := Lib.hid (HB.out.trans (hb.mono (by omega)))
  have HC0' := Lib.hid (HC0.out.same (Same.of_below hb (by omega)))
  have HY0' := Lib.hid (HY0.out.next hb)
  clear hb HB HC0 HY0
  have HB := HB'
  have HC0 := HC0'
  have HY0 := HY0'
  clear HB' HC0' HY0'
  clear hoI HOS
  have hcode0 : (gS0 != gS0) = false := by simp
  have hcode1 : (gS1 != gS1) = false := by simp
  have hcodf0 : (gS0 == gS0) = true := by simp
  have hcodf1 : (gS1 == gS1) = true := by simp
  have c00 := (HN0.out _ HB.out).c0
  have c01 := (HN0.out _ HB.out).c1
  have c02 := (HN0.out _ HB.out).c2
  have c03 := (HN0.out _ HB.out).c3
  have c04 := (HN0.out _ HB.out).c4
  have c05 := (HN0.out _ HB.out).c5
  have d00 := HY0.out.c0
  have d01 := HY0.out.c1
  have d02 := HY0.out.c2
  have d03 := HY0.out.c3
  have d04 := HY0.out.c4
  have d05 := HY0.out.c5
  have HCX := Lib.hid (((HN0.out _ HB.out).cx).drew)
  have HCC := Lib.hid ((HY0.out.cx).drew)
  go_wp2_with fail
  go_region_held3 (fun w' => w'.cell? ⟨w.heap.size, 0, none⟩ = some (.int .i64 p0) ∧ w'.cell? ⟨w.heap.size, 1, none⟩ = some (.int .i64 d0) ∧ w'.cell? ⟨w.heap.size, 2, none⟩ = some (.int .i64 e0) ∧ w'.cell? ⟨w.heap.size, 3, none⟩ = some (iv0) ∧ w'.cell? ⟨w.heap.size, 4, none⟩ = some (jv0) ∧ w'.cell? ⟨w.heap.size, 5, none⟩ = some (kv0) ∧ w'.cell? ⟨wc0.heap.size, 0, none⟩ = some (.int .i64 p0) ∧ w'.cell? ⟨wc0.heap.size, 1, none⟩ = some (.int .i64 d0) ∧ w'.cell? ⟨wc0.heap.size, 2, none⟩ = some (.int .i64 e0) ∧ w'.cell? ⟨wc0.heap.size, 3, none⟩ = some (.slice ya0i il0.length yc0i) ∧ w'.cell? ⟨wc0.heap.size, 4, none⟩ = some (.slice ya0j jl0.length yc0j) ∧ w'.cell? ⟨wc0.heap.size, 5, none⟩ = some (.slice ya0k kl0.length yc0k))
    (first | exact ⟨c00, c01, c02, c03, c04, c05, d00, d01, d02, d03, d04, d05⟩ | exact HS9.out | exact HSA.out | go_keep)
    (first
      | (go_at_call 8; refine (toCouple_any p0 d0 e0 iv0 jv0 kv0 il0 jl0 kl0 _ HCX.out HMS0.out).mono ?_; rintro ee w9 ⟨ziv09, zjv09, zkv09, rfl, hcx9, hb9⟩; have HS9 := Lib.hid (And.intro (later hb9 (Nat.le_refl _) c00) (And.intro (later hb9 (Nat.le_refl _) c01) (And.intro (later hb9 (Nat.le_refl _) c02) (And.intro (later hb9 (Nat.le_refl _) c03) (And.intro (later hb9 (Nat.le_refl _) c04) (And.intro (later hb9 (Nat.le_refl _) c05) (And.intro (later hb9 (Nat.le_refl _) d00) (And.intro (later hb9 (Nat.le_refl _) d01) (And.intro (later hb9 (Nat.le_refl _) d02) (And.intro (later hb9 (Nat.le_refl _) d03) (And.intro (later hb9 (Nat.le_refl _) d04) (later hb9 (Nat.le_refl _) d05)))))))))))); have HX9 := Lib.hid (And.intro hcx9 (And.intro (HCC.out.below hb9) (Below.trans ((Below.refl w7.heap.size w7).drew) hb9))); clear hcx9 hb9)
      | (go_at_call 10; refine (eqCouple_true p0 d0 e0 _ _ _ ziv09 zjv09 zkv09 il0 jl0 kl0 _ HX9.out.2.1 HX9.out.1.zero HMS0.out).mono ?_; rintro ee wA0 ⟨rfl, hbA⟩; have HSA := Lib.hid (And.intro (later hbA (Nat.le_refl _) (HS9.out.1)) (And.intro (later hbA (Nat.le_refl _) (HS9.out.2.1)) (And.intro (later hbA (Nat.le_refl _) (HS9.out.2.2.1)) (And.intro (later hbA (Nat.le_refl _) (HS9.out.2.2.2.1)) (And.intro (later hbA (Nat.le_refl _) (HS9.out.2.2.2.2.1)) (And.intro (later hbA (Nat.le_refl _) (HS9.out.2.2.2.2.2.1)) (And.intro (later hbA (Nat.le_refl _) (HS9.out.2.2.2.2.2.2.1)) (And.intro (later hbA (Nat.le_refl _) (HS9.out.2.2.2.2.2.2.2.1)) (And.intro (later hbA (Nat.le_refl _) (HS9.out.2.2.2.2.2.2.2.2.1)) (And.intro (later hbA (Nat.le_refl _) (HS9.out.2.2.2.2.2.2.2.2.2.1)) (And.intro (later hbA (Nat.le_refl _) (HS9.out.2.2.2.2.2.2.2.2.2.2.1)) (later hbA (Nat.le_refl _) (HS9.out.2.2.2.2.2.2.2.2.2.2.2))))))))))))); have HXA := Lib.hid (Below.trans HX9.out.2.2 (hbA.mono HX9.out.2.2.size)); clear hbA))
  have hsa0 : w7.heap.size ≤ wA0.heap.size := HXA.out.size
  have hb := HXA.out
  clear c00 c01 c02 c03 c04 c05
  clear d00 d01 d02 d03 d04 d05
  clear HXA HSA HS9 HX9 HCX HCC
  have HB' := Lib.hid (HB.out.trans (hb.mono (by omega)))
  have HC0' := Lib.hid (HC0.out.same (Same.of_below hb (by omega)))
  have HY0' := Lib.hid (HY0.out.next hb)
  clear hb HB HC0 HY0
  have HB := HB'
  have HC0 := HC0'
  have HY0 := HY0'
  clear HB' HC0' HY0'
  go_wp2
  go_ret
  exact ⟨rfl, HNW.out _ HB.out⟩
end Go.Proofs.YtckkbojankfdfaaDoor


namespace Go.Proofs.YtckkbojankfdfaaDoor
open Go.ChangeShapes Go.WideShapes Go.ChangeAt Go.RowKit

theorem dor_g : Tryd.prog.globalNamed "loop.example/g01273/impl.errNotExact" = some 0 := by kernel_rfl
theorem dor_gt : (Tryd.prog.globals[0]?).map (·.type) = some 70 := by kernel_rfl
theorem dor_star : "*" ++ "errors.errorString" = "*errors.errorString" := by decide
theorem dor_row (u : TypeId) (h : Tryd.prog.typeName? 3 u = some "*errors.errorString") : u = 109 :=
  typeName_ptr_named (nm := "errors.errorString") (by rw [dor_star]; kernel_rfl) (by kernel_rfl) (by decide) u (by rw [dor_star]; exact h)
theorem dor_ce : Tryd.prog.cellsOf 127 = 1 := by kernel_rfl
theorem dor_cs : Tryd.prog.cellsOf 9 = 1 := by kernel_rfl
abbrev dorLaid : List (String × DataW Unit) := [("loop.example/g01273/impl.errNotExact", .iface "*errors.errorString" (.ptr (.agg [.lit (.string [97, 32, 99, 111, 117, 112, 108, 101, 32, 105, 115, 32, 110, 111, 116, 32, 101, 120, 97, 99, 116])])))]
theorem dor_open {W : World} (h : laidMet Tryd.prog dorLaid W) : ∃ a : Addr, W.var? Tryd.prog "loop.example/g01273/impl.errNotExact" = some #[.iface 109 (.pointer (some a))] := by
  obtain ⟨a, s, hv, _⟩ := laid_sentinel h dor_g dor_gt Tryd.underlying70 dor_row Tryd.underlying109 Tryd.underlying127 rfl rfl Tryd.underlying9 dor_ce dor_cs
  exact ⟨a, hv⟩
theorem dor_cell {W : World} {x : Value} (h : W.var? Tryd.prog "loop.example/g01273/impl.errNotExact" = some #[x]) : W.cell? ⟨0, 0, none⟩ = some x := by simpa using World.var?_cell dor_g h 0
theorem dor_below {W W' : World} {n : String} {cs : Array Value} (hb : Below W.heap.size W W') (h : W.var? Tryd.prog n = some cs) : W'.var? Tryd.prog n = some cs := by
  unfold World.var? at h ⊢
  cases hg : Tryd.prog.globalNamed n with
  | none => simp [hg] at h
  | some g =>
    simp only [hg, Option.bind_some] at h ⊢
    have hlt : g < W.heap.size := by
      rcases Nat.lt_or_ge g W.heap.size with h' | h'
      · exact h'
      · simp [Array.getElem?_eq_none h'] at h
    rw [hb.block g hlt]
    exact h
theorem dor_vars {H : Type} (enc : TypeId × Value → H) {W : World} {x : Value} (h : W.var? Tryd.prog "loop.example/g01273/impl.errNotExact" = some #[x]) (ix : IsIface x) (sp : Nat → Bool) :
    DataW.TrodVars enc Tryd.prog W sp ["loop.example/g01273/impl.errNotExact"] [tok enc x] [.cell 0 0] :=
  vars_read1 enc dor_g dor_gt Tryd.underlying70 h ix sp

abbrev dorText : ByteArray := { data := #[97, 32, 99, 111, 117, 112, 108, 101, 32, 105, 115, 32, 110, 111, 116, 32, 101, 120, 97, 99, 116] }
noncomputable def dorLow : Nat := (World.holding Tryd.prog default ⟨#[], #[], []⟩).heap.size
noncomputable def dorWorld (os : Os) : World :=
  let w0 := World.holding Tryd.prog os ⟨#[.cells #[.string dorText] 127], #[], []⟩
  { w0 with heap := w0.heap.modify 0 fun
      | .cells _ t frozen => .cells #[.iface 109 (.pointer (some ⟨dorLow, 0, none⟩))] t frozen
      | o => o }
theorem dor_met (os : Os) (args : Array Value) : laidMet Tryd.prog dorLaid ((dorWorld os).forCall (fun _ _ => 0) ⟨#[], args, []⟩).memory :=
  laidMet_of_run (ps := [.cell 0 0, .cell dorLow 0]) 8 (by kernel_rfl) (by kernel_rfl) (by kernel_rfl)
end Go.Proofs.YtckkbojankfdfaaDoor

