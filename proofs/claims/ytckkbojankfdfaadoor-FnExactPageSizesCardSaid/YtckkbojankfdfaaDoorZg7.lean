/-
  Texts that ProofPzl needs, part 7.
-/
import Derived.Test.YtckkbojankfdfaaDoorZg6
import Derived.ScopeJumps
import Derived.WalkMore
import Derived.Maps.AppendAt
namespace Go.Proofs.YtckkbojankfdfaaDoor
open Go.RowKit

section
variable {P : Program} {ops : Array Oper} {Q : Exit → Act → World → Prop} {md : Region.Mode} {S : World → Prop}
theorem held_four {i j l m : Nat} {fuel : Nat} {listed : Array Bool} {a : Act} {w : World} (hr : Region.ready md ops listed = [i, j, l, m])
    (h0 : wpOp P ops Q i (fun a' w' => S w' ∧ wpAnyH P md ops Q S fuel (listed.setIfInBounds i true) a' w') a w)
    (h1 : wpOp P ops Q j (fun a' w' => S w' ∧ wpAnyH P md ops Q S fuel (listed.setIfInBounds j true) a' w') a w)
    (h2 : wpOp P ops Q l (fun a' w' => S w' ∧ wpAnyH P md ops Q S fuel (listed.setIfInBounds l true) a' w') a w)
    (h3 : wpOp P ops Q m (fun a' w' => S w' ∧ wpAnyH P md ops Q S fuel (listed.setIfInBounds m true) a' w') a w)
    : wpAnyH P md ops Q S (fuel + 1) listed a w :=
  wpAnyH_all hr (by simp) (fun k hk => by
    simp only [List.mem_cons, List.not_mem_nil, or_false] at hk
    rcases hk with rfl | rfl | rfl | rfl
    · exact h0
    · exact h1
    · exact h2
    · exact h3
    )
theorem held_five {i j l m n : Nat} {fuel : Nat} {listed : Array Bool} {a : Act} {w : World} (hr : Region.ready md ops listed = [i, j, l, m, n])
    (h0 : wpOp P ops Q i (fun a' w' => S w' ∧ wpAnyH P md ops Q S fuel (listed.setIfInBounds i true) a' w') a w)
    (h1 : wpOp P ops Q j (fun a' w' => S w' ∧ wpAnyH P md ops Q S fuel (listed.setIfInBounds j true) a' w') a w)
    (h2 : wpOp P ops Q l (fun a' w' => S w' ∧ wpAnyH P md ops Q S fuel (listed.setIfInBounds l true) a' w') a w)
    (h3 : wpOp P ops Q m (fun a' w' => S w' ∧ wpAnyH P md ops Q S fuel (listed.setIfInBounds m true) a' w') a w)
    (h4 : wpOp P ops Q n (fun a' w' => S w' ∧ wpAnyH P md ops Q S fuel (listed.setIfInBounds n true) a' w') a w)
    : wpAnyH P md ops Q S (fuel + 1) listed a w :=
  wpAnyH_all hr (by simp) (fun k hk => by
    simp only [List.mem_cons, List.not_mem_nil, or_false] at hk
    rcases hk with rfl | rfl | rfl | rfl | rfl
    · exact h0
    · exact h1
    · exact h2
    · exact h3
    · exact h4
    )
end
theorem hloadLn (W : World) {b : Nat} {x0 x1 x2 x3 : Value} (h : Rz W b 53 #[x0, x1, x2, x3]) : (Instr.loadAt 53 (.pointer (some ⟨b, 0, none⟩))).run Tryd.prog W = .ok (.agg #[x0, x1, x2, x3]) W := by
  have h' : W.heap[b]? = some (.cells #[x0, x1, x2, x3] 53 (0, 0)) := h
  have c0 : W.cell? ⟨b, 0, none⟩ = some x0 := by simp [World.cell?, h']
  have c1 : W.cell? ⟨b, 1, none⟩ = some x1 := by simp [World.cell?, h']
  have c2 : W.cell? ⟨b, 2, none⟩ = some x2 := by simp [World.cell?, h']
  have c3 : W.cell? ⟨b, 3, none⟩ = some x3 := by simp [World.cell?, h']
  go_simp
theorem rests_nil {p : Int} (hp : 0 < p) {v x : Lin.V} (hv : Lin.Md p v) (h : Lin.RestE p [] v ([] : List Lin.V).length x) : x = v := Lin.RestE.unique hp (Lin.Red.nil p) h (Lin.RestE.start hv)
/-- The boxes of the maps beside the couple's. -/
structure DoB (w W : World) (p : Int) (dn en : Nat) (iv jv kv dv : Value) (il jl kl dt : List (List Int)) (g0 g1 g2 g3 : Nat) : Prop where
  box : DvB w W p dn en iv jv kv il jl kl
  ri : Rz W g0 53 #[.int .i64 p, .int .i64 (dn : Int), .int .i64 (dn : Int), iv]
  rj : Rz W g1 53 #[.int .i64 p, .int .i64 (dn : Int), .int .i64 (en : Int), jv]
  rk : Rz W g2 53 #[.int .i64 p, .int .i64 (en : Int), .int .i64 (dn : Int), kv]
  rd : Rz W g3 53 #[.int .i64 p, .int .i64 (en : Int), .int .i64 (en : Int), dv]
  d : L2 0 W dv dt
theorem DoB.next {w W W' : World} {p : Int} {dn en : Nat} {iv jv kv dv : Value} {il jl kl dt : List (List Int)} {g0 g1 g2 g3 : Nat} (h : DoB w W p dn en iv jv kv dv il jl kl dt g0 g1 g2 g3) (hb : Below W.heap.size W W') : DoB w W' p dn en iv jv kv dv il jl kl dt g0 g1 g2 g3 :=
  ⟨h.box.next hb, h.ri.next hb, h.rj.next hb, h.rk.next hb, h.rd.next hb, h.d.below hb⟩

def DvP (p : Int) (dn en : Nat) (il jl kl : List (List Int)) (w : World) (e : Ending) (w' : World) : Prop :=
  ∃ (d1 e1 : Nat) (i1 j1 k1 : List (List Int)) (u : Value), e = .returned u ∧ Below w.heap.size w w' ∧ RwCp w.heap.size w'.heap.size w' u (p, d1, e1, i1, j1, k1) ∧ DcIs p dn en il jl kl d1 e1 i1 j1 k1

/-- The operations of the region in which derivedOf calls four functions beside four blocks. -/
noncomputable def dofOps : Array Oper := match Tryd.f54.body with
  | some (.seq _ (.seq (.region _ o _) _)) => o
  | _ => #[]
abbrev dofP (g : Nat) : Value := .pointer (some ⟨g, 0, none⟩)
abbrev dofA (AG b0 b1 c0 c1 c2 c3 a0 a1 a2 a3 : Value) : Act := { tmps := #[AG, b0, b1, a0, a1, a2, a3, undef, undef, undef, undef, undef, undef, undef, undef, AG, c0, AG, c1, AG, c2, AG, c3, undef, undef, undef, undef, undef, undef, undef, undef, undef, undef, undef, undef, undef, undef, undef, undef, undef, undef, undef, undef, undef, undef, undef, undef, undef, undef, undef, undef, undef, undef, undef, undef, undef, undef, undef, undef, undef, undef, undef, undef, undef, undef, undef, undef, undef, undef, undef, undef, undef, undef, undef, undef, undef, undef, undef, undef, undef, undef, undef, undef, undef, undef, undef, undef, undef, undef, undef, undef, undef, undef, undef], defers := [] }
abbrev dofL (c0 c1 c2 c3 a0 a1 a2 a3 : Bool) : Array Bool := #[true, c0, true, c1, true, c2, true, c3, a0, a1, a2, a3, false, false, false, false]
abbrev dofB (W W' : World) : Prop := Below W.heap.size W W'
noncomputable abbrev dofF (W : World) (Q : Exit → Act → World → Prop) (n : Nat) (l : Array Bool) (a : Act) (W' : World) : Prop := wpAnyH Tryd.prog .any dofOps Q (fun V => Below W.heap.size W V) n l a W'
noncomputable abbrev dofW (W' : World) : World := W'.alloc (.cells #[.int .i64 0, .int .i64 0, .int .i64 0, .slice none 0 0] 53)
theorem dofN (W' : World) : Below W'.heap.size W' (dofW W') := below_alloc1 W' _
structure dofZ (W W' : World) (g : Nat) : Prop where
  rz : Rz W' g 53 #[.int .i64 0, .int .i64 0, .int .i64 0, .slice none 0 0]
  lo : W.heap.size ≤ g
theorem dofZ.next {W W' V : World} {g : Nat} (h : dofZ W W' g) (hb : Below W'.heap.size W' V) : dofZ W V g := ⟨h.rz.next hb, h.lo⟩
theorem dofZ.lt {W W' : World} {g : Nat} (h : dofZ W W' g) : g < W'.heap.size := h.rz.lt
theorem dofZ.new {W W' : World} (hb : dofB W W') : dofZ W (dofW W') W'.heap.size := ⟨Rz.new W' 53 #[.int .i64 0, .int .i64 0, .int .i64 0, .slice none 0 0], hb.size⟩
def dofD (dt : List (List Int)) (W' : World) (au : Option Addr) (cu lo hi : Nat) : Prop := Rw2 lo hi W' (.slice au dt.length cu) dt ∧ hi ≤ W'.heap.size
theorem dofD.next {dt : List (List Int)} {W' V : World} {au : Option Addr} {cu lo hi : Nat} (h : dofD dt W' au cu lo hi) (hb : Below W'.heap.size W' V) : dofD dt V au cu lo hi := ⟨h.1.next hb h.2, Nat.le_trans h.2 hb.size⟩
section
variable {Q : Exit → Act → World → Prop} {K : Act → World → Prop} {a : Act} {W' : World} {AG v : Value}
theorem dof_a0 (h : K (a.put (some 3) (dofP W'.heap.size)) (dofW W')) : wpOp Tryd.prog dofOps Q 8 K a W' :=
  op_mem (i := 8) (v := dofP W'.heap.size) (w' := dofW W') (some 3) rfl rfl rfl (by first | kernel_rfl | (simp only [dofOps, Tryd.f54]; go_simp)) h
theorem dof_a1 (h : K (a.put (some 4) (dofP W'.heap.size)) (dofW W')) : wpOp Tryd.prog dofOps Q 9 K a W' :=
  op_mem (i := 9) (v := dofP W'.heap.size) (w' := dofW W') (some 4) rfl rfl rfl (by first | kernel_rfl | (simp only [dofOps, Tryd.f54]; go_simp)) h
theorem dof_a2 (h : K (a.put (some 5) (dofP W'.heap.size)) (dofW W')) : wpOp Tryd.prog dofOps Q 10 K a W' :=
  op_mem (i := 10) (v := dofP W'.heap.size) (w' := dofW W') (some 5) rfl rfl rfl (by first | kernel_rfl | (simp only [dofOps, Tryd.f54]; go_simp)) h
theorem dof_a3 (h : K (a.put (some 6) (dofP W'.heap.size)) (dofW W')) : wpOp Tryd.prog dofOps Q 11 K a W' :=
  op_mem (i := 11) (v := dofP W'.heap.size) (w' := dofW W') (some 6) rfl rfl rfl (by first | kernel_rfl | (simp only [dofOps, Tryd.f54]; go_simp)) h
theorem dof_c0 (hc : Calls Tryd.prog 36 #[AG] W' (BR v W')) (ha : a.eval (.tmp 15) = AG) (hK : ∀ Wn, Below W'.heap.size W' Wn → K (a.put (some 16) v) Wn) : wpOp Tryd.prog dofOps Q 1 K a W' := by
  subst ha
  refine op_enter (i := 1) (some 16) (f := 36) (args := #[a.eval (.tmp 15)]) rfl rfl rfl (by kernel_rfl) hc ?_ (fun c w' h => by cases h.1) (fun w' h => by cases h.1)
  rintro x Wn ⟨hv, hbn⟩
  injection hv with hv
  subst hv
  exact hK Wn hbn
theorem dof_c1 (hc : Calls Tryd.prog 64 #[AG] W' (BR v W')) (ha : a.eval (.tmp 17) = AG) (hK : ∀ Wn, Below W'.heap.size W' Wn → K (a.put (some 18) v) Wn) : wpOp Tryd.prog dofOps Q 3 K a W' := by
  subst ha
  refine op_enter (i := 3) (some 18) (f := 64) (args := #[a.eval (.tmp 17)]) rfl rfl rfl (by kernel_rfl) hc ?_ (fun c w' h => by cases h.1) (fun w' h => by cases h.1)
  rintro x Wn ⟨hv, hbn⟩
  injection hv with hv
  subst hv
  exact hK Wn hbn
theorem dof_c2 (hc : Calls Tryd.prog 65 #[AG] W' (BR v W')) (ha : a.eval (.tmp 19) = AG) (hK : ∀ Wn, Below W'.heap.size W' Wn → K (a.put (some 20) v) Wn) : wpOp Tryd.prog dofOps Q 5 K a W' := by
  subst ha
  refine op_enter (i := 5) (some 20) (f := 65) (args := #[a.eval (.tmp 19)]) rfl rfl rfl (by kernel_rfl) hc ?_ (fun c w' h => by cases h.1) (fun w' h => by cases h.1)
  rintro x Wn ⟨hv, hbn⟩
  injection hv with hv
  subst hv
  exact hK Wn hbn
def dofDR (dt : List (List Int)) (vd : Option Addr → Nat → Value) (W' : World) (e : Ending) (Wn : World) : Prop := ∃ au cu, e = .returned (vd au cu) ∧ dofD dt Wn au cu W'.heap.size Wn.heap.size ∧ Below W'.heap.size W' Wn
theorem dof_c3 {dt : List (List Int)} {vd : Option Addr → Nat → Value} (hc : Calls Tryd.prog 69 #[AG] W' (dofDR dt vd W')) (ha : a.eval (.tmp 21) = AG) (hK : ∀ Wn au cu, dofD dt Wn au cu W'.heap.size Wn.heap.size → Below W'.heap.size W' Wn → K (a.put (some 22) (vd au cu)) Wn) : wpOp Tryd.prog dofOps Q 7 K a W' := by
  subst ha
  refine op_enter (i := 7) (some 22) (f := 69) (args := #[a.eval (.tmp 21)]) rfl rfl rfl (by kernel_rfl) hc ?_ (fun c w' h => by obtain ⟨_, _, h, _⟩ := h; cases h) (fun w' h => by obtain ⟨_, _, h, _⟩ := h; cases h)
  rintro x Wn ⟨au, cu, hv, hd, hbn⟩
  injection hv with hv
  subst hv
  exact hK Wn au cu hd hbn
end
set_option maxHeartbeats 25600000 in
set_option maxRecDepth 100000 in
/-- All orders of that region end in one state. -/
theorem dof_orders {Q : Exit → Act → World → Prop} (AG b0 b1 vi vj vk : Value) (vd : Option Addr → Nat → Value) (dt : List (List Int)) (W wd : World)
    (H0 : ∀ W', dofB W W' → Calls Tryd.prog 36 #[AG] W' (BR vi W')) (H1 : ∀ W', dofB W W' → Calls Tryd.prog 64 #[AG] W' (BR vj W')) (H2 : ∀ W', dofB W W' → Calls Tryd.prog 65 #[AG] W' (BR vk W'))
    (H3 : ∀ W', dofB W W' → Calls Tryd.prog 69 #[AG] W' (dofDR dt vd W')) (S0 : dofB W wd)
    (L4_15 : ∀ W', dofB W W' → ∀ au cu lo hi, dofD dt W' au cu lo hi → ∀ g0, dofZ W W' g0 → (g0 < lo ∨ hi ≤ g0) → ∀ g1, dofZ W W' g1 → (g1 < lo ∨ hi ≤ g1) → ∀ g2, dofZ W W' g2 → (g2 < lo ∨ hi ≤ g2) → ∀ g3, dofZ W W' g3 → (g3 < lo ∨ hi ≤ g3) → g0 ≠ g1 → g0 ≠ g2 → g0 ≠ g3 → g1 ≠ g2 → g1 ≠ g3 → g2 ≠ g3 → dofF W Q 4 (dofL true true true true true true true true) (dofA AG b0 b1 vi vj vk (vd au cu) (dofP g0) (dofP g1) (dofP g2) (dofP g3)) W') : dofF W Q 12 (dofL false false false false false false false false) (dofA AG b0 b1 undef undef undef undef undef undef undef undef) wd := by
  have L3_15 : ∀ W', dofB W W' → ∀ g0, dofZ W W' g0 → ∀ g1, dofZ W W' g1 → ∀ g2, dofZ W W' g2 → ∀ g3, dofZ W W' g3 → g0 ≠ g1 → g0 ≠ g2 → g0 ≠ g3 → g1 ≠ g2 → g1 ≠ g3 → g2 ≠ g3 → dofF W Q 5 (dofL true true true false true true true true) (dofA AG b0 b1 vi vj vk undef (dofP g0) (dofP g1) (dofP g2) (dofP g3)) W' := by
    intro W' hb g0 h0 g1 h1 g2 h2 g3 h3 n01 n02 n03 n12 n13 n23
    refine held_one (i := 7) (by kernel_rfl) ?_
    · exact dof_c3 (H3 W' hb) rfl (fun Wn au cu hru hbn => ⟨hb.trans (hbn.mono hb.size), L4_15 Wn (hb.trans (hbn.mono hb.size)) au cu _ _ hru g0 (h0.next hbn) (Or.inl h0.lt) g1 (h1.next hbn) (Or.inl h1.lt) g2 (h2.next hbn) (Or.inl h2.lt) g3 (h3.next hbn) (Or.inl h3.lt) n01 n02 n03 n12 n13 n23⟩)
  have L4_7 : ∀ W', dofB W W' → ∀ au cu lo hi, dofD dt W' au cu lo hi → ∀ g0, dofZ W W' g0 → (g0 < lo ∨ hi ≤ g0) → ∀ g1, dofZ W W' g1 → (g1 < lo ∨ hi ≤ g1) → ∀ g2, dofZ W W' g2 → (g2 < lo ∨ hi ≤ g2) → g0 ≠ g1 → g0 ≠ g2 → g1 ≠ g2 → dofF W Q 5 (dofL true true true true true true true false) (dofA AG b0 b1 vi vj vk (vd au cu) (dofP g0) (dofP g1) (dofP g2) undef) W' := by
    intro W' hb au cu lo hi hu g0 h0 o0 g1 h1 o1 g2 h2 o2 n01 n02 n12
    refine held_one (i := 11) (by kernel_rfl) ?_
    · exact dof_a3 ⟨hb.trans ((dofN W').mono hb.size), L4_15 _ (hb.trans ((dofN W').mono hb.size)) au cu lo hi (hu.next (dofN W')) _ (h0.next (dofN W')) o0 _ (h1.next (dofN W')) o1 _ (h2.next (dofN W')) o2 _ (dofZ.new hb) (Or.inr hu.2) n01 n02 (Nat.ne_of_lt h0.lt) n12 (Nat.ne_of_lt h1.lt) (Nat.ne_of_lt h2.lt)⟩
  have L4_11 : ∀ W', dofB W W' → ∀ au cu lo hi, dofD dt W' au cu lo hi → ∀ g0, dofZ W W' g0 → (g0 < lo ∨ hi ≤ g0) → ∀ g1, dofZ W W' g1 → (g1 < lo ∨ hi ≤ g1) → ∀ g3, dofZ W W' g3 → (g3 < lo ∨ hi ≤ g3) → g0 ≠ g1 → g0 ≠ g3 → g1 ≠ g3 → dofF W Q 5 (dofL true true true true true true false true) (dofA AG b0 b1 vi vj vk (vd au cu) (dofP g0) (dofP g1) undef (dofP g3)) W' := by
    intro W' hb au cu lo hi hu g0 h0 o0 g1 h1 o1 g3 h3 o3 n01 n03 n13
    refine held_one (i := 10) (by kernel_rfl) ?_
    · exact dof_a2 ⟨hb.trans ((dofN W').mono hb.size), L4_15 _ (hb.trans ((dofN W').mono hb.size)) au cu lo hi (hu.next (dofN W')) _ (h0.next (dofN W')) o0 _ (h1.next (dofN W')) o1 _ (dofZ.new hb) (Or.inr hu.2) _ (h3.next (dofN W')) o3 n01 (Nat.ne_of_lt h0.lt) n03 (Nat.ne_of_lt h1.lt) n13 (Nat.ne_of_gt h3.lt)⟩
  have L4_13 : ∀ W', dofB W W' → ∀ au cu lo hi, dofD dt W' au cu lo hi → ∀ g0, dofZ W W' g0 → (g0 < lo ∨ hi ≤ g0) → ∀ g2, dofZ W W' g2 → (g2 < lo ∨ hi ≤ g2) → ∀ g3, dofZ W W' g3 → (g3 < lo ∨ hi ≤ g3) → g0 ≠ g2 → g0 ≠ g3 → g2 ≠ g3 → dofF W Q 5 (dofL true true true true true false true true) (dofA AG b0 b1 vi vj vk (vd au cu) (dofP g0) undef (dofP g2) (dofP g3)) W' := by
    intro W' hb au cu lo hi hu g0 h0 o0 g2 h2 o2 g3 h3 o3 n02 n03 n23
    refine held_one (i := 9) (by kernel_rfl) ?_
    · exact dof_a1 ⟨hb.trans ((dofN W').mono hb.size), L4_15 _ (hb.trans ((dofN W').mono hb.size)) au cu lo hi (hu.next (dofN W')) _ (h0.next (dofN W')) o0 _ (dofZ.new hb) (Or.inr hu.2) _ (h2.next (dofN W')) o2 _ (h3.next (dofN W')) o3 (Nat.ne_of_lt h0.lt) n02 n03 (Nat.ne_of_gt h2.lt) (Nat.ne_of_gt h3.lt) n23⟩
  have L4_14 : ∀ W', dofB W W' → ∀ au cu lo hi, dofD dt W' au cu lo hi → ∀ g1, dofZ W W' g1 → (g1 < lo ∨ hi ≤ g1) → ∀ g2, dofZ W W' g2 → (g2 < lo ∨ hi ≤ g2) → ∀ g3, dofZ W W' g3 → (g3 < lo ∨ hi ≤ g3) → g1 ≠ g2 → g1 ≠ g3 → g2 ≠ g3 → dofF W Q 5 (dofL true true true true false true true true) (dofA AG b0 b1 vi vj vk (vd au cu) undef (dofP g1) (dofP g2) (dofP g3)) W' := by
    intro W' hb au cu lo hi hu g1 h1 o1 g2 h2 o2 g3 h3 o3 n12 n13 n23
    refine held_one (i := 8) (by kernel_rfl) ?_
    · exact dof_a0 ⟨hb.trans ((dofN W').mono hb.size), L4_15 _ (hb.trans ((dofN W').mono hb.size)) au cu lo hi (hu.next (dofN W')) _ (dofZ.new hb) (Or.inr hu.2) _ (h1.next (dofN W')) o1 _ (h2.next (dofN W')) o2 _ (h3.next (dofN W')) o3 (Nat.ne_of_gt h1.lt) (Nat.ne_of_gt h2.lt) (Nat.ne_of_gt h3.lt) n12 n13 n23⟩
  have L2_15 : ∀ W', dofB W W' → ∀ g0, dofZ W W' g0 → ∀ g1, dofZ W W' g1 → ∀ g2, dofZ W W' g2 → ∀ g3, dofZ W W' g3 → g0 ≠ g1 → g0 ≠ g2 → g0 ≠ g3 → g1 ≠ g2 → g1 ≠ g3 → g2 ≠ g3 → dofF W Q 6 (dofL true true false false true true true true) (dofA AG b0 b1 vi vj undef undef (dofP g0) (dofP g1) (dofP g2) (dofP g3)) W' := by
    intro W' hb g0 h0 g1 h1 g2 h2 g3 h3 n01 n02 n03 n12 n13 n23
    refine held_one (i := 5) (by kernel_rfl) ?_
    · exact dof_c2 (H2 W' hb) rfl (fun Wn hbn => ⟨hb.trans (hbn.mono hb.size), L3_15 Wn (hb.trans (hbn.mono hb.size)) g0 (h0.next hbn) g1 (h1.next hbn) g2 (h2.next hbn) g3 (h3.next hbn) n01 n02 n03 n12 n13 n23⟩)
  have L3_7 : ∀ W', dofB W W' → ∀ g0, dofZ W W' g0 → ∀ g1, dofZ W W' g1 → ∀ g2, dofZ W W' g2 → g0 ≠ g1 → g0 ≠ g2 → g1 ≠ g2 → dofF W Q 6 (dofL true true true false true true true false) (dofA AG b0 b1 vi vj vk undef (dofP g0) (dofP g1) (dofP g2) undef) W' := by
    intro W' hb g0 h0 g1 h1 g2 h2 n01 n02 n12
    refine held_two (i := 7) (j := 11) (by kernel_rfl) ?_ ?_
    · exact dof_c3 (H3 W' hb) rfl (fun Wn au cu hru hbn => ⟨hb.trans (hbn.mono hb.size), L4_7 Wn (hb.trans (hbn.mono hb.size)) au cu _ _ hru g0 (h0.next hbn) (Or.inl h0.lt) g1 (h1.next hbn) (Or.inl h1.lt) g2 (h2.next hbn) (Or.inl h2.lt) n01 n02 n12⟩)
    · exact dof_a3 ⟨hb.trans ((dofN W').mono hb.size), L3_15 _ (hb.trans ((dofN W').mono hb.size)) _ (h0.next (dofN W')) _ (h1.next (dofN W')) _ (h2.next (dofN W')) _ (dofZ.new hb) n01 n02 (Nat.ne_of_lt h0.lt) n12 (Nat.ne_of_lt h1.lt) (Nat.ne_of_lt h2.lt)⟩
  have L3_11 : ∀ W', dofB W W' → ∀ g0, dofZ W W' g0 → ∀ g1, dofZ W W' g1 → ∀ g3, dofZ W W' g3 → g0 ≠ g1 → g0 ≠ g3 → g1 ≠ g3 → dofF W Q 6 (dofL true true true false true true false true) (dofA AG b0 b1 vi vj vk undef (dofP g0) (dofP g1) undef (dofP g3)) W' := by
    intro W' hb g0 h0 g1 h1 g3 h3 n01 n03 n13
    refine held_two (i := 7) (j := 10) (by kernel_rfl) ?_ ?_
    · exact dof_c3 (H3 W' hb) rfl (fun Wn au cu hru hbn => ⟨hb.trans (hbn.mono hb.size), L4_11 Wn (hb.trans (hbn.mono hb.size)) au cu _ _ hru g0 (h0.next hbn) (Or.inl h0.lt) g1 (h1.next hbn) (Or.inl h1.lt) g3 (h3.next hbn) (Or.inl h3.lt) n01 n03 n13⟩)
    · exact dof_a2 ⟨hb.trans ((dofN W').mono hb.size), L3_15 _ (hb.trans ((dofN W').mono hb.size)) _ (h0.next (dofN W')) _ (h1.next (dofN W')) _ (dofZ.new hb) _ (h3.next (dofN W')) n01 (Nat.ne_of_lt h0.lt) n03 (Nat.ne_of_lt h1.lt) n13 (Nat.ne_of_gt h3.lt)⟩
  have L3_13 : ∀ W', dofB W W' → ∀ g0, dofZ W W' g0 → ∀ g2, dofZ W W' g2 → ∀ g3, dofZ W W' g3 → g0 ≠ g2 → g0 ≠ g3 → g2 ≠ g3 → dofF W Q 6 (dofL true true true false true false true true) (dofA AG b0 b1 vi vj vk undef (dofP g0) undef (dofP g2) (dofP g3)) W' := by
    intro W' hb g0 h0 g2 h2 g3 h3 n02 n03 n23
    refine held_two (i := 7) (j := 9) (by kernel_rfl) ?_ ?_
    · exact dof_c3 (H3 W' hb) rfl (fun Wn au cu hru hbn => ⟨hb.trans (hbn.mono hb.size), L4_13 Wn (hb.trans (hbn.mono hb.size)) au cu _ _ hru g0 (h0.next hbn) (Or.inl h0.lt) g2 (h2.next hbn) (Or.inl h2.lt) g3 (h3.next hbn) (Or.inl h3.lt) n02 n03 n23⟩)
    · exact dof_a1 ⟨hb.trans ((dofN W').mono hb.size), L3_15 _ (hb.trans ((dofN W').mono hb.size)) _ (h0.next (dofN W')) _ (dofZ.new hb) _ (h2.next (dofN W')) _ (h3.next (dofN W')) (Nat.ne_of_lt h0.lt) n02 n03 (Nat.ne_of_gt h2.lt) (Nat.ne_of_gt h3.lt) n23⟩
  have L3_14 : ∀ W', dofB W W' → ∀ g1, dofZ W W' g1 → ∀ g2, dofZ W W' g2 → ∀ g3, dofZ W W' g3 → g1 ≠ g2 → g1 ≠ g3 → g2 ≠ g3 → dofF W Q 6 (dofL true true true false false true true true) (dofA AG b0 b1 vi vj vk undef undef (dofP g1) (dofP g2) (dofP g3)) W' := by
    intro W' hb g1 h1 g2 h2 g3 h3 n12 n13 n23
    refine held_two (i := 7) (j := 8) (by kernel_rfl) ?_ ?_
    · exact dof_c3 (H3 W' hb) rfl (fun Wn au cu hru hbn => ⟨hb.trans (hbn.mono hb.size), L4_14 Wn (hb.trans (hbn.mono hb.size)) au cu _ _ hru g1 (h1.next hbn) (Or.inl h1.lt) g2 (h2.next hbn) (Or.inl h2.lt) g3 (h3.next hbn) (Or.inl h3.lt) n12 n13 n23⟩)
    · exact dof_a0 ⟨hb.trans ((dofN W').mono hb.size), L3_15 _ (hb.trans ((dofN W').mono hb.size)) _ (dofZ.new hb) _ (h1.next (dofN W')) _ (h2.next (dofN W')) _ (h3.next (dofN W')) (Nat.ne_of_gt h1.lt) (Nat.ne_of_gt h2.lt) (Nat.ne_of_gt h3.lt) n12 n13 n23⟩
  have L4_3 : ∀ W', dofB W W' → ∀ au cu lo hi, dofD dt W' au cu lo hi → ∀ g0, dofZ W W' g0 → (g0 < lo ∨ hi ≤ g0) → ∀ g1, dofZ W W' g1 → (g1 < lo ∨ hi ≤ g1) → g0 ≠ g1 → dofF W Q 6 (dofL true true true true true true false false) (dofA AG b0 b1 vi vj vk (vd au cu) (dofP g0) (dofP g1) undef undef) W' := by
    intro W' hb au cu lo hi hu g0 h0 o0 g1 h1 o1 n01
    refine held_two (i := 10) (j := 11) (by kernel_rfl) ?_ ?_
    · exact dof_a2 ⟨hb.trans ((dofN W').mono hb.size), L4_7 _ (hb.trans ((dofN W').mono hb.size)) au cu lo hi (hu.next (dofN W')) _ (h0.next (dofN W')) o0 _ (h1.next (dofN W')) o1 _ (dofZ.new hb) (Or.inr hu.2) n01 (Nat.ne_of_lt h0.lt) (Nat.ne_of_lt h1.lt)⟩
    · exact dof_a3 ⟨hb.trans ((dofN W').mono hb.size), L4_11 _ (hb.trans ((dofN W').mono hb.size)) au cu lo hi (hu.next (dofN W')) _ (h0.next (dofN W')) o0 _ (h1.next (dofN W')) o1 _ (dofZ.new hb) (Or.inr hu.2) n01 (Nat.ne_of_lt h0.lt) (Nat.ne_of_lt h1.lt)⟩
  have L4_5 : ∀ W', dofB W W' → ∀ au cu lo hi, dofD dt W' au cu lo hi → ∀ g0, dofZ W W' g0 → (g0 < lo ∨ hi ≤ g0) → ∀ g2, dofZ W W' g2 → (g2 < lo ∨ hi ≤ g2) → g0 ≠ g2 → dofF W Q 6 (dofL true true true true true false true false) (dofA AG b0 b1 vi vj vk (vd au cu) (dofP g0) undef (dofP g2) undef) W' := by
    intro W' hb au cu lo hi hu g0 h0 o0 g2 h2 o2 n02
    refine held_two (i := 9) (j := 11) (by kernel_rfl) ?_ ?_
    · exact dof_a1 ⟨hb.trans ((dofN W').mono hb.size), L4_7 _ (hb.trans ((dofN W').mono hb.size)) au cu lo hi (hu.next (dofN W')) _ (h0.next (dofN W')) o0 _ (dofZ.new hb) (Or.inr hu.2) _ (h2.next (dofN W')) o2 (Nat.ne_of_lt h0.lt) n02 (Nat.ne_of_gt h2.lt)⟩
    · exact dof_a3 ⟨hb.trans ((dofN W').mono hb.size), L4_13 _ (hb.trans ((dofN W').mono hb.size)) au cu lo hi (hu.next (dofN W')) _ (h0.next (dofN W')) o0 _ (h2.next (dofN W')) o2 _ (dofZ.new hb) (Or.inr hu.2) n02 (Nat.ne_of_lt h0.lt) (Nat.ne_of_lt h2.lt)⟩
  have L4_9 : ∀ W', dofB W W' → ∀ au cu lo hi, dofD dt W' au cu lo hi → ∀ g0, dofZ W W' g0 → (g0 < lo ∨ hi ≤ g0) → ∀ g3, dofZ W W' g3 → (g3 < lo ∨ hi ≤ g3) → g0 ≠ g3 → dofF W Q 6 (dofL true true true true true false false true) (dofA AG b0 b1 vi vj vk (vd au cu) (dofP g0) undef undef (dofP g3)) W' := by
    intro W' hb au cu lo hi hu g0 h0 o0 g3 h3 o3 n03
    refine held_two (i := 9) (j := 10) (by kernel_rfl) ?_ ?_
    · exact dof_a1 ⟨hb.trans ((dofN W').mono hb.size), L4_11 _ (hb.trans ((dofN W').mono hb.size)) au cu lo hi (hu.next (dofN W')) _ (h0.next (dofN W')) o0 _ (dofZ.new hb) (Or.inr hu.2) _ (h3.next (dofN W')) o3 (Nat.ne_of_lt h0.lt) n03 (Nat.ne_of_gt h3.lt)⟩
    · exact dof_a2 ⟨hb.trans ((dofN W').mono hb.size), L4_13 _ (hb.trans ((dofN W').mono hb.size)) au cu lo hi (hu.next (dofN W')) _ (h0.next (dofN W')) o0 _ (dofZ.new hb) (Or.inr hu.2) _ (h3.next (dofN W')) o3 (Nat.ne_of_lt h0.lt) n03 (Nat.ne_of_gt h3.lt)⟩
  have L4_6 : ∀ W', dofB W W' → ∀ au cu lo hi, dofD dt W' au cu lo hi → ∀ g1, dofZ W W' g1 → (g1 < lo ∨ hi ≤ g1) → ∀ g2, dofZ W W' g2 → (g2 < lo ∨ hi ≤ g2) → g1 ≠ g2 → dofF W Q 6 (dofL true true true true false true true false) (dofA AG b0 b1 vi vj vk (vd au cu) undef (dofP g1) (dofP g2) undef) W' := by
    intro W' hb au cu lo hi hu g1 h1 o1 g2 h2 o2 n12
    refine held_two (i := 8) (j := 11) (by kernel_rfl) ?_ ?_
    · exact dof_a0 ⟨hb.trans ((dofN W').mono hb.size), L4_7 _ (hb.trans ((dofN W').mono hb.size)) au cu lo hi (hu.next (dofN W')) _ (dofZ.new hb) (Or.inr hu.2) _ (h1.next (dofN W')) o1 _ (h2.next (dofN W')) o2 (Nat.ne_of_gt h1.lt) (Nat.ne_of_gt h2.lt) n12⟩
    · exact dof_a3 ⟨hb.trans ((dofN W').mono hb.size), L4_14 _ (hb.trans ((dofN W').mono hb.size)) au cu lo hi (hu.next (dofN W')) _ (h1.next (dofN W')) o1 _ (h2.next (dofN W')) o2 _ (dofZ.new hb) (Or.inr hu.2) n12 (Nat.ne_of_lt h1.lt) (Nat.ne_of_lt h2.lt)⟩
  have L4_10 : ∀ W', dofB W W' → ∀ au cu lo hi, dofD dt W' au cu lo hi → ∀ g1, dofZ W W' g1 → (g1 < lo ∨ hi ≤ g1) → ∀ g3, dofZ W W' g3 → (g3 < lo ∨ hi ≤ g3) → g1 ≠ g3 → dofF W Q 6 (dofL true true true true false true false true) (dofA AG b0 b1 vi vj vk (vd au cu) undef (dofP g1) undef (dofP g3)) W' := by
    intro W' hb au cu lo hi hu g1 h1 o1 g3 h3 o3 n13
    refine held_two (i := 8) (j := 10) (by kernel_rfl) ?_ ?_
    · exact dof_a0 ⟨hb.trans ((dofN W').mono hb.size), L4_11 _ (hb.trans ((dofN W').mono hb.size)) au cu lo hi (hu.next (dofN W')) _ (dofZ.new hb) (Or.inr hu.2) _ (h1.next (dofN W')) o1 _ (h3.next (dofN W')) o3 (Nat.ne_of_gt h1.lt) (Nat.ne_of_gt h3.lt) n13⟩
    · exact dof_a2 ⟨hb.trans ((dofN W').mono hb.size), L4_14 _ (hb.trans ((dofN W').mono hb.size)) au cu lo hi (hu.next (dofN W')) _ (h1.next (dofN W')) o1 _ (dofZ.new hb) (Or.inr hu.2) _ (h3.next (dofN W')) o3 (Nat.ne_of_lt h1.lt) n13 (Nat.ne_of_gt h3.lt)⟩
  have L4_12 : ∀ W', dofB W W' → ∀ au cu lo hi, dofD dt W' au cu lo hi → ∀ g2, dofZ W W' g2 → (g2 < lo ∨ hi ≤ g2) → ∀ g3, dofZ W W' g3 → (g3 < lo ∨ hi ≤ g3) → g2 ≠ g3 → dofF W Q 6 (dofL true true true true false false true true) (dofA AG b0 b1 vi vj vk (vd au cu) undef undef (dofP g2) (dofP g3)) W' := by
    intro W' hb au cu lo hi hu g2 h2 o2 g3 h3 o3 n23
    refine held_two (i := 8) (j := 9) (by kernel_rfl) ?_ ?_
    · exact dof_a0 ⟨hb.trans ((dofN W').mono hb.size), L4_13 _ (hb.trans ((dofN W').mono hb.size)) au cu lo hi (hu.next (dofN W')) _ (dofZ.new hb) (Or.inr hu.2) _ (h2.next (dofN W')) o2 _ (h3.next (dofN W')) o3 (Nat.ne_of_gt h2.lt) (Nat.ne_of_gt h3.lt) n23⟩
    · exact dof_a1 ⟨hb.trans ((dofN W').mono hb.size), L4_14 _ (hb.trans ((dofN W').mono hb.size)) au cu lo hi (hu.next (dofN W')) _ (dofZ.new hb) (Or.inr hu.2) _ (h2.next (dofN W')) o2 _ (h3.next (dofN W')) o3 (Nat.ne_of_gt h2.lt) (Nat.ne_of_gt h3.lt) n23⟩
  have L1_15 : ∀ W', dofB W W' → ∀ g0, dofZ W W' g0 → ∀ g1, dofZ W W' g1 → ∀ g2, dofZ W W' g2 → ∀ g3, dofZ W W' g3 → g0 ≠ g1 → g0 ≠ g2 → g0 ≠ g3 → g1 ≠ g2 → g1 ≠ g3 → g2 ≠ g3 → dofF W Q 7 (dofL true false false false true true true true) (dofA AG b0 b1 vi undef undef undef (dofP g0) (dofP g1) (dofP g2) (dofP g3)) W' := by
    intro W' hb g0 h0 g1 h1 g2 h2 g3 h3 n01 n02 n03 n12 n13 n23
    refine held_one (i := 3) (by kernel_rfl) ?_
    · exact dof_c1 (H1 W' hb) rfl (fun Wn hbn => ⟨hb.trans (hbn.mono hb.size), L2_15 Wn (hb.trans (hbn.mono hb.size)) g0 (h0.next hbn) g1 (h1.next hbn) g2 (h2.next hbn) g3 (h3.next hbn) n01 n02 n03 n12 n13 n23⟩)
  have L2_7 : ∀ W', dofB W W' → ∀ g0, dofZ W W' g0 → ∀ g1, dofZ W W' g1 → ∀ g2, dofZ W W' g2 → g0 ≠ g1 → g0 ≠ g2 → g1 ≠ g2 → dofF W Q 7 (dofL true true false false true true true false) (dofA AG b0 b1 vi vj undef undef (dofP g0) (dofP g1) (dofP g2) undef) W' := by
    intro W' hb g0 h0 g1 h1 g2 h2 n01 n02 n12
    refine held_two (i := 5) (j := 11) (by kernel_rfl) ?_ ?_
    · exact dof_c2 (H2 W' hb) rfl (fun Wn hbn => ⟨hb.trans (hbn.mono hb.size), L3_7 Wn (hb.trans (hbn.mono hb.size)) g0 (h0.next hbn) g1 (h1.next hbn) g2 (h2.next hbn) n01 n02 n12⟩)
    · exact dof_a3 ⟨hb.trans ((dofN W').mono hb.size), L2_15 _ (hb.trans ((dofN W').mono hb.size)) _ (h0.next (dofN W')) _ (h1.next (dofN W')) _ (h2.next (dofN W')) _ (dofZ.new hb) n01 n02 (Nat.ne_of_lt h0.lt) n12 (Nat.ne_of_lt h1.lt) (Nat.ne_of_lt h2.lt)⟩
  have L2_11 : ∀ W', dofB W W' → ∀ g0, dofZ W W' g0 → ∀ g1, dofZ W W' g1 → ∀ g3, dofZ W W' g3 → g0 ≠ g1 → g0 ≠ g3 → g1 ≠ g3 → dofF W Q 7 (dofL true true false false true true false true) (dofA AG b0 b1 vi vj undef undef (dofP g0) (dofP g1) undef (dofP g3)) W' := by
    intro W' hb g0 h0 g1 h1 g3 h3 n01 n03 n13
    refine held_two (i := 5) (j := 10) (by kernel_rfl) ?_ ?_
    · exact dof_c2 (H2 W' hb) rfl (fun Wn hbn => ⟨hb.trans (hbn.mono hb.size), L3_11 Wn (hb.trans (hbn.mono hb.size)) g0 (h0.next hbn) g1 (h1.next hbn) g3 (h3.next hbn) n01 n03 n13⟩)
    · exact dof_a2 ⟨hb.trans ((dofN W').mono hb.size), L2_15 _ (hb.trans ((dofN W').mono hb.size)) _ (h0.next (dofN W')) _ (h1.next (dofN W')) _ (dofZ.new hb) _ (h3.next (dofN W')) n01 (Nat.ne_of_lt h0.lt) n03 (Nat.ne_of_lt h1.lt) n13 (Nat.ne_of_gt h3.lt)⟩
  have L2_13 : ∀ W', dofB W W' → ∀ g0, dofZ W W' g0 → ∀ g2, dofZ W W' g2 → ∀ g3, dofZ W W' g3 → g0 ≠ g2 → g0 ≠ g3 → g2 ≠ g3 → dofF W Q 7 (dofL true true false false true false true true) (dofA AG b0 b1 vi vj undef undef (dofP g0) undef (dofP g2) (dofP g3)) W' := by
    intro W' hb g0 h0 g2 h2 g3 h3 n02 n03 n23
    refine held_two (i := 5) (j := 9) (by kernel_rfl) ?_ ?_
    · exact dof_c2 (H2 W' hb) rfl (fun Wn hbn => ⟨hb.trans (hbn.mono hb.size), L3_13 Wn (hb.trans (hbn.mono hb.size)) g0 (h0.next hbn) g2 (h2.next hbn) g3 (h3.next hbn) n02 n03 n23⟩)
    · exact dof_a1 ⟨hb.trans ((dofN W').mono hb.size), L2_15 _ (hb.trans ((dofN W').mono hb.size)) _ (h0.next (dofN W')) _ (dofZ.new hb) _ (h2.next (dofN W')) _ (h3.next (dofN W')) (Nat.ne_of_lt h0.lt) n02 n03 (Nat.ne_of_gt h2.lt) (Nat.ne_of_gt h3.lt) n23⟩
  have L2_14 : ∀ W', dofB W W' → ∀ g1, dofZ W W' g1 → ∀ g2, dofZ W W' g2 → ∀ g3, dofZ W W' g3 → g1 ≠ g2 → g1 ≠ g3 → g2 ≠ g3 → dofF W Q 7 (dofL true true false false false true true true) (dofA AG b0 b1 vi vj undef undef undef (dofP g1) (dofP g2) (dofP g3)) W' := by
    intro W' hb g1 h1 g2 h2 g3 h3 n12 n13 n23
    refine held_two (i := 5) (j := 8) (by kernel_rfl) ?_ ?_
    · exact dof_c2 (H2 W' hb) rfl (fun Wn hbn => ⟨hb.trans (hbn.mono hb.size), L3_14 Wn (hb.trans (hbn.mono hb.size)) g1 (h1.next hbn) g2 (h2.next hbn) g3 (h3.next hbn) n12 n13 n23⟩)
    · exact dof_a0 ⟨hb.trans ((dofN W').mono hb.size), L2_15 _ (hb.trans ((dofN W').mono hb.size)) _ (dofZ.new hb) _ (h1.next (dofN W')) _ (h2.next (dofN W')) _ (h3.next (dofN W')) (Nat.ne_of_gt h1.lt) (Nat.ne_of_gt h2.lt) (Nat.ne_of_gt h3.lt) n12 n13 n23⟩
  have L3_3 : ∀ W', dofB W W' → ∀ g0, dofZ W W' g0 → ∀ g1, dofZ W W' g1 → g0 ≠ g1 → dofF W Q 7 (dofL true true true false true true false false) (dofA AG b0 b1 vi vj vk undef (dofP g0) (dofP g1) undef undef) W' := by
    intro W' hb g0 h0 g1 h1 n01
    refine held_three (i := 7) (j := 10) (l := 11) (by kernel_rfl) ?_ ?_ ?_
    · exact dof_c3 (H3 W' hb) rfl (fun Wn au cu hru hbn => ⟨hb.trans (hbn.mono hb.size), L4_3 Wn (hb.trans (hbn.mono hb.size)) au cu _ _ hru g0 (h0.next hbn) (Or.inl h0.lt) g1 (h1.next hbn) (Or.inl h1.lt) n01⟩)
    · exact dof_a2 ⟨hb.trans ((dofN W').mono hb.size), L3_7 _ (hb.trans ((dofN W').mono hb.size)) _ (h0.next (dofN W')) _ (h1.next (dofN W')) _ (dofZ.new hb) n01 (Nat.ne_of_lt h0.lt) (Nat.ne_of_lt h1.lt)⟩
    · exact dof_a3 ⟨hb.trans ((dofN W').mono hb.size), L3_11 _ (hb.trans ((dofN W').mono hb.size)) _ (h0.next (dofN W')) _ (h1.next (dofN W')) _ (dofZ.new hb) n01 (Nat.ne_of_lt h0.lt) (Nat.ne_of_lt h1.lt)⟩
  have L3_5 : ∀ W', dofB W W' → ∀ g0, dofZ W W' g0 → ∀ g2, dofZ W W' g2 → g0 ≠ g2 → dofF W Q 7 (dofL true true true false true false true false) (dofA AG b0 b1 vi vj vk undef (dofP g0) undef (dofP g2) undef) W' := by
    intro W' hb g0 h0 g2 h2 n02
    refine held_three (i := 7) (j := 9) (l := 11) (by kernel_rfl) ?_ ?_ ?_
    · exact dof_c3 (H3 W' hb) rfl (fun Wn au cu hru hbn => ⟨hb.trans (hbn.mono hb.size), L4_5 Wn (hb.trans (hbn.mono hb.size)) au cu _ _ hru g0 (h0.next hbn) (Or.inl h0.lt) g2 (h2.next hbn) (Or.inl h2.lt) n02⟩)
    · exact dof_a1 ⟨hb.trans ((dofN W').mono hb.size), L3_7 _ (hb.trans ((dofN W').mono hb.size)) _ (h0.next (dofN W')) _ (dofZ.new hb) _ (h2.next (dofN W')) (Nat.ne_of_lt h0.lt) n02 (Nat.ne_of_gt h2.lt)⟩
    · exact dof_a3 ⟨hb.trans ((dofN W').mono hb.size), L3_13 _ (hb.trans ((dofN W').mono hb.size)) _ (h0.next (dofN W')) _ (h2.next (dofN W')) _ (dofZ.new hb) n02 (Nat.ne_of_lt h0.lt) (Nat.ne_of_lt h2.lt)⟩
  have L3_9 : ∀ W', dofB W W' → ∀ g0, dofZ W W' g0 → ∀ g3, dofZ W W' g3 → g0 ≠ g3 → dofF W Q 7 (dofL true true true false true false false true) (dofA AG b0 b1 vi vj vk undef (dofP g0) undef undef (dofP g3)) W' := by
    intro W' hb g0 h0 g3 h3 n03
    refine held_three (i := 7) (j := 9) (l := 10) (by kernel_rfl) ?_ ?_ ?_
    · exact dof_c3 (H3 W' hb) rfl (fun Wn au cu hru hbn => ⟨hb.trans (hbn.mono hb.size), L4_9 Wn (hb.trans (hbn.mono hb.size)) au cu _ _ hru g0 (h0.next hbn) (Or.inl h0.lt) g3 (h3.next hbn) (Or.inl h3.lt) n03⟩)
    · exact dof_a1 ⟨hb.trans ((dofN W').mono hb.size), L3_11 _ (hb.trans ((dofN W').mono hb.size)) _ (h0.next (dofN W')) _ (dofZ.new hb) _ (h3.next (dofN W')) (Nat.ne_of_lt h0.lt) n03 (Nat.ne_of_gt h3.lt)⟩
    · exact dof_a2 ⟨hb.trans ((dofN W').mono hb.size), L3_13 _ (hb.trans ((dofN W').mono hb.size)) _ (h0.next (dofN W')) _ (dofZ.new hb) _ (h3.next (dofN W')) (Nat.ne_of_lt h0.lt) n03 (Nat.ne_of_gt h3.lt)⟩
  have L3_6 : ∀ W', dofB W W' → ∀ g1, dofZ W W' g1 → ∀ g2, dofZ W W' g2 → g1 ≠ g2 → dofF W Q 7 (dofL true true true false false true true false) (dofA AG b0 b1 vi vj vk undef undef (dofP g1) (dofP g2) undef) W' := by
    intro W' hb g1 h1 g2 h2 n12
    refine held_three (i := 7) (j := 8) (l := 11) (by kernel_rfl) ?_ ?_ ?_
    · exact dof_c3 (H3 W' hb) rfl (fun Wn au cu hru hbn => ⟨hb.trans (hbn.mono hb.size), L4_6 Wn (hb.trans (hbn.mono hb.size)) au cu _ _ hru g1 (h1.next hbn) (Or.inl h1.lt) g2 (h2.next hbn) (Or.inl h2.lt) n12⟩)
    · exact dof_a0 ⟨hb.trans ((dofN W').mono hb.size), L3_7 _ (hb.trans ((dofN W').mono hb.size)) _ (dofZ.new hb) _ (h1.next (dofN W')) _ (h2.next (dofN W')) (Nat.ne_of_gt h1.lt) (Nat.ne_of_gt h2.lt) n12⟩
    · exact dof_a3 ⟨hb.trans ((dofN W').mono hb.size), L3_14 _ (hb.trans ((dofN W').mono hb.size)) _ (h1.next (dofN W')) _ (h2.next (dofN W')) _ (dofZ.new hb) n12 (Nat.ne_of_lt h1.lt) (Nat.ne_of_lt h2.lt)⟩
  have L3_10 : ∀ W', dofB W W' → ∀ g1, dofZ W W' g1 → ∀ g3, dofZ W W' g3 → g1 ≠ g3 → dofF W Q 7 (dofL true true true false false true false true) (dofA AG b0 b1 vi vj vk undef undef (dofP g1) undef (dofP g3)) W' := by
    intro W' hb g1 h1 g3 h3 n13
    refine held_three (i := 7) (j := 8) (l := 10) (by kernel_rfl) ?_ ?_ ?_
    · exact dof_c3 (H3 W' hb) rfl (fun Wn au cu hru hbn => ⟨hb.trans (hbn.mono hb.size), L4_10 Wn (hb.trans (hbn.mono hb.size)) au cu _ _ hru g1 (h1.next hbn) (Or.inl h1.lt) g3 (h3.next hbn) (Or.inl h3.lt) n13⟩)
    · exact dof_a0 ⟨hb.trans ((dofN W').mono hb.size), L3_11 _ (hb.trans ((dofN W').mono hb.size)) _ (dofZ.new hb) _ (h1.next (dofN W')) _ (h3.next (dofN W')) (Nat.ne_of_gt h1.lt) (Nat.ne_of_gt h3.lt) n13⟩
    · exact dof_a2 ⟨hb.trans ((dofN W').mono hb.size), L3_14 _ (hb.trans ((dofN W').mono hb.size)) _ (h1.next (dofN W')) _ (dofZ.new hb) _ (h3.next (dofN W')) (Nat.ne_of_lt h1.lt) n13 (Nat.ne_of_gt h3.lt)⟩
  have L3_12 : ∀ W', dofB W W' → ∀ g2, dofZ W W' g2 → ∀ g3, dofZ W W' g3 → g2 ≠ g3 → dofF W Q 7 (dofL true true true false false false true true) (dofA AG b0 b1 vi vj vk undef undef undef (dofP g2) (dofP g3)) W' := by
    intro W' hb g2 h2 g3 h3 n23
    refine held_three (i := 7) (j := 8) (l := 9) (by kernel_rfl) ?_ ?_ ?_
    · exact dof_c3 (H3 W' hb) rfl (fun Wn au cu hru hbn => ⟨hb.trans (hbn.mono hb.size), L4_12 Wn (hb.trans (hbn.mono hb.size)) au cu _ _ hru g2 (h2.next hbn) (Or.inl h2.lt) g3 (h3.next hbn) (Or.inl h3.lt) n23⟩)
    · exact dof_a0 ⟨hb.trans ((dofN W').mono hb.size), L3_13 _ (hb.trans ((dofN W').mono hb.size)) _ (dofZ.new hb) _ (h2.next (dofN W')) _ (h3.next (dofN W')) (Nat.ne_of_gt h2.lt) (Nat.ne_of_gt h3.lt) n23⟩
    · exact dof_a1 ⟨hb.trans ((dofN W').mono hb.size), L3_14 _ (hb.trans ((dofN W').mono hb.size)) _ (dofZ.new hb) _ (h2.next (dofN W')) _ (h3.next (dofN W')) (Nat.ne_of_gt h2.lt) (Nat.ne_of_gt h3.lt) n23⟩
  have L4_1 : ∀ W', dofB W W' → ∀ au cu lo hi, dofD dt W' au cu lo hi → ∀ g0, dofZ W W' g0 → (g0 < lo ∨ hi ≤ g0) → dofF W Q 7 (dofL true true true true true false false false) (dofA AG b0 b1 vi vj vk (vd au cu) (dofP g0) undef undef undef) W' := by
    intro W' hb au cu lo hi hu g0 h0 o0
    refine held_three (i := 9) (j := 10) (l := 11) (by kernel_rfl) ?_ ?_ ?_
    · exact dof_a1 ⟨hb.trans ((dofN W').mono hb.size), L4_3 _ (hb.trans ((dofN W').mono hb.size)) au cu lo hi (hu.next (dofN W')) _ (h0.next (dofN W')) o0 _ (dofZ.new hb) (Or.inr hu.2) (Nat.ne_of_lt h0.lt)⟩
    · exact dof_a2 ⟨hb.trans ((dofN W').mono hb.size), L4_5 _ (hb.trans ((dofN W').mono hb.size)) au cu lo hi (hu.next (dofN W')) _ (h0.next (dofN W')) o0 _ (dofZ.new hb) (Or.inr hu.2) (Nat.ne_of_lt h0.lt)⟩
    · exact dof_a3 ⟨hb.trans ((dofN W').mono hb.size), L4_9 _ (hb.trans ((dofN W').mono hb.size)) au cu lo hi (hu.next (dofN W')) _ (h0.next (dofN W')) o0 _ (dofZ.new hb) (Or.inr hu.2) (Nat.ne_of_lt h0.lt)⟩
  have L4_2 : ∀ W', dofB W W' → ∀ au cu lo hi, dofD dt W' au cu lo hi → ∀ g1, dofZ W W' g1 → (g1 < lo ∨ hi ≤ g1) → dofF W Q 7 (dofL true true true true false true false false) (dofA AG b0 b1 vi vj vk (vd au cu) undef (dofP g1) undef undef) W' := by
    intro W' hb au cu lo hi hu g1 h1 o1
    refine held_three (i := 8) (j := 10) (l := 11) (by kernel_rfl) ?_ ?_ ?_
    · exact dof_a0 ⟨hb.trans ((dofN W').mono hb.size), L4_3 _ (hb.trans ((dofN W').mono hb.size)) au cu lo hi (hu.next (dofN W')) _ (dofZ.new hb) (Or.inr hu.2) _ (h1.next (dofN W')) o1 (Nat.ne_of_gt h1.lt)⟩
    · exact dof_a2 ⟨hb.trans ((dofN W').mono hb.size), L4_6 _ (hb.trans ((dofN W').mono hb.size)) au cu lo hi (hu.next (dofN W')) _ (h1.next (dofN W')) o1 _ (dofZ.new hb) (Or.inr hu.2) (Nat.ne_of_lt h1.lt)⟩
    · exact dof_a3 ⟨hb.trans ((dofN W').mono hb.size), L4_10 _ (hb.trans ((dofN W').mono hb.size)) au cu lo hi (hu.next (dofN W')) _ (h1.next (dofN W')) o1 _ (dofZ.new hb) (Or.inr hu.2) (Nat.ne_of_lt h1.lt)⟩
  have L4_4 : ∀ W', dofB W W' → ∀ au cu lo hi, dofD dt W' au cu lo hi → ∀ g2, dofZ W W' g2 → (g2 < lo ∨ hi ≤ g2) → dofF W Q 7 (dofL true true true true false false true false) (dofA AG b0 b1 vi vj vk (vd au cu) undef undef (dofP g2) undef) W' := by
    intro W' hb au cu lo hi hu g2 h2 o2
    refine held_three (i := 8) (j := 9) (l := 11) (by kernel_rfl) ?_ ?_ ?_
    · exact dof_a0 ⟨hb.trans ((dofN W').mono hb.size), L4_5 _ (hb.trans ((dofN W').mono hb.size)) au cu lo hi (hu.next (dofN W')) _ (dofZ.new hb) (Or.inr hu.2) _ (h2.next (dofN W')) o2 (Nat.ne_of_gt h2.lt)⟩
    · exact dof_a1 ⟨hb.trans ((dofN W').mono hb.size), L4_6 _ (hb.trans ((dofN W').mono hb.size)) au cu lo hi (hu.next (dofN W')) _ (dofZ.new hb) (Or.inr hu.2) _ (h2.next (dofN W')) o2 (Nat.ne_of_gt h2.lt)⟩
    · exact dof_a3 ⟨hb.trans ((dofN W').mono hb.size), L4_12 _ (hb.trans ((dofN W').mono hb.size)) au cu lo hi (hu.next (dofN W')) _ (h2.next (dofN W')) o2 _ (dofZ.new hb) (Or.inr hu.2) (Nat.ne_of_lt h2.lt)⟩
  have L4_8 : ∀ W', dofB W W' → ∀ au cu lo hi, dofD dt W' au cu lo hi → ∀ g3, dofZ W W' g3 → (g3 < lo ∨ hi ≤ g3) → dofF W Q 7 (dofL true true true true false false false true) (dofA AG b0 b1 vi vj vk (vd au cu) undef undef undef (dofP g3)) W' := by
    intro W' hb au cu lo hi hu g3 h3 o3
    refine held_three (i := 8) (j := 9) (l := 10) (by kernel_rfl) ?_ ?_ ?_
    · exact dof_a0 ⟨hb.trans ((dofN W').mono hb.size), L4_9 _ (hb.trans ((dofN W').mono hb.size)) au cu lo hi (hu.next (dofN W')) _ (dofZ.new hb) (Or.inr hu.2) _ (h3.next (dofN W')) o3 (Nat.ne_of_gt h3.lt)⟩
    · exact dof_a1 ⟨hb.trans ((dofN W').mono hb.size), L4_10 _ (hb.trans ((dofN W').mono hb.size)) au cu lo hi (hu.next (dofN W')) _ (dofZ.new hb) (Or.inr hu.2) _ (h3.next (dofN W')) o3 (Nat.ne_of_gt h3.lt)⟩
    · exact dof_a2 ⟨hb.trans ((dofN W').mono hb.size), L4_12 _ (hb.trans ((dofN W').mono hb.size)) au cu lo hi (hu.next (dofN W')) _ (dofZ.new hb) (Or.inr hu.2) _ (h3.next (dofN W')) o3 (Nat.ne_of_gt h3.lt)⟩
  have L0_15 : ∀ W', dofB W W' → ∀ g0, dofZ W W' g0 → ∀ g1, dofZ W W' g1 → ∀ g2, dofZ W W' g2 → ∀ g3, dofZ W W' g3 → g0 ≠ g1 → g0 ≠ g2 → g0 ≠ g3 → g1 ≠ g2 → g1 ≠ g3 → g2 ≠ g3 → dofF W Q 8 (dofL false false false false true true true true) (dofA AG b0 b1 undef undef undef undef (dofP g0) (dofP g1) (dofP g2) (dofP g3)) W' := by
    intro W' hb g0 h0 g1 h1 g2 h2 g3 h3 n01 n02 n03 n12 n13 n23
    refine held_one (i := 1) (by kernel_rfl) ?_
    · exact dof_c0 (H0 W' hb) rfl (fun Wn hbn => ⟨hb.trans (hbn.mono hb.size), L1_15 Wn (hb.trans (hbn.mono hb.size)) g0 (h0.next hbn) g1 (h1.next hbn) g2 (h2.next hbn) g3 (h3.next hbn) n01 n02 n03 n12 n13 n23⟩)
  have L1_7 : ∀ W', dofB W W' → ∀ g0, dofZ W W' g0 → ∀ g1, dofZ W W' g1 → ∀ g2, dofZ W W' g2 → g0 ≠ g1 → g0 ≠ g2 → g1 ≠ g2 → dofF W Q 8 (dofL true false false false true true true false) (dofA AG b0 b1 vi undef undef undef (dofP g0) (dofP g1) (dofP g2) undef) W' := by
    intro W' hb g0 h0 g1 h1 g2 h2 n01 n02 n12
    refine held_two (i := 3) (j := 11) (by kernel_rfl) ?_ ?_
    · exact dof_c1 (H1 W' hb) rfl (fun Wn hbn => ⟨hb.trans (hbn.mono hb.size), L2_7 Wn (hb.trans (hbn.mono hb.size)) g0 (h0.next hbn) g1 (h1.next hbn) g2 (h2.next hbn) n01 n02 n12⟩)
    · exact dof_a3 ⟨hb.trans ((dofN W').mono hb.size), L1_15 _ (hb.trans ((dofN W').mono hb.size)) _ (h0.next (dofN W')) _ (h1.next (dofN W')) _ (h2.next (dofN W')) _ (dofZ.new hb) n01 n02 (Nat.ne_of_lt h0.lt) n12 (Nat.ne_of_lt h1.lt) (Nat.ne_of_lt h2.lt)⟩
  have L1_11 : ∀ W', dofB W W' → ∀ g0, dofZ W W' g0 → ∀ g1, dofZ W W' g1 → ∀ g3, dofZ W W' g3 → g0 ≠ g1 → g0 ≠ g3 → g1 ≠ g3 → dofF W Q 8 (dofL true false false false true true false true) (dofA AG b0 b1 vi undef undef undef (dofP g0) (dofP g1) undef (dofP g3)) W' := by
    intro W' hb g0 h0 g1 h1 g3 h3 n01 n03 n13
    refine held_two (i := 3) (j := 10) (by kernel_rfl) ?_ ?_
    · exact dof_c1 (H1 W' hb) rfl (fun Wn hbn => ⟨hb.trans (hbn.mono hb.size), L2_11 Wn (hb.trans (hbn.mono hb.size)) g0 (h0.next hbn) g1 (h1.next hbn) g3 (h3.next hbn) n01 n03 n13⟩)
    · exact dof_a2 ⟨hb.trans ((dofN W').mono hb.size), L1_15 _ (hb.trans ((dofN W').mono hb.size)) _ (h0.next (dofN W')) _ (h1.next (dofN W')) _ (dofZ.new hb) _ (h3.next (dofN W')) n01 (Nat.ne_of_lt h0.lt) n03 (Nat.ne_of_lt h1.lt) n13 (Nat.ne_of_gt h3.lt)⟩
  have L1_13 : ∀ W', dofB W W' → ∀ g0, dofZ W W' g0 → ∀ g2, dofZ W W' g2 → ∀ g3, dofZ W W' g3 → g0 ≠ g2 → g0 ≠ g3 → g2 ≠ g3 → dofF W Q 8 (dofL true false false false true false true true) (dofA AG b0 b1 vi undef undef undef (dofP g0) undef (dofP g2) (dofP g3)) W' := by
    intro W' hb g0 h0 g2 h2 g3 h3 n02 n03 n23
    refine held_two (i := 3) (j := 9) (by kernel_rfl) ?_ ?_
    · exact dof_c1 (H1 W' hb) rfl (fun Wn hbn => ⟨hb.trans (hbn.mono hb.size), L2_13 Wn (hb.trans (hbn.mono hb.size)) g0 (h0.next hbn) g2 (h2.next hbn) g3 (h3.next hbn) n02 n03 n23⟩)
    · exact dof_a1 ⟨hb.trans ((dofN W').mono hb.size), L1_15 _ (hb.trans ((dofN W').mono hb.size)) _ (h0.next (dofN W')) _ (dofZ.new hb) _ (h2.next (dofN W')) _ (h3.next (dofN W')) (Nat.ne_of_lt h0.lt) n02 n03 (Nat.ne_of_gt h2.lt) (Nat.ne_of_gt h3.lt) n23⟩
  have L1_14 : ∀ W', dofB W W' → ∀ g1, dofZ W W' g1 → ∀ g2, dofZ W W' g2 → ∀ g3, dofZ W W' g3 → g1 ≠ g2 → g1 ≠ g3 → g2 ≠ g3 → dofF W Q 8 (dofL true false false false false true true true) (dofA AG b0 b1 vi undef undef undef undef (dofP g1) (dofP g2) (dofP g3)) W' := by
    intro W' hb g1 h1 g2 h2 g3 h3 n12 n13 n23
    refine held_two (i := 3) (j := 8) (by kernel_rfl) ?_ ?_
    · exact dof_c1 (H1 W' hb) rfl (fun Wn hbn => ⟨hb.trans (hbn.mono hb.size), L2_14 Wn (hb.trans (hbn.mono hb.size)) g1 (h1.next hbn) g2 (h2.next hbn) g3 (h3.next hbn) n12 n13 n23⟩)
    · exact dof_a0 ⟨hb.trans ((dofN W').mono hb.size), L1_15 _ (hb.trans ((dofN W').mono hb.size)) _ (dofZ.new hb) _ (h1.next (dofN W')) _ (h2.next (dofN W')) _ (h3.next (dofN W')) (Nat.ne_of_gt h1.lt) (Nat.ne_of_gt h2.lt) (Nat.ne_of_gt h3.lt) n12 n13 n23⟩
  have L2_3 : ∀ W', dofB W W' → ∀ g0, dofZ W W' g0 → ∀ g1, dofZ W W' g1 → g0 ≠ g1 → dofF W Q 8 (dofL true true false false true true false false) (dofA AG b0 b1 vi vj undef undef (dofP g0) (dofP g1) undef undef) W' := by
    intro W' hb g0 h0 g1 h1 n01
    refine held_three (i := 5) (j := 10) (l := 11) (by kernel_rfl) ?_ ?_ ?_
    · exact dof_c2 (H2 W' hb) rfl (fun Wn hbn => ⟨hb.trans (hbn.mono hb.size), L3_3 Wn (hb.trans (hbn.mono hb.size)) g0 (h0.next hbn) g1 (h1.next hbn) n01⟩)
    · exact dof_a2 ⟨hb.trans ((dofN W').mono hb.size), L2_7 _ (hb.trans ((dofN W').mono hb.size)) _ (h0.next (dofN W')) _ (h1.next (dofN W')) _ (dofZ.new hb) n01 (Nat.ne_of_lt h0.lt) (Nat.ne_of_lt h1.lt)⟩
    · exact dof_a3 ⟨hb.trans ((dofN W').mono hb.size), L2_11 _ (hb.trans ((dofN W').mono hb.size)) _ (h0.next (dofN W')) _ (h1.next (dofN W')) _ (dofZ.new hb) n01 (Nat.ne_of_lt h0.lt) (Nat.ne_of_lt h1.lt)⟩
  have L2_5 : ∀ W', dofB W W' → ∀ g0, dofZ W W' g0 → ∀ g2, dofZ W W' g2 → g0 ≠ g2 → dofF W Q 8 (dofL true true false false true false true false) (dofA AG b0 b1 vi vj undef undef (dofP g0) undef (dofP g2) undef) W' := by
    intro W' hb g0 h0 g2 h2 n02
    refine held_three (i := 5) (j := 9) (l := 11) (by kernel_rfl) ?_ ?_ ?_
    · exact dof_c2 (H2 W' hb) rfl (fun Wn hbn => ⟨hb.trans (hbn.mono hb.size), L3_5 Wn (hb.trans (hbn.mono hb.size)) g0 (h0.next hbn) g2 (h2.next hbn) n02⟩)
    · exact dof_a1 ⟨hb.trans ((dofN W').mono hb.size), L2_7 _ (hb.trans ((dofN W').mono hb.size)) _ (h0.next (dofN W')) _ (dofZ.new hb) _ (h2.next (dofN W')) (Nat.ne_of_lt h0.lt) n02 (Nat.ne_of_gt h2.lt)⟩
    · exact dof_a3 ⟨hb.trans ((dofN W').mono hb.size), L2_13 _ (hb.trans ((dofN W').mono hb.size)) _ (h0.next (dofN W')) _ (h2.next (dofN W')) _ (dofZ.new hb) n02 (Nat.ne_of_lt h0.lt) (Nat.ne_of_lt h2.lt)⟩
  have L2_9 : ∀ W', dofB W W' → ∀ g0, dofZ W W' g0 → ∀ g3, dofZ W W' g3 → g0 ≠ g3 → dofF W Q 8 (dofL true true false false true false false true) (dofA AG b0 b1 vi vj undef undef (dofP g0) undef undef (dofP g3)) W' := by
    intro W' hb g0 h0 g3 h3 n03
    refine held_three (i := 5) (j := 9) (l := 10) (by kernel_rfl) ?_ ?_ ?_
    · exact dof_c2 (H2 W' hb) rfl (fun Wn hbn => ⟨hb.trans (hbn.mono hb.size), L3_9 Wn (hb.trans (hbn.mono hb.size)) g0 (h0.next hbn) g3 (h3.next hbn) n03⟩)
    · exact dof_a1 ⟨hb.trans ((dofN W').mono hb.size), L2_11 _ (hb.trans ((dofN W').mono hb.size)) _ (h0.next (dofN W')) _ (dofZ.new hb) _ (h3.next (dofN W')) (Nat.ne_of_lt h0.lt) n03 (Nat.ne_of_gt h3.lt)⟩
    · exact dof_a2 ⟨hb.trans ((dofN W').mono hb.size), L2_13 _ (hb.trans ((dofN W').mono hb.size)) _ (h0.next (dofN W')) _ (dofZ.new hb) _ (h3.next (dofN W')) (Nat.ne_of_lt h0.lt) n03 (Nat.ne_of_gt h3.lt)⟩
  have L2_6 : ∀ W', dofB W W' → ∀ g1, dofZ W W' g1 → ∀ g2, dofZ W W' g2 → g1 ≠ g2 → dofF W Q 8 (dofL true true false false false true true false) (dofA AG b0 b1 vi vj undef undef undef (dofP g1) (dofP g2) undef) W' := by
    intro W' hb g1 h1 g2 h2 n12
    refine held_three (i := 5) (j := 8) (l := 11) (by kernel_rfl) ?_ ?_ ?_
    · exact dof_c2 (H2 W' hb) rfl (fun Wn hbn => ⟨hb.trans (hbn.mono hb.size), L3_6 Wn (hb.trans (hbn.mono hb.size)) g1 (h1.next hbn) g2 (h2.next hbn) n12⟩)
    · exact dof_a0 ⟨hb.trans ((dofN W').mono hb.size), L2_7 _ (hb.trans ((dofN W').mono hb.size)) _ (dofZ.new hb) _ (h1.next (dofN W')) _ (h2.next (dofN W')) (Nat.ne_of_gt h1.lt) (Nat.ne_of_gt h2.lt) n12⟩
    · exact dof_a3 ⟨hb.trans ((dofN W').mono hb.size), L2_14 _ (hb.trans ((dofN W').mono hb.size)) _ (h1.next (dofN W')) _ (h2.next (dofN W')) _ (dofZ.new hb) n12 (Nat.ne_of_lt h1.lt) (Nat.ne_of_lt h2.lt)⟩
  have L2_10 : ∀ W', dofB W W' → ∀ g1, dofZ W W' g1 → ∀ g3, dofZ W W' g3 → g1 ≠ g3 → dofF W Q 8 (dofL true true false false false true false true) (dofA AG b0 b1 vi vj undef undef undef (dofP g1) undef (dofP g3)) W' := by
    intro W' hb g1 h1 g3 h3 n13
    refine held_three (i := 5) (j := 8) (l := 10) (by kernel_rfl) ?_ ?_ ?_
    · exact dof_c2 (H2 W' hb) rfl (fun Wn hbn => ⟨hb.trans (hbn.mono hb.size), L3_10 Wn (hb.trans (hbn.mono hb.size)) g1 (h1.next hbn) g3 (h3.next hbn) n13⟩)
    · exact dof_a0 ⟨hb.trans ((dofN W').mono hb.size), L2_11 _ (hb.trans ((dofN W').mono hb.size)) _ (dofZ.new hb) _ (h1.next (dofN W')) _ (h3.next (dofN W')) (Nat.ne_of_gt h1.lt) (Nat.ne_of_gt h3.lt) n13⟩
    · exact dof_a2 ⟨hb.trans ((dofN W').mono hb.size), L2_14 _ (hb.trans ((dofN W').mono hb.size)) _ (h1.next (dofN W')) _ (dofZ.new hb) _ (h3.next (dofN W')) (Nat.ne_of_lt h1.lt) n13 (Nat.ne_of_gt h3.lt)⟩
  have L2_12 : ∀ W', dofB W W' → ∀ g2, dofZ W W' g2 → ∀ g3, dofZ W W' g3 → g2 ≠ g3 → dofF W Q 8 (dofL true true false false false false true true) (dofA AG b0 b1 vi vj undef undef undef undef (dofP g2) (dofP g3)) W' := by
    intro W' hb g2 h2 g3 h3 n23
    refine held_three (i := 5) (j := 8) (l := 9) (by kernel_rfl) ?_ ?_ ?_
    · exact dof_c2 (H2 W' hb) rfl (fun Wn hbn => ⟨hb.trans (hbn.mono hb.size), L3_12 Wn (hb.trans (hbn.mono hb.size)) g2 (h2.next hbn) g3 (h3.next hbn) n23⟩)
    · exact dof_a0 ⟨hb.trans ((dofN W').mono hb.size), L2_13 _ (hb.trans ((dofN W').mono hb.size)) _ (dofZ.new hb) _ (h2.next (dofN W')) _ (h3.next (dofN W')) (Nat.ne_of_gt h2.lt) (Nat.ne_of_gt h3.lt) n23⟩
    · exact dof_a1 ⟨hb.trans ((dofN W').mono hb.size), L2_14 _ (hb.trans ((dofN W').mono hb.size)) _ (dofZ.new hb) _ (h2.next (dofN W')) _ (h3.next (dofN W')) (Nat.ne_of_gt h2.lt) (Nat.ne_of_gt h3.lt) n23⟩
  have L3_1 : ∀ W', dofB W W' → ∀ g0, dofZ W W' g0 → dofF W Q 8 (dofL true true true false true false false false) (dofA AG b0 b1 vi vj vk undef (dofP g0) undef undef undef) W' := by
    intro W' hb g0 h0
    refine held_four (i := 7) (j := 9) (l := 10) (m := 11) (by kernel_rfl) ?_ ?_ ?_ ?_
    · exact dof_c3 (H3 W' hb) rfl (fun Wn au cu hru hbn => ⟨hb.trans (hbn.mono hb.size), L4_1 Wn (hb.trans (hbn.mono hb.size)) au cu _ _ hru g0 (h0.next hbn) (Or.inl h0.lt)⟩)
    · exact dof_a1 ⟨hb.trans ((dofN W').mono hb.size), L3_3 _ (hb.trans ((dofN W').mono hb.size)) _ (h0.next (dofN W')) _ (dofZ.new hb) (Nat.ne_of_lt h0.lt)⟩
    · exact dof_a2 ⟨hb.trans ((dofN W').mono hb.size), L3_5 _ (hb.trans ((dofN W').mono hb.size)) _ (h0.next (dofN W')) _ (dofZ.new hb) (Nat.ne_of_lt h0.lt)⟩
    · exact dof_a3 ⟨hb.trans ((dofN W').mono hb.size), L3_9 _ (hb.trans ((dofN W').mono hb.size)) _ (h0.next (dofN W')) _ (dofZ.new hb) (Nat.ne_of_lt h0.lt)⟩
  have L3_2 : ∀ W', dofB W W' → ∀ g1, dofZ W W' g1 → dofF W Q 8 (dofL true true true false false true false false) (dofA AG b0 b1 vi vj vk undef undef (dofP g1) undef undef) W' := by
    intro W' hb g1 h1
    refine held_four (i := 7) (j := 8) (l := 10) (m := 11) (by kernel_rfl) ?_ ?_ ?_ ?_
    · exact dof_c3 (H3 W' hb) rfl (fun Wn au cu hru hbn => ⟨hb.trans (hbn.mono hb.size), L4_2 Wn (hb.trans (hbn.mono hb.size)) au cu _ _ hru g1 (h1.next hbn) (Or.inl h1.lt)⟩)
    · exact dof_a0 ⟨hb.trans ((dofN W').mono hb.size), L3_3 _ (hb.trans ((dofN W').mono hb.size)) _ (dofZ.new hb) _ (h1.next (dofN W')) (Nat.ne_of_gt h1.lt)⟩
    · exact dof_a2 ⟨hb.trans ((dofN W').mono hb.size), L3_6 _ (hb.trans ((dofN W').mono hb.size)) _ (h1.next (dofN W')) _ (dofZ.new hb) (Nat.ne_of_lt h1.lt)⟩
    · exact dof_a3 ⟨hb.trans ((dofN W').mono hb.size), L3_10 _ (hb.trans ((dofN W').mono hb.size)) _ (h1.next (dofN W')) _ (dofZ.new hb) (Nat.ne_of_lt h1.lt)⟩
  have L3_4 : ∀ W', dofB W W' → ∀ g2, dofZ W W' g2 → dofF W Q 8 (dofL true true true false false false true false) (dofA AG b0 b1 vi vj vk undef undef undef (dofP g2) undef) W' := by
    intro W' hb g2 h2
    refine held_four (i := 7) (j := 8) (l := 9) (m := 11) (by kernel_rfl) ?_ ?_ ?_ ?_
    · exact dof_c3 (H3 W' hb) rfl (fun Wn au cu hru hbn => ⟨hb.trans (hbn.mono hb.size), L4_4 Wn (hb.trans (hbn.mono hb.size)) au cu _ _ hru g2 (h2.next hbn) (Or.inl h2.lt)⟩)
    · exact dof_a0 ⟨hb.trans ((dofN W').mono hb.size), L3_5 _ (hb.trans ((dofN W').mono hb.size)) _ (dofZ.new hb) _ (h2.next (dofN W')) (Nat.ne_of_gt h2.lt)⟩
    · exact dof_a1 ⟨hb.trans ((dofN W').mono hb.size), L3_6 _ (hb.trans ((dofN W').mono hb.size)) _ (dofZ.new hb) _ (h2.next (dofN W')) (Nat.ne_of_gt h2.lt)⟩
    · exact dof_a3 ⟨hb.trans ((dofN W').mono hb.size), L3_12 _ (hb.trans ((dofN W').mono hb.size)) _ (h2.next (dofN W')) _ (dofZ.new hb) (Nat.ne_of_lt h2.lt)⟩
  have L3_8 : ∀ W', dofB W W' → ∀ g3, dofZ W W' g3 → dofF W Q 8 (dofL true true true false false false false true) (dofA AG b0 b1 vi vj vk undef undef undef undef (dofP g3)) W' := by
    intro W' hb g3 h3
    refine held_four (i := 7) (j := 8) (l := 9) (m := 10) (by kernel_rfl) ?_ ?_ ?_ ?_
    · exact dof_c3 (H3 W' hb) rfl (fun Wn au cu hru hbn => ⟨hb.trans (hbn.mono hb.size), L4_8 Wn (hb.trans (hbn.mono hb.size)) au cu _ _ hru g3 (h3.next hbn) (Or.inl h3.lt)⟩)
    · exact dof_a0 ⟨hb.trans ((dofN W').mono hb.size), L3_9 _ (hb.trans ((dofN W').mono hb.size)) _ (dofZ.new hb) _ (h3.next (dofN W')) (Nat.ne_of_gt h3.lt)⟩
    · exact dof_a1 ⟨hb.trans ((dofN W').mono hb.size), L3_10 _ (hb.trans ((dofN W').mono hb.size)) _ (dofZ.new hb) _ (h3.next (dofN W')) (Nat.ne_of_gt h3.lt)⟩
    · exact dof_a2 ⟨hb.trans ((dofN W').mono hb.size), L3_12 _ (hb.trans ((dofN W').mono hb.size)) _ (dofZ.new hb) _ (h3.next (dofN W')) (Nat.ne_of_gt h3.lt)⟩
  have L4_0 : ∀ W', dofB W W' → ∀ au cu lo hi, dofD dt W' au cu lo hi → dofF W Q 8 (dofL true true true true false false false false) (dofA AG b0 b1 vi vj vk (vd au cu) undef undef undef undef) W' := by
    intro W' hb au cu lo hi hu
    refine held_four (i := 8) (j := 9) (l := 10) (m := 11) (by kernel_rfl) ?_ ?_ ?_ ?_
    · exact dof_a0 ⟨hb.trans ((dofN W').mono hb.size), L4_1 _ (hb.trans ((dofN W').mono hb.size)) au cu lo hi (hu.next (dofN W')) _ (dofZ.new hb) (Or.inr hu.2)⟩
    · exact dof_a1 ⟨hb.trans ((dofN W').mono hb.size), L4_2 _ (hb.trans ((dofN W').mono hb.size)) au cu lo hi (hu.next (dofN W')) _ (dofZ.new hb) (Or.inr hu.2)⟩
    · exact dof_a2 ⟨hb.trans ((dofN W').mono hb.size), L4_4 _ (hb.trans ((dofN W').mono hb.size)) au cu lo hi (hu.next (dofN W')) _ (dofZ.new hb) (Or.inr hu.2)⟩
    · exact dof_a3 ⟨hb.trans ((dofN W').mono hb.size), L4_8 _ (hb.trans ((dofN W').mono hb.size)) au cu lo hi (hu.next (dofN W')) _ (dofZ.new hb) (Or.inr hu.2)⟩
  have L0_7 : ∀ W', dofB W W' → ∀ g0, dofZ W W' g0 → ∀ g1, dofZ W W' g1 → ∀ g2, dofZ W W' g2 → g0 ≠ g1 → g0 ≠ g2 → g1 ≠ g2 → dofF W Q 9 (dofL false false false false true true true false) (dofA AG b0 b1 undef undef undef undef (dofP g0) (dofP g1) (dofP g2) undef) W' := by
    intro W' hb g0 h0 g1 h1 g2 h2 n01 n02 n12
    refine held_two (i := 1) (j := 11) (by kernel_rfl) ?_ ?_
    · exact dof_c0 (H0 W' hb) rfl (fun Wn hbn => ⟨hb.trans (hbn.mono hb.size), L1_7 Wn (hb.trans (hbn.mono hb.size)) g0 (h0.next hbn) g1 (h1.next hbn) g2 (h2.next hbn) n01 n02 n12⟩)
    · exact dof_a3 ⟨hb.trans ((dofN W').mono hb.size), L0_15 _ (hb.trans ((dofN W').mono hb.size)) _ (h0.next (dofN W')) _ (h1.next (dofN W')) _ (h2.next (dofN W')) _ (dofZ.new hb) n01 n02 (Nat.ne_of_lt h0.lt) n12 (Nat.ne_of_lt h1.lt) (Nat.ne_of_lt h2.lt)⟩
  have L0_11 : ∀ W', dofB W W' → ∀ g0, dofZ W W' g0 → ∀ g1, dofZ W W' g1 → ∀ g3, dofZ W W' g3 → g0 ≠ g1 → g0 ≠ g3 → g1 ≠ g3 → dofF W Q 9 (dofL false false false false true true false true) (dofA AG b0 b1 undef undef undef undef (dofP g0) (dofP g1) undef (dofP g3)) W' := by
    intro W' hb g0 h0 g1 h1 g3 h3 n01 n03 n13
    refine held_two (i := 1) (j := 10) (by kernel_rfl) ?_ ?_
    · exact dof_c0 (H0 W' hb) rfl (fun Wn hbn => ⟨hb.trans (hbn.mono hb.size), L1_11 Wn (hb.trans (hbn.mono hb.size)) g0 (h0.next hbn) g1 (h1.next hbn) g3 (h3.next hbn) n01 n03 n13⟩)
    · exact dof_a2 ⟨hb.trans ((dofN W').mono hb.size), L0_15 _ (hb.trans ((dofN W').mono hb.size)) _ (h0.next (dofN W')) _ (h1.next (dofN W')) _ (dofZ.new hb) _ (h3.next (dofN W')) n01 (Nat.ne_of_lt h0.lt) n03 (Nat.ne_of_lt h1.lt) n13 (Nat.ne_of_gt h3.lt)⟩
  have L0_13 : ∀ W', dofB W W' → ∀ g0, dofZ W W' g0 → ∀ g2, dofZ W W' g2 → ∀ g3, dofZ W W' g3 → g0 ≠ g2 → g0 ≠ g3 → g2 ≠ g3 → dofF W Q 9 (dofL false false false false true false true true) (dofA AG b0 b1 undef undef undef undef (dofP g0) undef (dofP g2) (dofP g3)) W' := by
    intro W' hb g0 h0 g2 h2 g3 h3 n02 n03 n23
    refine held_two (i := 1) (j := 9) (by kernel_rfl) ?_ ?_
    · exact dof_c0 (H0 W' hb) rfl (fun Wn hbn => ⟨hb.trans (hbn.mono hb.size), L1_13 Wn (hb.trans (hbn.mono hb.size)) g0 (h0.next hbn) g2 (h2.next hbn) g3 (h3.next hbn) n02 n03 n23⟩)
    · exact dof_a1 ⟨hb.trans ((dofN W').mono hb.size), L0_15 _ (hb.trans ((dofN W').mono hb.size)) _ (h0.next (dofN W')) _ (dofZ.new hb) _ (h2.next (dofN W')) _ (h3.next (dofN W')) (Nat.ne_of_lt h0.lt) n02 n03 (Nat.ne_of_gt h2.lt) (Nat.ne_of_gt h3.lt) n23⟩
  have L0_14 : ∀ W', dofB W W' → ∀ g1, dofZ W W' g1 → ∀ g2, dofZ W W' g2 → ∀ g3, dofZ W W' g3 → g1 ≠ g2 → g1 ≠ g3 → g2 ≠ g3 → dofF W Q 9 (dofL false false false false false true true true) (dofA AG b0 b1 undef undef undef undef undef (dofP g1) (dofP g2) (dofP g3)) W' := by
    intro W' hb g1 h1 g2 h2 g3 h3 n12 n13 n23
    refine held_two (i := 1) (j := 8) (by kernel_rfl) ?_ ?_
    · exact dof_c0 (H0 W' hb) rfl (fun Wn hbn => ⟨hb.trans (hbn.mono hb.size), L1_14 Wn (hb.trans (hbn.mono hb.size)) g1 (h1.next hbn) g2 (h2.next hbn) g3 (h3.next hbn) n12 n13 n23⟩)
    · exact dof_a0 ⟨hb.trans ((dofN W').mono hb.size), L0_15 _ (hb.trans ((dofN W').mono hb.size)) _ (dofZ.new hb) _ (h1.next (dofN W')) _ (h2.next (dofN W')) _ (h3.next (dofN W')) (Nat.ne_of_gt h1.lt) (Nat.ne_of_gt h2.lt) (Nat.ne_of_gt h3.lt) n12 n13 n23⟩
  have L1_3 : ∀ W', dofB W W' → ∀ g0, dofZ W W' g0 → ∀ g1, dofZ W W' g1 → g0 ≠ g1 → dofF W Q 9 (dofL true false false false true true false false) (dofA AG b0 b1 vi undef undef undef (dofP g0) (dofP g1) undef undef) W' := by
    intro W' hb g0 h0 g1 h1 n01
    refine held_three (i := 3) (j := 10) (l := 11) (by kernel_rfl) ?_ ?_ ?_
    · exact dof_c1 (H1 W' hb) rfl (fun Wn hbn => ⟨hb.trans (hbn.mono hb.size), L2_3 Wn (hb.trans (hbn.mono hb.size)) g0 (h0.next hbn) g1 (h1.next hbn) n01⟩)
    · exact dof_a2 ⟨hb.trans ((dofN W').mono hb.size), L1_7 _ (hb.trans ((dofN W').mono hb.size)) _ (h0.next (dofN W')) _ (h1.next (dofN W')) _ (dofZ.new hb) n01 (Nat.ne_of_lt h0.lt) (Nat.ne_of_lt h1.lt)⟩
    · exact dof_a3 ⟨hb.trans ((dofN W').mono hb.size), L1_11 _ (hb.trans ((dofN W').mono hb.size)) _ (h0.next (dofN W')) _ (h1.next (dofN W')) _ (dofZ.new hb) n01 (Nat.ne_of_lt h0.lt) (Nat.ne_of_lt h1.lt)⟩
  have L1_5 : ∀ W', dofB W W' → ∀ g0, dofZ W W' g0 → ∀ g2, dofZ W W' g2 → g0 ≠ g2 → dofF W Q 9 (dofL true false false false true false true false) (dofA AG b0 b1 vi undef undef undef (dofP g0) undef (dofP g2) undef) W' := by
    intro W' hb g0 h0 g2 h2 n02
    refine held_three (i := 3) (j := 9) (l := 11) (by kernel_rfl) ?_ ?_ ?_
    · exact dof_c1 (H1 W' hb) rfl (fun Wn hbn => ⟨hb.trans (hbn.mono hb.size), L2_5 Wn (hb.trans (hbn.mono hb.size)) g0 (h0.next hbn) g2 (h2.next hbn) n02⟩)
    · exact dof_a1 ⟨hb.trans ((dofN W').mono hb.size), L1_7 _ (hb.trans ((dofN W').mono hb.size)) _ (h0.next (dofN W')) _ (dofZ.new hb) _ (h2.next (dofN W')) (Nat.ne_of_lt h0.lt) n02 (Nat.ne_of_gt h2.lt)⟩
    · exact dof_a3 ⟨hb.trans ((dofN W').mono hb.size), L1_13 _ (hb.trans ((dofN W').mono hb.size)) _ (h0.next (dofN W')) _ (h2.next (dofN W')) _ (dofZ.new hb) n02 (Nat.ne_of_lt h0.lt) (Nat.ne_of_lt h2.lt)⟩
  have L1_9 : ∀ W', dofB W W' → ∀ g0, dofZ W W' g0 → ∀ g3, dofZ W W' g3 → g0 ≠ g3 → dofF W Q 9 (dofL true false false false true false false true) (dofA AG b0 b1 vi undef undef undef (dofP g0) undef undef (dofP g3)) W' := by
    intro W' hb g0 h0 g3 h3 n03
    refine held_three (i := 3) (j := 9) (l := 10) (by kernel_rfl) ?_ ?_ ?_
    · exact dof_c1 (H1 W' hb) rfl (fun Wn hbn => ⟨hb.trans (hbn.mono hb.size), L2_9 Wn (hb.trans (hbn.mono hb.size)) g0 (h0.next hbn) g3 (h3.next hbn) n03⟩)
    · exact dof_a1 ⟨hb.trans ((dofN W').mono hb.size), L1_11 _ (hb.trans ((dofN W').mono hb.size)) _ (h0.next (dofN W')) _ (dofZ.new hb) _ (h3.next (dofN W')) (Nat.ne_of_lt h0.lt) n03 (Nat.ne_of_gt h3.lt)⟩
    · exact dof_a2 ⟨hb.trans ((dofN W').mono hb.size), L1_13 _ (hb.trans ((dofN W').mono hb.size)) _ (h0.next (dofN W')) _ (dofZ.new hb) _ (h3.next (dofN W')) (Nat.ne_of_lt h0.lt) n03 (Nat.ne_of_gt h3.lt)⟩
  have L1_6 : ∀ W', dofB W W' → ∀ g1, dofZ W W' g1 → ∀ g2, dofZ W W' g2 → g1 ≠ g2 → dofF W Q 9 (dofL true false false false false true true false) (dofA AG b0 b1 vi undef undef undef undef (dofP g1) (dofP g2) undef) W' := by
    intro W' hb g1 h1 g2 h2 n12
    refine held_three (i := 3) (j := 8) (l := 11) (by kernel_rfl) ?_ ?_ ?_
    · exact dof_c1 (H1 W' hb) rfl (fun Wn hbn => ⟨hb.trans (hbn.mono hb.size), L2_6 Wn (hb.trans (hbn.mono hb.size)) g1 (h1.next hbn) g2 (h2.next hbn) n12⟩)
    · exact dof_a0 ⟨hb.trans ((dofN W').mono hb.size), L1_7 _ (hb.trans ((dofN W').mono hb.size)) _ (dofZ.new hb) _ (h1.next (dofN W')) _ (h2.next (dofN W')) (Nat.ne_of_gt h1.lt) (Nat.ne_of_gt h2.lt) n12⟩
    · exact dof_a3 ⟨hb.trans ((dofN W').mono hb.size), L1_14 _ (hb.trans ((dofN W').mono hb.size)) _ (h1.next (dofN W')) _ (h2.next (dofN W')) _ (dofZ.new hb) n12 (Nat.ne_of_lt h1.lt) (Nat.ne_of_lt h2.lt)⟩
  have L1_10 : ∀ W', dofB W W' → ∀ g1, dofZ W W' g1 → ∀ g3, dofZ W W' g3 → g1 ≠ g3 → dofF W Q 9 (dofL true false false false false true false true) (dofA AG b0 b1 vi undef undef undef undef (dofP g1) undef (dofP g3)) W' := by
    intro W' hb g1 h1 g3 h3 n13
    refine held_three (i := 3) (j := 8) (l := 10) (by kernel_rfl) ?_ ?_ ?_
    · exact dof_c1 (H1 W' hb) rfl (fun Wn hbn => ⟨hb.trans (hbn.mono hb.size), L2_10 Wn (hb.trans (hbn.mono hb.size)) g1 (h1.next hbn) g3 (h3.next hbn) n13⟩)
    · exact dof_a0 ⟨hb.trans ((dofN W').mono hb.size), L1_11 _ (hb.trans ((dofN W').mono hb.size)) _ (dofZ.new hb) _ (h1.next (dofN W')) _ (h3.next (dofN W')) (Nat.ne_of_gt h1.lt) (Nat.ne_of_gt h3.lt) n13⟩
    · exact dof_a2 ⟨hb.trans ((dofN W').mono hb.size), L1_14 _ (hb.trans ((dofN W').mono hb.size)) _ (h1.next (dofN W')) _ (dofZ.new hb) _ (h3.next (dofN W')) (Nat.ne_of_lt h1.lt) n13 (Nat.ne_of_gt h3.lt)⟩
  have L1_12 : ∀ W', dofB W W' → ∀ g2, dofZ W W' g2 → ∀ g3, dofZ W W' g3 → g2 ≠ g3 → dofF W Q 9 (dofL true false false false false false true true) (dofA AG b0 b1 vi undef undef undef undef undef (dofP g2) (dofP g3)) W' := by
    intro W' hb g2 h2 g3 h3 n23
    refine held_three (i := 3) (j := 8) (l := 9) (by kernel_rfl) ?_ ?_ ?_
    · exact dof_c1 (H1 W' hb) rfl (fun Wn hbn => ⟨hb.trans (hbn.mono hb.size), L2_12 Wn (hb.trans (hbn.mono hb.size)) g2 (h2.next hbn) g3 (h3.next hbn) n23⟩)
    · exact dof_a0 ⟨hb.trans ((dofN W').mono hb.size), L1_13 _ (hb.trans ((dofN W').mono hb.size)) _ (dofZ.new hb) _ (h2.next (dofN W')) _ (h3.next (dofN W')) (Nat.ne_of_gt h2.lt) (Nat.ne_of_gt h3.lt) n23⟩
    · exact dof_a1 ⟨hb.trans ((dofN W').mono hb.size), L1_14 _ (hb.trans ((dofN W').mono hb.size)) _ (dofZ.new hb) _ (h2.next (dofN W')) _ (h3.next (dofN W')) (Nat.ne_of_gt h2.lt) (Nat.ne_of_gt h3.lt) n23⟩
  have L2_1 : ∀ W', dofB W W' → ∀ g0, dofZ W W' g0 → dofF W Q 9 (dofL true true false false true false false false) (dofA AG b0 b1 vi vj undef undef (dofP g0) undef undef undef) W' := by
    intro W' hb g0 h0
    refine held_four (i := 5) (j := 9) (l := 10) (m := 11) (by kernel_rfl) ?_ ?_ ?_ ?_
    · exact dof_c2 (H2 W' hb) rfl (fun Wn hbn => ⟨hb.trans (hbn.mono hb.size), L3_1 Wn (hb.trans (hbn.mono hb.size)) g0 (h0.next hbn)⟩)
    · exact dof_a1 ⟨hb.trans ((dofN W').mono hb.size), L2_3 _ (hb.trans ((dofN W').mono hb.size)) _ (h0.next (dofN W')) _ (dofZ.new hb) (Nat.ne_of_lt h0.lt)⟩
    · exact dof_a2 ⟨hb.trans ((dofN W').mono hb.size), L2_5 _ (hb.trans ((dofN W').mono hb.size)) _ (h0.next (dofN W')) _ (dofZ.new hb) (Nat.ne_of_lt h0.lt)⟩
    · exact dof_a3 ⟨hb.trans ((dofN W').mono hb.size), L2_9 _ (hb.trans ((dofN W').mono hb.size)) _ (h0.next (dofN W')) _ (dofZ.new hb) (Nat.ne_of_lt h0.lt)⟩
  have L2_2 : ∀ W', dofB W W' → ∀ g1, dofZ W W' g1 → dofF W Q 9 (dofL true true false false false true false false) (dofA AG b0 b1 vi vj undef undef undef (dofP g1) undef undef) W' := by
    intro W' hb g1 h1
    refine held_four (i := 5) (j := 8) (l := 10) (m := 11) (by kernel_rfl) ?_ ?_ ?_ ?_
    · exact dof_c2 (H2 W' hb) rfl (fun Wn hbn => ⟨hb.trans (hbn.mono hb.size), L3_2 Wn (hb.trans (hbn.mono hb.size)) g1 (h1.next hbn)⟩)
    · exact dof_a0 ⟨hb.trans ((dofN W').mono hb.size), L2_3 _ (hb.trans ((dofN W').mono hb.size)) _ (dofZ.new hb) _ (h1.next (dofN W')) (Nat.ne_of_gt h1.lt)⟩
    · exact dof_a2 ⟨hb.trans ((dofN W').mono hb.size), L2_6 _ (hb.trans ((dofN W').mono hb.size)) _ (h1.next (dofN W')) _ (dofZ.new hb) (Nat.ne_of_lt h1.lt)⟩
    · exact dof_a3 ⟨hb.trans ((dofN W').mono hb.size), L2_10 _ (hb.trans ((dofN W').mono hb.size)) _ (h1.next (dofN W')) _ (dofZ.new hb) (Nat.ne_of_lt h1.lt)⟩
  have L2_4 : ∀ W', dofB W W' → ∀ g2, dofZ W W' g2 → dofF W Q 9 (dofL true true false false false false true false) (dofA AG b0 b1 vi vj undef undef undef undef (dofP g2) undef) W' := by
    intro W' hb g2 h2
    refine held_four (i := 5) (j := 8) (l := 9) (m := 11) (by kernel_rfl) ?_ ?_ ?_ ?_
    · exact dof_c2 (H2 W' hb) rfl (fun Wn hbn => ⟨hb.trans (hbn.mono hb.size), L3_4 Wn (hb.trans (hbn.mono hb.size)) g2 (h2.next hbn)⟩)
    · exact dof_a0 ⟨hb.trans ((dofN W').mono hb.size), L2_5 _ (hb.trans ((dofN W').mono hb.size)) _ (dofZ.new hb) _ (h2.next (dofN W')) (Nat.ne_of_gt h2.lt)⟩
    · exact dof_a1 ⟨hb.trans ((dofN W').mono hb.size), L2_6 _ (hb.trans ((dofN W').mono hb.size)) _ (dofZ.new hb) _ (h2.next (dofN W')) (Nat.ne_of_gt h2.lt)⟩
    · exact dof_a3 ⟨hb.trans ((dofN W').mono hb.size), L2_12 _ (hb.trans ((dofN W').mono hb.size)) _ (h2.next (dofN W')) _ (dofZ.new hb) (Nat.ne_of_lt h2.lt)⟩
  have L2_8 : ∀ W', dofB W W' → ∀ g3, dofZ W W' g3 → dofF W Q 9 (dofL true true false false false false false true) (dofA AG b0 b1 vi vj undef undef undef undef undef (dofP g3)) W' := by
    intro W' hb g3 h3
    refine held_four (i := 5) (j := 8) (l := 9) (m := 10) (by kernel_rfl) ?_ ?_ ?_ ?_
    · exact dof_c2 (H2 W' hb) rfl (fun Wn hbn => ⟨hb.trans (hbn.mono hb.size), L3_8 Wn (hb.trans (hbn.mono hb.size)) g3 (h3.next hbn)⟩)
    · exact dof_a0 ⟨hb.trans ((dofN W').mono hb.size), L2_9 _ (hb.trans ((dofN W').mono hb.size)) _ (dofZ.new hb) _ (h3.next (dofN W')) (Nat.ne_of_gt h3.lt)⟩
    · exact dof_a1 ⟨hb.trans ((dofN W').mono hb.size), L2_10 _ (hb.trans ((dofN W').mono hb.size)) _ (dofZ.new hb) _ (h3.next (dofN W')) (Nat.ne_of_gt h3.lt)⟩
    · exact dof_a2 ⟨hb.trans ((dofN W').mono hb.size), L2_12 _ (hb.trans ((dofN W').mono hb.size)) _ (dofZ.new hb) _ (h3.next (dofN W')) (Nat.ne_of_gt h3.lt)⟩
  have L3_0 : ∀ W', dofB W W' → dofF W Q 9 (dofL true true true false false false false false) (dofA AG b0 b1 vi vj vk undef undef undef undef undef) W' := by
    intro W' hb
    refine held_five (i := 7) (j := 8) (l := 9) (m := 10) (n := 11) (by kernel_rfl) ?_ ?_ ?_ ?_ ?_
    · exact dof_c3 (H3 W' hb) rfl (fun Wn au cu hru hbn => ⟨hb.trans (hbn.mono hb.size), L4_0 Wn (hb.trans (hbn.mono hb.size)) au cu _ _ hru⟩)
    · exact dof_a0 ⟨hb.trans ((dofN W').mono hb.size), L3_1 _ (hb.trans ((dofN W').mono hb.size)) _ (dofZ.new hb)⟩
    · exact dof_a1 ⟨hb.trans ((dofN W').mono hb.size), L3_2 _ (hb.trans ((dofN W').mono hb.size)) _ (dofZ.new hb)⟩
    · exact dof_a2 ⟨hb.trans ((dofN W').mono hb.size), L3_4 _ (hb.trans ((dofN W').mono hb.size)) _ (dofZ.new hb)⟩
    · exact dof_a3 ⟨hb.trans ((dofN W').mono hb.size), L3_8 _ (hb.trans ((dofN W').mono hb.size)) _ (dofZ.new hb)⟩
  have L0_3 : ∀ W', dofB W W' → ∀ g0, dofZ W W' g0 → ∀ g1, dofZ W W' g1 → g0 ≠ g1 → dofF W Q 10 (dofL false false false false true true false false) (dofA AG b0 b1 undef undef undef undef (dofP g0) (dofP g1) undef undef) W' := by
    intro W' hb g0 h0 g1 h1 n01
    refine held_three (i := 1) (j := 10) (l := 11) (by kernel_rfl) ?_ ?_ ?_
    · exact dof_c0 (H0 W' hb) rfl (fun Wn hbn => ⟨hb.trans (hbn.mono hb.size), L1_3 Wn (hb.trans (hbn.mono hb.size)) g0 (h0.next hbn) g1 (h1.next hbn) n01⟩)
    · exact dof_a2 ⟨hb.trans ((dofN W').mono hb.size), L0_7 _ (hb.trans ((dofN W').mono hb.size)) _ (h0.next (dofN W')) _ (h1.next (dofN W')) _ (dofZ.new hb) n01 (Nat.ne_of_lt h0.lt) (Nat.ne_of_lt h1.lt)⟩
    · exact dof_a3 ⟨hb.trans ((dofN W').mono hb.size), L0_11 _ (hb.trans ((dofN W').mono hb.size)) _ (h0.next (dofN W')) _ (h1.next (dofN W')) _ (dofZ.new hb) n01 (Nat.ne_of_lt h0.lt) (Nat.ne_of_lt h1.lt)⟩
  have L0_5 : ∀ W', dofB W W' → ∀ g0, dofZ W W' g0 → ∀ g2, dofZ W W' g2 → g0 ≠ g2 → dofF W Q 10 (dofL false false false false true false true false) (dofA AG b0 b1 undef undef undef undef (dofP g0) undef (dofP g2) undef) W' := by
    intro W' hb g0 h0 g2 h2 n02
    refine held_three (i := 1) (j := 9) (l := 11) (by kernel_rfl) ?_ ?_ ?_
    · exact dof_c0 (H0 W' hb) rfl (fun Wn hbn => ⟨hb.trans (hbn.mono hb.size), L1_5 Wn (hb.trans (hbn.mono hb.size)) g0 (h0.next hbn) g2 (h2.next hbn) n02⟩)
    · exact dof_a1 ⟨hb.trans ((dofN W').mono hb.size), L0_7 _ (hb.trans ((dofN W').mono hb.size)) _ (h0.next (dofN W')) _ (dofZ.new hb) _ (h2.next (dofN W')) (Nat.ne_of_lt h0.lt) n02 (Nat.ne_of_gt h2.lt)⟩
    · exact dof_a3 ⟨hb.trans ((dofN W').mono hb.size), L0_13 _ (hb.trans ((dofN W').mono hb.size)) _ (h0.next (dofN W')) _ (h2.next (dofN W')) _ (dofZ.new hb) n02 (Nat.ne_of_lt h0.lt) (Nat.ne_of_lt h2.lt)⟩
  have L0_9 : ∀ W', dofB W W' → ∀ g0, dofZ W W' g0 → ∀ g3, dofZ W W' g3 → g0 ≠ g3 → dofF W Q 10 (dofL false false false false true false false true) (dofA AG b0 b1 undef undef undef undef (dofP g0) undef undef (dofP g3)) W' := by
    intro W' hb g0 h0 g3 h3 n03
    refine held_three (i := 1) (j := 9) (l := 10) (by kernel_rfl) ?_ ?_ ?_
    · exact dof_c0 (H0 W' hb) rfl (fun Wn hbn => ⟨hb.trans (hbn.mono hb.size), L1_9 Wn (hb.trans (hbn.mono hb.size)) g0 (h0.next hbn) g3 (h3.next hbn) n03⟩)
    · exact dof_a1 ⟨hb.trans ((dofN W').mono hb.size), L0_11 _ (hb.trans ((dofN W').mono hb.size)) _ (h0.next (dofN W')) _ (dofZ.new hb) _ (h3.next (dofN W')) (Nat.ne_of_lt h0.lt) n03 (Nat.ne_of_gt h3.lt)⟩
    · exact dof_a2 ⟨hb.trans ((dofN W').mono hb.size), L0_13 _ (hb.trans ((dofN W').mono hb.size)) _ (h0.next (dofN W')) _ (dofZ.new hb) _ (h3.next (dofN W')) (Nat.ne_of_lt h0.lt) n03 (Nat.ne_of_gt h3.lt)⟩
  have L0_6 : ∀ W', dofB W W' → ∀ g1, dofZ W W' g1 → ∀ g2, dofZ W W' g2 → g1 ≠ g2 → dofF W Q 10 (dofL false false false false false true true false) (dofA AG b0 b1 undef undef undef undef undef (dofP g1) (dofP g2) undef) W' := by
    intro W' hb g1 h1 g2 h2 n12
    refine held_three (i := 1) (j := 8) (l := 11) (by kernel_rfl) ?_ ?_ ?_
    · exact dof_c0 (H0 W' hb) rfl (fun Wn hbn => ⟨hb.trans (hbn.mono hb.size), L1_6 Wn (hb.trans (hbn.mono hb.size)) g1 (h1.next hbn) g2 (h2.next hbn) n12⟩)
    · exact dof_a0 ⟨hb.trans ((dofN W').mono hb.size), L0_7 _ (hb.trans ((dofN W').mono hb.size)) _ (dofZ.new hb) _ (h1.next (dofN W')) _ (h2.next (dofN W')) (Nat.ne_of_gt h1.lt) (Nat.ne_of_gt h2.lt) n12⟩
    · exact dof_a3 ⟨hb.trans ((dofN W').mono hb.size), L0_14 _ (hb.trans ((dofN W').mono hb.size)) _ (h1.next (dofN W')) _ (h2.next (dofN W')) _ (dofZ.new hb) n12 (Nat.ne_of_lt h1.lt) (Nat.ne_of_lt h2.lt)⟩
  have L0_10 : ∀ W', dofB W W' → ∀ g1, dofZ W W' g1 → ∀ g3, dofZ W W' g3 → g1 ≠ g3 → dofF W Q 10 (dofL false false false false false true false true) (dofA AG b0 b1 undef undef undef undef undef (dofP g1) undef (dofP g3)) W' := by
    intro W' hb g1 h1 g3 h3 n13
    refine held_three (i := 1) (j := 8) (l := 10) (by kernel_rfl) ?_ ?_ ?_
    · exact dof_c0 (H0 W' hb) rfl (fun Wn hbn => ⟨hb.trans (hbn.mono hb.size), L1_10 Wn (hb.trans (hbn.mono hb.size)) g1 (h1.next hbn) g3 (h3.next hbn) n13⟩)
    · exact dof_a0 ⟨hb.trans ((dofN W').mono hb.size), L0_11 _ (hb.trans ((dofN W').mono hb.size)) _ (dofZ.new hb) _ (h1.next (dofN W')) _ (h3.next (dofN W')) (Nat.ne_of_gt h1.lt) (Nat.ne_of_gt h3.lt) n13⟩
    · exact dof_a2 ⟨hb.trans ((dofN W').mono hb.size), L0_14 _ (hb.trans ((dofN W').mono hb.size)) _ (h1.next (dofN W')) _ (dofZ.new hb) _ (h3.next (dofN W')) (Nat.ne_of_lt h1.lt) n13 (Nat.ne_of_gt h3.lt)⟩
  have L0_12 : ∀ W', dofB W W' → ∀ g2, dofZ W W' g2 → ∀ g3, dofZ W W' g3 → g2 ≠ g3 → dofF W Q 10 (dofL false false false false false false true true) (dofA AG b0 b1 undef undef undef undef undef undef (dofP g2) (dofP g3)) W' := by
    intro W' hb g2 h2 g3 h3 n23
    refine held_three (i := 1) (j := 8) (l := 9) (by kernel_rfl) ?_ ?_ ?_
    · exact dof_c0 (H0 W' hb) rfl (fun Wn hbn => ⟨hb.trans (hbn.mono hb.size), L1_12 Wn (hb.trans (hbn.mono hb.size)) g2 (h2.next hbn) g3 (h3.next hbn) n23⟩)
    · exact dof_a0 ⟨hb.trans ((dofN W').mono hb.size), L0_13 _ (hb.trans ((dofN W').mono hb.size)) _ (dofZ.new hb) _ (h2.next (dofN W')) _ (h3.next (dofN W')) (Nat.ne_of_gt h2.lt) (Nat.ne_of_gt h3.lt) n23⟩
    · exact dof_a1 ⟨hb.trans ((dofN W').mono hb.size), L0_14 _ (hb.trans ((dofN W').mono hb.size)) _ (dofZ.new hb) _ (h2.next (dofN W')) _ (h3.next (dofN W')) (Nat.ne_of_gt h2.lt) (Nat.ne_of_gt h3.lt) n23⟩
  have L1_1 : ∀ W', dofB W W' → ∀ g0, dofZ W W' g0 → dofF W Q 10 (dofL true false false false true false false false) (dofA AG b0 b1 vi undef undef undef (dofP g0) undef undef undef) W' := by
    intro W' hb g0 h0
    refine held_four (i := 3) (j := 9) (l := 10) (m := 11) (by kernel_rfl) ?_ ?_ ?_ ?_
    · exact dof_c1 (H1 W' hb) rfl (fun Wn hbn => ⟨hb.trans (hbn.mono hb.size), L2_1 Wn (hb.trans (hbn.mono hb.size)) g0 (h0.next hbn)⟩)
    · exact dof_a1 ⟨hb.trans ((dofN W').mono hb.size), L1_3 _ (hb.trans ((dofN W').mono hb.size)) _ (h0.next (dofN W')) _ (dofZ.new hb) (Nat.ne_of_lt h0.lt)⟩
    · exact dof_a2 ⟨hb.trans ((dofN W').mono hb.size), L1_5 _ (hb.trans ((dofN W').mono hb.size)) _ (h0.next (dofN W')) _ (dofZ.new hb) (Nat.ne_of_lt h0.lt)⟩
    · exact dof_a3 ⟨hb.trans ((dofN W').mono hb.size), L1_9 _ (hb.trans ((dofN W').mono hb.size)) _ (h0.next (dofN W')) _ (dofZ.new hb) (Nat.ne_of_lt h0.lt)⟩
  have L1_2 : ∀ W', dofB W W' → ∀ g1, dofZ W W' g1 → dofF W Q 10 (dofL true false false false false true false false) (dofA AG b0 b1 vi undef undef undef undef (dofP g1) undef undef) W' := by
    intro W' hb g1 h1
    refine held_four (i := 3) (j := 8) (l := 10) (m := 11) (by kernel_rfl) ?_ ?_ ?_ ?_
    · exact dof_c1 (H1 W' hb) rfl (fun Wn hbn => ⟨hb.trans (hbn.mono hb.size), L2_2 Wn (hb.trans (hbn.mono hb.size)) g1 (h1.next hbn)⟩)
    · exact dof_a0 ⟨hb.trans ((dofN W').mono hb.size), L1_3 _ (hb.trans ((dofN W').mono hb.size)) _ (dofZ.new hb) _ (h1.next (dofN W')) (Nat.ne_of_gt h1.lt)⟩
    · exact dof_a2 ⟨hb.trans ((dofN W').mono hb.size), L1_6 _ (hb.trans ((dofN W').mono hb.size)) _ (h1.next (dofN W')) _ (dofZ.new hb) (Nat.ne_of_lt h1.lt)⟩
    · exact dof_a3 ⟨hb.trans ((dofN W').mono hb.size), L1_10 _ (hb.trans ((dofN W').mono hb.size)) _ (h1.next (dofN W')) _ (dofZ.new hb) (Nat.ne_of_lt h1.lt)⟩
  have L1_4 : ∀ W', dofB W W' → ∀ g2, dofZ W W' g2 → dofF W Q 10 (dofL true false false false false false true false) (dofA AG b0 b1 vi undef undef undef undef undef (dofP g2) undef) W' := by
    intro W' hb g2 h2
    refine held_four (i := 3) (j := 8) (l := 9) (m := 11) (by kernel_rfl) ?_ ?_ ?_ ?_
    · exact dof_c1 (H1 W' hb) rfl (fun Wn hbn => ⟨hb.trans (hbn.mono hb.size), L2_4 Wn (hb.trans (hbn.mono hb.size)) g2 (h2.next hbn)⟩)
    · exact dof_a0 ⟨hb.trans ((dofN W').mono hb.size), L1_5 _ (hb.trans ((dofN W').mono hb.size)) _ (dofZ.new hb) _ (h2.next (dofN W')) (Nat.ne_of_gt h2.lt)⟩
    · exact dof_a1 ⟨hb.trans ((dofN W').mono hb.size), L1_6 _ (hb.trans ((dofN W').mono hb.size)) _ (dofZ.new hb) _ (h2.next (dofN W')) (Nat.ne_of_gt h2.lt)⟩
    · exact dof_a3 ⟨hb.trans ((dofN W').mono hb.size), L1_12 _ (hb.trans ((dofN W').mono hb.size)) _ (h2.next (dofN W')) _ (dofZ.new hb) (Nat.ne_of_lt h2.lt)⟩
  have L1_8 : ∀ W', dofB W W' → ∀ g3, dofZ W W' g3 → dofF W Q 10 (dofL true false false false false false false true) (dofA AG b0 b1 vi undef undef undef undef undef undef (dofP g3)) W' := by
    intro W' hb g3 h3
    refine held_four (i := 3) (j := 8) (l := 9) (m := 10) (by kernel_rfl) ?_ ?_ ?_ ?_
    · exact dof_c1 (H1 W' hb) rfl (fun Wn hbn => ⟨hb.trans (hbn.mono hb.size), L2_8 Wn (hb.trans (hbn.mono hb.size)) g3 (h3.next hbn)⟩)
    · exact dof_a0 ⟨hb.trans ((dofN W').mono hb.size), L1_9 _ (hb.trans ((dofN W').mono hb.size)) _ (dofZ.new hb) _ (h3.next (dofN W')) (Nat.ne_of_gt h3.lt)⟩
    · exact dof_a1 ⟨hb.trans ((dofN W').mono hb.size), L1_10 _ (hb.trans ((dofN W').mono hb.size)) _ (dofZ.new hb) _ (h3.next (dofN W')) (Nat.ne_of_gt h3.lt)⟩
    · exact dof_a2 ⟨hb.trans ((dofN W').mono hb.size), L1_12 _ (hb.trans ((dofN W').mono hb.size)) _ (dofZ.new hb) _ (h3.next (dofN W')) (Nat.ne_of_gt h3.lt)⟩
  have L2_0 : ∀ W', dofB W W' → dofF W Q 10 (dofL true true false false false false false false) (dofA AG b0 b1 vi vj undef undef undef undef undef undef) W' := by
    intro W' hb
    refine held_five (i := 5) (j := 8) (l := 9) (m := 10) (n := 11) (by kernel_rfl) ?_ ?_ ?_ ?_ ?_
    · exact dof_c2 (H2 W' hb) rfl (fun Wn hbn => ⟨hb.trans (hbn.mono hb.size), L3_0 Wn (hb.trans (hbn.mono hb.size))⟩)
    · exact dof_a0 ⟨hb.trans ((dofN W').mono hb.size), L2_1 _ (hb.trans ((dofN W').mono hb.size)) _ (dofZ.new hb)⟩
    · exact dof_a1 ⟨hb.trans ((dofN W').mono hb.size), L2_2 _ (hb.trans ((dofN W').mono hb.size)) _ (dofZ.new hb)⟩
    · exact dof_a2 ⟨hb.trans ((dofN W').mono hb.size), L2_4 _ (hb.trans ((dofN W').mono hb.size)) _ (dofZ.new hb)⟩
    · exact dof_a3 ⟨hb.trans ((dofN W').mono hb.size), L2_8 _ (hb.trans ((dofN W').mono hb.size)) _ (dofZ.new hb)⟩
  have L0_1 : ∀ W', dofB W W' → ∀ g0, dofZ W W' g0 → dofF W Q 11 (dofL false false false false true false false false) (dofA AG b0 b1 undef undef undef undef (dofP g0) undef undef undef) W' := by
    intro W' hb g0 h0
    refine held_four (i := 1) (j := 9) (l := 10) (m := 11) (by kernel_rfl) ?_ ?_ ?_ ?_
    · exact dof_c0 (H0 W' hb) rfl (fun Wn hbn => ⟨hb.trans (hbn.mono hb.size), L1_1 Wn (hb.trans (hbn.mono hb.size)) g0 (h0.next hbn)⟩)
    · exact dof_a1 ⟨hb.trans ((dofN W').mono hb.size), L0_3 _ (hb.trans ((dofN W').mono hb.size)) _ (h0.next (dofN W')) _ (dofZ.new hb) (Nat.ne_of_lt h0.lt)⟩
    · exact dof_a2 ⟨hb.trans ((dofN W').mono hb.size), L0_5 _ (hb.trans ((dofN W').mono hb.size)) _ (h0.next (dofN W')) _ (dofZ.new hb) (Nat.ne_of_lt h0.lt)⟩
    · exact dof_a3 ⟨hb.trans ((dofN W').mono hb.size), L0_9 _ (hb.trans ((dofN W').mono hb.size)) _ (h0.next (dofN W')) _ (dofZ.new hb) (Nat.ne_of_lt h0.lt)⟩
  have L0_2 : ∀ W', dofB W W' → ∀ g1, dofZ W W' g1 → dofF W Q 11 (dofL false false false false false true false false) (dofA AG b0 b1 undef undef undef undef undef (dofP g1) undef undef) W' := by
    intro W' hb g1 h1
    refine held_four (i := 1) (j := 8) (l := 10) (m := 11) (by kernel_rfl) ?_ ?_ ?_ ?_
    · exact dof_c0 (H0 W' hb) rfl (fun Wn hbn => ⟨hb.trans (hbn.mono hb.size), L1_2 Wn (hb.trans (hbn.mono hb.size)) g1 (h1.next hbn)⟩)
    · exact dof_a0 ⟨hb.trans ((dofN W').mono hb.size), L0_3 _ (hb.trans ((dofN W').mono hb.size)) _ (dofZ.new hb) _ (h1.next (dofN W')) (Nat.ne_of_gt h1.lt)⟩
    · exact dof_a2 ⟨hb.trans ((dofN W').mono hb.size), L0_6 _ (hb.trans ((dofN W').mono hb.size)) _ (h1.next (dofN W')) _ (dofZ.new hb) (Nat.ne_of_lt h1.lt)⟩
    · exact dof_a3 ⟨hb.trans ((dofN W').mono hb.size), L0_10 _ (hb.trans ((dofN W').mono hb.size)) _ (h1.next (dofN W')) _ (dofZ.new hb) (Nat.ne_of_lt h1.lt)⟩
  have L0_4 : ∀ W', dofB W W' → ∀ g2, dofZ W W' g2 → dofF W Q 11 (dofL false false false false false false true false) (dofA AG b0 b1 undef undef undef undef undef undef (dofP g2) undef) W' := by
    intro W' hb g2 h2
    refine held_four (i := 1) (j := 8) (l := 9) (m := 11) (by kernel_rfl) ?_ ?_ ?_ ?_
    · exact dof_c0 (H0 W' hb) rfl (fun Wn hbn => ⟨hb.trans (hbn.mono hb.size), L1_4 Wn (hb.trans (hbn.mono hb.size)) g2 (h2.next hbn)⟩)
    · exact dof_a0 ⟨hb.trans ((dofN W').mono hb.size), L0_5 _ (hb.trans ((dofN W').mono hb.size)) _ (dofZ.new hb) _ (h2.next (dofN W')) (Nat.ne_of_gt h2.lt)⟩
    · exact dof_a1 ⟨hb.trans ((dofN W').mono hb.size), L0_6 _ (hb.trans ((dofN W').mono hb.size)) _ (dofZ.new hb) _ (h2.next (dofN W')) (Nat.ne_of_gt h2.lt)⟩
    · exact dof_a3 ⟨hb.trans ((dofN W').mono hb.size), L0_12 _ (hb.trans ((dofN W').mono hb.size)) _ (h2.next (dofN W')) _ (dofZ.new hb) (Nat.ne_of_lt h2.lt)⟩
  have L0_8 : ∀ W', dofB W W' → ∀ g3, dofZ W W' g3 → dofF W Q 11 (dofL false false false false false false false true) (dofA AG b0 b1 undef undef undef undef undef undef undef (dofP g3)) W' := by
    intro W' hb g3 h3
    refine held_four (i := 1) (j := 8) (l := 9) (m := 10) (by kernel_rfl) ?_ ?_ ?_ ?_
    · exact dof_c0 (H0 W' hb) rfl (fun Wn hbn => ⟨hb.trans (hbn.mono hb.size), L1_8 Wn (hb.trans (hbn.mono hb.size)) g3 (h3.next hbn)⟩)
    · exact dof_a0 ⟨hb.trans ((dofN W').mono hb.size), L0_9 _ (hb.trans ((dofN W').mono hb.size)) _ (dofZ.new hb) _ (h3.next (dofN W')) (Nat.ne_of_gt h3.lt)⟩
    · exact dof_a1 ⟨hb.trans ((dofN W').mono hb.size), L0_10 _ (hb.trans ((dofN W').mono hb.size)) _ (dofZ.new hb) _ (h3.next (dofN W')) (Nat.ne_of_gt h3.lt)⟩
    · exact dof_a2 ⟨hb.trans ((dofN W').mono hb.size), L0_12 _ (hb.trans ((dofN W').mono hb.size)) _ (dofZ.new hb) _ (h3.next (dofN W')) (Nat.ne_of_gt h3.lt)⟩
  have L1_0 : ∀ W', dofB W W' → dofF W Q 11 (dofL true false false false false false false false) (dofA AG b0 b1 vi undef undef undef undef undef undef undef) W' := by
    intro W' hb
    refine held_five (i := 3) (j := 8) (l := 9) (m := 10) (n := 11) (by kernel_rfl) ?_ ?_ ?_ ?_ ?_
    · exact dof_c1 (H1 W' hb) rfl (fun Wn hbn => ⟨hb.trans (hbn.mono hb.size), L2_0 Wn (hb.trans (hbn.mono hb.size))⟩)
    · exact dof_a0 ⟨hb.trans ((dofN W').mono hb.size), L1_1 _ (hb.trans ((dofN W').mono hb.size)) _ (dofZ.new hb)⟩
    · exact dof_a1 ⟨hb.trans ((dofN W').mono hb.size), L1_2 _ (hb.trans ((dofN W').mono hb.size)) _ (dofZ.new hb)⟩
    · exact dof_a2 ⟨hb.trans ((dofN W').mono hb.size), L1_4 _ (hb.trans ((dofN W').mono hb.size)) _ (dofZ.new hb)⟩
    · exact dof_a3 ⟨hb.trans ((dofN W').mono hb.size), L1_8 _ (hb.trans ((dofN W').mono hb.size)) _ (dofZ.new hb)⟩
  have L0_0 : ∀ W', dofB W W' → dofF W Q 12 (dofL false false false false false false false false) (dofA AG b0 b1 undef undef undef undef undef undef undef undef) W' := by
    intro W' hb
    refine held_five (i := 1) (j := 8) (l := 9) (m := 10) (n := 11) (by kernel_rfl) ?_ ?_ ?_ ?_ ?_
    · exact dof_c0 (H0 W' hb) rfl (fun Wn hbn => ⟨hb.trans (hbn.mono hb.size), L1_0 Wn (hb.trans (hbn.mono hb.size))⟩)
    · exact dof_a0 ⟨hb.trans ((dofN W').mono hb.size), L0_1 _ (hb.trans ((dofN W').mono hb.size)) _ (dofZ.new hb)⟩
    · exact dof_a1 ⟨hb.trans ((dofN W').mono hb.size), L0_2 _ (hb.trans ((dofN W').mono hb.size)) _ (dofZ.new hb)⟩
    · exact dof_a2 ⟨hb.trans ((dofN W').mono hb.size), L0_4 _ (hb.trans ((dofN W').mono hb.size)) _ (dofZ.new hb)⟩
    · exact dof_a3 ⟨hb.trans ((dofN W').mono hb.size), L0_8 _ (hb.trans ((dofN W').mono hb.size)) _ (dofZ.new hb)⟩
  exact L0_0 wd S0

set_option maxHeartbeats 25600000 in
set_option maxRecDepth 100000 in
theorem derivedOf_any (p : Int) (dn en : Nat) (iv jv kv : Value) (il jl kl : List (List Int)) (w : World) (h : Cp 0 w iv jv kv il jl kl) (hm : CpB 1048576 il jl kl) (hc : IsCp p dn en il jl kl) :
    Calls Tryd.prog 54 #[.agg #[.int .i64 p, .int .i64 (dn : Int), .int .i64 (en : Int), iv, jv, kv]] w (DvP p dn en il jl kl w) := by
  obtain ⟨⟨ai, ci, rfl⟩, ⟨aj, cj, rfl⟩, ⟨ak, ck, rfl⟩⟩ := h.shapes
  have hres : Tryd.f54.results = #[.cell 2 26] := by kernel_rfl
  have HRES := Lib.hid hres
  have HP := Lib.hid hc.1
  have HC := Lib.hid hc
  have HM := Lib.hid hm
  have hd24 := hc.d24.1
  have he24 := hc.d24.2
  have HLI := Lib.hid hc.li
  have HLJ := Lib.hid hc.lj
  have HLK := Lib.hid hc.lk
  have HLD := Lib.hid hc.ld
  have HRD := Lib.hid hc.rd
  obtain ⟨dt, hdt⟩ : ∃ dt, dt = cdT p en jl kl := ⟨_, rfl⟩
  have HDT := Lib.hid hdt
  rw [← hdt] at HLD HRD
  have HWI : Hid (∀ u ∈ il.map ofL, Lin.Wd dn u) := Lib.hid (fun u hu => by
    obtain ⟨r, hr, rfl⟩ := List.mem_map.1 hu
    exact ofL_wd (by have := (hc.2.2.2.1.2 r hr).1; omega))
  have HWD : Hid (∀ u ∈ dt.map ofL, Lin.Wd en u) := Lib.hid (fun u hu => by
    obtain ⟨r, hr, rfl⟩ := List.mem_map.1 hu
    exact ofL_wd (by have := (HRD.out r hr).1; omega))
  have HMI := Lib.hid hc.mi
  have HDC : Hid (∀ W', Cp 0 W' (.slice ai il.length ci) (.slice aj jl.length cj) (.slice ak kl.length ck) il jl kl → Calls Tryd.prog 69 #[.agg #[.int .i64 p, .int .i64 (dn : Int), .int .i64 (en : Int), .slice ai il.length ci, .slice aj jl.length cj, .slice ak kl.length ck]] W' (DifR p en dt W')) := Lib.hid (fun W' h => by rw [hdt]; exact differential_any p dn en _ _ _ il jl kl W' h hm hc)
  have HH := Lib.hid h
  clear h hm hc hres hdt
  go_enter Tryd.func54, Tryd.ntmps54
  go_upto_region 1 with fail
  refine forget_wp (fun W => DvB w W p dn en (.slice ai il.length ci) (.slice aj jl.length cj) (.slice ak kl.length ck) il jl kl) (DvB.start HH.out _ _ _ _ _ _) ?_
  intro W hxx
  have HXW := Lib.hid hxx
  clear hxx HH
  have HNX : Hid (∀ W', Below W.heap.size W W' → BxCp w W' w.heap.size p dn en (.slice ai il.length ci) (.slice aj jl.length cj) (.slice ak kl.length ck) il jl kl) := Lib.hid (fun W' h => (HXW.out.next h).box)
  refine wp_region_held (S := fun W' => Below W.heap.size W W') (by kernel_rfl) ?_
  have S0 : Below W.heap.size W W.drew := (Below.refl _ _).drew
  change wpAnyH _ _ _ _ _ _ _ _ W.drew
  generalize W.drew = wd at *
  refine held_take (i := 0) (v := .agg #[.int .i64 p, .int .i64 (dn : Int), .int .i64 (en : Int), .slice ai il.length ci, .slice aj jl.length cj, .slice ak kl.length ck]) (some 15) rfl rfl (by kernel_rfl) (by kernel_rfl) (by kernel_rfl) (fun _ _ _ h => h) (yieldsIf_cell (by kernel_rfl) rfl (by kernel_rfl) (fun W' h => by have hb := HNX.out W' h; exact hload6 W' hb.c0 hb.c1 hb.c2 hb.c3 hb.c4 hb.c5)) S0 ?_
  refine held_take (i := 2) (v := .agg #[.int .i64 p, .int .i64 (dn : Int), .int .i64 (en : Int), .slice ai il.length ci, .slice aj jl.length cj, .slice ak kl.length ck]) (some 17) rfl rfl (by kernel_rfl) (by kernel_rfl) (by kernel_rfl) (fun _ _ _ h => h) (yieldsIf_cell (by kernel_rfl) rfl (by kernel_rfl) (fun W' h => by have hb := HNX.out W' h; exact hload6 W' hb.c0 hb.c1 hb.c2 hb.c3 hb.c4 hb.c5)) S0 ?_
  refine held_take (i := 4) (v := .agg #[.int .i64 p, .int .i64 (dn : Int), .int .i64 (en : Int), .slice ai il.length ci, .slice aj jl.length cj, .slice ak kl.length ck]) (some 19) rfl rfl (by kernel_rfl) (by kernel_rfl) (by kernel_rfl) (fun _ _ _ h => h) (yieldsIf_cell (by kernel_rfl) rfl (by kernel_rfl) (fun W' h => by have hb := HNX.out W' h; exact hload6 W' hb.c0 hb.c1 hb.c2 hb.c3 hb.c4 hb.c5)) S0 ?_
  refine held_take (i := 6) (v := .agg #[.int .i64 p, .int .i64 (dn : Int), .int .i64 (en : Int), .slice ai il.length ci, .slice aj jl.length cj, .slice ak kl.length ck]) (some 21) rfl rfl (by kernel_rfl) (by kernel_rfl) (by kernel_rfl) (fun _ _ _ h => h) (yieldsIf_cell (by kernel_rfl) rfl (by kernel_rfl) (fun W' h => by have hb := HNX.out W' h; exact hload6 W' hb.c0 hb.c1 hb.c2 hb.c3 hb.c4 hb.c5)) S0 ?_
  refine dof_orders (.agg #[.int .i64 p, .int .i64 (dn : Int), .int .i64 (en : Int), .slice ai il.length ci, .slice aj jl.length cj, .slice ak kl.length ck]) _ _ (.agg #[.int .i64 p, .int .i64 (dn : Int), .int .i64 (dn : Int), .slice ai il.length ci]) (.agg #[.int .i64 p, .int .i64 (dn : Int), .int .i64 (en : Int), .slice aj jl.length cj]) (.agg #[.int .i64 p, .int .i64 (en : Int), .int .i64 (dn : Int), .slice ak kl.length ck]) (fun au cu => .agg #[.int .i64 p, .int .i64 (en : Int), .int .i64 (en : Int), .slice au dt.length cu]) dt W wd (fun W' hb => mapI_any p dn en _ _ _ il jl kl W' (HNX.out W' hb).cx) (fun W' hb => mapJ_any p dn en _ _ _ il jl kl W' (HNX.out W' hb).cx) (fun W' hb => mapK_any p dn en _ _ _ il jl kl W' (HNX.out W' hb).cx) (fun W' hb => (HDC.out W' (HNX.out W' hb).cx).mono fun e Wn h => ?_) S0 ?_
  · obtain ⟨u, rfl, hru, hbn⟩ := h
    obtain ⟨au, cu, rfl⟩ := hru.shape
    exact ⟨au, cu, rfl, ⟨hru, Nat.le_refl _⟩, hbn⟩
  intro W' hb au cu lo hi hu0 g0 z0 o0 g1 z1 o1 g2 z2 o2 g3 z3 o3 n01 n02 n03 n12 n13 n23
  obtain ⟨hu, hhi⟩ := hu0
  obtain ⟨h0, b0⟩ := z0
  obtain ⟨h1, b1⟩ := z1
  obtain ⟨h2, b2⟩ := z2
  obtain ⟨h3, b3⟩ := z3
  refine held_one (i := 12) (by kernel_rfl) ?_
  refine op_row (i := 12) rfl rfl rfl 53 (.tmp 3) (.tmp 16) rfl g0 #[.int .i64 p, .int .i64 (dn : Int), .int .i64 (dn : Int), .slice ai il.length ci] (by kernel_rfl) (by kernel_rfl) 53 _ h0 (by kernel_rfl) (by kernel_rfl) (by kernel_rfl) ?_
  have s0 := below_setRow hb b0 #[.int .i64 p, .int .i64 (dn : Int), .int .i64 (dn : Int), .slice ai il.length ci]
  refine ⟨s0, ?_⟩
  have k00 := h0.set #[.int .i64 p, .int .i64 (dn : Int), .int .i64 (dn : Int), .slice ai il.length ci]
  have k01 := h1.off (Ne.symm n01) #[.int .i64 p, .int .i64 (dn : Int), .int .i64 (dn : Int), .slice ai il.length ci]
  have k02 := h2.off (Ne.symm n02) #[.int .i64 p, .int .i64 (dn : Int), .int .i64 (dn : Int), .slice ai il.length ci]
  have k03 := h3.off (Ne.symm n03) #[.int .i64 p, .int .i64 (dn : Int), .int .i64 (dn : Int), .slice ai il.length ci]
  refine held_one (i := 13) (by kernel_rfl) ?_
  refine op_row (i := 13) rfl rfl rfl 53 (.tmp 4) (.tmp 18) rfl g1 #[.int .i64 p, .int .i64 (dn : Int), .int .i64 (en : Int), .slice aj jl.length cj] (by kernel_rfl) (by kernel_rfl) 53 _ k01 (by kernel_rfl) (by kernel_rfl) (by kernel_rfl) ?_
  have s1 := below_setRow s0 b1 #[.int .i64 p, .int .i64 (dn : Int), .int .i64 (en : Int), .slice aj jl.length cj]
  refine ⟨s1, ?_⟩
  have k10 := k00.off n01 #[.int .i64 p, .int .i64 (dn : Int), .int .i64 (en : Int), .slice aj jl.length cj]
  have k11 := k01.set #[.int .i64 p, .int .i64 (dn : Int), .int .i64 (en : Int), .slice aj jl.length cj]
  have k12 := k02.off (Ne.symm n12) #[.int .i64 p, .int .i64 (dn : Int), .int .i64 (en : Int), .slice aj jl.length cj]
  have k13 := k03.off (Ne.symm n13) #[.int .i64 p, .int .i64 (dn : Int), .int .i64 (en : Int), .slice aj jl.length cj]
  refine held_one (i := 14) (by kernel_rfl) ?_
  refine op_row (i := 14) rfl rfl rfl 53 (.tmp 5) (.tmp 20) rfl g2 #[.int .i64 p, .int .i64 (en : Int), .int .i64 (dn : Int), .slice ak kl.length ck] (by kernel_rfl) (by kernel_rfl) 53 _ k12 (by kernel_rfl) (by kernel_rfl) (by kernel_rfl) ?_
  have s2 := below_setRow s1 b2 #[.int .i64 p, .int .i64 (en : Int), .int .i64 (dn : Int), .slice ak kl.length ck]
  refine ⟨s2, ?_⟩
  have k20 := k10.off n02 #[.int .i64 p, .int .i64 (en : Int), .int .i64 (dn : Int), .slice ak kl.length ck]
  have k21 := k11.off n12 #[.int .i64 p, .int .i64 (en : Int), .int .i64 (dn : Int), .slice ak kl.length ck]
  have k22 := k12.set #[.int .i64 p, .int .i64 (en : Int), .int .i64 (dn : Int), .slice ak kl.length ck]
  have k23 := k13.off (Ne.symm n23) #[.int .i64 p, .int .i64 (en : Int), .int .i64 (dn : Int), .slice ak kl.length ck]
  refine held_one (i := 15) (by kernel_rfl) ?_
  refine op_row (i := 15) rfl rfl rfl 53 (.tmp 6) (.tmp 22) rfl g3 #[.int .i64 p, .int .i64 (en : Int), .int .i64 (en : Int), .slice au dt.length cu] (by kernel_rfl) (by kernel_rfl) 53 _ k23 (by kernel_rfl) (by kernel_rfl) (by kernel_rfl) ?_
  have s3 := below_setRow s2 b3 #[.int .i64 p, .int .i64 (en : Int), .int .i64 (en : Int), .slice au dt.length cu]
  refine ⟨s3, ?_⟩
  have k30 := k20.off n03 #[.int .i64 p, .int .i64 (en : Int), .int .i64 (en : Int), .slice au dt.length cu]
  have k31 := k21.off n13 #[.int .i64 p, .int .i64 (en : Int), .int .i64 (en : Int), .slice au dt.length cu]
  have k32 := k22.off n23 #[.int .i64 p, .int .i64 (en : Int), .int .i64 (en : Int), .slice au dt.length cu]
  have k33 := k23.set #[.int .i64 p, .int .i64 (en : Int), .int .i64 (en : Int), .slice au dt.length cu]
  refine wpAnyH_done (by kernel_rfl) ?_ _
  simp only [dofA, dofP, Act.put, List.setIfInBounds_toArray, List.set_cons_zero, List.set_cons_succ]
  have hdo : DoB w ((((W'.setRow g0 #[.int .i64 p, .int .i64 (dn : Int), .int .i64 (dn : Int), .slice ai il.length ci]).setRow g1 #[.int .i64 p, .int .i64 (dn : Int), .int .i64 (en : Int), .slice aj jl.length cj]).setRow g2 #[.int .i64 p, .int .i64 (en : Int), .int .i64 (dn : Int), .slice ak kl.length ck]).setRow g3 #[.int .i64 p, .int .i64 (en : Int), .int .i64 (en : Int), .slice au dt.length cu]) p dn en (.slice ai il.length ci) (.slice aj jl.length cj) (.slice ak kl.length ck) (.slice au dt.length cu) il jl kl dt g0 g1 g2 g3 := ⟨HXW.out.next s3, k30, k31, k32, k33, ((((hu.same (Same.setRow _ o0)).same (Same.setRow _ o1)).same (Same.setRow _ o2)).same (Same.setRow _ o3)).l⟩
  have HDO0 := Lib.hid hdo
  clear hdo hu o0 o1 o2 o3 h0 h1 h2 h3 b0 b1 b2 b3 n01 n02 n03 n12 n13 n23 s0 s1 s2 s3 k00 k01 k02 k03 k10 k11 k12 k13 k20 k21 k22 k23 k30 k31 k32 k33 hb hhi
  clear HNX HXW S0 HDC
  go_upto_region 2 with fail
  refine forget_wp (fun W => DoB w W p dn en (.slice ai il.length ci) (.slice aj jl.length cj) (.slice ak kl.length ck) (.slice au dt.length cu) il jl kl dt g0 g1 g2 g3) HDO0.out ?_
  intro WB hdo
  have HDO := Lib.hid hdo
  clear hdo HDO0
  have HNO : Hid (∀ W', Below WB.heap.size WB W' → DoB w W' p dn en (.slice ai il.length ci) (.slice aj jl.length cj) (.slice ak kl.length ck) (.slice au dt.length cu) il jl kl dt g0 g1 g2 g3) := Lib.hid (fun W' h => HDO.out.next h)
  refine wp_region_held (S := fun W' => Below WB.heap.size WB W') (by kernel_rfl) ?_
  have S0 : Below WB.heap.size WB WB.drew := (Below.refl _ _).drew
  change wpAnyH _ _ _ _ _ _ _ _ WB.drew
  generalize WB.drew = wd at *
  refine held_take (i := 0) (v := .agg #[.int .i64 p, .int .i64 (dn : Int), .int .i64 (dn : Int), .slice ai il.length ci]) (some 23) rfl rfl (by kernel_rfl) (by kernel_rfl) (by kernel_rfl) (fun _ _ _ h => h) (yieldsIf_cell (by kernel_rfl) rfl (by kernel_rfl) (fun W' h => hloadLn W' (HNO.out W' h).ri)) S0 ?_
  refine held_take (i := 2) (v := .agg #[.int .i64 p, .int .i64 (en : Int), .int .i64 (en : Int), .slice au dt.length cu]) (some 25) rfl rfl (by kernel_rfl) (by kernel_rfl) (by kernel_rfl) (fun _ _ _ h => h) (yieldsIf_cell (by kernel_rfl) rfl (by kernel_rfl) (fun W' h => hloadLn W' (HNO.out W' h).rd)) S0 ?_
  refine held_enter (i := 1) (some 24) (f := 55) (args := #[.agg #[.int .i64 p, .int .i64 (dn : Int), .int .i64 (dn : Int), .slice ai il.length ci]]) (by kernel_rfl) rfl rfl rfl (by kernel_rfl) (images_any p dn dn _ il dn wd HP.out (HNO.out wd S0).box.box.cx.fi (by omega) HC.out.2.2.2.1.2 (by rw [HLI.out]; omega)) ?_ (fun c w' h => by obtain ⟨_, _, h, _⟩ := h; cases h) (fun w' h => by obtain ⟨_, _, h, _⟩ := h; cases h)
  rintro e1 W1 ⟨s1, R, he1, hb1, ho1, hr1, hn1⟩
  injection he1 with he1
  subst he1
  have S1 : Below WB.heap.size WB W1 := S0.trans (hb1.mono S0.size)
  obtain ⟨aR, cR, rfl⟩ := Vs.shape ho1.vs
  have HVR := Lib.hid (ho1.vs.lower (Nat.zero_le _))
  have HRR := Lib.hid hr1
  have hR24 : R.length ≤ 24 := by rw [List.length_map, HLI.out] at hn1; omega
  refine ⟨S1, ?_⟩
  refine held_enter (i := 3) (some 26) (f := 55) (args := #[.agg #[.int .i64 p, .int .i64 (en : Int), .int .i64 (en : Int), .slice au dt.length cu]]) (by kernel_rfl) rfl rfl rfl (by kernel_rfl) (images_any p en en _ dt en W1 HP.out (HNO.out W1 S1).d (by omega) HRD.out (by rw [HLD.out]; omega)) ?_ (fun c w' h => by obtain ⟨_, _, h, _⟩ := h; cases h) (fun w' h => by obtain ⟨_, _, h, _⟩ := h; cases h)
  rintro e2 W2 ⟨s2, B, he2, hb2, ho2, hr2, hn2⟩
  injection he2 with he2
  subst he2
  have S2 : Below WB.heap.size WB W2 := S1.trans (hb2.mono S1.size)
  obtain ⟨aB, cB, rfl⟩ := Vs.shape ho2.vs
  have HVB := Lib.hid (ho2.vs.lower (Nat.zero_le _))
  have HVR2 := Lib.hid (HVR.out.below hb2)
  have HBR := Lib.hid hr2
  have hB24 : B.length ≤ 24 := by rw [List.length_map, HLD.out] at hn2; omega
  refine ⟨S2, ?_⟩
  refine held_take (i := 4) (v := .slice aR R.length cR) (some 7) rfl rfl (by kernel_rfl) (by kernel_rfl) (by kernel_rfl) (fun _ _ _ h => h) (yieldsIf_assign (by kernel_rfl) rfl (by kernel_rfl)) S2 ?_
  refine held_take (i := 5) (v := .slice aB B.length cB) (some 8) rfl rfl (by kernel_rfl) (by kernel_rfl) (by kernel_rfl) (fun _ _ _ h => h) (yieldsIf_assign (by kernel_rfl) rfl (by kernel_rfl)) S2 ?_
  refine wpAnyH_done (by kernel_rfl) ?_ _
  simp only [Act.put, List.setIfInBounds_toArray, List.set_cons_zero, List.set_cons_succ]
  have HS2 := Lib.hid S2
  clear S0 S1 S2 hb1 hb2 ho1 ho2 hr1 hr2 hn1 hn2 HVR
  have HBW : Hid (∀ u ∈ B, Lin.Wd en u) := Lib.hid (fun u hu => Lin.Sp.wd HWD.out ((HBR.out.eqv u).1 (Lin.Sp.mem hu (HBR.out.red.md u hu))))
  have HRW : Hid (∀ u ∈ R, Lin.Wd dn u) := Lib.hid (fun u hu => Lin.Sp.wd HWI.out ((HRR.out.eqv u).1 (Lin.Sp.mem hu (HRR.out.red.md u hu))))
  go_upto_region 3 with fail
  refine wp_region_held (S := fun W' => Below WB.heap.size WB W') (by kernel_rfl) ?_
  have S0 : Below WB.heap.size WB W2.drew := HS2.out.drew
  have hbd : Below W2.heap.size W2 W2.drew := (Below.refl _ _).drew
  have HVB3 := Lib.hid (HVB.out.below hbd)
  have HVR3 := Lib.hid (HVR2.out.below hbd)
  change wpAnyH _ _ _ _ _ _ _ _ W2.drew
  clear HVB HVR2 hbd HS2
  generalize W2.drew = we at *
  refine held_take (i := 0) (v := .pointer (some ⟨w.heap.size, 0, none⟩)) (some 27) rfl rfl (by kernel_rfl) (by kernel_rfl) (by kernel_rfl) (fun _ _ _ h => h) (yieldsIf_run (by kernel_rfl) (fun W _ => by kernel_rfl)) S0 ?_
  refine held_take (i := 1) (v := .int .i64 p) (some 28) rfl rfl (by kernel_rfl) (by kernel_rfl) (by kernel_rfl) (fun _ _ _ h => h) (yieldsIf_cell (by kernel_rfl) rfl (by kernel_rfl) (fun W' h => hload W' (HNO.out W' h).box.box.c0)) S0 ?_
  refine held_take (i := 2) (v := .agg #[.int .i64 p, .int .i64 (en : Int), .int .i64 (en : Int), .slice au dt.length cu]) (some 29) rfl rfl (by kernel_rfl) (by kernel_rfl) (by kernel_rfl) (fun _ _ _ h => h) (yieldsIf_cell (by kernel_rfl) rfl (by kernel_rfl) (fun W' h => hloadLn W' (HNO.out W' h).rd)) S0 ?_
  refine held_take (i := 4) (v := .slice aB B.length cB) (some 31) rfl rfl (by kernel_rfl) (by kernel_rfl) (by kernel_rfl) (fun _ _ _ h => h) (yieldsIf_move (by kernel_rfl) rfl (by kernel_rfl)) S0 ?_
  refine held_enter (i := 3) (some 30) (f := 68) (args := #[.agg #[.int .i64 p, .int .i64 (en : Int), .int .i64 (en : Int), .slice au dt.length cu]]) (by kernel_rfl) rfl rfl rfl (by kernel_rfl) (kernel_any p en en en _ dt we HP.out (HNO.out we S0).d HLD.out HRD.out (by omega) (by omega)) ?_ (fun c w' h => by obtain ⟨_, _, h, _⟩ := h; cases h) (fun w' h => by obtain ⟨_, _, h, _⟩ := h; cases h)
  rintro e3 W3 ⟨s3, Y, he3, hb3, ho3, hr3⟩
  injection he3 with he3
  subst he3
  have S3 : Below WB.heap.size WB W3 := S0.trans (hb3.mono S0.size)
  obtain ⟨aY, cY, rfl⟩ := Vs.shape ho3.vs
  have HVY := Lib.hid (ho3.vs.lower (Nat.zero_le _))
  have HVB4 := Lib.hid (HVB3.out.below hb3)
  have HVR4 := Lib.hid (HVR3.out.below hb3)
  have HYS := Lib.hid hr3
  have hY24 : Y.length ≤ 24 := by have := hr3.short; omega
  refine ⟨S3, ?_⟩
  refine held_enter (i := 5) (some 32) (f := 70) (args := #[.int .i64 p, .slice aY Y.length cY, .slice aB B.length cB]) (by kernel_rfl) rfl rfl rfl (by kernel_rfl) (spaceOfRests_any p en _ _ Y B W3 HP.out (by omega) HVY.out HVB4.out HYS.out.1.md HYS.out.2.1 HBR.out.red HBW.out (by omega) (by omega)) ?_ (fun c w' h => by obtain ⟨_, _, h, _⟩ := h; cases h) (fun w' h => by obtain ⟨_, _, h, _⟩ := h; cases h)
  rintro e4 W4 ⟨s4, C, he4, hb4, ho4, tt, hrt, hrl, hrc⟩
  injection he4 with he4
  subst he4
  have S4 : Below WB.heap.size WB W4 := S3.trans (hb4.mono S3.size)
  obtain ⟨aC, cC, rfl⟩ := Vs.shape ho4.vs
  have HVC := Lib.hid (ho4.vs.lower (Nat.zero_le _))
  have HVB5 := Lib.hid (HVB4.out.below hb4)
  have HVR5 := Lib.hid (HVR4.out.below hb4)
  have HRT := Lib.hid hrt
  have HRL := Lib.hid hrl
  have HCR := Lib.hid hrc
  have HCW : Hid (∀ u ∈ C, Lin.Wd en u) := Lib.hid (fun u hu => Lin.Sp.wd hrt.wd ((hrc.eqv u).1 (Lin.Sp.mem hu (hrc.red.md u hu))))
  have hC24 : C.length ≤ 24 := by have := red_length hrc.red HCW.out; omega
  refine ⟨S4, ?_⟩
  refine held_take (i := 6) (v := .slice aC C.length cC) (some 9) rfl rfl (by kernel_rfl) (by kernel_rfl) (by kernel_rfl) (fun _ _ _ h => h) (yieldsIf_assign (by kernel_rfl) rfl (by kernel_rfl)) S4 ?_
  refine wpAnyH_done (by kernel_rfl) ?_ _
  simp only [Act.put, List.setIfInBounds_toArray, List.set_cons_zero, List.set_cons_succ]
  have HX4 := Lib.hid (HNO.out W4 S4)
  clear S0 S3 S4 hb3 hb4 ho3 ho4 hr3 hrt hrl hrc HVB3 HVR3 HVB4 HVR4 HVY HNO HDO
  have k0 := HX4.out.box.box.c0
  go_upto_region 5 with fail
  refine forget_wp (fun W => Hid (Tq W4.heap.size W W4.heap.size p R.length C.length (tq3 (.slice none 0 0) (.slice none 0 0) (.slice none 0 0)) (tq3 [] [] []) (tq3 [] [] []) ∧ Below W4.heap.size W4 W)) (Lib.hid ⟨Tq.start (heap_alloc_new W4 _) (Nat.le_refl _), below_alloc1 _ _⟩) ?_
  intro WA hta
  have HTR := Lib.hid hta.out.1
  have HBA := Lib.hid hta.out.2
  clear hta k0
  have HNZ : Hid (∀ W', Below W4.heap.size W4 W' → DoB w W' p dn en (.slice ai il.length ci) (.slice aj jl.length cj) (.slice ak kl.length ck) (.slice au dt.length cu) il jl kl dt g0 g1 g2 g3) := Lib.hid (fun W' h => HX4.out.next h)
  have HNR : Hid (∀ W', Below W4.heap.size W4 W' → Vs 0 W' (.slice aR R.length cR) R) := Lib.hid (fun W' h => HVR5.out.below h)
  have HNB : Hid (∀ W', Below W4.heap.size W4 W' → Vs 0 W' (.slice aB B.length cB) B) := Lib.hid (fun W' h => HVB5.out.below h)
  have HNC : Hid (∀ W', Below W4.heap.size W4 W' → Vs 0 W' (.slice aC C.length cC) C) := Lib.hid (fun W' h => HVC.out.below h)
  have HSP : Hid (∀ k (h : k < R.length), ∃ s, (Lin.Md p s ∧ Lin.Wd dn s) ∧ dimg p dn il s = R[k]) := Lib.hid (fun k h => (sp_pre HP.out.lo1 HLI.out HMI.out).1 ((HRR.out.eqv _).1 (Lin.Sp.mem (List.getElem_mem h) (HRR.out.red.md _ (List.getElem_mem h)))))
  have HW40 : Hid (∀ u, Lin.Wd dn u → Lin.Wd 40 u) := Lib.hid (fun u hu i hi => hu i (by omega))
  have HE40 : Hid (∀ u, Lin.Wd en u → Lin.Wd 40 u) := Lib.hid (fun u hu i hi => hu i (by omega))
  have HVN : Hid (∀ W' : World, Vs 0 W' (.slice none 0 0) []) := Lib.hid (fun W' => Or.inl ⟨rfl, none, 0, rfl⟩)
  clear HX4 HVR5 HVB5 HVC
  go_wp2
  go_loopw [42] (fun i wr => ∃ (k : Nat) (iv jv : Value) (rs : List Lin.V) (I : Nat → List Iv), k ≤ R.length ∧ i = .int .i64 k ∧ rs.length = k ∧ Hid (Below W4.heap.size W4 wr) ∧ Hid (Tq W4.heap.size wr W4.heap.size p R.length C.length (tq3 iv jv (.slice none 0 0)) (tq3 ((dcI p dn il R R).take k) (rs.map (leadRow C)) []) I) ∧ Hid (∀ q (h : q < R.length) (h' : q < rs.length), ∃ s, Lin.Md p s ∧ Lin.Wd dn s ∧ dimg p dn il s = R[q] ∧ Lin.RestE p B (dimg p dn jl s) B.length rs[q])) (fun i _ => R.length - (intOf i).toNat)
  case atStart => exact ⟨0, _, _, [], _, Nat.zero_le _, rfl, rfl, HBA, HTR, Lib.hid (fun q _ h => absurd h (Nat.not_lt_zero _))⟩
  case round =>
    clear HTR HBA
    obtain ⟨k, iv, jv, rs, I, hk, rfl, hrl, HB, HTR, HRS⟩ := hrel
    obtain ⟨wx, hwx⟩ : ∃ wx : World, wx = wr := ⟨_, rfl⟩
    subst hwx
    have hsx : W4.heap.size < wx.heap.size := HTR.out.lt
    by_cases hlt : k < R.length
    · refine Vs.cases (HNR.out wx HB.out) (fun _ _ hx _ => absurd hlt (by rw [hx]; simp)) (fun b o cap2 hv _ _ hcl => ?_)
      obtain ⟨rfl, rfl⟩ : aR = some ⟨b, o, none⟩ ∧ cR = cap2 := by simpa using hv
      obtain ⟨u, hu⟩ : ∃ u, u = R[k] := ⟨_, rfl⟩
      have HVT : Hid (At wx b (o + k * 40) u) := Lib.hid (by rw [hu]; exact hcl k hlt)
      have HI2T := Lib.hid (Tryd.infoVl u)
      have HIT : Hid ((Tryd.prog.info? 82).map (·.size) = some (vl u).toArray.size) := Lib.hid (by have := HI2T.out; simpa using this)
      have HUM : Hid (Lin.Md p u) := Lib.hid (by rw [hu]; exact HRR.out.red.md _ (List.getElem_mem hlt))
      have HUW : Hid (Lin.Wd dn u) := Lib.hid (by rw [hu]; exact HRW.out _ (List.getElem_mem hlt))
      have HUE := Lib.hid hu
      have hkl : (k : Int) < (R.length : Int) := by omega
      clear hv hcl hu
      go_upto_region 8 with (first | (with_reducible refine wpList_load_mid rfl 82 (.tmp 44) rfl b (o + k * 40) rfl (vl u) _ HVT.out.range Tryd.underlyingV rfl HI2T.out ?_) | (with_reducible refine wpList_allocV rfl (some 12) rfl rfl ?_; intro W7 hn7; have HN7 := Lib.hid hn7; have HT7 : Hid (W7.there wx.heap.size 0 (vl u).toArray.size) := (Lib.hid (by have := hn7.there; simpa [vl_length] using this)); clear hn7) | (with_reducible refine wpList_store_mid rfl 82 (.tmp 12) (.tmp 45) rfl wx.heap.size 0 (vl u).toArray rfl rfl HT7.out HIT.out (vl_all _) ?_))
      refine forget_wp (fun W => Hid (At W wx.heap.size 0 u ∧ Below wx.heap.size wx W)) (Lib.hid ?_) ?_
      · have hp2 := HN7.out.put u
        exact ⟨hp2.2.1, hp2.1⟩
      intro W8 HS8
      clear HN7 HT7 HVT HIT
      have HB8 := Lib.hid (HB.out.trans (HS8.out.2.mono (Nat.le_of_lt hsx)))
      have HA8 := Lib.hid HS8.out.1
      have HT8 := Lib.hid (HTR.out.next HS8.out.2)
      have HOB : Hid (∀ q, q < 3 → ∀ g, (tq3 iv jv (.slice none 0 0) q).ownBlock = some g → g ≠ wx.heap.size) := Lib.hid (fun q hq g hg => by
        obtain ⟨vq, hvq⟩ := HTR.out.own hq
        have := owns_lt hvq hg
        omega)
      have hs8 : wx.heap.size < W8.heap.size := HS8.out.1.lt
      clear HS8 HTR HB
      have hcv : W8.cell? ⟨W4.heap.size, 3, none⟩ = some iv := HT8.out.cell rfl
      refine wp_region_last (fun W' => Below W4.heap.size W4 W' ∧ W'.cell? ⟨W4.heap.size, 3, none⟩ = some iv ∧ At W' wx.heap.size 0 u) 12 (by kernel_rfl) rfl (by kernel_rfl) ?_
      have hbd : Below W8.heap.size W8 W8.drew := (Below.refl _ _).drew
      have S0 : Below W4.heap.size W4 W8.drew ∧ W8.drew.cell? ⟨W4.heap.size, 3, none⟩ = some iv ∧ At W8.drew wx.heap.size 0 u := ⟨HB8.out.drew, later hbd (Nat.le_refl _) hcv, HA8.out.later hbd⟩
      have HTD := Lib.hid (HT8.out.next hbd)
      change wpAnyH _ _ _ _ _ _ _ _ W8.drew
      clear hcv hbd HT8 HB8 HA8
      generalize W8.drew = wd at *
      refine held_take (i := 0) (v := .pointer (some ⟨W4.heap.size, 3, none⟩)) (some 46) rfl rfl (by kernel_rfl) (by kernel_rfl) (by kernel_rfl) (fun _ _ _ h => h) (yieldsIf_run (by kernel_rfl) (fun W _ => by kernel_rfl)) S0 ?_
      refine held_take (i := 1) (v := iv) (some 47) rfl rfl (by kernel_rfl) (by kernel_rfl) (by kernel_rfl) (fun _ _ _ h => h) (yieldsIf_cell (by kernel_rfl) rfl (by kernel_rfl) (fun W' h => hloadSSc W' h.2.1)) S0 ?_
      refine held_take (i := 2) (v := .pointer (some ⟨w.heap.size, 0, none⟩)) (some 48) rfl rfl (by kernel_rfl) (by kernel_rfl) (by kernel_rfl) (fun _ _ _ h => h) (yieldsIf_run (by kernel_rfl) (fun W _ => by kernel_rfl)) S0 ?_
      refine held_take (i := 3) (v := .int .i64 p) (some 49) rfl rfl (by kernel_rfl) (by kernel_rfl) (by kernel_rfl) (fun _ _ _ h => h) (yieldsIf_cell (by kernel_rfl) rfl (by kernel_rfl) (fun W' h => hload W' (HNZ.out W' h.1).box.box.c0)) S0 ?_
      refine held_take (i := 4) (v := .agg #[.int .i64 p, .int .i64 (dn : Int), .int .i64 (dn : Int), .slice ai il.length ci]) (some 50) rfl rfl (by kernel_rfl) (by kernel_rfl) (by kernel_rfl) (fun _ _ _ h => h) (yieldsIf_cell (by kernel_rfl) rfl (by kernel_rfl) (fun W' h => hloadLn W' (HNZ.out W' h.1).ri)) S0 ?_
      refine held_take (i := 5) (v := .agg (vl u).toArray) (some 51) rfl rfl (by kernel_rfl) (by kernel_rfl) (by kernel_rfl) (fun _ _ _ h => h) (yieldsIf_load_mid (by kernel_rfl) 82 (.tmp 12) (by kernel_rfl) wx.heap.size 0 (by kernel_rfl) (vl u) _ (fun W h => h.2.2.range) Tryd.underlyingV rfl HI2T.out) S0 ?_
      refine held_take (i := 7) (v := .slice (some ⟨b, o, none⟩) R.length cR) (some 53) rfl rfl (by kernel_rfl) (by kernel_rfl) (by kernel_rfl) (fun _ _ _ h => h) (yieldsIf_move (by kernel_rfl) rfl (by kernel_rfl)) S0 ?_
      have HDM : Hid (Lin.Md p (dimg p dn il u)) := Lib.hid (dimg_md (by have := HP.out.lo; omega) _ _ _)
      have HDW : Hid (Lin.Wd dn (dimg p dn il u)) := Lib.hid (dimg_wd HLI.out HC.out.2.2.2.1.2 u)
      have HIK : Hid ((dcI p dn il R R).take (k + 1) = (dcI p dn il R R).take k ++ [leadRow R (dimg p dn il u)]) := Lib.hid (by
        have hl : k < (dcI p dn il R R).length := by unfold dcI; rw [List.length_map]; exact hlt
        rw [List.take_succ_eq_append_getElem hl, HUE.out]
        simp [dcI])
      have HIL : Hid (((dcI p dn il R R).take k).length = k) := Lib.hid (by unfold dcI; rw [List.length_take, List.length_map]; omega)
      refine held_enter (i := 6) (some 52) (f := 72) (args := #[.agg #[.int .i64 p, .int .i64 (dn : Int), .int .i64 (dn : Int), .slice ai il.length ci], vv u]) (by kernel_rfl) rfl rfl rfl (by kernel_rfl) (lead_any p dn dn u _ il wd HP.out (HNZ.out wd S0.1).box.box.cx.fi HLI.out HC.out.2.2.2.1.2 (by omega) (by omega) HUM.out) ?_ (fun c w' h => by obtain ⟨h, _⟩ := h; cases h) (fun w' h => by obtain ⟨h, _⟩ := h; cases h)
      rintro ea Wa ⟨hea, hbea⟩
      injection hea with hea
      subst hea
      have Sa : Below W4.heap.size W4 Wa ∧ Wa.cell? ⟨W4.heap.size, 3, none⟩ = some iv ∧ At Wa wx.heap.size 0 u := ⟨S0.1.trans (hbea.mono S0.1.size), later hbea (Nat.le_refl _) S0.2.1, S0.2.2.later hbea⟩
      have HTa := Lib.hid (HTD.out.next hbea)
      refine ⟨Sa, ?_⟩
      refine held_enter (i := 8) (some 54) (f := 71) (args := #[.int .i64 p, vv (dimg p dn il u), .slice none 0 0, .slice (some ⟨b, o, none⟩) R.length cR]) (by kernel_rfl) rfl rfl rfl (by kernel_rfl) (classNumbers_any p (dimg p dn il u) _ _ [] R Wa HP.out HDM.out (HW40.out _ HDW.out) (HVN.out Wa) (Lin.Red.nil p) (by simp) (by simp) (HNR.out Wa Sa.1) HRR.out.red HRR.out.wd (by omega)) ?_ (fun c w' h => by obtain ⟨_, _, h, _⟩ := h; cases h) (fun w' h => by obtain ⟨_, _, h, _⟩ := h; cases h)
      rintro ec Wc ⟨uc, xc, hec, hgc, hbec, hxc⟩
      injection hec with hec
      subst hec
      have Sb : Below W4.heap.size W4 Wc ∧ Wc.cell? ⟨W4.heap.size, 3, none⟩ = some iv ∧ At Wc wx.heap.size 0 u := ⟨Sa.1.trans (hbec.mono Sa.1.size), later hbec (Nat.le_refl _) Sa.2.1, Sa.2.2.later hbec⟩
      have HTc := Lib.hid (HTa.out.next hbec)
      obtain rfl := rests_nil (by have := HP.out.lo; omega) HDM.out hxc
      have HGc := Lib.hid hgc
      refine ⟨Sb, ?_⟩
      obtain ⟨ab, nb, cb, hvb⟩ : ∃ a n c, ec = .slice a n c := by obtain ⟨a, cc, ee⟩ := HGc.out.shape; exact ⟨a, _, cc, ee⟩
      subst hvb
      have hbc : Below Wc.heap.size Wc (Wc.alloc (.cells #[.slice ab nb cb] 33)) := below_alloc1 _ _
      have Sc : Below W4.heap.size W4 (Wc.alloc (.cells #[.slice ab nb cb] 33)) ∧ (Wc.alloc (.cells #[.slice ab nb cb] 33)).cell? ⟨W4.heap.size, 3, none⟩ = some iv ∧ At (Wc.alloc (.cells #[.slice ab nb cb] 33)) wx.heap.size 0 u := ⟨Sb.1.trans (hbc.mono Sb.1.size), later hbc (Nat.le_refl _) Sb.2.1, Sb.2.2.later hbc⟩
      have HGd := Lib.hid ((HGc.out.next hbc (Nat.le_refl _)).wider (Nat.le_refl _) hbc.size)
      refine held_buildS (i := 9) (some 55) (by kernel_rfl) rfl rfl rfl (.tmp 54) ab nb cb rfl (by kernel_rfl) ⟨Sc, ?_⟩
      refine held_appendTq (i := 10) (some 56) (by kernel_rfl) rfl rfl rfl (.tmp 47) (.tmp 55) rfl W4.heap.size W4.heap.size p R.length C.length (tq3 iv jv (.slice none 0 0)) (tq3 ((dcI p dn il R R).take k) (rs.map (leadRow C)) []) I 0 (by omega) iv rfl (by kernel_rfl) HTa.out (hbec.trans (hbc.mono hbec.size)) Sa.1.size Wc.heap.size ab nb cb (by kernel_rfl) (cell_alloc1 Wc _ _) (leadRow R (dimg p dn il u)) HGd.out ?hlen ?_
      case hlen => show ((dcI p dn il R R).take k).length ≤ _; rw [HIL.out]; omega
      intro a9 n9 c9 W9 I9 hT9 hgr9 hcs9 hlo9 hat9
      have hbx := Sc.2.2.lt
      have S9 : Below W4.heap.size W4 W9 ∧ W9.cell? ⟨W4.heap.size, 3, none⟩ = some iv ∧ At W9 wx.heap.size 0 u := ⟨Sc.1.grown hgr9 Sc.1.size hlo9, by simp [World.cell?, hcs9, tq3], Sc.2.2.grown hgr9 (fun e => HOB.out 0 (by omega) _ e.symm rfl)⟩
      have hf9 : W9.frozen? ⟨W4.heap.size, 3, none⟩ = false := by simp [World.frozen?, hcs9]
      refine ⟨S9, ?_⟩
      refine held_take (i := 11) (v := .pointer (some ⟨W4.heap.size, 3, none⟩)) (some 57) rfl rfl (by kernel_rfl) (by kernel_rfl) (by kernel_rfl) (fun _ _ _ h => h) (yieldsIf_run (by kernel_rfl) (fun W _ => by kernel_rfl)) S9 ?_
      refine held_none (i := 12) (v := .bool false) rfl rfl (by kernel_rfl) (by kernel_rfl) (by kernel_rfl) (fun _ _ _ h => h) (yieldsIf_move (by kernel_rfl) rfl (by kernel_rfl)) S9 ?_
      refine wpAnyH_done (by kernel_rfl) (lastQ_storeTt rfl (by kernel_rfl) (by kernel_rfl) (.tmp 57) (.tmp 56) (by kernel_rfl) W4.heap.size 3 a9 n9 c9 iv (by kernel_rfl) (by kernel_rfl) S9.2.1 hf9 ?_) _
      simp only [Act.put, List.setIfInBounds_toArray, List.set_cons_zero, List.set_cons_succ]
      have HB9 : Hid (Below W4.heap.size W4 (W9.setCell ⟨W4.heap.size, 3, none⟩ (.slice a9 n9 c9))) := Lib.hid (S9.1.setCell (Nat.le_refl _) _)
      have HA9 : Hid (At (W9.setCell ⟨W4.heap.size, 3, none⟩ (.slice a9 n9 c9)) wx.heap.size 0 u) := Lib.hid (S9.2.2.setOther (by show W4.heap.size ≠ wx.heap.size; omega) _)
      have HT9 := Lib.hid hT9
      rw [tqu0, tqu0, show tq3 ((dcI p dn il R R).take k) (rs.map (leadRow C)) [] 0 = (dcI p dn il R R).take k from rfl, ← HIK.out] at HT9
      have HOB9 : Hid (∀ q, q < 3 → ∀ g, (tq3 (.slice a9 n9 c9) jv (.slice none 0 0) q).ownBlock = some g → g ≠ wx.heap.size) := Lib.hid (fun q hq g hg e => by
        match q, hq with
        | 0, _ =>
          rcases hat9 with e2 | e2
          · exact HOB.out 0 (by omega) g (e2.symm.trans hg) e
          · have e3 := e2.symm.trans hg
            injection e3 with e3
            omega
        | 1, _ => exact HOB.out 1 (by omega) g hg e
        | 2, _ => exact absurd hg (by simp [tq3, Value.ownBlock]))
      clear S0 Sa Sb Sc S9 HTD HTa HTc HGc HGd hbea hbec hbc hgc hxc hT9 hgr9 hcs9 hlo9 hat9 hbx hf9 HIK HIL HDM HDW HOB
      go_upto_region 9 with fail
      refine forget_wp (fun W => Hid (Tq W4.heap.size W W4.heap.size p R.length C.length (tq3 (.slice a9 n9 c9) jv (.slice none 0 0)) (tq3 ((dcI p dn il R R).take (k + 1)) (rs.map (leadRow C)) []) I9 ∧ Below W4.heap.size W4 W ∧ At W wx.heap.size 0 u)) (Lib.hid ⟨HT9.out, HB9.out, HA9.out⟩) ?_
      intro WE hE
      have HTE := Lib.hid hE.out.1
      have HBE := Lib.hid hE.out.2.1
      have HAE := Lib.hid hE.out.2.2
      clear hE HT9 HB9 HA9
      obtain ⟨iv, hiv⟩ : ∃ iv : Value, iv = .slice a9 n9 c9 := ⟨_, rfl⟩
      rw [← hiv] at HTE HOB9
      clear hiv
      obtain ⟨u0, hu0⟩ := HSP.out k hlt
      rw [← HUE.out] at hu0
      have HU0 := Lib.hid hu0
      clear hu0
      obtain ⟨I, hI⟩ : ∃ I, I = I9 := ⟨_, rfl⟩
      subst hI
      have HOB := HOB9
      clear HOB9
      have hcv : WE.cell? ⟨W4.heap.size, 4, none⟩ = some jv := HTE.out.cell rfl
      refine wp_region_last (fun W' => Below W4.heap.size W4 W' ∧ W'.cell? ⟨W4.heap.size, 4, none⟩ = some jv ∧ At W' wx.heap.size 0 u) 15 (by kernel_rfl) rfl (by kernel_rfl) ?_
      have hbd : Below WE.heap.size WE WE.drew := (Below.refl _ _).drew
      have S0 : Below W4.heap.size W4 WE.drew ∧ WE.drew.cell? ⟨W4.heap.size, 4, none⟩ = some jv ∧ At WE.drew wx.heap.size 0 u := ⟨HBE.out.drew, later hbd (Nat.le_refl _) hcv, HAE.out.later hbd⟩
      have HTD := Lib.hid (HTE.out.next hbd)
      change wpAnyH _ _ _ _ _ _ _ _ WE.drew
      clear hcv hbd HTE HBE HAE
      generalize WE.drew = wd at *
      refine held_take (i := 0) (v := .pointer (some ⟨W4.heap.size, 4, none⟩)) (some 58) rfl rfl (by kernel_rfl) (by kernel_rfl) (by kernel_rfl) (fun _ _ _ h => h) (yieldsIf_run (by kernel_rfl) (fun W _ => by kernel_rfl)) S0 ?_
      refine held_take (i := 1) (v := jv) (some 59) rfl rfl (by kernel_rfl) (by kernel_rfl) (by kernel_rfl) (fun _ _ _ h => h) (yieldsIf_cell (by kernel_rfl) rfl (by kernel_rfl) (fun W' h => hloadSSc W' h.2.1)) S0 ?_
      refine held_take (i := 2) (v := .pointer (some ⟨w.heap.size, 0, none⟩)) (some 60) rfl rfl (by kernel_rfl) (by kernel_rfl) (by kernel_rfl) (fun _ _ _ h => h) (yieldsIf_run (by kernel_rfl) (fun W _ => by kernel_rfl)) S0 ?_
      refine held_take (i := 3) (v := .int .i64 p) (some 61) rfl rfl (by kernel_rfl) (by kernel_rfl) (by kernel_rfl) (fun _ _ _ h => h) (yieldsIf_cell (by kernel_rfl) rfl (by kernel_rfl) (fun W' h => hload W' (HNZ.out W' h.1).box.box.c0)) S0 ?_
      refine held_take (i := 4) (v := .agg #[.int .i64 p, .int .i64 (dn : Int), .int .i64 (en : Int), .slice aj jl.length cj]) (some 62) rfl rfl (by kernel_rfl) (by kernel_rfl) (by kernel_rfl) (fun _ _ _ h => h) (yieldsIf_cell (by kernel_rfl) rfl (by kernel_rfl) (fun W' h => hloadLn W' (HNZ.out W' h.1).rj)) S0 ?_
      refine held_take (i := 5) (v := .agg #[.int .i64 p, .int .i64 (dn : Int), .int .i64 (dn : Int), .slice ai il.length ci]) (some 63) rfl rfl (by kernel_rfl) (by kernel_rfl) (by kernel_rfl) (fun _ _ _ h => h) (yieldsIf_cell (by kernel_rfl) rfl (by kernel_rfl) (fun W' h => hloadLn W' (HNZ.out W' h.1).ri)) S0 ?_
      refine held_take (i := 6) (v := .agg (vl u).toArray) (some 64) rfl rfl (by kernel_rfl) (by kernel_rfl) (by kernel_rfl) (fun _ _ _ h => h) (yieldsIf_load_mid (by kernel_rfl) 82 (.tmp 12) (by kernel_rfl) wx.heap.size 0 (by kernel_rfl) (vl u) _ (fun W h => h.2.2.range) Tryd.underlyingV rfl HI2T.out) S0 ?_
      refine held_take (i := 9) (v := .slice aB B.length cB) (some 67) rfl rfl (by kernel_rfl) (by kernel_rfl) (by kernel_rfl) (fun _ _ _ h => h) (yieldsIf_move (by kernel_rfl) rfl (by kernel_rfl)) S0 ?_
      refine held_take (i := 10) (v := .slice aC C.length cC) (some 68) rfl rfl (by kernel_rfl) (by kernel_rfl) (by kernel_rfl) (fun _ _ _ h => h) (yieldsIf_move (by kernel_rfl) rfl (by kernel_rfl)) S0 ?_
      refine held_enter (i := 7) (some 65) (f := 73) (args := #[.agg #[.int .i64 p, .int .i64 (dn : Int), .int .i64 (dn : Int), .slice ai il.length ci], vv u]) (by kernel_rfl) rfl rfl rfl (by kernel_rfl) (sourceOf_any p dn dn u u0 _ il wd HP.out (HNZ.out wd S0.1).box.box.cx.fi HLI.out HC.out.2.2.2.1.2 (by omega) (by omega) HUM.out HUW.out HU0.out.1.2 HU0.out.2) ?_ (fun c w' h => by obtain ⟨_, h, _⟩ := h; cases h) (fun w' h => by obtain ⟨_, h, _⟩ := h; cases h)
      rintro es Ws ⟨s, hes, hbes, hsm, hsw, hsu⟩
      injection hes with hes
      subst hes
      have Ss : Below W4.heap.size W4 Ws ∧ Ws.cell? ⟨W4.heap.size, 4, none⟩ = some jv ∧ At Ws wx.heap.size 0 u := ⟨S0.1.trans (hbes.mono S0.1.size), later hbes (Nat.le_refl _) S0.2.1, S0.2.2.later hbes⟩
      have HTs := Lib.hid (HTD.out.next hbes)
      have HSM := Lib.hid hsm
      have HSW := Lib.hid hsw
      have HSU := Lib.hid hsu
      have HDM : Hid (Lin.Md p (dimg p dn jl s)) := Lib.hid (dimg_md (by have := HP.out.lo; omega) _ _ _)
      have HDW : Hid (Lin.Wd en (dimg p dn jl s)) := Lib.hid (dimg_wd HLJ.out HC.out.2.2.2.2.1.2 s)
      refine ⟨Ss, ?_⟩
      refine held_enter (i := 8) (some 66) (f := 72) (args := #[.agg #[.int .i64 p, .int .i64 (dn : Int), .int .i64 (en : Int), .slice aj jl.length cj], vv s]) (by kernel_rfl) rfl rfl rfl (by kernel_rfl) (lead_any p dn en s _ jl Ws HP.out (HNZ.out Ws Ss.1).box.box.cx.fj HLJ.out HC.out.2.2.2.2.1.2 (by omega) (by omega) HSM.out) ?_ (fun c w' h => by obtain ⟨h, _⟩ := h; cases h) (fun w' h => by obtain ⟨h, _⟩ := h; cases h)
      rintro ea Wa ⟨hea, hbea⟩
      injection hea with hea
      subst hea
      have Sa : Below W4.heap.size W4 Wa ∧ Wa.cell? ⟨W4.heap.size, 4, none⟩ = some jv ∧ At Wa wx.heap.size 0 u := ⟨Ss.1.trans (hbea.mono Ss.1.size), later hbea (Nat.le_refl _) Ss.2.1, Ss.2.2.later hbea⟩
      have HTa := Lib.hid (HTs.out.next hbea)
      refine ⟨Sa, ?_⟩
      refine held_enter (i := 11) (some 69) (f := 71) (args := #[.int .i64 p, vv (dimg p dn jl s), .slice aB B.length cB, .slice aC C.length cC]) (by kernel_rfl) rfl rfl rfl (by kernel_rfl) (classNumbers_any p (dimg p dn jl s) _ _ B C Wa HP.out HDM.out (HE40.out _ HDW.out) (HNB.out Wa Sa.1) HBR.out.red HBR.out.wd (by omega) (HNC.out Wa Sa.1) HCR.out.red HCR.out.wd (by omega)) ?_ (fun c w' h => by obtain ⟨_, _, h, _⟩ := h; cases h) (fun w' h => by obtain ⟨_, _, h, _⟩ := h; cases h)
      rintro ec Wc ⟨uc, xc, hec, hgc, hbec, hxc⟩
      injection hec with hec
      subst hec
      have Sb : Below W4.heap.size W4 Wc ∧ Wc.cell? ⟨W4.heap.size, 4, none⟩ = some jv ∧ At Wc wx.heap.size 0 u := ⟨Sa.1.trans (hbec.mono Sa.1.size), later hbec (Nat.le_refl _) Sa.2.1, Sa.2.2.later hbec⟩
      have HTc := Lib.hid (HTa.out.next hbec)
      have HGc := Lib.hid hgc
      have HXC := Lib.hid hxc
      refine ⟨Sb, ?_⟩
      obtain ⟨ab, nb, cb, hvb⟩ : ∃ a n c, ec = .slice a n c := by obtain ⟨a, cc, ee⟩ := HGc.out.shape; exact ⟨a, _, cc, ee⟩
      subst hvb
      have hbc : Below Wc.heap.size Wc (Wc.alloc (.cells #[.slice ab nb cb] 33)) := below_alloc1 _ _
      have Sc : Below W4.heap.size W4 (Wc.alloc (.cells #[.slice ab nb cb] 33)) ∧ (Wc.alloc (.cells #[.slice ab nb cb] 33)).cell? ⟨W4.heap.size, 4, none⟩ = some jv ∧ At (Wc.alloc (.cells #[.slice ab nb cb] 33)) wx.heap.size 0 u := ⟨Sb.1.trans (hbc.mono Sb.1.size), later hbc (Nat.le_refl _) Sb.2.1, Sb.2.2.later hbc⟩
      have HGd := Lib.hid ((HGc.out.next hbc (Nat.le_refl _)).wider (Nat.le_refl _) hbc.size)
      refine held_buildS (i := 12) (some 70) (by kernel_rfl) rfl rfl rfl (.tmp 69) ab nb cb rfl (by kernel_rfl) ⟨Sc, ?_⟩
      refine held_appendTq (i := 13) (some 71) (by kernel_rfl) rfl rfl rfl (.tmp 59) (.tmp 70) rfl W4.heap.size W4.heap.size p R.length C.length (tq3 iv jv (.slice none 0 0)) (tq3 ((dcI p dn il R R).take (k + 1)) (rs.map (leadRow C)) []) I 1 (by omega) jv rfl (by kernel_rfl) HTa.out (hbec.trans (hbc.mono hbec.size)) Sa.1.size Wc.heap.size ab nb cb (by kernel_rfl) (cell_alloc1 Wc _ _) (leadRow C xc) HGd.out ?hlen ?_
      case hlen => show (rs.map (leadRow C)).length ≤ _; rw [List.length_map]; omega
      intro a9 n9 c9 W9 I9 hT9 hgr9 hcs9 hlo9 hat9
      have hbx := Sc.2.2.lt
      have S9 : Below W4.heap.size W4 W9 ∧ W9.cell? ⟨W4.heap.size, 4, none⟩ = some jv ∧ At W9 wx.heap.size 0 u := ⟨Sc.1.grown hgr9 Sc.1.size hlo9, by simp [World.cell?, hcs9, tq3], Sc.2.2.grown hgr9 (fun e => HOB.out 1 (by omega) _ e.symm rfl)⟩
      have hf9 : W9.frozen? ⟨W4.heap.size, 4, none⟩ = false := by simp [World.frozen?, hcs9]
      refine ⟨S9, ?_⟩
      refine held_take (i := 14) (v := .pointer (some ⟨W4.heap.size, 4, none⟩)) (some 72) rfl rfl (by kernel_rfl) (by kernel_rfl) (by kernel_rfl) (fun _ _ _ h => h) (yieldsIf_run (by kernel_rfl) (fun W _ => by kernel_rfl)) S9 ?_
      refine held_none (i := 15) (v := .bool false) rfl rfl (by kernel_rfl) (by kernel_rfl) (by kernel_rfl) (fun _ _ _ h => h) (yieldsIf_move (by kernel_rfl) rfl (by kernel_rfl)) S9 ?_
      refine wpAnyH_done (by kernel_rfl) (lastQ_storeTt rfl (by kernel_rfl) (by kernel_rfl) (.tmp 72) (.tmp 71) (by kernel_rfl) W4.heap.size 4 a9 n9 c9 jv (by kernel_rfl) (by kernel_rfl) S9.2.1 hf9 ?_) _
      simp only [Act.put, List.setIfInBounds_toArray, List.set_cons_zero, List.set_cons_succ]
      have HB9 : Hid (Below W4.heap.size W4 (W9.setCell ⟨W4.heap.size, 4, none⟩ (.slice a9 n9 c9))) := Lib.hid (S9.1.setCell (Nat.le_refl _) _)
      have HA9 : Hid (At (W9.setCell ⟨W4.heap.size, 4, none⟩ (.slice a9 n9 c9)) wx.heap.size 0 u) := Lib.hid (S9.2.2.setOther (by show W4.heap.size ≠ wx.heap.size; omega) _)
      have HT9 := Lib.hid hT9
      rw [tqu1, tqu1, show tq3 ((dcI p dn il R R).take (k + 1)) (rs.map (leadRow C)) [] 1 = rs.map (leadRow C) from rfl, show rs.map (leadRow C) ++ [leadRow C xc] = (rs ++ [xc]).map (leadRow C) by simp] at HT9
      have HRS2 : Hid (∀ q (h : q < R.length) (h' : q < (rs ++ [xc]).length), ∃ s, Lin.Md p s ∧ Lin.Wd dn s ∧ dimg p dn il s = R[q] ∧ Lin.RestE p B (dimg p dn jl s) B.length (rs ++ [xc])[q]) := Lib.hid (fun q h h' => by
        by_cases e : q < rs.length
        · rw [List.getElem_append_left e]
          exact HRS.out q h e
        · have e2 : q = rs.length := by simp at h'; omega
          subst e2
          rw [List.getElem_append_right (Nat.le_refl _)]
          simp only [Nat.sub_self, List.getElem_singleton]
          refine ⟨s, HSM.out, HSW.out, ?_, HXC.out⟩
          rw [HSU.out, HUE.out]
          congr 1
          exact hrl.symm)
      clear S0 Sa Sb Sc S9 Ss HTD HTa HTc HTs HGc HGd hbea hbec hbes hbc hgc hxc hT9 hgr9 hcs9 hlo9 hat9 hbx hf9 HDM HDW HOB HA9 HRS HSM HSW HSU HXC hsm hsw hsu HU0
      have hrl2 : (rs ++ [xc]).length = k + 1 := by simp [hrl]
      have HRL2 := Lib.hid hrl2
      clear hrl hrl2
      go_wp2
      go_roundw
      case rel => exact ⟨k + 1, _, _, rs ++ [xc], _, by omega, by go_num, HRL2.out, HB9, HT9, HRS2⟩
      case measure => simp [intOf]; omega
    · have HKR : Hid (k = R.length) := Lib.hid (by omega)
      have HIF : Hid ((dcI p dn il R R).take k = dcI p dn il R R) := Lib.hid (List.take_of_length_le (by unfold dcI; rw [List.length_map]; omega))
      rw [HIF.out] at HTR
      have HJ : Hid (DcJ p dn il jl R B rs) := Lib.hid ⟨by omega, HRS.out⟩
      clear HIF HRS hrl HSP HNB
      go_wp2
      go_loopw [76] (fun i wr => ∃ (m : Nat) (kv : Value) (I : Nat → List Iv), m ≤ C.length ∧ i = .int .i64 m ∧ Hid (Below W4.heap.size W4 wr) ∧ Hid (Tq W4.heap.size wr W4.heap.size p R.length C.length (tq3 iv jv kv) (tq3 (dcI p dn il R R) (rs.map (leadRow C)) ((dcI p en kl C R).take m)) I)) (fun i _ => C.length - (intOf i).toNat)
      case atStart => exact ⟨0, _, _, Nat.zero_le _, rfl, HB, by rw [List.take_zero]; exact HTR⟩
      case round =>
        clear HB HTR hsx hlt
        obtain ⟨m, kv, I, hm, rfl, HB, HTR⟩ := hrel
        obtain ⟨wx, hwx⟩ : ∃ wx : World, wx = wr := ⟨_, rfl⟩
        subst hwx
        have hsx : W4.heap.size < wx.heap.size := HTR.out.lt
        by_cases hlt : m < C.length
        · refine Vs.cases (HNC.out wx HB.out) (fun _ _ hx _ => absurd hlt (by rw [hx]; simp)) (fun b o cap2 hv _ _ hcl => ?_)
          obtain ⟨rfl, rfl⟩ : aC = some ⟨b, o, none⟩ ∧ cC = cap2 := by simpa using hv
          obtain ⟨u, hu⟩ : ∃ u, u = C[m] := ⟨_, rfl⟩
          have HVT : Hid (At wx b (o + m * 40) u) := Lib.hid (by rw [hu]; exact hcl m hlt)
          have HI2T := Lib.hid (Tryd.infoVl u)
          have HIT : Hid ((Tryd.prog.info? 82).map (·.size) = some (vl u).toArray.size) := Lib.hid (by have := HI2T.out; simpa using this)
          have HUM : Hid (Lin.Md p u) := Lib.hid (by rw [hu]; exact HCR.out.red.md _ (List.getElem_mem hlt))
          have HUW : Hid (Lin.Wd en u) := Lib.hid (by rw [hu]; exact HCW.out _ (List.getElem_mem hlt))
          have HUE := Lib.hid hu
          have hkl : (m : Int) < (C.length : Int) := by omega
          clear hv hcl hu
          go_upto_region 14 with (first | (with_reducible refine wpList_load_mid rfl 82 (.tmp 78) rfl b (o + m * 40) rfl (vl u) _ HVT.out.range Tryd.underlyingV rfl HI2T.out ?_) | (with_reducible refine wpList_allocV rfl (some 14) rfl rfl ?_; intro W7 hn7; have HN7 := Lib.hid hn7; have HT7 : Hid (W7.there wx.heap.size 0 (vl u).toArray.size) := (Lib.hid (by have := hn7.there; simpa [vl_length] using this)); clear hn7) | (with_reducible refine wpList_store_mid rfl 82 (.tmp 14) (.tmp 79) rfl wx.heap.size 0 (vl u).toArray rfl rfl HT7.out HIT.out (vl_all _) ?_))
          refine forget_wp (fun W => Hid (At W wx.heap.size 0 u ∧ Below wx.heap.size wx W)) (Lib.hid ?_) ?_
          · have hp2 := HN7.out.put u
            exact ⟨hp2.2.1, hp2.1⟩
          intro W8 HS8
          clear HN7 HT7 HVT HIT
          have HB8 := Lib.hid (HB.out.trans (HS8.out.2.mono (Nat.le_of_lt hsx)))
          have HA8 := Lib.hid HS8.out.1
          have HT8 := Lib.hid (HTR.out.next HS8.out.2)
          have HOB : Hid (∀ q, q < 3 → ∀ g, (tq3 iv jv kv q).ownBlock = some g → g ≠ wx.heap.size) := Lib.hid (fun q hq g hg => by
            obtain ⟨vq, hvq⟩ := HTR.out.own hq
            have := owns_lt hvq hg
            omega)
          have hs8 : wx.heap.size < W8.heap.size := HS8.out.1.lt
          clear HS8 HTR HB
          have hcv : W8.cell? ⟨W4.heap.size, 5, none⟩ = some kv := HT8.out.cell rfl
          refine wp_region_last (fun W' => Below W4.heap.size W4 W' ∧ W'.cell? ⟨W4.heap.size, 5, none⟩ = some kv ∧ At W' wx.heap.size 0 u) 12 (by kernel_rfl) rfl (by kernel_rfl) ?_
          have hbd : Below W8.heap.size W8 W8.drew := (Below.refl _ _).drew
          have S0 : Below W4.heap.size W4 W8.drew ∧ W8.drew.cell? ⟨W4.heap.size, 5, none⟩ = some kv ∧ At W8.drew wx.heap.size 0 u := ⟨HB8.out.drew, later hbd (Nat.le_refl _) hcv, HA8.out.later hbd⟩
          have HTD := Lib.hid (HT8.out.next hbd)
          change wpAnyH _ _ _ _ _ _ _ _ W8.drew
          clear hcv hbd HT8 HB8 HA8
          generalize W8.drew = wd at *
          refine held_take (i := 0) (v := .pointer (some ⟨W4.heap.size, 5, none⟩)) (some 80) rfl rfl (by kernel_rfl) (by kernel_rfl) (by kernel_rfl) (fun _ _ _ h => h) (yieldsIf_run (by kernel_rfl) (fun W _ => by kernel_rfl)) S0 ?_
          refine held_take (i := 1) (v := kv) (some 81) rfl rfl (by kernel_rfl) (by kernel_rfl) (by kernel_rfl) (fun _ _ _ h => h) (yieldsIf_cell (by kernel_rfl) rfl (by kernel_rfl) (fun W' h => hloadSSc W' h.2.1)) S0 ?_
          refine held_take (i := 2) (v := .pointer (some ⟨w.heap.size, 0, none⟩)) (some 82) rfl rfl (by kernel_rfl) (by kernel_rfl) (by kernel_rfl) (fun _ _ _ h => h) (yieldsIf_run (by kernel_rfl) (fun W _ => by kernel_rfl)) S0 ?_
          refine held_take (i := 3) (v := .int .i64 p) (some 83) rfl rfl (by kernel_rfl) (by kernel_rfl) (by kernel_rfl) (fun _ _ _ h => h) (yieldsIf_cell (by kernel_rfl) rfl (by kernel_rfl) (fun W' h => hload W' (HNZ.out W' h.1).box.box.c0)) S0 ?_
          refine held_take (i := 4) (v := .agg #[.int .i64 p, .int .i64 (en : Int), .int .i64 (dn : Int), .slice ak kl.length ck]) (some 84) rfl rfl (by kernel_rfl) (by kernel_rfl) (by kernel_rfl) (fun _ _ _ h => h) (yieldsIf_cell (by kernel_rfl) rfl (by kernel_rfl) (fun W' h => hloadLn W' (HNZ.out W' h.1).rk)) S0 ?_
          refine held_take (i := 5) (v := .agg (vl u).toArray) (some 85) rfl rfl (by kernel_rfl) (by kernel_rfl) (by kernel_rfl) (fun _ _ _ h => h) (yieldsIf_load_mid (by kernel_rfl) 82 (.tmp 14) (by kernel_rfl) wx.heap.size 0 (by kernel_rfl) (vl u) _ (fun W h => h.2.2.range) Tryd.underlyingV rfl HI2T.out) S0 ?_
          refine held_take (i := 7) (v := .slice aR R.length cR) (some 87) rfl rfl (by kernel_rfl) (by kernel_rfl) (by kernel_rfl) (fun _ _ _ h => h) (yieldsIf_move (by kernel_rfl) rfl (by kernel_rfl)) S0 ?_
          have HDM : Hid (Lin.Md p (dimg p en kl u)) := Lib.hid (dimg_md (by have := HP.out.lo; omega) _ _ _)
          have HDW : Hid (Lin.Wd dn (dimg p en kl u)) := Lib.hid (dimg_wd HLK.out HC.out.2.2.2.2.2.2 u)
          have HIK : Hid ((dcI p en kl C R).take (m + 1) = (dcI p en kl C R).take m ++ [leadRow R (dimg p en kl u)]) := Lib.hid (by
            have hl : m < (dcI p en kl C R).length := by unfold dcI; rw [List.length_map]; exact hlt
            rw [List.take_succ_eq_append_getElem hl, HUE.out]
            simp [dcI])
          have HIL : Hid (((dcI p en kl C R).take m).length = m) := Lib.hid (by unfold dcI; rw [List.length_take, List.length_map]; omega)
          refine held_enter (i := 6) (some 86) (f := 72) (args := #[.agg #[.int .i64 p, .int .i64 (en : Int), .int .i64 (dn : Int), .slice ak kl.length ck], vv u]) (by kernel_rfl) rfl rfl rfl (by kernel_rfl) (lead_any p en dn u _ kl wd HP.out (HNZ.out wd S0.1).box.box.cx.fk HLK.out HC.out.2.2.2.2.2.2 (by omega) (by omega) HUM.out) ?_ (fun c w' h => by obtain ⟨h, _⟩ := h; cases h) (fun w' h => by obtain ⟨h, _⟩ := h; cases h)
          rintro ea Wa ⟨hea, hbea⟩
          injection hea with hea
          subst hea
          have Sa : Below W4.heap.size W4 Wa ∧ Wa.cell? ⟨W4.heap.size, 5, none⟩ = some kv ∧ At Wa wx.heap.size 0 u := ⟨S0.1.trans (hbea.mono S0.1.size), later hbea (Nat.le_refl _) S0.2.1, S0.2.2.later hbea⟩
          have HTa := Lib.hid (HTD.out.next hbea)
          refine ⟨Sa, ?_⟩
          refine held_enter (i := 8) (some 88) (f := 71) (args := #[.int .i64 p, vv (dimg p en kl u), .slice none 0 0, .slice aR R.length cR]) (by kernel_rfl) rfl rfl rfl (by kernel_rfl) (classNumbers_any p (dimg p en kl u) _ _ [] R Wa HP.out HDM.out (HW40.out _ HDW.out) (HVN.out Wa) (Lin.Red.nil p) (by simp) (by simp) (HNR.out Wa Sa.1) HRR.out.red HRR.out.wd (by omega)) ?_ (fun c w' h => by obtain ⟨_, _, h, _⟩ := h; cases h) (fun w' h => by obtain ⟨_, _, h, _⟩ := h; cases h)
          rintro ec Wc ⟨uc, xc, hec, hgc, hbec, hxc⟩
          injection hec with hec
          subst hec
          have Sb : Below W4.heap.size W4 Wc ∧ Wc.cell? ⟨W4.heap.size, 5, none⟩ = some kv ∧ At Wc wx.heap.size 0 u := ⟨Sa.1.trans (hbec.mono Sa.1.size), later hbec (Nat.le_refl _) Sa.2.1, Sa.2.2.later hbec⟩
          have HTc := Lib.hid (HTa.out.next hbec)
          obtain rfl := rests_nil (by have := HP.out.lo; omega) HDM.out hxc
          have HGc := Lib.hid hgc
          refine ⟨Sb, ?_⟩
          obtain ⟨ab, nb, cb, hvb⟩ : ∃ a n c, ec = .slice a n c := by obtain ⟨a, cc, ee⟩ := HGc.out.shape; exact ⟨a, _, cc, ee⟩
          subst hvb
          have hbc : Below Wc.heap.size Wc (Wc.alloc (.cells #[.slice ab nb cb] 33)) := below_alloc1 _ _
          have Sc : Below W4.heap.size W4 (Wc.alloc (.cells #[.slice ab nb cb] 33)) ∧ (Wc.alloc (.cells #[.slice ab nb cb] 33)).cell? ⟨W4.heap.size, 5, none⟩ = some kv ∧ At (Wc.alloc (.cells #[.slice ab nb cb] 33)) wx.heap.size 0 u := ⟨Sb.1.trans (hbc.mono Sb.1.size), later hbc (Nat.le_refl _) Sb.2.1, Sb.2.2.later hbc⟩
          have HGd := Lib.hid ((HGc.out.next hbc (Nat.le_refl _)).wider (Nat.le_refl _) hbc.size)
          refine held_buildS (i := 9) (some 89) (by kernel_rfl) rfl rfl rfl (.tmp 88) ab nb cb rfl (by kernel_rfl) ⟨Sc, ?_⟩
          refine held_appendTq (i := 10) (some 90) (by kernel_rfl) rfl rfl rfl (.tmp 81) (.tmp 89) rfl W4.heap.size W4.heap.size p R.length C.length (tq3 iv jv kv) (tq3 (dcI p dn il R R) (rs.map (leadRow C)) ((dcI p en kl C R).take m)) I 2 (by omega) kv rfl (by kernel_rfl) HTa.out (hbec.trans (hbc.mono hbec.size)) Sa.1.size Wc.heap.size ab nb cb (by kernel_rfl) (cell_alloc1 Wc _ _) (leadRow R (dimg p en kl u)) HGd.out ?hlen ?_
          case hlen => show ((dcI p en kl C R).take m).length ≤ _; rw [HIL.out]; omega
          intro a9 n9 c9 W9 I9 hT9 hgr9 hcs9 hlo9 hat9
          have hbx := Sc.2.2.lt
          have S9 : Below W4.heap.size W4 W9 ∧ W9.cell? ⟨W4.heap.size, 5, none⟩ = some kv ∧ At W9 wx.heap.size 0 u := ⟨Sc.1.grown hgr9 Sc.1.size hlo9, by simp [World.cell?, hcs9, tq3], Sc.2.2.grown hgr9 (fun e => HOB.out 2 (by omega) _ e.symm rfl)⟩
          have hf9 : W9.frozen? ⟨W4.heap.size, 5, none⟩ = false := by simp [World.frozen?, hcs9]
          refine ⟨S9, ?_⟩
          refine held_take (i := 11) (v := .pointer (some ⟨W4.heap.size, 5, none⟩)) (some 91) rfl rfl (by kernel_rfl) (by kernel_rfl) (by kernel_rfl) (fun _ _ _ h => h) (yieldsIf_run (by kernel_rfl) (fun W _ => by kernel_rfl)) S9 ?_
          refine held_none (i := 12) (v := .bool false) rfl rfl (by kernel_rfl) (by kernel_rfl) (by kernel_rfl) (fun _ _ _ h => h) (yieldsIf_move (by kernel_rfl) rfl (by kernel_rfl)) S9 ?_
          refine wpAnyH_done (by kernel_rfl) (lastQ_storeTt rfl (by kernel_rfl) (by kernel_rfl) (.tmp 91) (.tmp 90) (by kernel_rfl) W4.heap.size 5 a9 n9 c9 kv (by kernel_rfl) (by kernel_rfl) S9.2.1 hf9 ?_) _
          simp only [Act.put, List.setIfInBounds_toArray, List.set_cons_zero, List.set_cons_succ]
          have HB9 : Hid (Below W4.heap.size W4 (W9.setCell ⟨W4.heap.size, 5, none⟩ (.slice a9 n9 c9))) := Lib.hid (S9.1.setCell (Nat.le_refl _) _)
          have HA9 : Hid (At (W9.setCell ⟨W4.heap.size, 5, none⟩ (.slice a9 n9 c9)) wx.heap.size 0 u) := Lib.hid (S9.2.2.setOther (by show W4.heap.size ≠ wx.heap.size; omega) _)
          have HT9 := Lib.hid hT9
          rw [tqu2, tqu2, show tq3 (dcI p dn il R R) (rs.map (leadRow C)) ((dcI p en kl C R).take m) 2 = (dcI p en kl C R).take m from rfl, ← HIK.out] at HT9
          clear S0 Sa Sb Sc S9 HTD HTa HTc HGc HGd hbea hbec hbc hgc hxc hT9 hgr9 hcs9 hlo9 hat9 hbx hf9 HIK HIL HDM HDW HOB HA9
          go_wp2
          go_roundw
          case rel => exact ⟨m + 1, _, _, by omega, by go_num, HB9, HT9⟩
          case measure => simp [intOf]; omega
        · have HKF : Hid ((dcI p en kl C R).take m = dcI p en kl C R) := Lib.hid (List.take_of_length_le (by unfold dcI; rw [List.length_map]; omega))
          rw [HKF.out] at HTR
          have HL3 : Hid (∀ a, a < 3 → (tq3 (dcI p dn il R R) (rs.map (leadRow C)) (dcI p en kl C R) a).length ≤ 1048576) := Lib.hid (fun a ha => by
            match a, ha with
            | 0, _ => show (dcI p dn il R R).length ≤ _; unfold dcI; rw [List.length_map]; omega
            | 1, _ => show (rs.map (leadRow C)).length ≤ _; rw [List.length_map, HJ.out.len]; omega
            | 2, _ => show (dcI p en kl C R).length ≤ _; unfold dcI; rw [List.length_map]; omega)
          have HRCP := Lib.hid (HTR.out.rc HL3.out)
          obtain ⟨_, _, hg0⟩ := HTR.out.ga 0 (by omega)
          obtain ⟨_, _, hg1⟩ := HTR.out.ga 1 (by omega)
          obtain ⟨_, _, hg2⟩ := HTR.out.ga 2 (by omega)
          obtain ⟨x1, y1, hv1⟩ := hg0.shape
          obtain ⟨x2, y2, hv2⟩ := hg1.shape
          obtain ⟨x3, y3, hv3⟩ := hg2.shape
          replace hv1 : iv = .slice x1 (dcI p dn il R R).length y1 := hv1
          replace hv2 : jv = .slice x2 (rs.map (leadRow C)).length y2 := hv2
          replace hv3 : kv = .slice x3 (dcI p en kl C R).length y3 := hv3
          clear hg0 hg1 hg2
          obtain ⟨n1, hn1⟩ : ∃ n, n = (dcI p dn il R R).length := ⟨_, rfl⟩
          obtain ⟨n2, hn2⟩ : ∃ n, n = (rs.map (leadRow C)).length := ⟨_, rfl⟩
          obtain ⟨n3, hn3⟩ : ∃ n, n = (dcI p en kl C R).length := ⟨_, rfl⟩
          have HN1 := Lib.hid hn1
          have HN2 := Lib.hid hn2
          have HN3 := Lib.hid hn3
          rw [← hn1] at hv1
          rw [← hn2] at hv2
          rw [← hn3] at hv3
          subst hv1 hv2 hv3
          clear hn1 hn2 hn3
          obtain ⟨z0, z1, z2, z3, z4, z5, hz⟩ := (HNZ.out wx HB.out).box.res
          have k0 : wx.cell? ⟨W4.heap.size, 0, none⟩ = some (.int .i64 p) := HTR.out.cell (i := 0) rfl
          have k1 : wx.cell? ⟨W4.heap.size, 1, none⟩ = some (.int .i64 (R.length : Int)) := HTR.out.cell (i := 1) rfl
          have k2 : wx.cell? ⟨W4.heap.size, 2, none⟩ = some (.int .i64 (C.length : Int)) := HTR.out.cell (i := 2) rfl
          have k3 : wx.cell? ⟨W4.heap.size, 3, none⟩ = some (.slice x1 n1 y1) := HTR.out.cell (i := 3) rfl
          have k4 : wx.cell? ⟨W4.heap.size, 4, none⟩ = some (.slice x2 n2 y2) := HTR.out.cell (i := 4) rfl
          have k5 : wx.cell? ⟨W4.heap.size, 5, none⟩ = some (.slice x3 n3 y3) := HTR.out.cell (i := 5) rfl
          have r0 : wx.cell? ⟨w.heap.size + 1, 0, none⟩ = some z0 := by simp [World.cell?, hz]
          have r1 : wx.cell? ⟨w.heap.size + 1, 1, none⟩ = some z1 := by simp [World.cell?, hz]
          have r2 : wx.cell? ⟨w.heap.size + 1, 2, none⟩ = some z2 := by simp [World.cell?, hz]
          have r3 : wx.cell? ⟨w.heap.size + 1, 3, none⟩ = some z3 := by simp [World.cell?, hz]
          have r4 : wx.cell? ⟨w.heap.size + 1, 4, none⟩ = some z4 := by simp [World.cell?, hz]
          have r5 : wx.cell? ⟨w.heap.size + 1, 5, none⟩ = some z5 := by simp [World.cell?, hz]
          have rf : ∀ o, wx.frozen? ⟨w.heap.size + 1, o, none⟩ = false := fun o => by simp [World.frozen?, hz]
          have hlz : w.heap.size + 1 < wx.heap.size := (Array.getElem?_eq_some_iff.1 hz).1
          have hlw : w.heap.size + 1 < W4.heap.size := by
            obtain ⟨q0, q1, q2, q3, q4, q5, hq⟩ := (HNZ.out W4 (Below.refl _ _)).box.res
            exact (Array.getElem?_eq_some_iff.1 hq).1
          have HBW := Lib.hid ((HNZ.out wx HB.out).box.box.below)
          clear hz HTR
          go_wp2
          refine bodyPost_ret (v := .agg #[.int .i64 p, .int .i64 (R.length : Int), .int .i64 (C.length : Int), .slice x1 n1 y1, .slice x2 n2 y2, .slice x3 n3 y3]) ?_ rfl ?_
          · simp only [results, HRES.out]
            go_simp
          · refine ⟨R.length, C.length, dcI p dn il R R, rs.map (leadRow C), dcI p en kl C R, _, rfl, ?_, ⟨x1, y1, x2, y2, x3, y3, by rw [HN1.out, HN2.out, HN3.out], ?_⟩, ⟨R, B, Y, C, tt, rs, HRR.out.red, HRR.out.eqv, HBR.out.red, by rw [← HDT.out]; exact HBR.out.eqv, by rw [← HDT.out]; exact HYS.out, HRT.out, HRL.out, HCR.out.red, HCR.out.eqv, HJ.out, rfl, rfl, rfl, rfl, rfl⟩⟩
            · exact ((((((HBW.out.setCell (by show w.heap.size ≤ w.heap.size + 1; omega) _).setCell (by show w.heap.size ≤ w.heap.size + 1; omega) _).setCell (by show w.heap.size ≤ w.heap.size + 1; omega) _).setCell (by show w.heap.size ≤ w.heap.size + 1; omega) _).setCell (by show w.heap.size ≤ w.heap.size + 1; omega) _).setCell (by show w.heap.size ≤ w.heap.size + 1; omega) _)
            · have h1 := HRCP.out
              have e0 : ∀ {α : Type} [Inhabited α] (a b c : α), tq3 a b c 0 = a := fun _ _ _ => rfl
              have e1 : ∀ {α : Type} [Inhabited α] (a b c : α), tq3 a b c 1 = b := fun _ _ _ => rfl
              have e2 : ∀ {α : Type} [Inhabited α] (a b c : α), tq3 a b c 2 = c := fun _ _ _ => rfl
              simp only [e0, e1, e2] at h1
              simp only
              rw [← HN1.out, ← HN2.out, ← HN3.out]
              refine ((((((h1.same (Same.set _ (Or.inl hlw))).same (Same.set _ (Or.inl hlw))).same (Same.set _ (Or.inl hlw))).same (Same.set _ (Or.inl hlw))).same (Same.set _ (Or.inl hlw))).same (Same.set _ (Or.inl hlw))).wider (by omega) (by simp)
end Go.Proofs.YtckkbojankfdfaaDoor


namespace Go.Proofs.YtckkbojankfdfaaDoor
open Go.RowKit

theorem set6_block {w : World} {g : Nat} {y0 y1 y2 y3 y4 y5 : Value} {t : TypeId} {fr : Nat × Nat} (h : w.heap[g]? = some (.cells #[y0, y1, y2, y3, y4, y5] t fr)) (x0 x1 x2 x3 x4 x5 : Value) :
    ((((((w.setCell ⟨g, 0, none⟩ x0).setCell ⟨g, 1, none⟩ x1).setCell ⟨g, 2, none⟩ x2).setCell ⟨g, 3, none⟩ x3).setCell ⟨g, 4, none⟩ x4).setCell ⟨g, 5, none⟩ x5).heap[g]? = some (.cells #[x0, x1, x2, x3, x4, x5] t fr) := by
  have b0 := set_block (i := 0) h x0
  have b1 := set_block (i := 1) b0 x1
  have b2 := set_block (i := 2) b1 x2
  have b3 := set_block (i := 3) b2 x3
  have b4 := set_block (i := 4) b3 x4
  have b5 := set_block (i := 5) b4 x5
  rw [b5]
  rfl
/-- A page in its box, and the place of the result. -/
structure FpB (w W : World) (p : Int) (dn en : Nat) (iv jv kv : Value) (il jl kl : List (List Int)) (fst : Prop) : Prop where
  below : Below w.heap.size w W
  box : W.heap[w.heap.size]? = some (.cells #[.int .i64 p, .int .i64 (dn : Int), .int .i64 (en : Int), iv, jv, kv] 26 (0, 0))
  res : ∃ x0 x1 x2 x3 x4 x5, W.heap[w.heap.size + 1]? = some (.cells #[x0, x1, x2, x3, x4, x5] 26 (0, 0))
  cx : Cp 0 W iv jv kv il jl kl
  rc : fst ∨ RcCp (w.heap.size + 2) W.heap.size W iv jv kv il jl kl
theorem FpB.lt {w W : World} {p : Int} {dn en : Nat} {iv jv kv : Value} {il jl kl : List (List Int)} {fst : Prop} (h : FpB w W p dn en iv jv kv il jl kl fst) : w.heap.size + 1 < W.heap.size := by
  obtain ⟨x0, x1, x2, x3, x4, x5, hr⟩ := h.res
  exact (Array.getElem?_eq_some_iff.1 hr).1
theorem FpB.next {w W W' : World} {p : Int} {dn en : Nat} {iv jv kv : Value} {il jl kl : List (List Int)} {fst : Prop} (h : FpB w W p dn en iv jv kv il jl kl fst) (hb : Below W.heap.size W W') : FpB w W' p dn en iv jv kv il jl kl fst := by
  have hl := h.lt
  obtain ⟨x0, x1, x2, x3, x4, x5, hr⟩ := h.res
  exact ⟨h.below.trans (hb.mono h.below.size), (hb.block _ (by omega)).trans h.box, ⟨x0, x1, x2, x3, x4, x5, (hb.block _ hl).trans hr⟩, h.cx.below hb, h.rc.imp id (fun r => (r.same (Same.of_below hb (Nat.le_refl _))).wider (Nat.le_refl _) hb.size)⟩
theorem FpB.cell {w W : World} {p : Int} {dn en : Nat} {iv jv kv : Value} {il jl kl : List (List Int)} {fst : Prop} (h : FpB w W p dn en iv jv kv il jl kl fst) {i : Nat} {x : Value} (hv : #[.int .i64 p, .int .i64 (dn : Int), .int .i64 (en : Int), iv, jv, kv][i]? = some x) : W.cell? ⟨w.heap.size, i, none⟩ = some x := by
  have h' := h.box
  simp [World.cell?, h', hv]
theorem FpB.frozen {w W : World} {p : Int} {dn en : Nat} {iv jv kv : Value} {il jl kl : List (List Int)} {fst : Prop} (h : FpB w W p dn en iv jv kv il jl kl fst) (i : Nat) : W.frozen? ⟨w.heap.size, i, none⟩ = false := by
  have h' := h.box
  simp [World.frozen?, h']
theorem FpB.start {w : World} {p : Int} {dn en : Nat} {iv jv kv : Value} {il jl kl : List (List Int)} {fst : Prop} (hf : fst) (h : Cp 0 w iv jv kv il jl kl) (x0 x1 x2 x3 x4 x5 : Value) :
    FpB w ((w.alloc (.cells #[.int .i64 p, .int .i64 (dn : Int), .int .i64 (en : Int), iv, jv, kv] 26)).alloc (.cells #[x0, x1, x2, x3, x4, x5] 26)) p dn en iv jv kv il jl kl fst := by
  have b1 := below_alloc1 w (.cells #[.int .i64 p, .int .i64 (dn : Int), .int .i64 (en : Int), iv, jv, kv] 26)
  have h1 := heap_alloc_new w (.cells #[.int .i64 p, .int .i64 (dn : Int), .int .i64 (en : Int), iv, jv, kv] 26)
  obtain ⟨w1, hw1⟩ : ∃ w1, w1 = w.alloc (.cells #[.int .i64 p, .int .i64 (dn : Int), .int .i64 (en : Int), iv, jv, kv] 26) := ⟨_, rfl⟩
  have s1 : w1.heap.size = w.heap.size + 1 := by rw [hw1]; simp
  rw [← hw1] at b1 h1 ⊢
  have b2 := below_alloc1 w1 (.cells #[x0, x1, x2, x3, x4, x5] 26)
  have h2 := heap_alloc_new w1 (.cells #[x0, x1, x2, x3, x4, x5] 26)
  rw [s1] at h2
  exact ⟨b1.trans (b2.mono b1.size), (b2.block _ (by omega)).trans h1, ⟨x0, x1, x2, x3, x4, x5, h2⟩, (h.below b1).below b2, Or.inl hf⟩
/-- The derived page in the box. -/
theorem FpB.put {w W W1 : World} {p : Int} {dn en d1 e1 : Nat} {iv jv kv x3 x4 x5 : Value} {il jl kl i1 j1 k1 : List (List Int)} {fst : Prop} (h : FpB w W p dn en iv jv kv il jl kl fst) (hb : Below W.heap.size W W1) (hr : RcCp W.heap.size W1.heap.size W1 x3 x4 x5 i1 j1 k1) (f' : Prop) :
    FpB w ((((((W1.setCell ⟨w.heap.size, 0, none⟩ (.int .i64 p)).setCell ⟨w.heap.size, 1, none⟩ (.int .i64 (d1 : Int))).setCell ⟨w.heap.size, 2, none⟩ (.int .i64 (e1 : Int))).setCell ⟨w.heap.size, 3, none⟩ x3).setCell ⟨w.heap.size, 4, none⟩ x4).setCell ⟨w.heap.size, 5, none⟩ x5) p d1 e1 x3 x4 x5 i1 j1 k1 f' := by
  have h1 := h.next hb
  have hl := h.lt
  have hS : ∀ o x (V : World), Same W.heap.size W1.heap.size V (V.setCell ⟨w.heap.size, o, none⟩ x) := fun o x V => Same.set x (Or.inl (by omega))
  have hr6 := (((((hr.same (hS 0 (.int .i64 p) _)).same (hS 1 (.int .i64 (d1 : Int)) _)).same (hS 2 (.int .i64 (e1 : Int)) _)).same (hS 3 x3 _)).same (hS 4 x4 _)).same (hS 5 x5 _)
  have hO : ∀ o x (V : World), (V.setCell ⟨w.heap.size, o, none⟩ x).heap[w.heap.size + 1]? = V.heap[w.heap.size + 1]? := fun o x V => Below.heap_setCell V ⟨w.heap.size, o, none⟩ x _ (by show w.heap.size + 1 ≠ w.heap.size; omega)
  refine ⟨((((((h1.below.setCell (Nat.le_refl _) _).setCell (Nat.le_refl _) _).setCell (Nat.le_refl _) _).setCell (Nat.le_refl _) _).setCell (Nat.le_refl _) _).setCell (Nat.le_refl _) _), set6_block h1.box _ _ _ _ _ _, ?_, hr6.cx, Or.inr (hr6.wider (by omega) (by simp))⟩
  obtain ⟨y0, y1, y2, y3, y4, y5, hy⟩ := h1.res
  exact ⟨y0, y1, y2, y3, y4, y5, by rw [hO, hO, hO, hO, hO, hO]; exact hy⟩
/-- The same without what the tables hold. -/
structure FpS (w W : World) (p : Int) (dn en : Nat) (iv jv kv : Value) (il jl kl : List (List Int)) (fst : Prop) : Prop where
  below : Below w.heap.size w W
  box : W.heap[w.heap.size]? = some (.cells #[.int .i64 p, .int .i64 (dn : Int), .int .i64 (en : Int), iv, jv, kv] 26 (0, 0))
  res : ∃ x0 x1 x2 x3 x4 x5, W.heap[w.heap.size + 1]? = some (.cells #[x0, x1, x2, x3, x4, x5] 26 (0, 0))
  rc : fst ∨ RcCp (w.heap.size + 2) W.heap.size W iv jv kv il jl kl
theorem FpB.s {w W : World} {p : Int} {dn en : Nat} {iv jv kv : Value} {il jl kl : List (List Int)} {fst : Prop} (h : FpB w W p dn en iv jv kv il jl kl fst) : FpS w W p dn en iv jv kv il jl kl fst := ⟨h.below, h.box, h.res, h.rc⟩
theorem FpS.cell {w W : World} {p : Int} {dn en : Nat} {iv jv kv : Value} {il jl kl : List (List Int)} {fst : Prop} (h : FpS w W p dn en iv jv kv il jl kl fst) {i : Nat} {x : Value} (hv : #[.int .i64 p, .int .i64 (dn : Int), .int .i64 (en : Int), iv, jv, kv][i]? = some x) : W.cell? ⟨w.heap.size, i, none⟩ = some x := by
  have h' := h.box
  simp [World.cell?, h', hv]
end Go.Proofs.YtckkbojankfdfaaDoor


namespace Go.Proofs.YtckkbojankfdfaaDoor
open Go.RowKit

theorem owns_offRowZ {w : World} {base n g : Nat} {e t : TypeId} {u : Value} {xs : List Value} {cs : Array Value} {fr : Nat × Nat} (ho : w.ownsRow base e 1 u n xs) (hg : w.heap[g]? = some (.cells cs t fr)) (h : t ≠ e) (x : Array Value) : (w.setRow g x).ownsRow base e 1 u n xs := by
  refine ⟨ho.1, ?_⟩
  rcases ho.2 with h2 | ⟨g2, cap, cur, hu, hb, hh, r⟩
  · exact Or.inl h2
  · refine Or.inr ⟨g2, cap, cur, hu, hb, ?_, r⟩
    rw [setRow_other w g g2 x (fun e2 => by
      subst e2
      rw [hg] at hh
      simp at hh
      exact h hh.2.1)]
    exact hh
section
variable {ops : Array Oper} {rest : List Oper} {Q : Exit → Act → World → Prop}
/-- append of one number to a row that the call gathers; where the row lies then. -/
theorem wpList_appendTz {o : Oper} {a : Act} {w : World} (hgd : o.guard = none) (dst : Option Tmp) (hdst : o.dst = dst) (s x : Operand)
    (ho : o.op = .call { callee := .builtin .append, args := #[s, x], argTypes := #[33, 33] }) (base : Nat) (v : Value) (xs : List Int) (hs : a.eval s = v) (b cap : Nat) (z : Int) (hx : a.eval x = .slice (some ⟨b, 0, none⟩) 1 cap) (hown : Gb base w v xs) (hc : w.cell? ⟨b, 0, none⟩ = some (.int .i64 z))
    (hl : xs.length ≤ 2097152) (hb : base ≤ w.heap.size)
    (h : ∀ v' w', Gb base w' v' (xs ++ [z]) → w.grownBy w' v.ownBlock → (v'.ownBlock = v.ownBlock ∨ v'.ownBlock = some w.heap.size) → wpList Tryd.prog ops Q rest (a.put dst v') w') : wpList Tryd.prog ops Q (o :: rest) a w := by
  obtain ⟨i, hi, hz, hs1, hb1⟩ := info_parts Tryd.infoI
  subst hdst
  refine wpList_append_own_at w hgd s x 33 ho base 2 i _ 1 8 Tryd.underlying33 hi hz hs1 hb1 rfl (by decide) v xs.length (xs.map (Value.int .i64)) hs hown ⟨b, 0, none⟩ 1 cap [.int .i64 z] hx (by simp) ?_ ?_ (by unfold maxLen; omega) (by omega) hb (fun v' w' h1 h2 _ h4 => h v' w' ?_ h2 h4)
  · intro j y hj
    have hj' : j = 0 := by have := (List.getElem?_eq_some_iff.1 hj).1; simpa using this
    subst hj'
    simp only [List.getElem?_cons_zero, Option.some.injEq] at hj
    rw [← hj]
    exact hc
  · intro u hu
    simp only [List.mem_singleton] at hu
    rw [hu]
    rfl
  · unfold Gb
    simpa using h1
end
/-- All that lay there lies as it lay, but a box and the row of what stands in it. -/
structure KeepZ (b : Nat) (o : Option Nat) (w w' : World) : Prop where
  os : w'.os = w.os
  tape : w'.tape = w.tape
  output : w'.output = w.output
  size : w.heap.size ≤ w'.heap.size
  block : ∀ k, k < w.heap.size → k ≠ b → o ≠ some k → w'.heap[k]? = w.heap[k]?
/-- The box of the sizes. -/
structure BxZ (base b : Nat) (w : World) (sv : Value) (xs : List Int) : Prop where
  box : w.heap[b]? = some (.cells #[sv] 33 (0, 0))
  own : Gb base w sv xs
theorem BxZ.next {base b : Nat} {w w' : World} {sv : Value} {xs : List Int} (h : BxZ base b w sv xs) (hb : Below w.heap.size w w') : BxZ base b w' sv xs :=
  ⟨(hb.block b (Array.getElem?_eq_some_iff.1 h.box).1).trans h.box, h.own.below hb⟩
def PzR (base b : Nat) (sv : Value) (xs : List Int) (P : Prop) (z : Int) (w : World) (e : Ending) (w' : World) : Prop :=
  ∃ (c : Bool) (sv' : Value), e = .returned (.bool c) ∧ (c = true ↔ P) ∧ KeepZ b sv.ownBlock w w' ∧ BxZ base b w' sv' (xs ++ [z]) ∧ (sv'.ownBlock = sv.ownBlock ∨ ∃ g, sv'.ownBlock = some g ∧ w.heap.size ≤ g)

set_option maxHeartbeats 1600000 in
set_option maxRecDepth 100000 in
theorem pageSizes1_any (base b bn : Nat) (n r p d e : Int) (iv jv kv sv : Value) (xs : List Int) (w : World) (hx : BxZ base b w sv xs) (hn : w.cell? ⟨bn, 0, none⟩ = some (.int .i64 n)) (hbn : bn ≠ b ∧ sv.ownBlock ≠ some bn) (hbw : base ≤ w.heap.size) (hl : xs.length ≤ 1000) :
    Calls Tryd.prog 33 #[.int .i64 r, .agg #[.int .i64 p, .int .i64 d, .int .i64 e, iv, jv, kv], .pointer (some ⟨b, 0, none⟩), .pointer (some ⟨bn, 0, none⟩)] w (PzR base b sv xs (r = n) e w) := by
  obtain ⟨w1, hw1⟩ : ∃ w1, w1 = w.alloc (.cells #[.int .i64 p, .int .i64 d, .int .i64 e, iv, jv, kv] 26) := ⟨_, rfl⟩
  have hb1 : Below w.heap.size w w1 := by rw [hw1]; exact below_alloc1 _ _
  have k2 : w1.cell? ⟨w.heap.size, 2, none⟩ = some (.int .i64 e) := by rw [hw1]; simp
  have HX1 := Lib.hid (hx.next hb1)
  have HN1 := Lib.hid (later hb1 (Nat.le_refl _) hn)
  have HB1 := Lib.hid hb1
  obtain ⟨sa, sc, hsv⟩ := Sl.shape HX1.out.own.g1.l1
  have HBN := Lib.hid hbn
  obtain ⟨m, hm⟩ : ∃ m, m = xs.length := ⟨_, rfl⟩
  rw [← hm] at hsv
  have HSV := Lib.hid hsv
  have HM := Lib.hid hm
  subst hsv
  have hbox1 := HX1.out.box
  have q0 : w1.cell? ⟨b, 0, none⟩ = some (.slice sa m sc) := by simp [World.cell?, hbox1]
  have hs1 : w.heap.size ≤ w1.heap.size := hb1.size
  have HBW : Hid (base ≤ w1.heap.size) := Lib.hid (by omega)
  clear hx hn hbn hb1 hbox1 hm
  go_enter Tryd.func33, Tryd.ntmps33
  go_upto_region 1 with fail
  rw [← hw1]
  clear hw1
  have hba : Below w1.heap.size w1 (w1.alloc (.cells #[.int .i64 e] 2)) := below_alloc1 _ _
  have HX2 := Lib.hid (HX1.out.next hba)
  have HN2 := Lib.hid (later hba (Nat.le_refl _) HN1.out)
  have hcell : (w1.alloc (.cells #[.int .i64 e] 2)).cell? ⟨w1.heap.size, 0, none⟩ = some (.int .i64 e) := by simp
  have hsz : w1.heap.size ≤ (w1.alloc (.cells #[.int .i64 e] 2)).heap.size := hba.size
  have HKA := Lib.hid hba
  clear hba
  go_wp2_with (at_builtin; refine wpList_appendTz rfl (some 11) rfl (.tmp 7) (.tmp 10) rfl base _ xs rfl w1.heap.size 1 e rfl HX2.out.own hcell ?c1 ?c2 ?_)
  case c1 => omega
  case c2 => first | exact Nat.le_trans HBW.out hsz | (have := HBW.out; omega)
  intro v9 W9 hg9 hgr9 hat9
  have hne : (Value.slice sa m sc).ownBlock ≠ some b := own_ne HX2.out.own HX2.out.box (by decide)
  have hbox9 : W9.heap[b]? = some (.cells #[.slice sa m sc] 33 (0, 0)) := (hgr9.block b (Array.getElem?_eq_some_iff.1 HX2.out.box).1 (fun e => hne e.symm)).trans HX2.out.box
  obtain ⟨ta, tc, htv⟩ := Sl.shape hg9.g1.l1
  obtain ⟨m9, hm9⟩ : ∃ m9, m9 = (xs ++ [e]).length := ⟨_, rfl⟩
  rw [← hm9] at htv
  subst htv
  have hne9 : (Value.slice ta m9 tc).ownBlock ≠ some b := own_ne hg9 hbox9 (by decide)
  have HX9 : Hid (BxZ base b (W9.setCell ⟨b, 0, none⟩ (.slice ta m9 tc)) (.slice ta m9 tc) (xs ++ [e])) := Lib.hid ⟨by rw [set_block (i := 0) hbox9]; rfl, ownsRow_setCell_other hg9 hne9 _⟩
  have hbl : bn < W9.heap.size := Nat.lt_of_lt_of_le (cell_lt HN2.out) hgr9.size
  have hn9 : W9.cell? ⟨bn, 0, none⟩ = some (.int .i64 n) := (World.cell?_of_block (w := w1.alloc (.cells #[.int .i64 e] 2)) (a := ⟨bn, 0, none⟩) (hgr9.block bn (cell_lt HN2.out) (fun h => HBN.out.2 h.symm))).trans HN2.out
  have hn10 : (W9.setCell ⟨b, 0, none⟩ (.slice ta m9 tc)).cell? ⟨bn, 0, none⟩ = some (.int .i64 n) := by
    rw [World.cell?_setCell_other _ _ _ _ (fun hh => HBN.out.1 (congrArg Addr.block hh).symm)]
    exact hn9
  have HKZ : Hid (KeepZ b (Value.slice sa m sc).ownBlock w (W9.setCell ⟨b, 0, none⟩ (.slice ta m9 tc))) := Lib.hid (by
    have h1 := HB1.out
    have h2 := HKA.out
    refine ⟨(hgr9.os.trans h2.os).trans h1.os, (hgr9.tape.trans h2.tape).trans h1.tape, (hgr9.output.trans h2.output).trans h1.output, by have h9 := Nat.le_trans (Nat.le_trans hs1 hsz) hgr9.size; simpa using h9, fun k hk hkb hko => ?_⟩
    rw [Below.heap_setCell W9 ⟨b, 0, none⟩ _ k hkb, hgr9.block k (Nat.lt_of_lt_of_le hk (Nat.le_trans hs1 hsz)) (fun e => hko e.symm), h2.block k (by omega), h1.block k hk])
  have HAT : Hid ((Value.slice ta m9 tc).ownBlock = (Value.slice sa m sc).ownBlock ∨ ∃ g, (Value.slice ta m9 tc).ownBlock = some g ∧ w.heap.size ≤ g) := Lib.hid (hat9.imp id (fun h => ⟨_, h, by first | omega | exact Nat.le_trans hs1 hsz⟩))
  have r0 : W9.cell? ⟨b, 0, none⟩ = some (.slice sa m sc) := by simp [World.cell?, hbox9]
  have hf : W9.frozen? ⟨b, 0, none⟩ = false := by simp [World.frozen?, hbox9]
  clear hg9 hgr9 hat9 hne hbox9 hne9 hbl hcell hsz hm9 hs1 HX1 HX2 HN1 HN2 HKA HB1 HBW k2 q0
  by_cases hrn : r = n
  · subst hrn
    go_wp2
    go_ret
    exact ⟨true, _, by simp, by simp, HKZ.out, HX9.out, HAT.out⟩
  · have hrf : (r == n) = false := by simp [hrn]
    go_wp2
    go_ret
    exact ⟨false, _, by simp [hrn], by simp [hrn], HKZ.out, HX9.out, HAT.out⟩
end Go.Proofs.YtckkbojankfdfaaDoor


namespace Go.Proofs.YtckkbojankfdfaaDoor
open Go.RowKit

theorem hload6b (W : World) {b : Nat} {p d e : Int} {iv jv kv : Value} {t : TypeId} {fr : Nat × Nat} (h : W.heap[b]? = some (.cells #[.int .i64 p, .int .i64 d, .int .i64 e, iv, jv, kv] t fr)) : (Instr.loadAt 26 (.pointer (some ⟨b, 0, none⟩))).run Tryd.prog W = .ok (.agg #[.int .i64 p, .int .i64 d, .int .i64 e, iv, jv, kv]) W :=
  hload6 W (by simp [World.cell?, h]) (by simp [World.cell?, h]) (by simp [World.cell?, h]) (by simp [World.cell?, h]) (by simp [World.cell?, h]) (by simp [World.cell?, h])
/-- A page in its box beside the box of the sizes; its tables stand still. -/
structure FzB (w W : World) (b : Nat) (p : Int) (dn en : Nat) (iv jv kv sv : Value) (il jl kl : List (List Int)) (xs : List Int) : Prop where
  below : Below b w W
  size : w.heap.size ≤ W.heap.size
  box : W.heap[w.heap.size]? = some (.cells #[.int .i64 p, .int .i64 (dn : Int), .int .i64 (en : Int), iv, jv, kv] 26 (0, 0))
  res : ∃ x0 x1 x2 x3 x4 x5, W.heap[w.heap.size + 1]? = some (.cells #[x0, x1, x2, x3, x4, x5] 26 (0, 0))
  sz : BxZ w.heap.size b W sv xs
  cx : (∀ W', Below b w W' → Cp 0 W' iv jv kv il jl kl) ∨ ∃ lo hi, RcCp lo hi W iv jv kv il jl kl ∧ w.heap.size + 2 ≤ lo ∧ hi ≤ W.heap.size ∧ ∀ g, sv.ownBlock = some g → g < lo ∨ hi ≤ g
theorem FzB.lt {w W : World} {b : Nat} {p : Int} {dn en : Nat} {iv jv kv sv : Value} {il jl kl : List (List Int)} {xs : List Int} (h : FzB w W b p dn en iv jv kv sv il jl kl xs) : w.heap.size + 1 < W.heap.size := by
  obtain ⟨x0, x1, x2, x3, x4, x5, hr⟩ := h.res
  exact (Array.getElem?_eq_some_iff.1 hr).1
theorem FzB.cp {w W : World} {b : Nat} {p : Int} {dn en : Nat} {iv jv kv sv : Value} {il jl kl : List (List Int)} {xs : List Int} (h : FzB w W b p dn en iv jv kv sv il jl kl xs) : Cp 0 W iv jv kv il jl kl := by
  rcases h.cx with h1 | ⟨lo, hi, h1, _⟩
  · exact h1 W h.below
  · exact h1.cx
theorem FzB.cell {w W : World} {b : Nat} {p : Int} {dn en : Nat} {iv jv kv sv : Value} {il jl kl : List (List Int)} {xs : List Int} (h : FzB w W b p dn en iv jv kv sv il jl kl xs) {i : Nat} {x : Value} (hv : #[.int .i64 p, .int .i64 (dn : Int), .int .i64 (en : Int), iv, jv, kv][i]? = some x) : W.cell? ⟨w.heap.size, i, none⟩ = some x := by
  have h' := h.box
  simp [World.cell?, h', hv]
theorem FzB.frozen {w W : World} {b : Nat} {p : Int} {dn en : Nat} {iv jv kv sv : Value} {il jl kl : List (List Int)} {xs : List Int} (h : FzB w W b p dn en iv jv kv sv il jl kl xs) (i : Nat) : W.frozen? ⟨w.heap.size, i, none⟩ = false := by
  have h' := h.box
  simp [World.frozen?, h']
theorem FzB.next {w W W' : World} {b : Nat} {p : Int} {dn en : Nat} {iv jv kv sv : Value} {il jl kl : List (List Int)} {xs : List Int} (h : FzB w W b p dn en iv jv kv sv il jl kl xs) (hb : Below W.heap.size W W') : FzB w W' b p dn en iv jv kv sv il jl kl xs := by
  have hl := h.lt
  have hbb : b < W.heap.size := (Array.getElem?_eq_some_iff.1 h.sz.box).1
  obtain ⟨x0, x1, x2, x3, x4, x5, hr⟩ := h.res
  refine ⟨h.below.trans (hb.mono (Nat.le_of_lt hbb)), Nat.le_trans h.size hb.size, (hb.block _ (by omega)).trans h.box, ⟨x0, x1, x2, x3, x4, x5, (hb.block _ hl).trans hr⟩, h.sz.next hb, h.cx.imp id (fun ⟨lo, hi, h1, h2, h3, h4⟩ => ⟨lo, hi, h1.same (Same.of_below hb h3), h2, Nat.le_trans h3 hb.size, h4⟩)⟩
/-- The predicate has gathered one size more. -/
theorem FzB.asked {w W W' : World} {b : Nat} {p : Int} {dn en : Nat} {iv jv kv sv sv' : Value} {il jl kl : List (List Int)} {xs : List Int} {z : Int} (hbw : b < w.heap.size) (h : FzB w W b p dn en iv jv kv sv il jl kl xs) (hk : KeepZ b sv.ownBlock W W') (hs : BxZ w.heap.size b W' sv' (xs ++ [z])) (hat : sv'.ownBlock = sv.ownBlock ∨ ∃ g, sv'.ownBlock = some g ∧ W.heap.size ≤ g) :
    FzB w W' b p dn en iv jv kv sv' il jl kl (xs ++ [z]) := by
  have hl := h.lt
  obtain ⟨x0, x1, x2, x3, x4, x5, hr⟩ := h.res
  have hlow : ∀ k, sv.ownBlock = some k → w.heap.size ≤ k := fun k hk' => ((World.ownsRow.lt h.sz.own) k hk').1
  have hn0 : sv.ownBlock ≠ some w.heap.size := own_ne h.sz.own h.box (by decide)
  have hn1 : sv.ownBlock ≠ some (w.heap.size + 1) := own_ne h.sz.own hr (by decide)
  refine ⟨⟨hk.os.trans h.below.os, hk.tape.trans h.below.tape, hk.output.trans h.below.output, Nat.le_trans h.below.size hk.size, fun k hkb => ?_⟩, Nat.le_trans h.size hk.size, (hk.block _ (by omega) (by omega) hn0).trans h.box, ⟨x0, x1, x2, x3, x4, x5, (hk.block _ hl (by omega) hn1).trans hr⟩, hs, h.cx.imp id (fun ⟨lo, hi, h1, h2, h3, h4⟩ => ⟨lo, hi, h1.same (fun k hlo hhi => hk.block k (by omega) (by omega) (fun e => by have := h4 k e; omega)), h2, Nat.le_trans h3 hk.size, fun g hg => ?_⟩)⟩
  · rw [hk.block k (by have := h.size; omega) (by omega) (fun e => by have := hlow k e; omega)]
    exact h.below.block k hkb
  · rcases hat with e | ⟨g2, e, hg2⟩
    · exact h4 g (by rw [← e]; exact hg)
    · rw [e] at hg
      injection hg with hg
      omega
theorem FzB.start {w : World} {b : Nat} {p : Int} {dn en : Nat} {iv jv kv sv : Value} {il jl kl : List (List Int)} {xs : List Int} (hbw : b < w.heap.size) (hc : ∀ W', Below b w W' → Cp 0 W' iv jv kv il jl kl) (hs : BxZ w.heap.size b w sv xs) (x0 x1 x2 x3 x4 x5 : Value) :
    FzB w ((w.alloc (.cells #[.int .i64 p, .int .i64 (dn : Int), .int .i64 (en : Int), iv, jv, kv] 26)).alloc (.cells #[x0, x1, x2, x3, x4, x5] 26)) b p dn en iv jv kv sv il jl kl xs := by
  have h0 : Below b w w := Below.refl _ _
  have hcp := hc w h0
  have hF := FpB.start (w := w) (p := p) (dn := dn) (en := en) (fst := True) trivial hcp x0 x1 x2 x3 x4 x5
  exact ⟨hF.below.mono (Nat.le_of_lt hbw), hF.below.size, hF.box, hF.res, hs.next hF.below, Or.inl hc⟩
/-- The derived page in the box. -/
theorem FzB.put {w W W1 : World} {b : Nat} {p : Int} {dn en d1 e1 : Nat} {iv jv kv sv x3 x4 x5 : Value} {il jl kl i1 j1 k1 : List (List Int)} {xs : List Int} (hbw : b < w.heap.size) (h : FzB w W b p dn en iv jv kv sv il jl kl xs) (hb : Below W.heap.size W W1) (hr : RcCp W.heap.size W1.heap.size W1 x3 x4 x5 i1 j1 k1) :
    FzB w ((((((W1.setCell ⟨w.heap.size, 0, none⟩ (.int .i64 p)).setCell ⟨w.heap.size, 1, none⟩ (.int .i64 (d1 : Int))).setCell ⟨w.heap.size, 2, none⟩ (.int .i64 (e1 : Int))).setCell ⟨w.heap.size, 3, none⟩ x3).setCell ⟨w.heap.size, 4, none⟩ x4).setCell ⟨w.heap.size, 5, none⟩ x5) b p d1 e1 x3 x4 x5 sv i1 j1 k1 xs := by
  have h1 := h.next hb
  have hl := h.lt
  have hS : ∀ o x (V : World), Same W.heap.size W1.heap.size V (V.setCell ⟨w.heap.size, o, none⟩ x) := fun o x V => Same.set x (Or.inl (by omega))
  have hr6 := (((((hr.same (hS 0 (.int .i64 p) _)).same (hS 1 (.int .i64 (d1 : Int)) _)).same (hS 2 (.int .i64 (e1 : Int)) _)).same (hS 3 x3 _)).same (hS 4 x4 _)).same (hS 5 x5 _)
  have hO : ∀ k o x (V : World), k ≠ w.heap.size → (V.setCell ⟨w.heap.size, o, none⟩ x).heap[k]? = V.heap[k]? := fun k o x V hk => Below.heap_setCell V ⟨w.heap.size, o, none⟩ x _ hk
  obtain ⟨y0, y1, y2, y3, y4, y5, hy⟩ := h1.res
  have hown : sv.ownBlock ≠ some w.heap.size := own_ne h1.sz.own h1.box (by decide)
  have hlow : ∀ k, sv.ownBlock = some k → k < W.heap.size := fun k hk' => ((World.ownsRow.lt h.sz.own) k hk').2
  refine ⟨((((((h1.below.setCell (by show b ≤ w.heap.size; omega) _).setCell (by show b ≤ w.heap.size; omega) _).setCell (by show b ≤ w.heap.size; omega) _).setCell (by show b ≤ w.heap.size; omega) _).setCell (by show b ≤ w.heap.size; omega) _).setCell (by show b ≤ w.heap.size; omega) _), by simpa using h1.size, set6_block h1.box _ _ _ _ _ _,
    ⟨y0, y1, y2, y3, y4, y5, by rw [hO _ _ _ _ (by omega), hO _ _ _ _ (by omega), hO _ _ _ _ (by omega), hO _ _ _ _ (by omega), hO _ _ _ _ (by omega), hO _ _ _ _ (by omega)]; exact hy⟩,
    ⟨by rw [hO _ _ _ _ (by omega), hO _ _ _ _ (by omega), hO _ _ _ _ (by omega), hO _ _ _ _ (by omega), hO _ _ _ _ (by omega), hO _ _ _ _ (by omega)]; exact h1.sz.box,
      ownsRow_setCell_other (ownsRow_setCell_other (ownsRow_setCell_other (ownsRow_setCell_other (ownsRow_setCell_other (ownsRow_setCell_other h1.sz.own hown _) hown _) hown _) hown _) hown _) hown _⟩,
    Or.inr ⟨W.heap.size, W1.heap.size, hr6, by omega, by simp, fun g hg => Or.inl (hlow g hg)⟩⟩
/-- What firstPage leaves behind for PageSizes. -/
def FzR (b : Nat) (n : Nat) (o : CpO) (w : World) (e : Ending) (w' : World) : Prop :=
  ∃ (r : Int) (u sv : Value) (xs : List Int), e = .returned (.tuple #[.int .i64 r, u]) ∧ Below b w w' ∧ BxZ w.heap.size b w' sv xs ∧ Psz n o xs

set_option maxHeartbeats 6400000 in
set_option maxRecDepth 100000 in
theorem firstPageZ_any (n b bn : Nat) (p : Int) (dn en : Nat) (iv jv kv : Value) (il jl kl : List (List Int)) (w : World) (h : ∀ W', Below b w W' → Cp 0 W' iv jv kv il jl kl) (hg : CpG (p, ((dn : Nat) : Int), ((en : Nat) : Int), il, jl, kl)) (hbw : b < w.heap.size) (hbn : bn < b) (hsz : BxZ w.heap.size b w (.slice none 0 0) []) (hn : w.cell? ⟨bn, 0, none⟩ = some (.int .i64 n)) (hn1 : 1 ≤ n) (hN : n ≤ 12) :
    Calls Tryd.prog 26 #[.agg #[.int .i64 p, .int .i64 (dn : Int), .int .i64 (en : Int), iv, jv, kv], .func (.func 33) #[] #[.pointer (some ⟨b, 0, none⟩), .pointer (some ⟨bn, 0, none⟩)]] w (FzR b n (p, ((dn : Nat) : Int), ((en : Nat) : Int), il, jl, kl) w) := by
  obtain ⟨⟨ai, ci, rfl⟩, ⟨aj, cj, rfl⟩, ⟨ak, ck, rfl⟩⟩ := (h w (Below.refl _ _)).shapes
  have hres : Tryd.f26.results = #[.tmp 4, .cell 5 26] := by kernel_rfl
  have HRES := Lib.hid hres
  have HH := Lib.hid h
  have HG := Lib.hid hg
  have HSZ := Lib.hid hsz
  have HNC : Hid (∀ W', Below b w W' → W'.cell? ⟨bn, 0, none⟩ = some (.int .i64 n)) := Lib.hid (fun W' hb => (World.cell?_of_block (w := w) (a := ⟨bn, 0, none⟩) (hb.block bn hbn)).trans hn)
  obtain ⟨o, ho⟩ : ∃ o : CpO, o = (p, ((dn : Nat) : Int), ((en : Nat) : Int), il, jl, kl) := ⟨_, rfl⟩
  have HON := Lib.hid ho
  rw [← ho]
  have HW : Hid (∀ (r : Int) (dn en : Nat) (iv jv kv sv : Value) (il jl kl : List (List Int)) (xs : List Int) (W : World), FzB w W b p dn en iv jv kv sv il jl kl xs → xs.length ≤ 1000 → Calls Tryd.prog 33 #[.int .i64 r, .agg #[.int .i64 p, .int .i64 (dn : Int), .int .i64 (en : Int), iv, jv, kv], .pointer (some ⟨b, 0, none⟩), .pointer (some ⟨bn, 0, none⟩)] W (PzR w.heap.size b sv xs (r = n) (en : Int) W)) := Lib.hid (fun r dn en iv jv kv sv il jl kl xs W hW hl => pageSizes1_any w.heap.size b bn n r p dn en iv jv kv sv xs W hW.sz (HNC.out W hW.below) ⟨by omega, fun e => by have := ((World.ownsRow.lt hW.sz.own) bn e).1; omega⟩ hW.size hl)
  clear h hg hres ho hsz hn
  go_enter Tryd.func26, Tryd.ntmps26
  go_upto_region 1 with fail
  refine forget_wp (fun W => FzB w W b p dn en (.slice ai il.length ci) (.slice aj jl.length cj) (.slice ak kl.length ck) (.slice none 0 0) il jl kl []) (FzB.start hbw HH.out HSZ.out _ _ _ _ _ _) ?_
  intro W hx
  have HX := Lib.hid hx
  clear hx HH HSZ
  go_wp2
  refine wp_scope_jumps 0 (fun a' w' => ∃ (r : Int) (dx ex : Nat) (ix jx kx sx : Value) (il' jl' kl' : List (List Int)) (xs : List Int) (u7 u8 u9 u10 u11 u12 u13 u14 u15 u16 : Value), a' = { tmps := #[.agg #[.int .i64 p, .int .i64 (dn : Int), .int .i64 (en : Int), .slice ai il.length ci, .slice aj jl.length cj, .slice ak kl.length ck], .func (.func 33) #[] #[.pointer (some ⟨b, 0, none⟩), .pointer (some ⟨bn, 0, none⟩)], .pointer (some ⟨w.heap.size, 0, none⟩), undef, .int .i64 0, .pointer (some ⟨w.heap.size + 1, 0, none⟩), .int .i64 r, u7, u8, u9, u10, u11, u12, u13, u14, u15, u16], defers := [] } ∧ Hid (FzB w w' b p dx ex ix jx kx sx il' jl' kl' xs) ∧ Hid (CpG (p, (dx : Int), (ex : Int), il', jl', kl')) ∧ (1 ≤ r ∧ r ≤ n ∧ r = xs.length + 1) ∧ Hid (∀ m ys, Psz m (p, (dx : Int), (ex : Int), il', jl', kl') ys → Psz (xs.length + m) o (xs ++ ys))) (fun a' _ => ((n : Int) - intOf (a'.tmps.getD 6 undef)).toNat) rfl ?_ ?_
  · have hr1 : (1 : Int) ≤ 1 ∧ (1 : Int) ≤ n ∧ (1 : Int) = ([] : List Int).length + 1 := ⟨by omega, by omega, by simp⟩
    have HF : Hid (∀ m ys, Psz m (p, ((dn : Nat) : Int), ((en : Nat) : Int), il, jl, kl) ys → Psz (([] : List Int).length + m) o ([] ++ ys)) := Lib.hid (fun m ys h => by rw [HON.out]; simpa using h)
    have c0 := HX.out.cell (i := 0) rfl
    have c1 := HX.out.cell (i := 1) rfl
    have c2 := HX.out.cell (i := 2) rfl
    have c3 := HX.out.cell (i := 3) rfl
    have c4 := HX.out.cell (i := 4) rfl
    have c5 := HX.out.cell (i := 5) rfl
    have HWW := Lib.hid (HW.out (1 : Int) dn en _ _ _ _ il jl kl ([] : List Int) _ HX.out (by first | simp | omega))
    have HR1 := Lib.hid hr1
    clear hr1
    go_wp2
    go_step3
    go_wp2_with fail
    refine HWW.out.mono ?_
    rintro e W2 ⟨b2, sv2, rfl, hbw2, hkz, hbx, hat⟩
    have HX2 := Lib.hid (HX.out.asked hbw hkz hbx hat)
    have HBW := Lib.hid hbw2
    clear hbw2 hkz hbx hat HWW c0 c1 c2 c3 c4 c5
    cases b2 with
    | true =>
      have HFP : Hid (Psz n o (([] : List Int) ++ [(en : Int)])) := Lib.hid (by
        have h1 := HF.out 1 [(en : Int)] Psz.last
        have h2 := HBW.out.1 rfl
        have h3 := HR1.out.2.2
        rwa [show ([] : List Int).length + 1 = n by first | omega | (simp at *; omega)] at h1)
      go_wp2
      have HSX : Hid (∀ W', FzB w W' b p dn en (.slice ai il.length ci) (.slice aj jl.length cj) (.slice ak kl.length ck) sv2 il jl kl (([] : List Int) ++ [(en : Int)]) → (Instr.loadAt 26 (.pointer (some ⟨w.heap.size, 0, none⟩))).run Tryd.prog W' = .ok (.agg #[.int .i64 p, .int .i64 (dn : Int), .int .i64 (en : Int), .slice ai il.length ci, .slice aj jl.length cj, .slice ak kl.length ck]) W') := Lib.hid (fun W' h => hload6 W' (h.cell (i := 0) rfl) (h.cell (i := 1) rfl) (h.cell (i := 2) rfl) (h.cell (i := 3) rfl) (h.cell (i := 4) rfl) (h.cell (i := 5) rfl))
      refine wp_region_held (S := fun W' => W'.heap[w.heap.size]? = some (.cells #[.int .i64 p, .int .i64 (dn : Int), .int .i64 (en : Int), .slice ai il.length ci, .slice aj jl.length cj, .slice ak kl.length ck] 26 (0, 0))) (by kernel_rfl) ?_
      have HD2 := Lib.hid (HX2.out.next (Below.refl W2.heap.size W2).drew)
      have S0 := HD2.out.box
      change wpAnyH _ _ _ _ _ _ _ _ W2.drew
      generalize W2.drew = wd at *
      refine held_take (i := 0) (v := .int .i64 (1 : Int)) (some 11) rfl rfl (by kernel_rfl) (by kernel_rfl) (by kernel_rfl) (fun _ _ _ h => h) (yieldsIf_move (by kernel_rfl) rfl (by kernel_rfl)) S0 ?_
      refine held_take (i := 1) (v := .agg #[.int .i64 p, .int .i64 (dn : Int), .int .i64 (en : Int), .slice ai il.length ci, .slice aj jl.length cj, .slice ak kl.length ck]) (some 12) rfl rfl (by kernel_rfl) (by kernel_rfl) (by kernel_rfl) (fun _ _ _ h => h) (yieldsIf_cell (by kernel_rfl) rfl (by kernel_rfl) (fun W' h => hload6b W' h)) S0 ?_
      refine held_take (i := 2) (v := .int .i64 (1 : Int)) (some 4) rfl rfl (by kernel_rfl) (by kernel_rfl) (by kernel_rfl) (fun _ _ _ h => h) (yieldsIf_assign (by kernel_rfl) rfl (by kernel_rfl)) S0 ?_
      obtain ⟨z0, z1, z2, z3, z4, z5, hz⟩ := HD2.out.res
      have hz5 := setRow_heap wd (w.heap.size + 1) _ #[.int .i64 p, .int .i64 (dn : Int), .int .i64 (en : Int), .slice ai il.length ci, .slice aj jl.length cj, .slice ak kl.length ck] 26 _ hz
      have SB : (wd.setRow (w.heap.size + 1) #[.int .i64 p, .int .i64 (dn : Int), .int .i64 (en : Int), .slice ai il.length ci, .slice aj jl.length cj, .slice ak kl.length ck]).heap[w.heap.size]? = some (.cells #[.int .i64 p, .int .i64 (dn : Int), .int .i64 (en : Int), .slice ai il.length ci, .slice aj jl.length cj, .slice ak kl.length ck] 26 (0, 0)) := (setRow_other wd _ _ _ (by omega)).trans S0
      have HB5 : Hid (Below b w (wd.setRow (w.heap.size + 1) #[.int .i64 p, .int .i64 (dn : Int), .int .i64 (en : Int), .slice ai il.length ci, .slice aj jl.length cj, .slice ak kl.length ck])) := Lib.hid (below_setRow HD2.out.below (by omega) _)
      have HS5 : Hid (BxZ w.heap.size b (wd.setRow (w.heap.size + 1) #[.int .i64 p, .int .i64 (dn : Int), .int .i64 (en : Int), .slice ai il.length ci, .slice aj jl.length cj, .slice ak kl.length ck]) sv2 (([] : List Int) ++ [(en : Int)])) := Lib.hid ⟨(setRow_other wd _ _ _ (by omega)).trans HD2.out.sz.box, owns_offRowZ HD2.out.sz.own hz (by decide) _⟩
      refine held_one (i := 3) (by kernel_rfl) ?_
      refine op_row (i := 3) rfl rfl rfl 26 (.tmp 5) (.tmp 12) rfl (w.heap.size + 1) #[.int .i64 p, .int .i64 (dn : Int), .int .i64 (en : Int), .slice ai il.length ci, .slice aj jl.length cj, .slice ak kl.length ck] (by kernel_rfl) (by kernel_rfl) 26 _ hz (by kernel_rfl) (by kernel_rfl) (by kernel_rfl) ?_
      obtain ⟨W5, hW5⟩ : ∃ W5, W5 = wd.setRow (w.heap.size + 1) #[.int .i64 p, .int .i64 (dn : Int), .int .i64 (en : Int), .slice ai il.length ci, .slice aj jl.length cj, .slice ak kl.length ck] := ⟨_, rfl⟩
      rw [← hW5] at SB hz5 HB5 HS5 ⊢
      clear hW5
      refine ⟨SB, ?_⟩
      refine wpAnyH_done (by kernel_rfl) ?_ _
      simp only [Act.put, List.setIfInBounds_toArray, List.set_cons_zero, List.set_cons_succ]
      have q0 : W5.cell? ⟨w.heap.size + 1, 0, none⟩ = some (.int .i64 p) := by simp [World.cell?, hz5]
      have q1 : W5.cell? ⟨w.heap.size + 1, 1, none⟩ = some (.int .i64 (dn : Int)) := by simp [World.cell?, hz5]
      have q2 : W5.cell? ⟨w.heap.size + 1, 2, none⟩ = some (.int .i64 (en : Int)) := by simp [World.cell?, hz5]
      have q3 : W5.cell? ⟨w.heap.size + 1, 3, none⟩ = some (.slice ai il.length ci) := by simp [World.cell?, hz5]
      have q4 : W5.cell? ⟨w.heap.size + 1, 4, none⟩ = some (.slice aj jl.length cj) := by simp [World.cell?, hz5]
      have q5 : W5.cell? ⟨w.heap.size + 1, 5, none⟩ = some (.slice ak kl.length ck) := by simp [World.cell?, hz5]
      clear S0 SB hz HX2 HBW hz5 HD2 HSX
      go_wp2
      simp only [Exit.jump, Exit.noGoto]
      refine bodyPost_ret (v := .tuple #[.int .i64 (1 : Int), .agg #[.int .i64 p, .int .i64 (dn : Int), .int .i64 (en : Int), .slice ai il.length ci, .slice aj jl.length cj, .slice ak kl.length ck]]) ?_ rfl ?_
      · simp only [results, HRES.out]
        go_simp
      · exact ⟨(1 : Int), _, _, _, rfl, HB5.out, HS5.out, HFP.out⟩
    | false =>
      have hnw : ¬ (1 : Int) = (n : Int) := fun hh => absurd (HBW.out.2 hh) (by simp)
      have c0 := HX2.out.cell (i := 0) rfl
      have c1 := HX2.out.cell (i := 1) rfl
      have c2 := HX2.out.cell (i := 2) rfl
      have c3 := HX2.out.cell (i := 3) rfl
      have c4 := HX2.out.cell (i := 4) rfl
      have c5 := HX2.out.cell (i := 5) rfl
      have hfz := HX2.out.frozen
      have HDV := Lib.hid (derivedOf_any p dn en _ _ _ il jl kl _ HX2.out.cp HG.out.bd HG.out.cp)
      go_wp2_with fail
      refine HDV.out.mono ?_
      rintro e W3 ⟨d1, e1, i1, j1, k1, u, rfl, hb3, ⟨x1, y1, x2, y2, x3, y3, rfl, hrc⟩, hdc⟩
      simp only at hrc ⊢
      have HD1 : Hid (DcO (p, ((dn : Nat) : Int), ((en : Nat) : Int), il, jl, kl) (p, (d1 : Int), (e1 : Int), i1, j1, k1)) := Lib.hid ⟨d1, e1, i1, j1, k1, rfl, by simpa using hdc⟩
      have HP3 := Lib.hid (HX2.out.put (d1 := d1) (e1 := e1) hbw hb3 hrc)
      have HX3 := Lib.hid (HX2.out.next hb3)
      have dd0 := HX3.out.cell (i := 0) rfl
      have dd1 := HX3.out.cell (i := 1) rfl
      have dd2 := HX3.out.cell (i := 2) rfl
      have dd3 := HX3.out.cell (i := 3) rfl
      have dd4 := HX3.out.cell (i := 4) rfl
      have dd5 := HX3.out.cell (i := 5) rfl
      have hfz3 := HX3.out.frozen
      have hl3 := HX3.out.lt
      obtain ⟨n1, hn1⟩ : ∃ n, n = i1.length := ⟨_, rfl⟩
      obtain ⟨n2, hn2⟩ : ∃ n, n = j1.length := ⟨_, rfl⟩
      obtain ⟨n3, hn3⟩ : ∃ n, n = k1.length := ⟨_, rfl⟩
      rw [← hn1, ← hn2, ← hn3] at HP3
      rw [← hn1, ← hn2, ← hn3]
      have HG3 := Lib.hid (DcO.good HG.out HD1.out)
      have HF3 : Hid (∀ m ys, Psz m (p, (d1 : Int), (e1 : Int), i1, j1, k1) ys → Psz ((([] : List Int) ++ [(en : Int)]).length + m) o ((([] : List Int) ++ [(en : Int)]) ++ ys)) := Lib.hid (fun m ys h => by
        have h1 := HF.out (m + 1) ((en : Int) :: ys) (Psz.cons HD1.out h)
        rw [List.length_append, List.length_singleton, List.append_assoc, Nat.add_assoc, Nat.add_comm 1 m]
        exact h1)
      have hr3 : (1 : Int) ≤ (2 : Int) ∧ (2 : Int) ≤ n ∧ (2 : Int) = ((([] : List Int) ++ [(en : Int)]).length : Int) + 1 := ⟨by have := HR1.out; omega, by have := HR1.out; omega, by have := HR1.out.2.2; rw [List.length_append, List.length_singleton]; first | omega | (simp at *; try omega)⟩
      have HR3 := Lib.hid hr3
      have hr4 : ((n : Int) - (2 : Int)).toNat < ((n : Int) - (1 : Int)).toNat := by have := HR1.out; omega
      have hrb : 1 ≤ (1 : Int) ∧ (1 : Int) ≤ 12 := by have := HR1.out; omega
      clear HDV hb3 hrc hdc hn1 hn2 hn3 HX2 HX3 c0 c1 c2 c3 c4 c5 hfz HBW HD1 hr3
      go_wp2
      go_step3
      exact ⟨rfl, _, d1, e1, _, _, _, _, i1, j1, k1, _, _, _, _, _, _, _, _, _, _, _, rfl, HP3, HG3, HR3.out, HF3⟩
  · rintro a' W2' ⟨r, dn, en, iv, jv, kv, sv, il, jl, kl, xs, u7, u8, u9, u10, u11, u12, u13, u14, u15, u16, rfl, HX, HG, hr1, HF⟩
    obtain ⟨⟨ai2, ci2, rfl⟩, ⟨aj2, cj2, rfl⟩, ⟨ak2, ck2, rfl⟩⟩ := HX.out.cp.shapes
    have c0 := HX.out.cell (i := 0) rfl
    have c1 := HX.out.cell (i := 1) rfl
    have c2 := HX.out.cell (i := 2) rfl
    have c3 := HX.out.cell (i := 3) rfl
    have c4 := HX.out.cell (i := 4) rfl
    have c5 := HX.out.cell (i := 5) rfl
    have HWW := Lib.hid (HW.out r dn en _ _ _ _ il jl kl xs _ HX.out (by first | simp | omega))
    have HR1 := Lib.hid hr1
    clear hr1
    go_wp2_with fail
    refine HWW.out.mono ?_
    rintro e W2 ⟨b2, sv2, rfl, hbw2, hkz, hbx, hat⟩
    have HX2 := Lib.hid (HX.out.asked hbw hkz hbx hat)
    have HBW := Lib.hid hbw2
    clear hbw2 hkz hbx hat HWW c0 c1 c2 c3 c4 c5
    cases b2 with
    | true =>
      have HFP : Hid (Psz n o (xs ++ [(en : Int)])) := Lib.hid (by
        have h1 := HF.out 1 [(en : Int)] Psz.last
        have h2 := HBW.out.1 rfl
        have h3 := HR1.out.2.2
        rwa [show xs.length + 1 = n by first | omega | (simp at *; omega)] at h1)
      go_wp2
      have HSX : Hid (∀ W', FzB w W' b p dn en (.slice ai2 il.length ci2) (.slice aj2 jl.length cj2) (.slice ak2 kl.length ck2) sv2 il jl kl (xs ++ [(en : Int)]) → (Instr.loadAt 26 (.pointer (some ⟨w.heap.size, 0, none⟩))).run Tryd.prog W' = .ok (.agg #[.int .i64 p, .int .i64 (dn : Int), .int .i64 (en : Int), .slice ai2 il.length ci2, .slice aj2 jl.length cj2, .slice ak2 kl.length ck2]) W') := Lib.hid (fun W' h => hload6 W' (h.cell (i := 0) rfl) (h.cell (i := 1) rfl) (h.cell (i := 2) rfl) (h.cell (i := 3) rfl) (h.cell (i := 4) rfl) (h.cell (i := 5) rfl))
      refine wp_region_held (S := fun W' => W'.heap[w.heap.size]? = some (.cells #[.int .i64 p, .int .i64 (dn : Int), .int .i64 (en : Int), .slice ai2 il.length ci2, .slice aj2 jl.length cj2, .slice ak2 kl.length ck2] 26 (0, 0))) (by kernel_rfl) ?_
      have HD2 := Lib.hid (HX2.out.next (Below.refl W2.heap.size W2).drew)
      have S0 := HD2.out.box
      change wpAnyH _ _ _ _ _ _ _ _ W2.drew
      generalize W2.drew = wd at *
      refine held_take (i := 0) (v := .int .i64 r) (some 11) rfl rfl (by kernel_rfl) (by kernel_rfl) (by kernel_rfl) (fun _ _ _ h => h) (yieldsIf_move (by kernel_rfl) rfl (by kernel_rfl)) S0 ?_
      refine held_take (i := 1) (v := .agg #[.int .i64 p, .int .i64 (dn : Int), .int .i64 (en : Int), .slice ai2 il.length ci2, .slice aj2 jl.length cj2, .slice ak2 kl.length ck2]) (some 12) rfl rfl (by kernel_rfl) (by kernel_rfl) (by kernel_rfl) (fun _ _ _ h => h) (yieldsIf_cell (by kernel_rfl) rfl (by kernel_rfl) (fun W' h => hload6b W' h)) S0 ?_
      refine held_take (i := 2) (v := .int .i64 r) (some 4) rfl rfl (by kernel_rfl) (by kernel_rfl) (by kernel_rfl) (fun _ _ _ h => h) (yieldsIf_assign (by kernel_rfl) rfl (by kernel_rfl)) S0 ?_
      obtain ⟨z0, z1, z2, z3, z4, z5, hz⟩ := HD2.out.res
      have hz5 := setRow_heap wd (w.heap.size + 1) _ #[.int .i64 p, .int .i64 (dn : Int), .int .i64 (en : Int), .slice ai2 il.length ci2, .slice aj2 jl.length cj2, .slice ak2 kl.length ck2] 26 _ hz
      have SB : (wd.setRow (w.heap.size + 1) #[.int .i64 p, .int .i64 (dn : Int), .int .i64 (en : Int), .slice ai2 il.length ci2, .slice aj2 jl.length cj2, .slice ak2 kl.length ck2]).heap[w.heap.size]? = some (.cells #[.int .i64 p, .int .i64 (dn : Int), .int .i64 (en : Int), .slice ai2 il.length ci2, .slice aj2 jl.length cj2, .slice ak2 kl.length ck2] 26 (0, 0)) := (setRow_other wd _ _ _ (by omega)).trans S0
      have HB5 : Hid (Below b w (wd.setRow (w.heap.size + 1) #[.int .i64 p, .int .i64 (dn : Int), .int .i64 (en : Int), .slice ai2 il.length ci2, .slice aj2 jl.length cj2, .slice ak2 kl.length ck2])) := Lib.hid (below_setRow HD2.out.below (by omega) _)
      have HS5 : Hid (BxZ w.heap.size b (wd.setRow (w.heap.size + 1) #[.int .i64 p, .int .i64 (dn : Int), .int .i64 (en : Int), .slice ai2 il.length ci2, .slice aj2 jl.length cj2, .slice ak2 kl.length ck2]) sv2 (xs ++ [(en : Int)])) := Lib.hid ⟨(setRow_other wd _ _ _ (by omega)).trans HD2.out.sz.box, owns_offRowZ HD2.out.sz.own hz (by decide) _⟩
      refine held_one (i := 3) (by kernel_rfl) ?_
      refine op_row (i := 3) rfl rfl rfl 26 (.tmp 5) (.tmp 12) rfl (w.heap.size + 1) #[.int .i64 p, .int .i64 (dn : Int), .int .i64 (en : Int), .slice ai2 il.length ci2, .slice aj2 jl.length cj2, .slice ak2 kl.length ck2] (by kernel_rfl) (by kernel_rfl) 26 _ hz (by kernel_rfl) (by kernel_rfl) (by kernel_rfl) ?_
      obtain ⟨W5, hW5⟩ : ∃ W5, W5 = wd.setRow (w.heap.size + 1) #[.int .i64 p, .int .i64 (dn : Int), .int .i64 (en : Int), .slice ai2 il.length ci2, .slice aj2 jl.length cj2, .slice ak2 kl.length ck2] := ⟨_, rfl⟩
      rw [← hW5] at SB hz5 HB5 HS5 ⊢
      clear hW5
      refine ⟨SB, ?_⟩
      refine wpAnyH_done (by kernel_rfl) ?_ _
      simp only [Act.put, List.setIfInBounds_toArray, List.set_cons_zero, List.set_cons_succ]
      have q0 : W5.cell? ⟨w.heap.size + 1, 0, none⟩ = some (.int .i64 p) := by simp [World.cell?, hz5]
      have q1 : W5.cell? ⟨w.heap.size + 1, 1, none⟩ = some (.int .i64 (dn : Int)) := by simp [World.cell?, hz5]
      have q2 : W5.cell? ⟨w.heap.size + 1, 2, none⟩ = some (.int .i64 (en : Int)) := by simp [World.cell?, hz5]
      have q3 : W5.cell? ⟨w.heap.size + 1, 3, none⟩ = some (.slice ai2 il.length ci2) := by simp [World.cell?, hz5]
      have q4 : W5.cell? ⟨w.heap.size + 1, 4, none⟩ = some (.slice aj2 jl.length cj2) := by simp [World.cell?, hz5]
      have q5 : W5.cell? ⟨w.heap.size + 1, 5, none⟩ = some (.slice ak2 kl.length ck2) := by simp [World.cell?, hz5]
      clear S0 SB hz HX2 HBW hz5 HD2 HSX
      go_wp2
      simp only [Exit.jump, Exit.noGoto]
      refine bodyPost_ret (v := .tuple #[.int .i64 r, .agg #[.int .i64 p, .int .i64 (dn : Int), .int .i64 (en : Int), .slice ai2 il.length ci2, .slice aj2 jl.length cj2, .slice ak2 kl.length ck2]]) ?_ rfl ?_
      · simp only [results, HRES.out]
        go_simp
      · exact ⟨r, _, _, _, rfl, HB5.out, HS5.out, HFP.out⟩
    | false =>
      have hnw : ¬ r = (n : Int) := fun hh => absurd (HBW.out.2 hh) (by simp)
      have c0 := HX2.out.cell (i := 0) rfl
      have c1 := HX2.out.cell (i := 1) rfl
      have c2 := HX2.out.cell (i := 2) rfl
      have c3 := HX2.out.cell (i := 3) rfl
      have c4 := HX2.out.cell (i := 4) rfl
      have c5 := HX2.out.cell (i := 5) rfl
      have hfz := HX2.out.frozen
      have HDV := Lib.hid (derivedOf_any p dn en _ _ _ il jl kl _ HX2.out.cp HG.out.bd HG.out.cp)
      go_wp2_with fail
      refine HDV.out.mono ?_
      rintro e W3 ⟨d1, e1, i1, j1, k1, u, rfl, hb3, ⟨x1, y1, x2, y2, x3, y3, rfl, hrc⟩, hdc⟩
      simp only at hrc ⊢
      have HD1 : Hid (DcO (p, ((dn : Nat) : Int), ((en : Nat) : Int), il, jl, kl) (p, (d1 : Int), (e1 : Int), i1, j1, k1)) := Lib.hid ⟨d1, e1, i1, j1, k1, rfl, by simpa using hdc⟩
      have HP3 := Lib.hid (HX2.out.put (d1 := d1) (e1 := e1) hbw hb3 hrc)
      have HX3 := Lib.hid (HX2.out.next hb3)
      have dd0 := HX3.out.cell (i := 0) rfl
      have dd1 := HX3.out.cell (i := 1) rfl
      have dd2 := HX3.out.cell (i := 2) rfl
      have dd3 := HX3.out.cell (i := 3) rfl
      have dd4 := HX3.out.cell (i := 4) rfl
      have dd5 := HX3.out.cell (i := 5) rfl
      have hfz3 := HX3.out.frozen
      have hl3 := HX3.out.lt
      obtain ⟨n1, hn1⟩ : ∃ n, n = i1.length := ⟨_, rfl⟩
      obtain ⟨n2, hn2⟩ : ∃ n, n = j1.length := ⟨_, rfl⟩
      obtain ⟨n3, hn3⟩ : ∃ n, n = k1.length := ⟨_, rfl⟩
      rw [← hn1, ← hn2, ← hn3] at HP3
      rw [← hn1, ← hn2, ← hn3]
      have HG3 := Lib.hid (DcO.good HG.out HD1.out)
      have HF3 : Hid (∀ m ys, Psz m (p, (d1 : Int), (e1 : Int), i1, j1, k1) ys → Psz ((xs ++ [(en : Int)]).length + m) o ((xs ++ [(en : Int)]) ++ ys)) := Lib.hid (fun m ys h => by
        have h1 := HF.out (m + 1) ((en : Int) :: ys) (Psz.cons HD1.out h)
        rw [List.length_append, List.length_singleton, List.append_assoc, Nat.add_assoc, Nat.add_comm 1 m]
        exact h1)
      have hr3 : (1 : Int) ≤ (r + 1) ∧ (r + 1) ≤ n ∧ (r + 1) = ((xs ++ [(en : Int)]).length : Int) + 1 := ⟨by have := HR1.out; omega, by have := HR1.out; omega, by have := HR1.out.2.2; rw [List.length_append, List.length_singleton]; first | omega | (simp at *; try omega)⟩
      have HR3 := Lib.hid hr3
      have hr4 : ((n : Int) - (r + 1)).toNat < ((n : Int) - r).toNat := by have := HR1.out; omega
      have hrb : 1 ≤ r ∧ r ≤ 12 := by have := HR1.out; omega
      clear HDV hb3 hrc hdc hn1 hn2 hn3 HX2 HX3 c0 c1 c2 c3 c4 c5 hfz HBW HD1 hr3
      go_wp2
      go_step3
      refine ⟨rfl, ⟨_, d1, e1, _, _, _, _, i1, j1, k1, _, ⟨_, _, _, _, _, _, _, _, _, _, rfl, HP3, HG3, HR3.out, HF3⟩⟩, ?_⟩
      simpa [intOf] using hr4
end Go.Proofs.YtckkbojankfdfaaDoor


namespace Go.Proofs.YtckkbojankfdfaaDoor
open Go.RowKit

open Classical in
noncomputable def pzCode (p d e : Int) (il jl kl : List (List Int)) (n : Int) : Int := if IsCp p d e il jl kl then (if 1 ≤ n ∧ n ≤ 12 then xcCode p d e il jl kl else 2) else 1
theorem pz_no {p d e n : Int} {il jl kl : List (List Int)} (h : ¬ IsCp p d e il jl kl) : pzCode p d e il jl kl n = 1 := if_neg h
theorem pz_rg {p d e n : Int} {il jl kl : List (List Int)} (h : IsCp p d e il jl kl) (k : ¬ (1 ≤ n ∧ n ≤ 12)) : pzCode p d e il jl kl n = 2 := by unfold pzCode; rw [if_pos h, if_neg k]
theorem pz_xc {p d e n : Int} {il jl kl : List (List Int)} (h : IsCp p d e il jl kl) (k : 1 ≤ n ∧ n ≤ 12) : pzCode p d e il jl kl n = xcCode p d e il jl kl := by unfold pzCode; rw [if_pos h, if_pos k]
theorem pz_zero {p d e n : Int} {il jl kl : List (List Int)} (h : pzCode p d e il jl kl n = 0) : IsCp p d e il jl kl ∧ ExOk p d.toNat e.toNat il jl kl ∧ 1 ≤ n ∧ n ≤ 12 := by
  unfold pzCode at h
  by_cases hc : IsCp p d e il jl kl
  · rw [if_pos hc] at h
    by_cases hn : 1 ≤ n ∧ n ≤ 12
    · rw [if_pos hn] at h
      exact ⟨hc, (xc_zero h).2, hn⟩
    · rw [if_neg hn] at h
      exact absurd h (by decide)
  · rw [if_neg hc] at h
    exact absurd h (by decide)

set_option maxHeartbeats 3200000 in
set_option maxRecDepth 100000 in
theorem pageSizes_any {pv : Value} (p d e n : Int) (iv jv kv : Value) (il jl kl : List (List Int)) (w : World) (h : Cp 0 w iv jv kv il jl kl) (hm : CpB 1048576 il jl kl) (hgl : w.cell? ⟨0, 0, none⟩ = some (.iface 109 pv)) :
    Calls Tryd.prog 14 #[.agg #[.int .i64 p, .int .i64 d, .int .i64 e, iv, jv, kv], .int .i64 n] w (AnsW Rw1 (Psz n.toNat (p, d, e, il, jl, kl)) [] (pzCode p d e il jl kl n) w) := by
  have hmf : ∀ (fn : Fn) (first cap : Array Value) (w : World), (Instr.makeFunc fn first cap).run Tryd.prog w = .ok (.func fn first cap) w := fun _ _ _ _ => rfl
  obtain ⟨⟨ai, ci, rfl⟩, ⟨aj, cj, rfl⟩, ⟨ak, ck, rfl⟩⟩ := h.shapes
  have HM := Lib.hid hm
  have HX0 : Hid (BxCp w ((w.alloc (.cells #[.int .i64 p, .int .i64 d, .int .i64 e, .slice ai il.length ci, .slice aj jl.length cj, .slice ak kl.length ck] 26)).alloc (.cells #[.int .i64 n] 2)) w.heap.size p d e (.slice ai il.length ci) (.slice aj jl.length cj) (.slice ak kl.length ck) il jl kl ∧ ((w.alloc (.cells #[.int .i64 p, .int .i64 d, .int .i64 e, .slice ai il.length ci, .slice aj jl.length cj, .slice ak kl.length ck] 26)).alloc (.cells #[.int .i64 n] 2)).cell? ⟨w.heap.size + 1, 0, none⟩ = some (.int .i64 n)) := Lib.hid ⟨(BxCp.start 26 h (p := p) (d := d) (e := e)).next (below_alloc1 _ _), by
    have := cell_alloc1 (w.alloc (.cells #[.int .i64 p, .int .i64 d, .int .i64 e, .slice ai il.length ci, .slice aj jl.length cj, .slice ak kl.length ck] 26)) (.int .i64 n) 2
    rwa [World.size_alloc] at this⟩
  have HGL : Hid (∀ W, Below w.heap.size w W → W.cell? ⟨0, 0, none⟩ = some (.iface 109 pv)) := Lib.hid (fun W hb => later hb (Nat.le_refl _) hgl)
  clear h hm hgl
  go_enter Tryd.func14, Tryd.ntmps14
  go_upto_region 1 with fail
  refine forget_wp (fun W => Hid (BxCp w W w.heap.size p d e (.slice ai il.length ci) (.slice aj jl.length cj) (.slice ak kl.length ck) il jl kl ∧ W.cell? ⟨w.heap.size + 1, 0, none⟩ = some (.int .i64 n))) HX0 ?_
  intro W hxx
  have HX := Lib.hid hxx.out.1
  have HNC := Lib.hid hxx.out.2
  clear hxx HX0
  have k0 := HX.out.c0
  have k1 := HX.out.c1
  have k2 := HX.out.c2
  have k3 := HX.out.c3
  have k4 := HX.out.c4
  have k5 := HX.out.c5
  go_wp2_with fail
  refine (isCouple_any p d e _ _ _ il jl kl W HX.out.cx HM.out).mono ?_
  rintro ee w2 ⟨b, rfl, hb, hbb⟩
  have HX2 := Lib.hid (HX.out.next hb)
  have HN2 := Lib.hid (later hb (Nat.le_refl _) HNC.out)
  clear hb HX HNC k0 k1 k2 k3 k4 k5
  by_cases hc : IsCp p d e il jl kl
  · obtain rfl : b = true := hbb.2 hc
    have HC := Lib.hid hc
    obtain ⟨dn, hdn⟩ := Int.eq_ofNat_of_zero_le hc.2.1.1
    obtain ⟨en, hen⟩ := Int.eq_ofNat_of_zero_le hc.2.2.1.1
    clear hbb hc
    subst hdn hen
    have hnc := HN2.out
    have k0 := HX2.out.c0
    have k1 := HX2.out.c1
    have k2 := HX2.out.c2
    have k3 := HX2.out.c3
    have k4 := HX2.out.c4
    have k5 := HX2.out.c5
    by_cases hn : 1 ≤ n ∧ n ≤ 12
    · have HNN := Lib.hid hn
      have hn1 := hn.1
      have hn2 := hn.2
      clear hn
      have HWI := Lib.hid (in_yes (n := n) (lo := 1) (hi := 12) ⟨hn1, hn2⟩ w2)
      go_wp2_with fail
      refine HWI.out.mono ?_
      rintro ee wq ⟨rfl, hwq⟩
      rw [← hwq]
      clear hwq
      have HK := Lib.hid (checkExact_any pv p dn en _ _ _ il jl kl w2 HX2.out.cx HM.out HC.out (HGL.out _ HX2.out.below))
      go_wp2_with fail
      refine HK.out.mono ?_
      rintro ee w3 ⟨c, rfl, hb3, hcc⟩
      have HX4 := Lib.hid (HX2.out.next hb3)
      have HN4 := Lib.hid (later hb3 (Nat.le_refl _) HN2.out)
      clear HK hb3 HX2 HN2 k0 k1 k2 k3 k4 k5 hnc HWI
      rcases hcc with ⟨rfl, hx⟩ | ⟨rfl, hx⟩
      · have HG : Hid (CpG (p, (dn : Int), (en : Int), il, jl, kl)) := Lib.hid ⟨HC.out, by simpa using hx⟩
        have HXC : Hid (pzCode p dn en il jl kl n = 0) := Lib.hid ((pz_xc HC.out HNN.out).trans (xc_ok HC.out (by simpa using hx)))
        clear hx
        go_upto_region 9 with fail
        refine forget_wp (fun W => Hid (Below w3.heap.size w3 W ∧ W.heap[w3.heap.size]? = some (.cells #[.slice none 0 0] 33 (0, 0)))) (Lib.hid ⟨below_alloc1 _ _, heap_alloc_new _ _⟩) ?_
        intro w4 h4
        have hlt4 : w3.heap.size < w4.heap.size := (Array.getElem?_eq_some_iff.1 h4.out.2).1
        have hbn : w.heap.size + 1 < w3.heap.size := cell_lt HN4.out
        have HB4 := Lib.hid h4.out.1
        have HX5 := Lib.hid (HX4.out.next h4.out.1)
        obtain ⟨m, hm⟩ := Int.eq_ofNat_of_zero_le (show 0 ≤ n by omega)
        subst hm
        have HFP := Lib.hid (firstPageZ_any m w3.heap.size (w.heap.size + 1) p dn en _ _ _ il jl kl w4 (fun W' hb => (HX4.out.next (HB4.out.trans hb)).cx) HG.out hlt4 hbn ⟨h4.out.2, Gb.nilv _ _⟩ (later HB4.out (Nat.le_refl _) HN4.out) (by omega) (by omega))
        clear h4 HX4 HN4
        have k0 := HX5.out.c0
        have k1 := HX5.out.c1
        have k2 := HX5.out.c2
        have k3 := HX5.out.c3
        have k4 := HX5.out.c4
        have k5 := HX5.out.c5
        go_wp2_with fail
        refine HFP.out.mono ?_
        rintro ee w6 ⟨r, u, sv, xs, rfl, hb6, hbx, hps⟩
        have HPS := Lib.hid hps
        have HBX := Lib.hid hbx
        have HBW := Lib.hid (HX5.out.below.trans (hb6.mono (by have := HB4.out.size; have := HX5.out.lt; omega)))
        have HB6 := Lib.hid hb6
        have hbox := hbx.box
        have hxl := Psz.len hps
        have HXL : Hid (xs.length ≤ 1048576) := Lib.hid (by omega)
        have HRW := Lib.hid ((Gb.rw1 hbx.own HXL.out).wider (show w.heap.size ≤ w4.heap.size by omega) (Nat.le_refl _))
        obtain ⟨sa, sc, hsv⟩ := Rw1.shape HRW.out
        obtain ⟨q, hq9⟩ : ∃ q, q = xs.length := ⟨_, rfl⟩
        rw [← hq9] at hsv
        subst hsv
        have r0 : w6.cell? ⟨w3.heap.size, 0, none⟩ = some (.slice sa q sc) := by simp [World.cell?, hbox]
        clear hps hbx hb6 hbox hxl hq9 HFP HX5 k0 k1 k2 k3 k4 k5
        go_wp2
        go_ret2
        exact ⟨_, xs, 0, rfl, HRW.out, HBW.out, by rw [HXC.out]; exact RsOut.of_yes rfl HPS.out⟩
      · have HXC : Hid (pzCode p dn en il jl kl n = 5) := Lib.hid ((pz_xc HC.out HNN.out).trans (xc_st HC.out (by simpa using hx)))
        clear hx
        go_wp2
        go_ret2
        exact ⟨_, [], 5, rfl, Rw1.nil _ _ _, HX4.out.below, by rw [HXC.out]; exact RsOut.of_no (by decide)⟩
    · have HXC := Lib.hid (pz_rg HC.out hn)
      have HWI := Lib.hid (in_no hn w2)
      clear hn
      go_wp2_with fail
      refine HWI.out.mono ?_
      rintro ee wq ⟨rfl, hwq⟩
      rw [← hwq]
      clear hwq
      go_wp2
      go_ret2
      exact ⟨_, [], 2, rfl, Rw1.nil _ _ _, HX2.out.below, by rw [HXC.out]; exact RsOut.of_no (by decide)⟩
  · obtain rfl : b = false := bb_no hbb hc
    have HXC := Lib.hid (pz_no (n := n) hc)
    clear hbb hc
    go_wp2
    go_ret2
    exact ⟨_, [], 1, rfl, Rw1.nil _ _ _, HX2.out.below, by rw [HXC.out]; exact RsOut.of_no (by decide)⟩
end Go.Proofs.YtckkbojankfdfaaDoor


namespace Go.Proofs.YtckkbojankfdfaaDoor
open Go.RowKit

/-- A page of the model in its box. -/
structure SpB (w W : World) (p : Int) (dn en : Nat) (iv jv kv : Value) (il jl kl : List (List Int)) : Prop where
  below : Below w.heap.size w W
  box : W.heap[w.heap.size]? = some (.cells #[.int .i64 p, .int .i64 (dn : Int), .int .i64 (en : Int), iv, jv, kv] 26 (0, 0))
  cx : Cp 0 W iv jv kv il jl kl
theorem SpB.lt {w W : World} {p : Int} {dn en : Nat} {iv jv kv : Value} {il jl kl : List (List Int)} (h : SpB w W p dn en iv jv kv il jl kl) : w.heap.size < W.heap.size := (Array.getElem?_eq_some_iff.1 h.box).1
theorem SpB.next {w W W' : World} {p : Int} {dn en : Nat} {iv jv kv : Value} {il jl kl : List (List Int)} (h : SpB w W p dn en iv jv kv il jl kl) (hb : Below W.heap.size W W') : SpB w W' p dn en iv jv kv il jl kl :=
  ⟨h.below.trans (hb.mono h.below.size), (hb.block _ h.lt).trans h.box, h.cx.below hb⟩
theorem SpB.cell {w W : World} {p : Int} {dn en : Nat} {iv jv kv : Value} {il jl kl : List (List Int)} (h : SpB w W p dn en iv jv kv il jl kl) {i : Nat} {x : Value} (hv : #[.int .i64 p, .int .i64 (dn : Int), .int .i64 (en : Int), iv, jv, kv][i]? = some x) : W.cell? ⟨w.heap.size, i, none⟩ = some x := by
  have h' := h.box
  simp [World.cell?, h', hv]
theorem SpB.frozen {w W : World} {p : Int} {dn en : Nat} {iv jv kv : Value} {il jl kl : List (List Int)} (h : SpB w W p dn en iv jv kv il jl kl) (i : Nat) : W.frozen? ⟨w.heap.size, i, none⟩ = false := by
  have h' := h.box
  simp [World.frozen?, h']
theorem SpB.start {w : World} {p : Int} {dn en : Nat} {iv jv kv : Value} {il jl kl : List (List Int)} (h : Cp 0 w iv jv kv il jl kl) : SpB w (w.alloc (.cells #[.int .i64 p, .int .i64 (dn : Int), .int .i64 (en : Int), iv, jv, kv] 26)) p dn en iv jv kv il jl kl :=
  ⟨below_alloc1 _ _, heap_alloc_new _ _, h.below (below_alloc1 _ _)⟩
theorem SpB.put {w W W1 : World} {p : Int} {dn en d1 e1 : Nat} {iv jv kv x3 x4 x5 : Value} {il jl kl i1 j1 k1 : List (List Int)} (h : SpB w W p dn en iv jv kv il jl kl) (hb : Below W.heap.size W W1) (g1 : Gs 0 W1 x3 i1) (g2 : Gs 0 W1 x4 j1) (g3 : Gs 0 W1 x5 k1) :
    SpB w ((((((W1.setCell ⟨w.heap.size, 0, none⟩ (.int .i64 p)).setCell ⟨w.heap.size, 1, none⟩ (.int .i64 (d1 : Int))).setCell ⟨w.heap.size, 2, none⟩ (.int .i64 (e1 : Int))).setCell ⟨w.heap.size, 3, none⟩ x3).setCell ⟨w.heap.size, 4, none⟩ x4).setCell ⟨w.heap.size, 5, none⟩ x5) p d1 e1 x3 x4 x5 i1 j1 k1 := by
  have h1 := h.next hb
  exact ⟨((((((h1.below.setCell (Nat.le_refl _) _).setCell (Nat.le_refl _) _).setCell (Nat.le_refl _) _).setCell (Nat.le_refl _) _).setCell (Nat.le_refl _) _).setCell (Nat.le_refl _) _), set6_block h1.box _ _ _ _ _ _,
    (gs_set6 g1 h1.box _ _ _ _ _ _).l2, (gs_set6 g2 h1.box _ _ _ _ _ _).l2, (gs_set6 g3 h1.box _ _ _ _ _ _).l2⟩

end Go.Proofs.YtckkbojankfdfaaDoor


namespace Go.Proofs.YtckkbojankfdfaaDoor
open Go.RowKit

/-- A table gathered row by row, its rows too above a base. -/
def Gx (base : Nat) (w : World) (u : Value) (t : List (List Int)) : Prop := ∃ vs, w.ownsRow base 33 1 u t.length vs ∧ ∀ k (h1 : k < vs.length) (h2 : k < t.length), Gb base w vs[k] t[k]
theorem Gx.gs {base : Nat} {w : World} {u : Value} {t : List (List Int)} (h : Gx base w u t) : Gs base w u t := by
  obtain ⟨vs, ho, hr⟩ := h
  exact ⟨vs, ho, fun k h1 h2 => (hr k h1 h2).g1⟩
theorem Gx.l2 {base : Nat} {w : World} {u : Value} {t : List (List Int)} (h : Gx base w u t) : L2 0 w u t := h.gs.l2
theorem Gx.below {base : Nat} {w w' : World} {u : Value} {t : List (List Int)} (h : Gx base w u t) (hb : Below w.heap.size w w') : Gx base w' u t := by
  obtain ⟨vs, ho, hr⟩ := h
  exact ⟨vs, owns_below ho hb, fun k h1 h2 => (hr k h1 h2).below hb⟩
theorem Gx.mono {base base' : Nat} {w : World} {u : Value} {t : List (List Int)} (h : Gx base w u t) (hb : base' ≤ base) : Gx base' w u t := by
  obtain ⟨vs, ho, hr⟩ := h
  exact ⟨vs, owns_mono ho hb, fun k h1 h2 => (hr k h1 h2).mono hb⟩
theorem Gx.new {base : Nat} (w : World) (hb : base ≤ w.heap.size) : Gx base (w.alloc (.cells #[] 33)) (.slice (some ⟨w.heap.size, 0, none⟩) 0 0) [] :=
  ⟨[], by simpa using World.ownsRow_made (base := base) (e := 33) (size := 1) w #[] 0 hb (by unfold maxLen; omega) (by simp), fun k h1 _ => absurd h1 (Nat.not_lt_zero _)⟩
theorem Gx.push {base : Nat} {w w3 : World} {v v' row : Value} {t : List (List Int)} {vs : List Value} {x : List Int} (ho : w.ownsRow base 33 1 v t.length vs) (hr : ∀ k (h1 : k < vs.length) (h2 : k < t.length), Gb base w vs[k] t[k]) (hx : Gb base w row x)
    (ho3 : w3.ownsRow base 33 1 v' (t.length + 1) (vs ++ [row])) (hg : w.grownBy w3 v.ownBlock) : Gx base w3 v' (t ++ [x]) := by
  have hvl : vs.length = t.length := by have := ho.1; omega
  refine ⟨vs ++ [row], by simpa using ho3, fun k h1 h2 => ?_⟩
  by_cases e : k < vs.length
  · rw [List.getElem_append_left e, List.getElem_append_left (by omega)]
    exact owns_grown (hr k e (by omega)) ho (by decide) hg
  · have e2 : k = vs.length := by simp at h1; omega
    subst e2
    rw [List.getElem_append_right (by omega), List.getElem_append_right (by omega)]
    simp only [hvl, Nat.sub_self, List.getElem_cons_zero]
    exact owns_grown hx ho (by decide) hg
section
variable {md : Region.Mode} {ops : Array Oper} {Q : Exit → Act → World → Prop} {S : World → Prop}
/-- append of one row to a table that the call gathers, in a drawn region; where the table lies then. -/
theorem held_appendGx {i : Nat} {oi : Oper} {fuel : Nat} {listed : Array Bool} {a : Act} {w : World} (d : Option Tmp) (hr : Region.ready md ops listed = [i]) (hi : ops[i]? = some oi) (hg : oi.guard = none) (hd : oi.dst = d)
    (s x : Operand) (ho : oi.op = .call { callee := .builtin .append, args := #[s, x], argTypes := #[22, 22] }) (base : Nat) (v : Value) (tb : List (List Int)) (hs : a.eval s = v) (hst : Gx base w v tb)
    (b : Nat) (ad : Option Addr) (m c : Nat) (hx : a.eval x = .slice (some ⟨b, 0, none⟩) 1 1) (hc : w.cell? ⟨b, 0, none⟩ = some (.slice ad m c)) (y : List Int) (hy : Gb base w (.slice ad m c) y) (hn : tb.length ≤ 1048576) (hb : base ≤ w.heap.size)
    (h : ∀ v' w', Gx base w' v' (tb ++ [y]) → w.grownBy w' v.ownBlock → (v'.ownBlock = v.ownBlock ∨ v'.ownBlock = some w.heap.size) → S w' ∧ wpAnyH Tryd.prog md ops Q S fuel (listed.setIfInBounds i true) (a.put d v') w') : wpAnyH Tryd.prog md ops Q S (fuel + 1) listed a w := by
  obtain ⟨vs, hvo, hvr⟩ := hst
  obtain ⟨ie, hie, hz, hs1, hb1⟩ := info_parts Tryd.infoS
  subst hd
  refine held_call hr hi hg ?_
  obtain ⟨v', w', hrun, h2, h3, _, h5⟩ := run_append_own_at (P := Tryd.prog) w base 22 oi.type 33 ie _ 1 24 Tryd.underlying22 hie hz hs1 hb1 rfl (by decide) v tb.length vs hvo ⟨b, 0, none⟩ 1 1 [.slice ad m c] rfl
    (fun j u hj => by
      match j, hj with
      | 0, hj => simp at hj; subst hj; exact hc)
    (fun u hu => by simp at hu; subst hu; rfl) (by unfold maxLen; omega) (by omega) hb
  unfold Oper.wp execOp
  simp only [ho, resolve, invoke, builtin, Sem.run_bind, Sem.run_pure, Result.andThen_ok, List.map_toArray, List.map_cons, List.map_nil, hs, hx, hrun]
  exact h v' w' (Gx.push hvo hvr hy h2 h3) h3 h5
end

/-- A table under a write into a block of another type. -/
theorem gx_set {base : Nat} {w : World} {u : Value} {t : List (List Int)} {g o : Nat} {cs : Array Value} {fr : Nat × Nat} (h : Gx base w u t) (hb : w.heap[g]? = some (.cells cs 26 fr)) (x : Value) : Gx base (w.setCell ⟨g, o, none⟩ x) u t := by
  obtain ⟨vs, ho, hr⟩ := h
  exact ⟨vs, ownsRow_setCell_other ho (fun e2 => own_ne ho hb (by decide) e2) _, fun k h1 h2 => ownsRow_setCell_other (hr k h1 h2) (fun e2 => own_ne (hr k h1 h2) hb (by decide) e2) _⟩
/-- A table while another one grows. -/
theorem gx_off {base : Nat} {w w' : World} {u v : Value} {t s : List (List Int)} (h : Gx base w u t) (hv : Gx base w v s) (ho : OffB v.ownBlock u) (hg : w.grownBy w' v.ownBlock) : Gx base w' u t := by
  obtain ⟨vs, h1, hr⟩ := h
  obtain ⟨ws, h2, _⟩ := hv
  exact ⟨vs, owns_grown_off h1 ho hg, fun k a b => owns_grown (hr k a b) h2 (by decide) hg⟩
structure Tr4 (base : Nat) (W : World) (g : Nat) (p d e : Int) (iv jv kv : Value) (I J K : List (List Int)) : Prop where
  cs : W.heap[g]? = some (.cells #[.int .i64 p, .int .i64 d, .int .i64 e, iv, jv, kv] 26 (0, 0))
  lo : base ≤ g
  fi : Gx base W iv I
  fj : Gx base W jv J
  fk : Gx base W kv K
  ij : OffB iv.ownBlock jv
  ik : OffB iv.ownBlock kv
  jk : OffB jv.ownBlock kv
theorem Tr4.next {base : Nat} {W W' : World} {g : Nat} {p d e : Int} {iv jv kv : Value} {I J K : List (List Int)} (h : Tr4 base W g p d e iv jv kv I J K) (hb : Below W.heap.size W W') : Tr4 base W' g p d e iv jv kv I J K :=
  ⟨(hb.block g (Array.getElem?_eq_some_iff.1 h.cs).1).trans h.cs, h.lo, h.fi.below hb, h.fj.below hb, h.fk.below hb, h.ij, h.ik, h.jk⟩
theorem Tr4.lt {base : Nat} {W : World} {g : Nat} {p d e : Int} {iv jv kv : Value} {I J K : List (List Int)} (h : Tr4 base W g p d e iv jv kv I J K) : g < W.heap.size := (Array.getElem?_eq_some_iff.1 h.cs).1
theorem Tr4.cell {base : Nat} {W : World} {g : Nat} {p d e : Int} {iv jv kv : Value} {I J K : List (List Int)} (h : Tr4 base W g p d e iv jv kv I J K) {i : Nat} {v : Value} (hv : #[.int .i64 p, .int .i64 d, .int .i64 e, iv, jv, kv][i]? = some v) : W.cell? ⟨g, i, none⟩ = some v := by
  have h' := h.cs
  simp [World.cell?, h', hv]
theorem Tr4.frozen {base : Nat} {W : World} {g : Nat} {p d e : Int} {iv jv kv : Value} {I J K : List (List Int)} (h : Tr4 base W g p d e iv jv kv I J K) (i : Nat) : W.frozen? ⟨g, i, none⟩ = false := by
  have h' := h.cs
  simp [World.frozen?, h']
/-- A row behind the table I. -/
theorem Tr4.pushI {base : Nat} {W W' : World} {g : Nat} {p d e : Int} {iv jv kv : Value} {I J K : List (List Int)} {v' : Value} {y : List Int} (h : Tr4 base W g p d e iv jv kv I J K) (hn : Gx base W' v' (I ++ [y])) (hg : W.grownBy W' iv.ownBlock) (hat : v'.ownBlock = iv.ownBlock ∨ v'.ownBlock = some W.heap.size) :
    Tr4 base (W'.setCell ⟨g, 3, none⟩ v') g p d e v' jv kv (I ++ [y]) J K := by
  have hne : iv.ownBlock ≠ some g := own_ne h.fi.choose_spec.1 h.cs (by decide)
  have hb : W'.heap[g]? = some (.cells #[.int .i64 p, .int .i64 d, .int .i64 e, iv, jv, kv] 26 (0, 0)) := (hg.block g h.lt (fun e => hne e.symm)).trans h.cs
  have hs := set_block (i := 3) hb v'
  exact ⟨by rw [hs]; rfl, h.lo, gx_set hn hb _, gx_set (gx_off h.fj h.fi (h.ij) hg) hb _, gx_set (gx_off h.fk h.fi (h.ik) hg) hb _, offB_of (h.ij) h.fj.choose_spec.1 hat, offB_of (h.ik) h.fk.choose_spec.1 hat, h.jk⟩
/-- A row behind the table J. -/
theorem Tr4.pushJ {base : Nat} {W W' : World} {g : Nat} {p d e : Int} {iv jv kv : Value} {I J K : List (List Int)} {v' : Value} {y : List Int} (h : Tr4 base W g p d e iv jv kv I J K) (hn : Gx base W' v' (J ++ [y])) (hg : W.grownBy W' jv.ownBlock) (hat : v'.ownBlock = jv.ownBlock ∨ v'.ownBlock = some W.heap.size) :
    Tr4 base (W'.setCell ⟨g, 4, none⟩ v') g p d e iv v' kv I (J ++ [y]) K := by
  have hne : jv.ownBlock ≠ some g := own_ne h.fj.choose_spec.1 h.cs (by decide)
  have hb : W'.heap[g]? = some (.cells #[.int .i64 p, .int .i64 d, .int .i64 e, iv, jv, kv] 26 (0, 0)) := (hg.block g h.lt (fun e => hne e.symm)).trans h.cs
  have hs := set_block (i := 4) hb v'
  exact ⟨by rw [hs]; rfl, h.lo, gx_set (gx_off h.fi h.fj (h.ij.symm') hg) hb _, gx_set hn hb _, gx_set (gx_off h.fk h.fj (h.jk) hg) hb _, (offB_of (h.ij.symm') h.fi.choose_spec.1 hat).symm', h.ik, offB_of (h.jk) h.fk.choose_spec.1 hat⟩
/-- A row behind the table K. -/
theorem Tr4.pushK {base : Nat} {W W' : World} {g : Nat} {p d e : Int} {iv jv kv : Value} {I J K : List (List Int)} {v' : Value} {y : List Int} (h : Tr4 base W g p d e iv jv kv I J K) (hn : Gx base W' v' (K ++ [y])) (hg : W.grownBy W' kv.ownBlock) (hat : v'.ownBlock = kv.ownBlock ∨ v'.ownBlock = some W.heap.size) :
    Tr4 base (W'.setCell ⟨g, 5, none⟩ v') g p d e iv jv v' I J (K ++ [y]) := by
  have hne : kv.ownBlock ≠ some g := own_ne h.fk.choose_spec.1 h.cs (by decide)
  have hb : W'.heap[g]? = some (.cells #[.int .i64 p, .int .i64 d, .int .i64 e, iv, jv, kv] 26 (0, 0)) := (hg.block g h.lt (fun e => hne e.symm)).trans h.cs
  have hs := set_block (i := 5) hb v'
  exact ⟨by rw [hs]; rfl, h.lo, gx_set (gx_off h.fi h.fk (h.ik.symm') hg) hb _, gx_set (gx_off h.fj h.fk (h.jk.symm') hg) hb _, gx_set hn hb _, h.ij, (offB_of (h.ik.symm') h.fi.choose_spec.1 hat).symm', (offB_of (h.jk.symm') h.fj.choose_spec.1 hat).symm'⟩
theorem gx_set6 {base : Nat} {w : World} {u : Value} {t : List (List Int)} {g : Nat} {cs : Array Value} {fr : Nat × Nat} (h : Gx base w u t) (hb : w.heap[g]? = some (.cells cs 26 fr)) (x0 x1 x2 x3 x4 x5 : Value) : Gx base ((((((w.setCell ⟨g, 0, none⟩ x0).setCell ⟨g, 1, none⟩ x1).setCell ⟨g, 2, none⟩ x2).setCell ⟨g, 3, none⟩ x3).setCell ⟨g, 4, none⟩ x4).setCell ⟨g, 5, none⟩ x5) u t := by
  have g0 := gx_set (o := 0) h hb x0
  have b0 := set_block (i := 0) hb x0
  have g1 := gx_set (o := 1) g0 b0 x1
  have b1 := set_block (i := 1) b0 x1
  have g2 := gx_set (o := 2) g1 b1 x2
  have b2 := set_block (i := 2) b1 x2
  have g3 := gx_set (o := 3) g2 b2 x3
  have b3 := set_block (i := 3) b2 x3
  have g4 := gx_set (o := 4) g3 b3 x4
  have b4 := set_block (i := 4) b3 x4
  have g5 := gx_set (o := 5) g4 b4 x5
  exact g5
theorem Tr4.start (W : World) (p d e : Int) : Tr4 W.heap.size ((((W.alloc (.cells #[] 33)).alloc (.cells #[] 33)).alloc (.cells #[] 33)).alloc (.cells #[.int .i64 p, .int .i64 d, .int .i64 e, .slice (some ⟨W.heap.size, 0, none⟩) 0 0, .slice (some ⟨(W.heap.size + 1), 0, none⟩) 0 0, .slice (some ⟨(W.heap.size + 1 + 1), 0, none⟩) 0 0] 26)) (W.heap.size + 1 + 1 + 1) p d e (.slice (some ⟨W.heap.size, 0, none⟩) 0 0) (.slice (some ⟨(W.heap.size + 1), 0, none⟩) 0 0) (.slice (some ⟨(W.heap.size + 1 + 1), 0, none⟩) 0 0) [] [] [] := by
  obtain ⟨w1, h1⟩ : ∃ w1, w1 = W.alloc (.cells #[] 33) := ⟨_, rfl⟩
  obtain ⟨w2, h2⟩ : ∃ w2, w2 = w1.alloc (.cells #[] 33) := ⟨_, rfl⟩
  obtain ⟨w3, h3⟩ : ∃ w3, w3 = w2.alloc (.cells #[] 33) := ⟨_, rfl⟩
  have s1 : w1.heap.size = W.heap.size + 1 := by rw [h1]; simp
  have s2 : w2.heap.size = W.heap.size + 1 + 1 := by rw [h2]; simp [s1]
  have s3 : w3.heap.size = W.heap.size + 1 + 1 + 1 := by rw [h3]; simp [s2]
  have g1 : Gx W.heap.size w1 (.slice (some ⟨W.heap.size, 0, none⟩) 0 0) [] := by rw [h1]; exact Gx.new W (Nat.le_refl _)
  have g2 : Gx W.heap.size w2 (.slice (some ⟨(W.heap.size + 1), 0, none⟩) 0 0) [] := by rw [h2, ← s1]; exact Gx.new w1 (by omega)
  have g3 : Gx W.heap.size w3 (.slice (some ⟨(W.heap.size + 1 + 1), 0, none⟩) 0 0) [] := by rw [h3, ← s2]; exact Gx.new w2 (by omega)
  have b12 : Below w1.heap.size w1 w2 := by rw [h2]; exact below_alloc1 _ _
  have b23 : Below w2.heap.size w2 w3 := by rw [h3]; exact below_alloc1 _ _
  rw [← h1, ← h2, ← h3]
  refine ⟨by rw [← s3]; simpa using heap_alloc_new w3 (.cells #[.int .i64 p, .int .i64 d, .int .i64 e, .slice (some ⟨W.heap.size, 0, none⟩) 0 0, .slice (some ⟨(W.heap.size + 1), 0, none⟩) 0 0, .slice (some ⟨(W.heap.size + 1 + 1), 0, none⟩) 0 0] 26), by omega, ((g1.below b12).below b23).below (below_alloc1 _ _), (g2.below b23).below (below_alloc1 _ _), g3.below (below_alloc1 _ _), ?_, ?_, ?_⟩
  · intro b hb e; simp [Value.ownBlock] at hb e; omega
  · intro b hb e; simp [Value.ownBlock] at hb e; omega
  · intro b hb e; simp [Value.ownBlock] at hb e; omega
end Go.Proofs.YtckkbojankfdfaaDoor

