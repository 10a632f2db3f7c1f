/-
  l09Sorted of the model by contract.
-/
import Derived.Test.YtchijefibiaphaaBjm
import Derived.Test.YtchijefibiaphaaSd
namespace Go.Proofs.Ytchijefibiaphaa
open Go.RowKit Go.Sort
def tB (i c : Nat) : Nat := if c = i then 0 else i * 3
theorem br_dropT {base : Nat} {w : World} {g n cap i : Nat} {L : List B3} (h : Gbr base w (.slice (some ⟨g, 0, none⟩) n cap) L) (hi : i ≤ L.length) : Br 0 w (.slice (some ⟨g, tB i cap, none⟩) (L.length - i) (cap - i)) (L.drop i) := by
  unfold tB
  by_cases hc : cap = i
  · have := h.cap_le
    have e : L.length = i := by omega
    exact Or.inl ⟨by rw [← e, List.drop_length], _, _, by rw [e, Nat.sub_self]⟩
  · rw [if_neg hc]
    exact br_drop h hi
theorem slB_run (g k c i : Nat) (hi : i ≤ k) (_hk : k ≤ c) (W : World) : (Instr.sliceAt 42 (.slice (some ⟨g, 0, none⟩) k c) (some (.int .i64 (i : Int))) none none).run Try.prog W = .ok (.slice (some ⟨g, tB i c, none⟩) (k - i) (c - i)) W := by
  have hU : Try.prog.underlying 42 = some (.slice (Try.prog.elem 42)) := by kernel_rfl
  have hz : (sizeOf (Try.prog.elem 42)).run Try.prog W = .ok 3 W := by kernel_rfl
  rw [run_sliceAt_slice _ _ _ _ _ _ hU, run_slice_l _ _ _ _ _ hU _ _ (by omega) (by omega), hz]
  show Result.ok (sliced (some ⟨g, 0, none⟩) (Int.toNat (i : Int)) k c 3) W = _
  unfold sliced tB
  rw [Int.toNat_natCast]
  by_cases h0 : c = i
  · rw [if_pos h0, if_pos h0]
  · rw [if_neg h0, if_neg h0]
    simp only [Addr.add, Option.map]
    first | rfl | (simp; omega)
section
variable {P : Program} {ops : Array Oper} {S : World → Prop}
theorem yieldsIf_sliceB {o : Oper} {a : Act} {x y : Operand} {v u i : Value} {t : TypeId} (hg : o.guard = none) (ho : o.op = .slice t x (some y) none none) (hx : a.eval x = u) (hy : a.eval y = i) (hrun : ∀ w, (Instr.sliceAt t u (some i) none none).run P w = .ok v w) : YieldsIf P ops S o v a :=
  Or.inl ⟨by unfold Region.wanted; rw [hg], fun w _ => by
    unfold execOp
    simp only [ho, hx, hy, Option.map, Sem.run_bind, hrun w, Result.andThen_ok]
    rfl⟩
end
section
variable {md : Region.Mode} {ops : Array Oper} {Q : Exit → Act → World → Prop} {S : World → Prop}
theorem held_appendBs {i : Nat} {oi : Oper} {fuel : Nat} {listed : Array Bool} {a : Act} {w : World} (d : Option Tmp) (hr : Region.ready md ops listed = [i]) (hi : ops[i]? = some oi) (hg : oi.guard = none) (hd : oi.dst = d)
    (s x : Operand) (ho : oi.op = .call { callee := .builtin .append, args := #[s, x], argTypes := #[42, 42] }) (base : Nat) (v u : Value) (A B : List B3) (hs : a.eval s = v) (hx : a.eval x = u) (hown : Gbr base w v A) (hB : Br 0 w u B)
    (hl : A.length + B.length ≤ 2097152) (hb : base ≤ w.heap.size)
    (h : ∀ v' w', Gbr base w' v' (A ++ B) → w.grownBy w' v.ownBlock → S w' ∧ wpAnyH Try.prog md ops Q S fuel (listed.setIfInBounds i true) (a.put d v') w') : wpAnyH Try.prog md ops Q S (fuel + 1) listed a w := by
  obtain ⟨ie, hie, hz, h1, h2⟩ := info_parts Try.infoIBar
  subst hd
  refine Br.cases hB (fun ad cap hB0 hu => ?_) (fun b o' cap hu _ hpos hc => ?_)
  · subst hB0 hu
    rw [List.append_nil] at h
    exact held_call hr hi hg (Lib.wp_append_run w s x 42 42 ho _ _ hs hx _ _ (run_append_none' w _ _ _ ie (by kernel_rfl) hie hown ad cap) (h v w hown ⟨rfl, rfl, rfl, Nat.le_refl _, fun _ _ _ => rfl⟩))
  · subst hu
    refine held_call hr hi hg (wp_append_own w s x 42 ho base 53 ie (.agg #[.int .i64 0, .int .i64 0, .int .i64 0]) 3 24 (by kernel_rfl) hie hz h1 h2 rfl (by omega) v A.length (bcl A) hs hown ⟨b, o', none⟩ B.length cap (bcl B) hx (bcl_length _) ?_ (bcl_one B) (by unfold maxLen; omega) (by omega) hb (fun v' w' h3 h4 _ => h v' w' ?_ h4))
    · intro j y hj
      rw [Addr.add_mid]
      have hjl : j < B.length * 3 := by rw [← bcl_length]; exact (List.getElem?_eq_some_iff.1 hj).1
      obtain ⟨q, r, hjq, hr, hq⟩ : ∃ q r, j = q * 3 + r ∧ r < 3 ∧ q < B.length := ⟨j / 3, j % 3, by omega, by omega, by omega⟩
      subst hjq
      obtain ⟨k0, k1, k2⟩ := hc q hq
      have e := bcl_at hq
      match r, hr with
      | 0, _ => rw [show o' + (q * 3 + 0) = o' + q * 3 by omega, k0, ← hj]; simpa using e.1.symm
      | 1, _ => rw [show o' + (q * 3 + 1) = o' + q * 3 + 1 by omega, k1, ← hj, e.2.1]
      | 2, _ => rw [show o' + (q * 3 + 2) = o' + q * 3 + 2 by omega, k2, ← hj, e.2.2]
    · unfold Gbr
      rw [List.length_append, bcl_append]
      exact h3
end
def BsrR (P : List B3 → Prop) (w : World) (e : Ending) (w' : World) : Prop := ∃ u out, e = .returned u ∧ Gbr w.heap.size w' u out ∧ Below w.heap.size w w' ∧ P out

set_option maxHeartbeats 12800000 in
set_option maxRecDepth 100000 in
theorem l09Sorted_any (v : Value) (L : List B3) (w : World) (h : Br 0 w v L) (hok : ∀ x ∈ L, BarOk x) (hl : L.length ≤ 100) : Calls Try.prog 81 #[v] w (BsrR (JbS L) w) := by
  obtain ⟨av, cv, rfl⟩ := h.shape
  have H := Lib.hid h
  have HOK := Lib.hid hok
  have HG0 : Hid (Gbr w.heap.size (w.alloc (.cells #[] 53)) (.slice (some ⟨w.heap.size, 0, none⟩) 0 0) []) := Lib.hid (by have h := World.ownsRow_made (base := w.heap.size) (e := 53) (size := 3) w #[] 0 (Nat.le_refl _) (by unfold maxLen; omega) (by simp); simpa [Gbr, bcl] using h)
  have HB0 := Lib.hid (below_alloc1 w (.cells #[] 53))
  clear h hok
  go_enter Try.func81, Try.ntmps81
  go_wp2
  go_loopw [3, 4, 5, 6] (fun ov iv _ _ wr => ∃ (k g c : Nat) (out : List B3), k ≤ L.length ∧ iv = .int .i64 (k : Int) ∧ ov = .slice (some ⟨g, 0, none⟩) k c ∧ Hid (out.length = k) ∧ Hid (Below w.heap.size w wr) ∧ Hid (Gbr w.heap.size wr (.slice (some ⟨g, 0, none⟩) k c) out) ∧ Hid (JbS (L.take k) out)) (fun _ iv _ _ _ => L.length - (intOf iv).toNat)
  case atStart => exact ⟨0, _, _, [], Nat.zero_le _, rfl, rfl, Lib.hid rfl, HB0, HG0, Lib.hid ⟨by simp, List.Pairwise.nil⟩⟩
  case round =>
    clear HG0 HB0
    obtain ⟨k, g, c, out, hk, rfl, rfl, HOL, HB, HG, HJ⟩ := hrel
    obtain ⟨wx, hwx⟩ : ∃ wx : World, wx = wr := ⟨_, rfl⟩
    subst hwx
    have hsx : w.heap.size ≤ wx.heap.size := HB.out.size
    by_cases hlt : k < L.length
    · have hkl : (k : Int) < (L.length : Int) := by omega
      have hk0 : (0 : Int) ≤ (k : Int) := by omega
      obtain ⟨bv, ov, hav, -, -, -, r0, r1, r2⟩ := H.out.at' hlt
      subst hav
      obtain ⟨x, hx⟩ : ∃ x, x = L[k] := ⟨_, rfl⟩
      rw [← hx] at r0 r1 r2
      have T0 := Lib.hid r0
      have T1 := Lib.hid r1
      have T2 := Lib.hid r2
      have HX := Lib.hid hx
      have HXO : Hid (BarOk x) := Lib.hid (by rw [hx]; exact HOK.out _ (List.getElem_mem hlt))
      have HOO : Hid (∀ y ∈ out, BarOk y) := Lib.hid (fun y hy => HOK.out y (List.mem_of_mem_take (HJ.out.1.mem_iff.1 hy)))
      have HGO : Hid (∀ b, (Value.slice (some ⟨g, 0, none⟩) k c).ownBlock = some b → w.heap.size ≤ b ∧ b < wx.heap.size) := Lib.hid (fun b hb => HG.out.lt b hb)
      clear r0 r1 r2 hx
      go_wp2
      go_loopw [5] (fun at' wz => ∃ (i : Nat), i ≤ k ∧ at' = .int .i64 (i : Int) ∧ Hid (Below wx.heap.size wx wz) ∧ Hid (∀ j (hj : j < out.length), i ≤ j → cmp3 x out[j] < 0)) (fun at' _ => (intOf at').toNat)
      case atStart => exact ⟨k, Nat.le_refl _, rfl, Lib.hid (Below.refl _ _), Lib.hid (fun j hj hij => absurd hj (by have := HOL.out; omega))⟩
      case round =>
        obtain ⟨i0, hi0, rfl, HBZ, HA⟩ := hrel
        obtain ⟨wz, hwz⟩ : ∃ wz : World, wz = wr := ⟨_, rfl⟩
        subst hwz
        by_cases hz : i0 = 0
        · have hzi : ¬ (0 : Int) < (i0 : Int) := by omega
          have hzn : ¬ 0 < i0 := by omega
          have HZ := Lib.hid hz
          clear hz
          go_wp2
          refine wp_region_held (S := fun W => Below wx.heap.size wx W) (by kernel_rfl) ?_
          have S0 : Below wx.heap.size wx wz.drew := HBZ.out.drew
          obtain ⟨wd, hwd⟩ : ∃ wd : World, wd = wz.drew := ⟨_, rfl⟩
          change wpAnyH _ _ _ _ _ _ _ _ wz.drew
          rw [← hwd] at S0 ⊢
          clear hwd
          refine held_take (i := 0) (v := (.int .i64 (i0 : Int))) (some 16) rfl rfl (by kernel_rfl) (by kernel_rfl) (by kernel_rfl) (fun _ _ _ h => h) (yieldsIf_move (by kernel_rfl) rfl (by kernel_rfl)) S0 ?_
          refine held_take (i := 1) (v := (.bool false)) (some 17) rfl rfl (by kernel_rfl) (by kernel_rfl) (by kernel_rfl) (fun _ _ _ h => h) (yieldsIf_run (by kernel_rfl) (fun W _ => by go_simp)) S0 ?_
          refine held_take (i := 2) (v := (.bool false)) (some 18) rfl rfl (by kernel_rfl) (by kernel_rfl) (by kernel_rfl) (fun _ _ _ h => h) (yieldsIf_move (by kernel_rfl) rfl (by kernel_rfl)) S0 ?_
          refine held_skip0 (i := 3) (some 19) rfl rfl (by kernel_rfl) (by kernel_rfl) (by kernel_rfl) (fun _ _ _ h => h) (by kernel_rfl) S0 ?_
          refine held_skip0 (i := 4) (some 20) rfl rfl (by kernel_rfl) (by kernel_rfl) (by kernel_rfl) (fun _ _ _ h => h) (by kernel_rfl) S0 ?_
          refine held_skip0 (i := 5) (some 21) rfl rfl (by kernel_rfl) (by kernel_rfl) (by kernel_rfl) (fun _ _ _ h => h) (by kernel_rfl) S0 ?_
          refine held_skip0 (i := 6) (some 22) rfl rfl (by kernel_rfl) (by kernel_rfl) (by kernel_rfl) (fun _ _ _ h => h) (by kernel_rfl) S0 ?_
          refine held_skip0 (i := 7) (some 23) rfl rfl (by kernel_rfl) (by kernel_rfl) (by kernel_rfl) (fun _ _ _ h => h) (by kernel_rfl) S0 ?_
          refine held_skip0 (i := 8) (some 24) rfl rfl (by kernel_rfl) (by kernel_rfl) (by kernel_rfl) (fun _ _ _ h => h) (by kernel_rfl) S0 ?_
          refine held_skip0 (i := 9) (some 25) rfl rfl (by kernel_rfl) (by kernel_rfl) (by kernel_rfl) (fun _ _ _ h => h) (by kernel_rfl) S0 ?_
          refine held_skip0 (i := 10) (some 26) rfl rfl (by kernel_rfl) (by kernel_rfl) (by kernel_rfl) (fun _ _ _ h => h) (by kernel_rfl) S0 ?_
          refine held_skip0 (i := 11) (some 27) rfl rfl (by kernel_rfl) (by kernel_rfl) (by kernel_rfl) (fun _ _ _ h => h) (by kernel_rfl) S0 ?_
          refine held_skip0 (i := 12) (some 28) rfl rfl (by kernel_rfl) (by kernel_rfl) (by kernel_rfl) (fun _ _ _ h => h) (by kernel_rfl) S0 ?_
          refine held_take (i := 13) (v := (.bool false)) (some 29) rfl rfl (by kernel_rfl) (by kernel_rfl) (by kernel_rfl) (fun _ _ _ h => h) (yieldsIf_run (by kernel_rfl) (fun W _ => by kernel_rfl)) S0 ?_
          refine wpAnyH_done (by kernel_rfl) ?_ _
          simp only [Act.put, List.setIfInBounds_toArray, List.set_cons_zero, List.set_cons_succ]
          have HBD := Lib.hid S0
          clear S0
          go_wp2
          have HWB := Lib.hid (HB.out.trans (HBD.out.mono HB.out.size))
          have HGW := Lib.hid (HG.out.below HBD.out)
          have hat : i0 ≤ k := hi0
          have HLO : Hid (i0 = 0 ∨ ∃ hl : i0 - 1 < out.length, ¬ cmp3 x out[i0 - 1] < 0) := Lib.hid (Or.inl HZ.out)
          have HHI : Hid (∀ j (hj : j < out.length), i0 ≤ j → cmp3 x out[j] < 0) := Lib.hid (fun j hj hij => HA.out j hj hij)
          obtain ⟨wy, hwy⟩ : ∃ wy, wy = wd := ⟨_, rfl⟩
          rw [← hwy] at HWB HGW ⊢
          clear hwy
          have hsy : w.heap.size ≤ wy.heap.size := HWB.out.size
          have HTB := Lib.hid (later HWB.out (Nat.le_refl _) T0.out)
          have HTB1 := Lib.hid (later HWB.out (Nat.le_refl _) T1.out)
          have HTB2 := Lib.hid (later HWB.out (Nat.le_refl _) T2.out)
          have hcap := HGW.out.cap_le
          have hkc : k ≤ c := hcap.2
          clear hcap
          have hi00 : (0 : Int) ≤ (i0 : Int) := by omega
          have hicap : (i0 : Int) ≤ (c : Int) := by omega
          have hitn : ((i0 : Int)).toNat = i0 := by omega
          have HSL : Hid (∀ W, (Instr.sliceAt 42 (.slice (some ⟨g, 0, none⟩) k c) (some (.int .i64 (i0 : Int))) none none).run Try.prog W = .ok (.slice (some ⟨g, tB i0 c, none⟩) (k - i0) (c - i0)) W) := Lib.hid (fun W => slB_run g k c i0 hat hkc W)
          refine wp_region_held (S := fun W => Below wy.heap.size wy W) (by kernel_rfl) ?_
          have S0 : Below wy.heap.size wy wy.drew := (Below.refl _ _).drew
          obtain ⟨wd, hwd⟩ : ∃ wd : World, wd = wy.drew := ⟨_, rfl⟩
          change wpAnyH _ _ _ _ _ _ _ _ wy.drew
          rw [← hwd] at S0 ⊢
          clear hwd
          refine held_take (i := 0) (v := (.slice (some ⟨bv, ov, none⟩) L.length cv)) (some 32) rfl rfl (by kernel_rfl) (by kernel_rfl) (by kernel_rfl) (fun _ _ _ h => h) (yieldsIf_move (by kernel_rfl) rfl (by kernel_rfl)) S0 ?_
          refine held_take (i := 1) (v := (.int .i64 (k : Int))) (some 33) rfl rfl (by kernel_rfl) (by kernel_rfl) (by kernel_rfl) (fun _ _ _ h => h) (yieldsIf_move (by kernel_rfl) rfl (by kernel_rfl)) S0 ?_
          refine held_take (i := 2) (v := (.pointer (some ⟨bv, ov + k * 3, none⟩))) (some 34) rfl rfl (by kernel_rfl) (by kernel_rfl) (by kernel_rfl) (fun _ _ _ h => h) (yieldsIf_run (by kernel_rfl) (fun W _ => by go_simp)) S0 ?_
          refine held_take (i := 3) (v := (bvl x)) (some 35) rfl rfl (by kernel_rfl) (by kernel_rfl) (by kernel_rfl) (fun _ _ _ h => h) (yieldsIf_cell (by kernel_rfl) rfl (by kernel_rfl) (fun W h => hloadBI W (later h (Nat.le_refl _) HTB.out) (later h (Nat.le_refl _) HTB1.out) (later h (Nat.le_refl _) HTB2.out))) S0 ?_
          refine held_take (i := 5) (v := (.slice (some ⟨g, 0, none⟩) k c)) (some 37) rfl rfl (by kernel_rfl) (by kernel_rfl) (by kernel_rfl) (fun _ _ _ h => h) (yieldsIf_move (by kernel_rfl) rfl (by kernel_rfl)) S0 ?_
          refine held_take (i := 6) (v := (.int .i64 (i0 : Int))) (some 38) rfl rfl (by kernel_rfl) (by kernel_rfl) (by kernel_rfl) (fun _ _ _ h => h) (yieldsIf_move (by kernel_rfl) rfl (by kernel_rfl)) S0 ?_
          refine held_take (i := 7) (v := (.slice (some ⟨g, tB i0 c, none⟩) (k - i0) (c - i0))) (some 39) rfl rfl (by kernel_rfl) (by kernel_rfl) (by kernel_rfl) (fun _ _ _ h => h) (yieldsIf_sliceB (by kernel_rfl) rfl (by kernel_rfl) (by kernel_rfl) HSL.out) S0 ?_
          obtain ⟨we, hwe⟩ : ∃ we : World, we = wd.alloc (.cells #[.int .i64 x.1, .int .i64 x.2.1, .int .i64 x.2.2] 53) := ⟨_, rfl⟩
          have S1 : Below wy.heap.size wy we := by rw [hwe]; exact S0.alloc S0.size _
          refine held_mem (i := 4) (v := .slice (some ⟨wd.heap.size, 0, none⟩) 1 1) (w' := we) (some 36) (by kernel_rfl) rfl rfl rfl (by rw [hwe]; unfold bvl; go_simp) S1 ?_
          have HG1 : Hid (Gbr wy.heap.size we (.slice (some ⟨wd.heap.size, 0, none⟩) 1 1) [x]) := Lib.hid ⟨by simp [bcl, bc], Or.inr ⟨wd.heap.size, 1, #[.int .i64 x.1, .int .i64 x.2.1, .int .i64 x.2.2], rfl, S0.size, by rw [hwe]; exact heap_alloc_new wd _, by simp, by unfold maxLen; omega, rfl, rfl⟩⟩
          have HD1 : Hid (Br 0 we (.slice (some ⟨g, tB i0 c, none⟩) (k - i0) (c - i0)) (out.drop i0)) := Lib.hid (br_dropT (HGW.out.below S1) (by rw [HOL.out]; exact hat) |> (fun h => by rwa [HOL.out] at h))
          refine held_appendBs (i := 8) (some 40) (by kernel_rfl) rfl rfl rfl (.tmp 36) (.tmp 39) rfl wy.heap.size _ _ [x] (out.drop i0) (by kernel_rfl) (by kernel_rfl) HG1.out HD1.out (by have := HOL.out; rw [List.length_drop]; simp; omega) S1.size ?_
          intro v8 W8 hg8 hgr8
          have S2 : Below wy.heap.size wy W8 := S1.grown hgr8 S1.size (fun b hb => (HG1.out.lt b hb).1)
          have HG8 := Lib.hid hg8
          refine ⟨S2, ?_⟩
          refine held_take (i := 9) (v := v8) (some 6) rfl rfl (by kernel_rfl) (by kernel_rfl) (by kernel_rfl) (fun _ _ _ h => h) (yieldsIf_assign (by kernel_rfl) rfl (by kernel_rfl)) S2 ?_
          refine wpAnyH_done (by kernel_rfl) ?_ _
          simp only [Act.put, List.setIfInBounds_toArray, List.set_cons_zero, List.set_cons_succ]
          have HB8 := Lib.hid S2
          clear S0 S1 S2 hg8 hgr8 hwe HG1 HD1
          have HGW8 := Lib.hid (HGW.out.below HB8.out)
          have HWB8 := Lib.hid (HWB.out.trans (HB8.out.mono hsy))
          have hs8 : wy.heap.size ≤ W8.heap.size := HB8.out.size
          have HBA : Hid (Below W8.heap.size W8 (W8.alloc (.cells #[] 53))) := Lib.hid (below_alloc1 _ _)
          have HGN : Hid (Gbr w.heap.size (W8.alloc (.cells #[] 53)) (.slice (some ⟨W8.heap.size, 0, none⟩) 0 0) []) := Lib.hid (by have h := World.ownsRow_made (base := w.heap.size) (e := 53) (size := 3) W8 #[] 0 (by omega) (by unfold maxLen; omega) (by simp); simpa [Gbr, bcl] using h)
          have HTK : Hid (Br 0 (W8.alloc (.cells #[] 53)) (.slice (some ⟨g, 0, none⟩) i0 c) (out.take i0)) := Lib.hid (br_take (HGW8.out.below HBA.out) (by rw [HOL.out]; exact hat))
          have HB9 := Lib.hid (HWB8.out.trans (HBA.out.mono HWB8.out.size))
          have HG89 := Lib.hid (HG8.out.below HBA.out)
          have hs9 : w.heap.size ≤ (W8.alloc (.cells #[] 53)).heap.size := HB9.out.size
          go_wp2_with (at_builtin; refine wpList_appendBs rfl (some 45) rfl (.tmp 41) (.tmp 44) rfl w.heap.size _ _ [] (out.take i0) rfl rfl HGN.out HTK.out ?c1 ?c2 ?_)
          case c1 => have := HOL.out; simp; omega
          case c2 => have h := hs9; simp at h; exact h
          intro vA WA hgA hgrA
          have HBA1 : Hid (Below w.heap.size w WA) := Lib.hid (HB9.out.grown hgrA hs9 (fun b hb => (HGN.out.lt b hb).1))
          have HGA := Lib.hid hgA
          have HKA : Hid (Br 0 WA v8 ([x] ++ out.drop i0)) := Lib.hid (by have hb : Below W8.heap.size W8 WA := HBA.out.grown hgrA (by simp) (fun b hb => by simp [Value.ownBlock] at hb; omega); exact (HG8.out.below hb).br.lower (Nat.zero_le _))
          go_wp2_with (at_builtin; refine wpList_appendBs rfl (some 47) rfl (.tmp 45) (.tmp 46) rfl w.heap.size _ _ (out.take i0) ([x] ++ out.drop i0) rfl rfl HGA.out HKA.out ?c3 ?c4 ?_)
          case c3 => have := HOL.out; simp; omega
          case c4 => exact HBA1.out.size
          intro vC WC hgC hgrC
          have HBC : Hid (Below w.heap.size w WC) := Lib.hid (HBA1.out.grown hgrC HBA1.out.size (fun b hb => (HGA.out.lt b hb).1))
          have hlC : (out.take i0 ++ ([x] ++ out.drop i0)).length = k + 1 := by have := HOL.out; simp; omega
          obtain ⟨gC, cC, hvC, _, _⟩ := World.ownsRow.form hgC (by rw [hlC]; omega)
          subst hvC
          rw [hlC] at hgC ⊢
          have HGC := Lib.hid hgC
          have HLC := Lib.hid hlC
          have HJC : Hid (JbS (L.take (k + 1)) (out.take i0 ++ ([x] ++ out.drop i0))) := Lib.hid ⟨by rw [List.take_succ_eq_append_getElem hlt, ← HX.out]; exact perm_ins HJ.out.1, srt_ins HJ.out.2 (by rw [HOL.out]; exact hat) (HLO.out.imp id (fun ⟨h1, h2⟩ => ⟨h1, by first | exact h2 | exact Int.not_lt.2 h2⟩)) HHI.out⟩
          clear hgC hgrC hlC
          go_wp2
          go_roundw
          case rel => exact ⟨k + 1, gC, cC, _, by omega, by go_num, rfl, HLC, HBC, HGC, HJC⟩
          case measure => simp [intOf]; omega
        · obtain ⟨q, hq⟩ : ∃ q, i0 = q + 1 := ⟨i0 - 1, by omega⟩
          have HQ := Lib.hid hq
          have hqo : q < out.length := by have := HOL.out; omega
          obtain ⟨bo, oo, hao, -, -, -, r0, r1, r2⟩ := (HG.out.below HBZ.out).br.at' hqo
          injection hao with e1
          injection e1 with e1 e2
          subst e1 e2
          obtain ⟨y, hy⟩ : ∃ y, y = out[q] := ⟨_, rfl⟩
          rw [← hy] at r0 r1 r2
          have R0 := Lib.hid r0
          have R1 := Lib.hid r1
          have R2 := Lib.hid r2
          have HY := Lib.hid hy
          have HYO : Hid (BarOk y) := Lib.hid (by rw [hy]; exact HOO.out _ (List.getElem_mem hqo))
          have HQK := Lib.hid hqo
          have hwq : IntKind.i64.wrap ((i0 : Int) - 1) = (q : Int) := by rw [show (i0 : Int) - 1 = (q : Int) by omega]; exact IntWalk.i64_in _ (by omega)
          have hq4 : (q : Int) < (k : Int) := by omega
          have hq5 : (0 : Int) ≤ (q : Int) := by omega
          have hq6 : (0 : Int) < (i0 : Int) := by omega
          have hq7 : 0 < i0 := by omega
          clear r0 r1 r2 hy hq
          have HXB := Lib.hid (HB.out.trans (HBZ.out.mono HB.out.size))
          go_wp2
          refine wp_region_held (S := fun W => Below wz.heap.size wz W) (by kernel_rfl) ?_
          have S0 : Below wz.heap.size wz wz.drew := (Below.refl _ _).drew
          obtain ⟨wd, hwd⟩ : ∃ wd : World, wd = wz.drew := ⟨_, rfl⟩
          change wpAnyH _ _ _ _ _ _ _ _ wz.drew
          rw [← hwd] at S0 ⊢
          clear hwd
          refine held_take (i := 0) (v := (.int .i64 (i0 : Int))) (some 16) rfl rfl (by kernel_rfl) (by kernel_rfl) (by kernel_rfl) (fun _ _ _ h => h) (yieldsIf_move (by kernel_rfl) rfl (by kernel_rfl)) S0 ?_
          refine held_take (i := 1) (v := (.bool true)) (some 17) rfl rfl (by kernel_rfl) (by kernel_rfl) (by kernel_rfl) (fun _ _ _ h => h) (yieldsIf_run (by kernel_rfl) (fun W _ => by go_simp)) S0 ?_
          refine held_take (i := 2) (v := (.bool true)) (some 18) rfl rfl (by kernel_rfl) (by kernel_rfl) (by kernel_rfl) (fun _ _ _ h => h) (yieldsIf_move (by kernel_rfl) rfl (by kernel_rfl)) S0 ?_
          refine held_take (i := 3) (v := (.slice (some ⟨bv, ov, none⟩) L.length cv)) (some 19) rfl rfl (by kernel_rfl) (by kernel_rfl) (by kernel_rfl) (fun _ _ _ h => h) (yieldsIf_runG (by kernel_rfl) (fun W _ => by kernel_rfl)) S0 ?_
          refine held_take (i := 4) (v := (.int .i64 (k : Int))) (some 20) rfl rfl (by kernel_rfl) (by kernel_rfl) (by kernel_rfl) (fun _ _ _ h => h) (yieldsIf_runG (by kernel_rfl) (fun W _ => by kernel_rfl)) S0 ?_
          refine held_take (i := 5) (v := (.pointer (some ⟨bv, ov + k * 3, none⟩))) (some 21) rfl rfl (by kernel_rfl) (by kernel_rfl) (by kernel_rfl) (fun _ _ _ h => h) (yieldsIf_runG (by kernel_rfl) (fun W _ => by go_simp)) S0 ?_
          refine held_take (i := 6) (v := (bvl x)) (some 22) rfl rfl (by kernel_rfl) (by kernel_rfl) (by kernel_rfl) (fun _ _ _ h => h) (yieldsIf_cellG (by kernel_rfl) rfl (by kernel_rfl) (fun W h => hloadBI W (later h (Nat.le_refl _) (later HXB.out (Nat.le_refl _) T0.out)) (later h (Nat.le_refl _) (later HXB.out (Nat.le_refl _) T1.out)) (later h (Nat.le_refl _) (later HXB.out (Nat.le_refl _) T2.out)))) S0 ?_
          refine held_take (i := 7) (v := (.slice (some ⟨g, 0, none⟩) k c)) (some 23) rfl rfl (by kernel_rfl) (by kernel_rfl) (by kernel_rfl) (fun _ _ _ h => h) (yieldsIf_runG (by kernel_rfl) (fun W _ => by kernel_rfl)) S0 ?_
          refine held_take (i := 8) (v := (.int .i64 (i0 : Int))) (some 24) rfl rfl (by kernel_rfl) (by kernel_rfl) (by kernel_rfl) (fun _ _ _ h => h) (yieldsIf_runG (by kernel_rfl) (fun W _ => by kernel_rfl)) S0 ?_
          refine held_take (i := 9) (v := (.int .i64 (q : Int))) (some 25) rfl rfl (by kernel_rfl) (by kernel_rfl) (by kernel_rfl) (fun _ _ _ h => h) (yieldsIf_runG (by kernel_rfl) (fun W _ => by go_simp)) S0 ?_
          refine held_take (i := 10) (v := (.pointer (some ⟨g, 0 + q * 3, none⟩))) (some 26) rfl rfl (by kernel_rfl) (by kernel_rfl) (by kernel_rfl) (fun _ _ _ h => h) (yieldsIf_runG (by kernel_rfl) (fun W _ => by go_simp)) S0 ?_
          refine held_take (i := 11) (v := (bvl y)) (some 27) rfl rfl (by kernel_rfl) (by kernel_rfl) (by kernel_rfl) (fun _ _ _ h => h) (yieldsIf_cellG (by kernel_rfl) rfl (by kernel_rfl) (fun W h => hloadBI W (later h (Nat.le_refl _) R0.out) (later h (Nat.le_refl _) R1.out) (later h (Nat.le_refl _) R2.out))) S0 ?_
          refine held_enterG (i := 12) (some 28) (f := 109) (args := #[bvl x, bvl y]) (by kernel_rfl) rfl (by kernel_rfl) rfl (by kernel_rfl) (l09Before_any x y _) ?_ (fun c w' h => by obtain ⟨_, h, _⟩ := h; cases h) (fun w' h => by obtain ⟨_, h, _⟩ := h; cases h)
          rintro v2 w2 ⟨bb, he, hg, hbb⟩
          injection he with he
          subst he
          have S2 : Below wz.heap.size wz w2 := S0.trans ((Gr.below hg).mono S0.size)
          refine ⟨S2, ?_⟩
          have HBD : Hid (Below wx.heap.size wx w2) := Lib.hid (HBZ.out.trans (S2.mono HBZ.out.size))
          have HBB : Hid (bb = true ↔ cmp3 x y < 0) := Lib.hid (hbb.trans (befS_cmp HXO.out HYO.out))
          clear hg hbb
          cases bb with
          | true =>
            have HA2 : Hid (∀ j (hj : j < out.length), q ≤ j → cmp3 x out[j] < 0) := Lib.hid (fun j hj hij => by
              by_cases e : j = q
              · subst e; rw [← HY.out]; exact HBB.out.1 rfl
              · exact HA.out j hj (by have := HQ.out; omega))
            refine held_take (i := 13) (v := (.bool true)) (some 29) rfl rfl (by kernel_rfl) (by kernel_rfl) (by kernel_rfl) (fun _ _ _ h => h) (yieldsIf_run (by kernel_rfl) (fun W _ => by kernel_rfl)) S2 ?_
            refine wpAnyH_done (by kernel_rfl) ?_ _
            simp only [Act.put, List.setIfInBounds_toArray, List.set_cons_zero, List.set_cons_succ]
            clear S0 S2
            go_wp2
            go_roundw
            case rel => first | exact ⟨q, by omega, by go_num, HBD, HA2⟩ | exact HA2 | exact HA2.out
            case measure => have := HQ.out; simp [intOf]; omega
          | false =>
            refine held_take (i := 13) (v := (.bool false)) (some 29) rfl rfl (by kernel_rfl) (by kernel_rfl) (by kernel_rfl) (fun _ _ _ h => h) (yieldsIf_run (by kernel_rfl) (fun W _ => by kernel_rfl)) S2 ?_
            refine wpAnyH_done (by kernel_rfl) ?_ _
            simp only [Act.put, List.setIfInBounds_toArray, List.set_cons_zero, List.set_cons_succ]
            clear S0 S2
            go_wp2
            have HWB := Lib.hid (HB.out.trans (HBD.out.mono HB.out.size))
            have HGW := Lib.hid (HG.out.below HBD.out)
            have hat : i0 ≤ k := hi0
            have HLO : Hid (i0 = 0 ∨ ∃ hl : i0 - 1 < out.length, ¬ cmp3 x out[i0 - 1] < 0) := Lib.hid ((Or.inr ⟨by have := HQK.out; have := HQ.out; omega, by have e : i0 - 1 = q := (by have := HQ.out; omega); simp only [e]; rw [← HY.out]; intro hc; have := HBB.out.2 hc; cases this⟩))
            have HHI : Hid (∀ j (hj : j < out.length), i0 ≤ j → cmp3 x out[j] < 0) := Lib.hid (fun j hj hij => HA.out j hj hij)
            obtain ⟨wy, hwy⟩ : ∃ wy, wy = w2 := ⟨_, rfl⟩
            rw [← hwy] at HWB HGW ⊢
            clear hwy
            have hsy : w.heap.size ≤ wy.heap.size := HWB.out.size
            have HTB := Lib.hid (later HWB.out (Nat.le_refl _) T0.out)
            have HTB1 := Lib.hid (later HWB.out (Nat.le_refl _) T1.out)
            have HTB2 := Lib.hid (later HWB.out (Nat.le_refl _) T2.out)
            have hcap := HGW.out.cap_le
            have hkc : k ≤ c := hcap.2
            clear hcap
            have hi00 : (0 : Int) ≤ (i0 : Int) := by omega
            have hicap : (i0 : Int) ≤ (c : Int) := by omega
            have hitn : ((i0 : Int)).toNat = i0 := by omega
            have HSL : Hid (∀ W, (Instr.sliceAt 42 (.slice (some ⟨g, 0, none⟩) k c) (some (.int .i64 (i0 : Int))) none none).run Try.prog W = .ok (.slice (some ⟨g, tB i0 c, none⟩) (k - i0) (c - i0)) W) := Lib.hid (fun W => slB_run g k c i0 hat hkc W)
            refine wp_region_held (S := fun W => Below wy.heap.size wy W) (by kernel_rfl) ?_
            have S0 : Below wy.heap.size wy wy.drew := (Below.refl _ _).drew
            obtain ⟨wd, hwd⟩ : ∃ wd : World, wd = wy.drew := ⟨_, rfl⟩
            change wpAnyH _ _ _ _ _ _ _ _ wy.drew
            rw [← hwd] at S0 ⊢
            clear hwd
            refine held_take (i := 0) (v := (.slice (some ⟨bv, ov, none⟩) L.length cv)) (some 32) rfl rfl (by kernel_rfl) (by kernel_rfl) (by kernel_rfl) (fun _ _ _ h => h) (yieldsIf_move (by kernel_rfl) rfl (by kernel_rfl)) S0 ?_
            refine held_take (i := 1) (v := (.int .i64 (k : Int))) (some 33) rfl rfl (by kernel_rfl) (by kernel_rfl) (by kernel_rfl) (fun _ _ _ h => h) (yieldsIf_move (by kernel_rfl) rfl (by kernel_rfl)) S0 ?_
            refine held_take (i := 2) (v := (.pointer (some ⟨bv, ov + k * 3, none⟩))) (some 34) rfl rfl (by kernel_rfl) (by kernel_rfl) (by kernel_rfl) (fun _ _ _ h => h) (yieldsIf_run (by kernel_rfl) (fun W _ => by go_simp)) S0 ?_
            refine held_take (i := 3) (v := (bvl x)) (some 35) rfl rfl (by kernel_rfl) (by kernel_rfl) (by kernel_rfl) (fun _ _ _ h => h) (yieldsIf_cell (by kernel_rfl) rfl (by kernel_rfl) (fun W h => hloadBI W (later h (Nat.le_refl _) HTB.out) (later h (Nat.le_refl _) HTB1.out) (later h (Nat.le_refl _) HTB2.out))) S0 ?_
            refine held_take (i := 5) (v := (.slice (some ⟨g, 0, none⟩) k c)) (some 37) rfl rfl (by kernel_rfl) (by kernel_rfl) (by kernel_rfl) (fun _ _ _ h => h) (yieldsIf_move (by kernel_rfl) rfl (by kernel_rfl)) S0 ?_
            refine held_take (i := 6) (v := (.int .i64 (i0 : Int))) (some 38) rfl rfl (by kernel_rfl) (by kernel_rfl) (by kernel_rfl) (fun _ _ _ h => h) (yieldsIf_move (by kernel_rfl) rfl (by kernel_rfl)) S0 ?_
            refine held_take (i := 7) (v := (.slice (some ⟨g, tB i0 c, none⟩) (k - i0) (c - i0))) (some 39) rfl rfl (by kernel_rfl) (by kernel_rfl) (by kernel_rfl) (fun _ _ _ h => h) (yieldsIf_sliceB (by kernel_rfl) rfl (by kernel_rfl) (by kernel_rfl) HSL.out) S0 ?_
            obtain ⟨we, hwe⟩ : ∃ we : World, we = wd.alloc (.cells #[.int .i64 x.1, .int .i64 x.2.1, .int .i64 x.2.2] 53) := ⟨_, rfl⟩
            have S1 : Below wy.heap.size wy we := by rw [hwe]; exact S0.alloc S0.size _
            refine held_mem (i := 4) (v := .slice (some ⟨wd.heap.size, 0, none⟩) 1 1) (w' := we) (some 36) (by kernel_rfl) rfl rfl rfl (by rw [hwe]; unfold bvl; go_simp) S1 ?_
            have HG1 : Hid (Gbr wy.heap.size we (.slice (some ⟨wd.heap.size, 0, none⟩) 1 1) [x]) := Lib.hid ⟨by simp [bcl, bc], Or.inr ⟨wd.heap.size, 1, #[.int .i64 x.1, .int .i64 x.2.1, .int .i64 x.2.2], rfl, S0.size, by rw [hwe]; exact heap_alloc_new wd _, by simp, by unfold maxLen; omega, rfl, rfl⟩⟩
            have HD1 : Hid (Br 0 we (.slice (some ⟨g, tB i0 c, none⟩) (k - i0) (c - i0)) (out.drop i0)) := Lib.hid (br_dropT (HGW.out.below S1) (by rw [HOL.out]; exact hat) |> (fun h => by rwa [HOL.out] at h))
            refine held_appendBs (i := 8) (some 40) (by kernel_rfl) rfl rfl rfl (.tmp 36) (.tmp 39) rfl wy.heap.size _ _ [x] (out.drop i0) (by kernel_rfl) (by kernel_rfl) HG1.out HD1.out (by have := HOL.out; rw [List.length_drop]; simp; omega) S1.size ?_
            intro v8 W8 hg8 hgr8
            have S2 : Below wy.heap.size wy W8 := S1.grown hgr8 S1.size (fun b hb => (HG1.out.lt b hb).1)
            have HG8 := Lib.hid hg8
            refine ⟨S2, ?_⟩
            refine held_take (i := 9) (v := v8) (some 6) rfl rfl (by kernel_rfl) (by kernel_rfl) (by kernel_rfl) (fun _ _ _ h => h) (yieldsIf_assign (by kernel_rfl) rfl (by kernel_rfl)) S2 ?_
            refine wpAnyH_done (by kernel_rfl) ?_ _
            simp only [Act.put, List.setIfInBounds_toArray, List.set_cons_zero, List.set_cons_succ]
            have HB8 := Lib.hid S2
            clear S0 S1 S2 hg8 hgr8 hwe HG1 HD1
            have HGW8 := Lib.hid (HGW.out.below HB8.out)
            have HWB8 := Lib.hid (HWB.out.trans (HB8.out.mono hsy))
            have hs8 : wy.heap.size ≤ W8.heap.size := HB8.out.size
            have HBA : Hid (Below W8.heap.size W8 (W8.alloc (.cells #[] 53))) := Lib.hid (below_alloc1 _ _)
            have HGN : Hid (Gbr w.heap.size (W8.alloc (.cells #[] 53)) (.slice (some ⟨W8.heap.size, 0, none⟩) 0 0) []) := Lib.hid (by have h := World.ownsRow_made (base := w.heap.size) (e := 53) (size := 3) W8 #[] 0 (by omega) (by unfold maxLen; omega) (by simp); simpa [Gbr, bcl] using h)
            have HTK : Hid (Br 0 (W8.alloc (.cells #[] 53)) (.slice (some ⟨g, 0, none⟩) i0 c) (out.take i0)) := Lib.hid (br_take (HGW8.out.below HBA.out) (by rw [HOL.out]; exact hat))
            have HB9 := Lib.hid (HWB8.out.trans (HBA.out.mono HWB8.out.size))
            have HG89 := Lib.hid (HG8.out.below HBA.out)
            have hs9 : w.heap.size ≤ (W8.alloc (.cells #[] 53)).heap.size := HB9.out.size
            go_wp2_with (at_builtin; refine wpList_appendBs rfl (some 45) rfl (.tmp 41) (.tmp 44) rfl w.heap.size _ _ [] (out.take i0) rfl rfl HGN.out HTK.out ?c1 ?c2 ?_)
            case c1 => have := HOL.out; simp; omega
            case c2 => have h := hs9; simp at h; exact h
            intro vA WA hgA hgrA
            have HBA1 : Hid (Below w.heap.size w WA) := Lib.hid (HB9.out.grown hgrA hs9 (fun b hb => (HGN.out.lt b hb).1))
            have HGA := Lib.hid hgA
            have HKA : Hid (Br 0 WA v8 ([x] ++ out.drop i0)) := Lib.hid (by have hb : Below W8.heap.size W8 WA := HBA.out.grown hgrA (by simp) (fun b hb => by simp [Value.ownBlock] at hb; omega); exact (HG8.out.below hb).br.lower (Nat.zero_le _))
            go_wp2_with (at_builtin; refine wpList_appendBs rfl (some 47) rfl (.tmp 45) (.tmp 46) rfl w.heap.size _ _ (out.take i0) ([x] ++ out.drop i0) rfl rfl HGA.out HKA.out ?c3 ?c4 ?_)
            case c3 => have := HOL.out; simp; omega
            case c4 => exact HBA1.out.size
            intro vC WC hgC hgrC
            have HBC : Hid (Below w.heap.size w WC) := Lib.hid (HBA1.out.grown hgrC HBA1.out.size (fun b hb => (HGA.out.lt b hb).1))
            have hlC : (out.take i0 ++ ([x] ++ out.drop i0)).length = k + 1 := by have := HOL.out; simp; omega
            obtain ⟨gC, cC, hvC, _, _⟩ := World.ownsRow.form hgC (by rw [hlC]; omega)
            subst hvC
            rw [hlC] at hgC ⊢
            have HGC := Lib.hid hgC
            have HLC := Lib.hid hlC
            have HJC : Hid (JbS (L.take (k + 1)) (out.take i0 ++ ([x] ++ out.drop i0))) := Lib.hid ⟨by rw [List.take_succ_eq_append_getElem hlt, ← HX.out]; exact perm_ins HJ.out.1, srt_ins HJ.out.2 (by rw [HOL.out]; exact hat) (HLO.out.imp id (fun ⟨h1, h2⟩ => ⟨h1, by first | exact h2 | exact Int.not_lt.2 h2⟩)) HHI.out⟩
            clear hgC hgrC hlC
            go_wp2
            go_roundw
            case rel => exact ⟨k + 1, gC, cC, _, by omega, by go_num, rfl, HLC, HBC, HGC, HJC⟩
            case measure => simp [intOf]; omega
    · have HE : Hid (k = L.length) := Lib.hid (by omega)
      go_wp2
      go_ret
      exact ⟨_, out, rfl, by unfold Gbr; rw [HOL.out]; exact HG.out |> fun h => by simpa [Gbr, HOL.out] using h, HB.out, by have := HJ.out; rwa [HE.out, List.take_length] at this⟩
end Go.Proofs.Ytchijefibiaphaa
