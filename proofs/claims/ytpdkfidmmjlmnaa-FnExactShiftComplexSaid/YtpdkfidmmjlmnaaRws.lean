/-
  spec.l01Rows by its contract: a table of its own; a row put in another's place.
-/
import Derived.Test.YtpdkfidmmjlmnaaGt
import Derived.Test.YtpdkfidmmjlmnaaRw
import Derived.Test.YtpdkfidmmjlmnaaSd
namespace Go.Proofs.Ytpdkfidmmjlmnaa
open Go.RowKit

def GrR (t : List (List Int)) (w : World) (e : Ending) (w' : World) : Prop := ∃ u, e = .returned u ∧ Gs w.heap.size w' u t ∧ Below w.heap.size w w'
set_option maxHeartbeats 1600000 in
set_option maxRecDepth 100000 in
theorem l01Rows_any (vt : Value) (t : List (List Int)) (w : World) (ht : L2 0 w vt t) (hr : t.length ≤ 1048576) (hl : ∀ x ∈ t, x.length ≤ 1048576) :
    Calls Try.prog 168 #[vt] w (GrR t w) := by
  obtain ⟨at', ct, rfl⟩ := Sl.shape ht
  have HT := Lib.hid ht
  have HL := Lib.hid hl
  have HT0 := Lib.hid (Gs.new (base := w.heap.size) w (Nat.le_refl _))
  clear ht hl
  go_enter Try.func168, Try.ntmps168
  go_wp2
  go_loopw [3, 4] (fun ov i wr => ∃ (k : Nat), k ≤ t.length ∧ i = .int .i64 k ∧ Hid (Below w.heap.size w wr) ∧ Hid (Gs w.heap.size wr ov (t.take k))) (fun _ i _ => t.length - (intOf i).toNat)
  case atStart => exact ⟨0, Nat.zero_le _, rfl, Lib.hid (below_alloc1 _ _), Lib.hid (by rw [List.take_zero]; exact HT0.out)⟩
  case round =>
    clear HT0
    obtain ⟨k, hk, rfl, HB, HG⟩ := hrel
    obtain ⟨wx, hwx⟩ : ∃ wx : World, wx = wr := ⟨_, rfl⟩
    subst hwx
    have hgl : (t.take k).length = k := by rw [List.length_take]; omega
    obtain ⟨ao, co, hov⟩ := Sl.shape HG.out.l2
    rw [hgl] at hov
    subst hov
    have HGN := Lib.hid hgl
    clear hgl
    have hsx : w.heap.size ≤ wx.heap.size := HB.out.size
    by_cases hlt : k < t.length
    · have hkl : (k : Int) < (t.length : Int) := by omega
      refine Sl.cases HT.out (fun _ _ hx _ => absurd hlt (by simp [hx])) (fun bt ot ct2 hvt _ _ hcl => ?_)
      injection hvt with e1 e2 e3
      clear e2
      subst e1 e3
      obtain ⟨ur, hur0, hrr⟩ := hcl k hlt
      have hur : wx.cell? ⟨bt, ot + k, none⟩ = some ur := later HB.out (Nat.le_refl _) hur0
      obtain ⟨y, hy⟩ : ∃ y, y = t[k] := ⟨_, rfl⟩
      rw [← hy] at hrr
      have hyl := HL.out y (by rw [hy]; exact List.getElem_mem hlt)
      have HTK : Hid (t.take (k + 1) = t.take k ++ [y]) := Lib.hid (by rw [List.take_succ_eq_append_getElem hlt, hy])
      obtain ⟨n, hn⟩ : ∃ n, n = y.length := ⟨_, rfl⟩
      obtain ⟨ar, cr, hus⟩ := Sl.shape hrr
      have HOW := Lib.hid (l01Own_any ur y wx (hrr.below HB.out) hyl)
      subst hus
      rw [← hn] at hur HOW
      have HN := Lib.hid hn
      clear hcl hrr hur0 hyl hn hy
      go_wp2_with fail
      refine HOW.out.mono ?_
      rintro e w2 ⟨u2, rfl, hg2, hb2⟩
      obtain ⟨a2, n2, hv2⟩ := Sl.shape hg2.l1
      rw [← HN.out] at hv2
      subst hv2
      have hs2 : wx.heap.size ≤ w2.heap.size := hb2.size
      have hba : Below w2.heap.size w2 (w2.alloc (.cells #[.slice a2 n n2] 22)) := below_alloc1 _ _
      have HSL := Lib.hid ((HG.out.below hb2).below hba)
      have HGU := Lib.hid (hg2.g1.below hba)
      have HBZ := Lib.hid ((HB.out.trans (hb2.mono hsx)).trans (hba.mono (by omega)))
      have hcell := cell_alloc1 w2 (.slice a2 n n2) 22
      clear hb2 hg2 hba hur HOW
      go_wp2_with (at_builtin; refine wpList_appendG rfl (some 19) rfl (.tmp 12) (.tmp 18) rfl w.heap.size _ (t.take k) rfl HSL.out w2.heap.size rfl a2 n n2 hcell _ HGU.out ?c1 ?c2 ?_)
      case c1 => rw [HGN.out]; omega
      case c2 => first | (simp; omega) | omega
      intro v7 W7 hg7 hgr7
      have HS7 : Hid (Gs w.heap.size W7 v7 (t.take (k + 1))) := Lib.hid (by rw [HTK.out]; exact hg7)
      have HB7 : Hid (Below w.heap.size w W7) := Lib.hid (HBZ.out.grown hgr7 (by simp; omega) (fun g hg => (HSL.out.lt g hg).1))
      clear hg7 hgr7 hcell
      go_wp2
      go_roundw
      case rel => first | exact ⟨k + 1, by omega, by go_num, HB7, HS7⟩ | ((repeat apply Exists.intro); exact ⟨⟨k + 1, by omega, by go_num, HB7, HS7⟩, rfl⟩)
      case measure => simp [intOf]; omega
    · have hkn : ¬ (k : Int) < (t.length : Int) := by omega
      have HKE : Hid (k = t.length) := Lib.hid (by omega)
      go_wp2
      go_ret
      exact ⟨_, rfl, by have := HG.out; rwa [HKE.out, List.take_length, ← HKE.out] at this, HB.out⟩

/-- A row put in another's place, in a table that the call gathers. -/
theorem Gs.put {base g n cap : Nat} {w : World} {t : List (List Int)} (h : Gs base w (.slice (some ⟨g, 0, none⟩) n cap) t) {k : Nat} (hk : k < t.length) {u : Value} {x : List Int} (hu : G1 w u x) :
    Gs base (w.setCell ⟨g, k, none⟩ u) (.slice (some ⟨g, 0, none⟩) n cap) (t.set k x) ∧ w.frozen? ⟨g, k, none⟩ = false ∧ (∃ v0, w.cell? ⟨g, k, none⟩ = some v0) ∧ base ≤ g := by
  obtain ⟨vs, ⟨hl, h2⟩, hr⟩ := h
  rcases h2 with ⟨h0, _⟩ | ⟨g', c', cur, hv, hlo, hh, hnc, hcm, hcs, htk⟩
  · cases h0
  · injection hv with e1 e2 e3
    injection e1 with e1
    injection e1 with e1
    subst e1 e2 e3
    have hrow : w.rowIs g 22 cur.size (fun i => cur.getD i undef) := ⟨cur, hh, rfl, fun i hi => by simp [hi]⟩
    have hvl : vs.length = t.length := by omega
    have hkc : k < cur.size := by omega
    refine ⟨⟨vs.set k u, ⟨by simpa using hl, Or.inr ⟨g, cap, cur.setIfInBounds k u, by simp, hlo, block_setCell' hh _, by simpa using hnc, hcm, by simpa using hcs, ?_⟩⟩, fun i h1 h2 => ?_⟩, by simp [World.frozen?, hh], ⟨_, hrow.cell hkc⟩, hlo⟩
    · simp only [List.length_set, Nat.mul_one] at htk ⊢
      rw [Array.toList_setIfInBounds, List.take_set, htk]
    · rw [List.getElem_set, List.getElem_set]
      by_cases e : k = i
      · rw [if_pos e, if_pos e]
        exact hu.off hrow (by decide) _ _
      · rw [if_neg e, if_neg e]
        exact (hr i (by simpa using h1) (by simpa using h2)).off hrow (by decide) _ _
end Go.Proofs.Ytpdkfidmmjlmnaa
