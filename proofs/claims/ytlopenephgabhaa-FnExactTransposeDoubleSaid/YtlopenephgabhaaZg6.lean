/-
  Texts that ProofTzl needs, part 6.
-/
import Derived.Test.YtlopenephgabhaaZg5
import Derived.Lib.AppendZerosOnto
import Derived.Deep.Strs
import Derived.Deep.RegionWith
import Derived.Deep.RegionHeld3
import Derived.BigRegion
import Derived.BigQuiet
import Derived.Deep.QuietTactic
namespace Go.Proofs.Ytlopenephgabhaa
open Go.RowKit

def rowp {α : Type} (g : Nat × Nat → α) (j i : Nat) : List α := (List.range i).map fun a => g (a, j)
theorem rowp_succ {α : Type} (g : Nat × Nat → α) (j i : Nat) : rowp g j (i + 1) = rowp g j i ++ [g (i, j)] := by unfold rowp; rw [List.range_succ, List.map_append]; rfl
def rowG {α : Type} (ds : List (List Int)) (g : Nat × Nat → α) (j : Nat) : List α := (List.range ds.length).map fun i => g (i, j)
theorem rowp_all {α : Type} (ds : List (List Int)) (g : Nat × Nat → α) (j : Nat) : rowp g j ds.length = rowG ds g j := rfl
theorem range_snoc {α : Type} (f : Nat → α) (j : Nat) : (List.range (j + 1)).map f = (List.range j).map f ++ [f j] := by rw [List.range_succ, List.map_append]; rfl
theorem rowp_len {α : Type} (g : Nat × Nat → α) (j i : Nat) : (rowp g j i).length = i := by simp [rowp]
theorem FlM.retag {L L' : Nat → Nat} {base : Nat} {W : World} {g j1 j2 j3 : Nat} {p : Int} {vD vA vV : Value} {d2 : List (List Int)} {a2 v2 : List (List (List (List Int)))} (h : FlM L base W g p j1 j2 j3 vD vA vV d2 a2 v2) (ho : ∀ b, base ≤ b → L' b = L b) (hg : L' g = L g) : FlM L' base W g p j1 j2 j3 vD vA vV d2 a2 v2 := by
  have ht : ∀ {k e u n xs}, TR L k base e W u n xs → TR L' k base e W u n xs := fun {k e u n xs} h => ⟨h.1, fun q hq => by rw [ho q (h.1.lt q hq).1]; exact h.2 q hq⟩
  have hi : ∀ {k u xs}, TI L k base W u xs → TI L' k base W u xs := fun {k u xs} h => ⟨h.1, fun q hq => by rw [ho q (h.1.lt q hq).1]; exact h.2 q hq⟩
  have hb : ∀ {s u t}, TTab L s base W u t → TTab L' s base W u t := fun {s u t} h => by
    obtain ⟨vs, hq, h1, h2⟩ := h
    exact ⟨vs, hq, fun q hq2 => by rw [ho q (hq.own.lt q hq2).1]; exact h1 q hq2, fun i a q hq2 => by rw [ho q ((hq.rows i a (by have := hq.len; omega)).lt q hq2).1]; exact h2 i a q hq2⟩
  have hs : ∀ {k τ u ts}, TTabs L k τ base W u ts → TTabs L' k τ base W u ts := fun {k τ u ts} h => by
    obtain ⟨vs, h1, h2⟩ := h
    exact ⟨vs, ht h1, fun i a b => hb (h2 i a b)⟩
  obtain ⟨s1, t1, l1, r1⟩ := h.o1
  obtain ⟨s2, t2, l2, r2⟩ := h.o2
  obtain ⟨s3, t3, l3, r3⟩ := h.o3
  exact ⟨⟨s1, ht t1, l1, fun q a b => hi (r1 q a b)⟩, ⟨s2, ht t2, l2, fun q a b => hs (r2 q a b)⟩, ⟨s3, ht t3, l3, fun q a b => hs (r3 q a b)⟩, h.box, hg.trans h.zero, h.lo⟩

set_option maxHeartbeats 25600000 in
set_option maxRecDepth 100000 in
theorem l03Flip_any (p : Int) (dv av vv : Value) (ds : List (List Int)) (ac dn : List (List (List (List Int)))) (w : World) (h : Dx 0 w dv av vv ds ac dn) (hdb : IsDb p ds ac dn) :
    Calls Try.prog 50 #[.agg #[.int .i64 p, dv, av, vv]] w fun e w' => ∃ vD vA vV, e = .returned (.agg #[.int .i64 p, vD, vA, vV]) ∧ Dx w.heap.size w' vD vA vV ((List.range (ds.getD 0 []).length).map (rowG ds (cdI ds))) ((List.range (ds.getD 0 []).length).map (rowG ds (tbl dn))) ((List.range (ds.getD 0 []).length).map (rowG ds (tbl ac))) ∧ Below w.heap.size w w' := by
  have hres : Try.f50.results = #[.cell 2 28] := by kernel_rfl
  have HRES := Lib.hid hres
  have HDB := Lib.hid hdb
  have HOK := Lib.hid hdb.cel
  have hm4 := hdb.cel.len1
  have hm1 := hdb.cel.len0
  have hq1 := hdb.cel.h0
  have hq4 := hdb.cel.h1
  have HX := Lib.hid h
  rcases h.dims with ⟨hx, _⟩ | ⟨bb, o, cd, rfl, _, hpos, hcl⟩
  · subst hx; simp at hm1
  obtain ⟨u0, hu0, hr0⟩ := hcl 0 hpos
  rw [Nat.add_zero] at hu0
  obtain ⟨a0, z0, rfl⟩ := Sl.shape hr0
  rw [← getD_of_lt [] hpos] at hu0
  clear hcl hr0 h hres
  obtain ⟨ad2, cd2, rfl⟩ := Sl.shape HX.out.across
  obtain ⟨ad3, cd3, rfl⟩ := Sl.shape HX.out.down
  obtain ⟨m, hm⟩ : ∃ m, m = ds.length := ⟨_, rfl⟩
  rw [hdb.tbs.la, hdb.tbs.ld, ← hm] at HX ⊢
  obtain ⟨hh, hhh⟩ : ∃ q, q = (ds.getD 0 []).length := ⟨_, rfl⟩
  rw [← hm] at hm4 hm1 hpos
  rw [← hhh] at hq1 hq4 hu0
  clear hdb
  obtain ⟨wa, hwa⟩ : ∃ wa, wa = w.alloc (.cells #[.int .i64 p, .slice (some ⟨bb, o, none⟩) m cd, .slice ad2 m cd2, .slice ad3 m cd3] 28) := ⟨_, rfl⟩
  obtain ⟨wi, hwi⟩ : ∃ wi, wi = wa.alloc (.cells #[.int .i64 0, .slice none 0 0, .slice none 0 0, .slice none 0 0] 28) := ⟨_, rfl⟩
  obtain ⟨w1, hw1⟩ : ∃ w1, w1 = wi.drew := ⟨_, rfl⟩
  have hsa : wa.heap.size = w.heap.size + 1 := by rw [hwa]; simp
  have hs1 : w.heap.size + 2 ≤ w1.heap.size := by rw [hw1]; show _ ≤ wi.heap.size; rw [hwi]; simp [hsa]
  have hba : Below wa.heap.size wa w1 := by rw [hw1, hwi]; exact (below_alloc1 _ _).drew
  have hxa : DBx w wa w.heap.size p (.slice (some ⟨bb, o, none⟩) m cd) (.slice ad2 m cd2) (.slice ad3 m cd3) ds ac dn := by rw [hwa]; exact DBx.start 28 HX.out
  have HX1 := Lib.hid (hxa.next hba)
  have hu1 := later HX1.out.below (Nat.le_refl _) hu0
  have HU1 := Lib.hid hu1
  have HR0 : Hid (Rz w1 (w.heap.size + 1) 28 Zd4) := Lib.hid (by have h0 : Rz wi (w.heap.size + 1) 28 Zd4 := (by rw [hwi, ← hsa]; exact Rz.new _ _ _); rw [hw1]; exact h0.next (Below.refl _ _).drew)
  have HM := Lib.hid hm
  have HQ := Lib.hid hhh
  have HNX : Hid (∀ W, Below w1.heap.size w1 W → DBx w W w.heap.size p (.slice (some ⟨bb, o, none⟩) m cd) (.slice ad2 m cd2) (.slice ad3 m cd3) ds ac dn ∧ W.cell? ⟨bb, o, none⟩ = some (.slice a0 hh z0) ∧ Rz W (w.heap.size + 1) 28 Zd4) := Lib.hid (fun W hb => ⟨HX1.out.next hb, later hb (Nat.le_refl _) HU1.out, HR0.out.next hb⟩)
  have HW0 : Hid (∀ W, Below w1.heap.size w1 W → Below w.heap.size w W) := Lib.hid (fun W hb => (HNX.out W hb).1.below)
  have c0 := HX1.out.c0
  clear hm hhh hxa hba hu0
  go_enter Try.func50, Try.ntmps50
  go_upto_region 1 with fail
  rw [← hwa, ← hwi]
  refine wp_region_held (S := fun W => Below w1.heap.size w1 W) (by kernel_rfl) ?_
  change wpAnyH _ _ _ _ _ _ _ _ wi.drew
  rw [← hw1]
  have S0 : Below w1.heap.size w1 w1 := Below.refl _ _
  refine held_take (i := 0) (v := .pointer (some ⟨w.heap.size, 1, none⟩)) (some 11) rfl rfl (by kernel_rfl) (by kernel_rfl) (by kernel_rfl) (fun _ _ _ h => h) (yieldsIf_run (by kernel_rfl) (fun W _ => by kernel_rfl)) S0 ?_
  refine held_take (i := 1) (v := (.slice (some ⟨bb, o, none⟩) m cd)) (some 12) rfl rfl (by kernel_rfl) (by kernel_rfl) (by kernel_rfl) (fun _ _ _ h => h) (yieldsIf_cell (by kernel_rfl) rfl (by kernel_rfl) (fun W h => hload2s W (HNX.out W h).1.c1)) S0 ?_
  refine held_take (i := 2) (v := (.int .i64 (m : Int))) (some 13) rfl rfl (by kernel_rfl) (by kernel_rfl) (by kernel_rfl) (fun _ _ _ h => h) (yieldsIf_run (by kernel_rfl) (fun W _ => by kernel_rfl)) S0 ?_
  refine held_take (i := 3) (v := .pointer (some ⟨w.heap.size, 1, none⟩)) (some 14) rfl rfl (by kernel_rfl) (by kernel_rfl) (by kernel_rfl) (fun _ _ _ h => h) (yieldsIf_run (by kernel_rfl) (fun W _ => by kernel_rfl)) S0 ?_
  refine held_take (i := 4) (v := (.slice (some ⟨bb, o, none⟩) m cd)) (some 15) rfl rfl (by kernel_rfl) (by kernel_rfl) (by kernel_rfl) (fun _ _ _ h => h) (yieldsIf_cell (by kernel_rfl) rfl (by kernel_rfl) (fun W h => hload2s W (HNX.out W h).1.c1)) S0 ?_
  refine held_take (i := 5) (v := .pointer (some ⟨bb, o + 0, none⟩)) (some 16) rfl rfl (by kernel_rfl) (by kernel_rfl) (by kernel_rfl) (fun _ _ _ h => h) (yieldsIf_index (by kernel_rfl) rfl (by kernel_rfl) (by kernel_rfl) (hidxS bb o cd (k := 0) hpos)) S0 ?_
  refine held_take (i := 6) (v := (.slice a0 hh z0)) (some 17) rfl rfl (by kernel_rfl) (by kernel_rfl) (by kernel_rfl) (fun _ _ _ h => h) (yieldsIf_cell (by kernel_rfl) rfl (by kernel_rfl) (fun W h => hload1s W (HNX.out W h).2.1)) S0 ?_
  refine held_take (i := 7) (v := (.int .i64 (hh : Int))) (some 18) rfl rfl (by kernel_rfl) (by kernel_rfl) (by kernel_rfl) (fun _ _ _ h => h) (yieldsIf_run (by kernel_rfl) (fun W _ => by kernel_rfl)) S0 ?_
  refine held_take (i := 8) (v := (.int .i64 (m : Int))) (some 3) rfl rfl (by kernel_rfl) (by kernel_rfl) (by kernel_rfl) (fun _ _ _ h => h) (yieldsIf_assign (by kernel_rfl) rfl (by kernel_rfl)) S0 ?_
  refine held_take (i := 9) (v := (.int .i64 (hh : Int))) (some 4) rfl rfl (by kernel_rfl) (by kernel_rfl) (by kernel_rfl) (fun _ _ _ h => h) (yieldsIf_assign (by kernel_rfl) rfl (by kernel_rfl)) S0 ?_
  refine wpAnyH_done (by kernel_rfl) ?_ _
  simp only [Act.put, List.setIfInBounds_toArray, List.set_cons_zero, List.set_cons_succ]
  clear S0 hwa hwi hw1 hsa
  obtain ⟨wp, hwp⟩ : ∃ wp, wp = w1.alloc (.cells #[] 35) := ⟨_, rfl⟩
  obtain ⟨wq, hwq⟩ : ∃ wq, wq = wp.alloc (.cells #[] 36) := ⟨_, rfl⟩
  obtain ⟨wr3, hwr3⟩ : ∃ wr, wr = wq.alloc (.cells #[] 36) := ⟨_, rfl⟩
  have hsp : wp.heap.size = w1.heap.size + 1 := by rw [hwp]; simp
  have hsq : wq.heap.size = w1.heap.size + 1 + 1 := by rw [hwq]; simp [hsp]
  have hsr : wr3.heap.size = w1.heap.size + 1 + 1 + 1 := by rw [hwr3]; simp [hsq]
  obtain ⟨wo, hwo⟩ : ∃ wo, wo = wr3.alloc (.cells #[.int .i64 p, .slice (some ⟨w1.heap.size, 0, none⟩) 0 0, .slice (some ⟨w1.heap.size + 1, 0, none⟩) 0 0, .slice (some ⟨w1.heap.size + 1 + 1, 0, none⟩) 0 0] 28) := ⟨_, rfl⟩
  have b1 : Below w1.heap.size w1 wp := by rw [hwp]; exact below_alloc1 _ _
  have b2 : Below wp.heap.size wp wq := by rw [hwq]; exact below_alloc1 _ _
  have b3 : Below wq.heap.size wq wr3 := by rw [hwr3]; exact below_alloc1 _ _
  have b4 : Below wr3.heap.size wr3 wo := by rw [hwo]; exact below_alloc1 _ _
  obtain ⟨g, hg⟩ : ∃ g, g = w1.heap.size + 1 + 1 + 1 := ⟨_, rfl⟩
  have HB0 : Hid (Below w1.heap.size w1 wo) := Lib.hid (((b1.trans (b2.mono (by omega))).trans (b3.mono (by omega))).trans (b4.mono (by omega)))
  have HS0 : Hid (∃ L, FlM L w1.heap.size wo g p 0 0 0 (.slice (some ⟨w1.heap.size, 0, none⟩) 0 0) (.slice (some ⟨w1.heap.size + 1, 0, none⟩) 0 0) (.slice (some ⟨w1.heap.size + 1 + 1, 0, none⟩) 0 0) [] [] []) := Lib.hid (by
    have o1 : wp.ownsRow w1.heap.size 35 1 (.slice (some ⟨w1.heap.size, 0, none⟩) 0 0) 0 [] := by rw [hwp]; exact World.ownsRow_made (base := w1.heap.size) (e := 35) (size := 1) w1 #[] 0 (Nat.le_refl _) (by unfold maxLen; omega) (by simp)
    have o2 : wq.ownsRow w1.heap.size 36 1 (.slice (some ⟨w1.heap.size + 1, 0, none⟩) 0 0) 0 [] := by rw [hwq, ← hsp]; exact World.ownsRow_made (base := w1.heap.size) (e := 36) (size := 1) wp #[] 0 (by omega) (by unfold maxLen; omega) (by simp)
    have o3 : wr3.ownsRow w1.heap.size 36 1 (.slice (some ⟨w1.heap.size + 1 + 1, 0, none⟩) 0 0) 0 [] := by rw [hwr3, ← hsq]; exact World.ownsRow_made (base := w1.heap.size) (e := 36) (size := 1) wq #[] 0 (by omega) (by unfold maxLen; omega) (by simp)
    have hbx := heap_alloc_new wr3 (.cells #[.int .i64 p, .slice (some ⟨w1.heap.size, 0, none⟩) 0 0, .slice (some ⟨w1.heap.size + 1, 0, none⟩) 0 0, .slice (some ⟨w1.heap.size + 1 + 1, 0, none⟩) 0 0] 28)
    rw [← hwo, hsr, ← hg] at hbx
    exact ⟨tg0 w1.heap.size (w1.heap.size + 1) (w1.heap.size + 1 + 1), ⟨[], ⟨owns_below (owns_below (owns_below o1 b2) b3) b4, fun q hq => by have e : w1.heap.size = q := (by simpa [Value.ownBlock] using hq); rw [← e]; exact if_pos rfl⟩, rfl, fun q h1 => absurd h1 (Nat.not_lt_zero _)⟩,
      ⟨[], ⟨owns_below (owns_below o2 b3) b4, fun q hq => by have e : w1.heap.size + 1 = q := (by simpa [Value.ownBlock] using hq); rw [← e]; unfold tg0; rw [if_neg (by omega), if_pos rfl]⟩, rfl, fun q h1 => absurd h1 (Nat.not_lt_zero _)⟩,
      ⟨[], ⟨owns_below o3 b4, fun q hq => by have e : w1.heap.size + 1 + 1 = q := (by simpa [Value.ownBlock] using hq); rw [← e]; unfold tg0; rw [if_neg (by omega), if_neg (by omega), if_pos rfl]⟩, rfl, fun q h1 => absurd h1 (Nat.not_lt_zero _)⟩, hbx, by unfold tg0; rw [if_neg (by omega), if_neg (by omega), if_neg (by omega)], by omega⟩)
  have hgw : w1.heap.size ≤ g := by omega
  go_upto_region 3 with fail
  rw [← hwp, ← hwq, ← hwr3, ← hwo]
  rw [← hg]
  clear hwp hwq hwr3 hwo hsp hsq hsr b1 b2 b3 b4 hg c0
  go_wp2
  go_loopw [6, 7, 8, 9, 10] (fun i _ _ _ _ wr => ∃ (j : Nat) (vD vA vV : Value), j ≤ hh ∧ i = .int .i64 j ∧ Hid (∃ L, FlM L w1.heap.size wr g p j j j vD vA vV ((List.range j).map (rowG ds (cdI ds))) ((List.range j).map (rowG ds (tbl dn))) ((List.range j).map (rowG ds (tbl ac)))) ∧ Hid (Below w1.heap.size w1 wr)) (fun i _ _ _ _ _ => hh - (intOf i).toNat)
  case atStart => exact ⟨0, _, _, _, Nat.zero_le _, rfl, HS0, HB0⟩
  case round =>
    clear HS0 HB0
    obtain ⟨j, vD, vA, vV, hj, rfl, HS, HBX⟩ := hrel
    obtain ⟨wx, hwx⟩ : ∃ wx : World, wx = wr := ⟨_, rfl⟩
    subst hwx
    by_cases hlt : j < hh
    · have hlti : (j : Int) < (hh : Int) := by omega
      obtain ⟨wy, hwy⟩ : ∃ wy, wy = wx.alloc (.cells #[] 2) := ⟨_, rfl⟩
      obtain ⟨wz, hwz⟩ : ∃ wz, wz = wy.alloc (.cells #[] 22) := ⟨_, rfl⟩
      obtain ⟨wk, hwk⟩ : ∃ wk, wk = wz.alloc (.cells #[] 22) := ⟨_, rfl⟩
      have hsy : wy.heap.size = wx.heap.size + 1 := by rw [hwy]; simp
      have hsz : wz.heap.size = wx.heap.size + 1 + 1 := by rw [hwz]; simp [hsy]
      have b1 : Below wx.heap.size wx wy := by rw [hwy]; exact below_alloc1 _ _
      have b2 : Below wy.heap.size wy wz := by rw [hwz]; exact below_alloc1 _ _
      have b3 : Below wz.heap.size wz wk := by rw [hwk]; exact below_alloc1 _ _
      have b13 : Below wx.heap.size wx wk := (b1.trans (b2.mono (by omega))).trans (b3.mono (by omega))
      have hsx := HBX.out.size
      have HBK : Hid (Below w1.heap.size w1 wk) := Lib.hid (HBX.out.trans (b13.mono hsx))
      have HSK : Hid (∃ L, FlM L w1.heap.size wk g p j j j vD vA vV ((List.range j).map (rowG ds (cdI ds))) ((List.range j).map (rowG ds (tbl dn))) ((List.range j).map (rowG ds (tbl ac))) ∧ TI L (10 + j) w1.heap.size wk (.slice (some ⟨wx.heap.size, 0, none⟩) 0 0) (rowp (cdI ds) j 0) ∧ TTabs L (20 + j) (fun _ => 40) w1.heap.size wk (.slice (some ⟨wx.heap.size + 1, 0, none⟩) 0 0) (rowp (tbl dn) j 0) ∧ TTabs L (30 + j) (fun _ => 40) w1.heap.size wk (.slice (some ⟨wx.heap.size + 1 + 1, 0, none⟩) 0 0) (rowp (tbl ac) j 0)) := Lib.hid (by
        obtain ⟨L, hf⟩ := HS.out
        have o1 : Gb w1.heap.size wy (.slice (some ⟨wx.heap.size, 0, none⟩) 0 0) [] := by rw [hwy]; exact Gb.new wx hsx
        have o2 : wz.ownsRow w1.heap.size 22 1 (.slice (some ⟨wx.heap.size + 1, 0, none⟩) 0 0) 0 [] := by rw [hwz, ← hsy]; exact World.ownsRow_made (base := w1.heap.size) (e := 22) (size := 1) wy #[] 0 (by omega) (by unfold maxLen; omega) (by simp)
        have o3 : wk.ownsRow w1.heap.size 22 1 (.slice (some ⟨wx.heap.size + 1 + 1, 0, none⟩) 0 0) 0 [] := by rw [hwk, ← hsz]; exact World.ownsRow_made (base := w1.heap.size) (e := 22) (size := 1) wz #[] 0 (by omega) (by unfold maxLen; omega) (by simp)
        obtain ⟨M, hM⟩ : ∃ M : Nat → Nat, M = fun b => if b < wx.heap.size then L b else if b = wx.heap.size then 10 + j else if b = wx.heap.size + 1 then 20 + j else 30 + j := ⟨_, rfl⟩
        refine ⟨M, hf.below b13 (fun b hb => by rw [hM]; exact if_pos hb) (by omega), ⟨(o1.below b2).below b3, fun q hq => ?_⟩, ⟨[], ⟨owns_below o2 b3, fun q hq => ?_⟩, fun q h1 => absurd h1 (Nat.not_lt_zero _)⟩, ⟨[], ⟨o3, fun q hq => ?_⟩, fun q h1 => absurd h1 (Nat.not_lt_zero _)⟩⟩
        · have e : wx.heap.size = q := by simpa [Value.ownBlock] using hq
          rw [← e, hM]
          dsimp only
          rw [if_neg (by omega), if_pos rfl]
        · have e : wx.heap.size + 1 = q := by simpa [Value.ownBlock] using hq
          rw [← e, hM]
          dsimp only
          rw [if_neg (by omega), if_neg (by omega), if_pos rfl]
        · have e : wx.heap.size + 1 + 1 = q := by simpa [Value.ownBlock] using hq
          rw [← e, hM]
          dsimp only
          rw [if_neg (by omega), if_neg (by omega), if_neg (by omega)])
      go_upto_region 7 with fail
      rw [← hwy, ← hwz, ← hwk]
      clear hwy hwz hwk hsy hsz b1 b2 b3 b13 HS
      go_wp2
      go_loopw [7, 8, 9, 10] (fun ud ua uv i wr => ∃ (i' : Nat) (vd va vv2 : Value), vd = ud ∧ va = ua ∧ vv2 = uv ∧ i' ≤ m ∧ i = .int .i64 i' ∧ Hid (∃ L, FlM L w1.heap.size wr g p j j j vD vA vV ((List.range j).map (rowG ds (cdI ds))) ((List.range j).map (rowG ds (tbl dn))) ((List.range j).map (rowG ds (tbl ac))) ∧ TI L (10 + j) w1.heap.size wr vd (rowp (cdI ds) j i') ∧ TTabs L (20 + j) (fun _ => 40) w1.heap.size wr va (rowp (tbl dn) j i') ∧ TTabs L (30 + j) (fun _ => 40) w1.heap.size wr vv2 (rowp (tbl ac) j i')) ∧ Hid (Below w1.heap.size w1 wr)) (fun _ _ _ i _ => m - (intOf i).toNat)
      case atStart => exact ⟨0, _, _, _, rfl, rfl, rfl, Nat.zero_le _, rfl, HSK, HBK⟩
      case round =>
        clear HSK HBK
        obtain ⟨i, vd, va, vv2, rfl, rfl, rfl, hi, rfl, HSI, HB1⟩ := hrel
        obtain ⟨X1, hX1⟩ : ∃ wx : World, wx = wr := ⟨_, rfl⟩
        subst hX1
        by_cases hlti2 : i < m
        · have hlt2 : (i : Int) < (m : Int) := by omega
          have hi0 : (0 : Int) ≤ (i : Int) := by omega
          have hj0 : (0 : Int) ≤ (j : Int) := by omega
          have hil : i < ds.length := by rw [← HM.out]; exact hlti2
          have hcolg : (ds.getD i []).length = hh := by rw [HQ.out]; exact cl_height HOK.out hil
          have hmem : (i, j) ∈ cellsTo ds ds.length := mem_cells.2 ⟨hil, by show j < (ds.getD i []).length; omega⟩
          have hcol : (ds[i]).length = hh := by rw [← getD_of_lt [] hil]; exact hcolg
          have hia : i < ac.length := by rw [HDB.out.tbs.la]; exact hil
          have hid : i < dn.length := by rw [HDB.out.tbs.ld]; exact hil
          have hja : j < (ac[i]).length := by have h1 := HDB.out.tbs.ca i hil; rw [getD_of_lt _ hia] at h1; omega
          have hjd : j < (dn[i]).length := by have h1 := HDB.out.tbs.cd i hil; rw [getD_of_lt _ hid] at h1; omega
          have hcd4 := (cdim_cast HOK.out hmem).2
          have hcd1 := (cdim_cast HOK.out hmem).1
          have hdl4 : dcl ds (i : Int) ((j : Int) - 1) ≤ 4 := by
            by_cases e : j = 0
            · rw [show dcl ds (i : Int) ((j : Int) - 1) = 0 from if_pos (.inr (by omega))]; omega
            · obtain ⟨q, rfl⟩ : ∃ q, j = q + 1 := ⟨j - 1, by omega⟩
              have h5 := cdim_cast HOK.out (cell_low hmem)
              have h6 := h5.1
              simp only at h6
              rw [show (((q + 1 : Nat) : Int) - 1) = (q : Int) by omega, ← h6]
              have := h5.2
              omega
          have hdl3 : dcl ds ((i : Int) - 1) (j : Int) ≤ 4 := by
            by_cases e : i = 0
            · rw [show dcl ds ((i : Int) - 1) (j : Int) = 0 from if_pos (.inl (by omega))]; omega
            · obtain ⟨q, rfl⟩ : ∃ q, i = q + 1 := ⟨i - 1, by omega⟩
              have h5 := cdim_cast HOK.out (cell_left HOK.out hmem)
              have h6 := h5.1
              simp only at h6
              rw [show (((q + 1 : Nat) : Int) - 1) = (q : Int) by omega, ← h6]
              have := h5.2
              omega
          simp only at hcd1
          have hX := HNX.out _ HB1.out
          have c1 := hX.1.c1
          obtain ⟨bb', o', cd', b3, o3, k3, hdv, hD1, hD2⟩ := l2_at hX.1.dx.dims hil (show j < (ds[i]).length by omega)
          injection hdv with e1 e2 e3
          injection e1 with e1
          injection e1 with e1 e4 _
          subst e1 e3 e4
          clear e2
          rw [hcol] at hD1
          obtain ⟨z, hz⟩ : ∃ z, z = (ds[i])[j] := ⟨_, rfl⟩
          have hzc : z = cdI ds (i, j) := by rw [hz]; unfold cdI; rw [getD_of_lt _ hil, getD_of_lt _ (show j < (ds[i]).length by omega)]
          rw [← hz] at hD2
          have HZC := Lib.hid hzc
          clear hz hX hzc
          obtain ⟨L1, f1, f2, f3, f4⟩ := HSI.out
          obtain ⟨V1, hV⟩ : ∃ W', W' = X1.alloc (.cells #[.int .i64 z] 2) := ⟨_, rfl⟩
          have hbv : Below X1.heap.size X1 V1 := by rw [hV]; exact below_alloc1 _ _
          have hcv : V1.cell? ⟨X1.heap.size, 0, none⟩ = some (.int .i64 z) := by rw [hV]; exact cell_alloc1 _ _ _
          have sv : Stp1 L1 L1 50 X1 V1 := Stp1.of_below hbv (fun _ _ => rfl) 50
          have hxs : w1.heap.size ≤ X1.heap.size := HB1.out.size
          have q1 := f1.below hbv (fun _ _ => rfl) (by omega)
          have q2 := f2.kept sv (by omega)
          have q3 := f3.kept sv (by omega) (fun _ _ => by show 40 ≠ 50; omega)
          have q4 := f4.kept sv (by omega) (fun _ _ => by show 40 ≠ 50; omega)
          have hbw : w1.heap.size ≤ V1.heap.size := by have := hbv.size; omega
          obtain ⟨g9, c9, W9, hrun, hgr, hg9, hL9⟩ := q2.append X1.heap.size z hcv (by rw [rowp_len]; omega) hbw
          obtain ⟨L2, hLd⟩ : ∃ M : Nat → Nat, M = fun b => if b < V1.heap.size then L1 b else 10 + j := ⟨_, rfl⟩
          have lo : ∀ b, b < V1.heap.size → L2 b = L1 b := fun b hb => by rw [hLd]; exact if_pos hb
          have ln : ∀ b, V1.heap.size ≤ b → L2 b = 10 + j := fun b hb => by rw [hLd]; exact if_neg (by omega)
          have sw : Stp1 L1 L2 (10 + j) V1 W9 := ⟨⟨_, hgr, fun q e _ => .inl (q2.2 q e)⟩, lo⟩
          have HB2 : Hid (Below w1.heap.size w1 W9) := Lib.hid ((HB1.out.trans (hbv.mono hxs)).grown hgr hbw (fun q hq => (q2.1.lt q hq).1))
          have hr9 := hL9 L2 lo ln
          rw [HZC.out, show (rowp (cdI ds) j i ++ [cdI ds (i, j)]) = rowp (cdI ds) j (i + 1) from (rowp_succ (cdI ds) j i).symm] at hr9
          have HS2 := Lib.hid (And.intro (q1.kept sw ⟨by omega, by omega, by omega, by omega, by omega, fun q hq => by omega, fun q hq => by omega, fun q hq => by omega⟩) (And.intro hr9 (And.intro (q3.kept sw (by omega) (fun _ _ => by show 40 ≠ 10 + j; omega)) (q4.kept sw (by omega) (fun _ _ => by show 40 ≠ 10 + j; omega)))))
          have HRUN := Lib.hid hrun
          have HVD := Lib.hid hV
          rw [HVD.out] at HRUN
          clear hbv hcv sv f1 f2 f3 f4 q1 q2 q3 q4 hrun hgr hg9 hL9 hLd lo ln sw hr9 hV hbw
          go_upto_region 11 with (at_builtin; refine Lib.wpList_append_run _ rfl _ _ _ _ rfl _ _ rfl rfl _ _ HRUN.out ?_)
          obtain ⟨X2, hXn⟩ : ∃ W, W = W9 := ⟨_, rfl⟩
          rw [← hXn] at HB2 HS2 ⊢
          clear hXn HRUN HVD c1 hD1 hD2
          have hX2 := HNX.out _ HB2.out
          have c0 := hX2.1.c0
          have c1 := hX2.1.c1
          have c2 := hX2.1.c2
          have c3 := hX2.1.c3
          obtain ⟨ba, oa, ca, b2, o2, k2, ut, hva, hA1, hA2, hTl⟩ := l4_at hX2.1.dx.down hid hjd
          injection hva with e1 e2 e3
          subst e1 e3
          clear e2
          have hTt : (dn[i])[j] = tbl dn (i, j) := by unfold tbl; dsimp only; rw [getD_of_lt _ hid, getD_of_lt _ hjd]
          rw [hTt] at hTl
          obtain ⟨n2, hn2⟩ : ∃ k, k = (dn[i]).length := ⟨_, rfl⟩
          rw [← hn2] at hA1
          have hj2 : (j : Int) < (n2 : Int) := by omega
          have HTB2 : Hid (∀ c, c = (i, j) → TabOk p (dcl ds c.1 c.2) (dcl ds c.1 ((c.2 : Int) - 1)) (tbl dn c)) := Lib.hid (fun c hc => by subst hc; exact (HDB.out.tbs.tab (i, j) hmem).2)
          have htl := (HTB2.out (i, j) rfl).1
          have hrl := (HTB2.out (i, j) rfl).2
          simp only at htl hrl
          have HROW := Lib.hid (l01Rows_q ut (tbl dn (i, j)) X2 hTl (by omega) (fun x hx => by have := (hrl x hx).1; omega))
          obtain ⟨ta, tc, hut⟩ := Sl.shape hTl
          subst hut
          obtain ⟨nt, hnt⟩ : ∃ k, k = (tbl dn (i, j)).length := ⟨_, rfl⟩
          rw [← hnt] at hA2 HROW
          clear hTl hTt hn2 hnt htl hrl hX2
          go_wp2_with fail
          refine HROW.out.mono ?_
          rintro ee Y2 ⟨u, rfl, hgq, hby⟩
          clear c0 c1 c2 c3 hA1 hA2 HROW
          obtain ⟨xa, xc, hux⟩ := Sl.shape hgq.l2
          obtain ⟨nx, hnx⟩ : ∃ k, k = (tbl dn (i, j)).length := ⟨_, rfl⟩
          rw [← hnx] at hux
          subst hux
          clear hnx
          obtain ⟨M2, hM⟩ : ∃ M : Nat → Nat, M = fun b => if b < X2.heap.size then L2 b else 40 := ⟨_, rfl⟩
          have mo : ∀ b, b < X2.heap.size → M2 b = L2 b := fun b hb => by rw [hM]; exact if_pos hb
          have mn : ∀ b, X2.heap.size ≤ b → M2 b = 40 := fun b hb => by rw [hM]; exact if_neg (by omega)
          clear hM
          have hxs : w1.heap.size ≤ X2.heap.size := HB2.out.size
          have ht0 : TTab M2 40 w1.heap.size Y2 (.slice xa nx xc) (tbl dn (i, j)) := TTab.of_gq hgq hxs mn
          obtain ⟨V2, hV⟩ : ∃ W', W' = Y2.alloc (.cells #[.slice xa nx xc] 22) := ⟨_, rfl⟩
          have hbv : Below Y2.heap.size Y2 V2 := by rw [hV]; exact below_alloc1 _ _
          have hcv : V2.cell? ⟨Y2.heap.size, 0, none⟩ = some (.slice xa nx xc) := by rw [hV]; exact cell_alloc1 _ _ _
          have hbxv : Below X2.heap.size X2 V2 := hby.trans (hbv.mono hby.size)
          have sv : Stp1 L2 M2 50 X2 V2 := Stp1.of_below hbxv mo 50
          have htv : TTab M2 40 w1.heap.size V2 (.slice xa nx xc) (tbl dn (i, j)) := ht0.kept (Stp1.of_below hbv (fun _ _ => rfl) 50) (by omega)
          obtain ⟨f1, f2, f3, f4⟩ := HS2.out
          have q1 := f1.below hbxv mo (by omega)
          have q2 := f2.kept sv (by omega)
          have q3 := f3.kept sv (by omega) (fun _ _ => by show 40 ≠ 50; omega)
          have q4 := f4.kept sv (by omega) (fun _ _ => by show 40 ≠ 50; omega)
          have hbw : w1.heap.size ≤ V2.heap.size := by have := hbxv.size; omega
          obtain ⟨g9, c9, W9, hrun, hgr, hg9, hL9⟩ := (q3).append (fun _ _ => by show 40 ≠ 20 + j; omega) (show TTab M2 ((fun _ : Nat => 40) (rowp (tbl dn) j i).length) w1.heap.size V2 (.slice xa nx xc) (tbl dn (i, j)) from htv) Y2.heap.size hcv (by rw [rowp_len]; omega) hbw
          obtain ⟨L3, hLd⟩ : ∃ M : Nat → Nat, M = fun b => if b < V2.heap.size then M2 b else (20 + j) := ⟨_, rfl⟩
          have lo : ∀ b, b < V2.heap.size → L3 b = M2 b := fun b hb => by rw [hLd]; exact if_pos hb
          have ln : ∀ b, V2.heap.size ≤ b → L3 b = (20 + j) := fun b hb => by rw [hLd]; exact if_neg (by omega)
          clear hLd
          have hown : ∀ q, Value.ownBlock va = some q → M2 q = (20 + j) ∧ w1.heap.size ≤ q := fun q hq => by obtain ⟨vs, ho, _⟩ := q3; exact ⟨ho.2 q hq, (ho.1.lt q hq).1⟩
          have sw : Stp1 M2 L3 (20 + j) V2 W9 := ⟨⟨_, hgr, fun q e _ => .inl (hown q e).1⟩, lo⟩
          have HB3 : Hid (Below w1.heap.size w1 W9) := Lib.hid ((HB2.out.trans (hbxv.mono hxs)).grown hgr hbw (fun q hq => (hown q hq).2))
          have hr9 := hL9 L3 lo ln
          rw [show (rowp (tbl dn) j i ++ [tbl dn (i, j)]) = rowp (tbl dn) j (i + 1) from (rowp_succ (tbl dn) j i).symm] at hr9
          have hk1 := q1.kept sw ⟨by omega, by omega, by omega, by omega, by omega, fun q hq => by omega, fun q hq => by omega, fun q hq => by omega⟩
          have hk2 := q2.kept sw (by omega)
          have hk4 := q4.kept sw (by omega) (fun _ _ => by show 40 ≠ 20 + j; omega)
          have HS3 := Lib.hid (And.intro hk1 (And.intro hk2 (And.intro hr9 hk4)))
          have HRUN := Lib.hid hrun
          have HVD := Lib.hid hV
          clear hgq hby mo mn ht0 hbv hcv hbxv sv htv f1 f2 f3 f4 q1 q2 q3 q4 hrun hgr hg9 hL9 lo ln hown sw hr9 hk1 hk2 hk4 hV hbw
          rw [HVD.out] at HRUN
          go_upto_region 12 with (at_builtin; refine Lib.wpList_append_run _ rfl _ _ _ _ rfl _ _ rfl rfl _ _ HRUN.out ?_)
          obtain ⟨X3, hXn⟩ : ∃ W, W = W9 := ⟨_, rfl⟩
          rw [← hXn] at HB3 HS3 ⊢
          clear hXn HRUN HVD
          have hX3 := HNX.out _ HB3.out
          have c0 := hX3.1.c0
          have c1 := hX3.1.c1
          have c2 := hX3.1.c2
          have c3 := hX3.1.c3
          obtain ⟨ba, oa, ca, b2, o2, k2, ut, hva, hA1, hA2, hTl⟩ := l4_at hX3.1.dx.across hia hja
          injection hva with e1 e2 e3
          subst e1 e3
          clear e2
          have hTt : (ac[i])[j] = tbl ac (i, j) := by unfold tbl; dsimp only; rw [getD_of_lt _ hia, getD_of_lt _ hja]
          rw [hTt] at hTl
          obtain ⟨n2, hn2⟩ : ∃ k, k = (ac[i]).length := ⟨_, rfl⟩
          rw [← hn2] at hA1
          have hj2 : (j : Int) < (n2 : Int) := by omega
          have HTB3 : Hid (∀ c, c = (i, j) → TabOk p (dcl ds c.1 c.2) (dcl ds ((c.1 : Int) - 1) c.2) (tbl ac c)) := Lib.hid (fun c hc => by subst hc; exact (HDB.out.tbs.tab (i, j) hmem).1)
          have htl := (HTB3.out (i, j) rfl).1
          have hrl := (HTB3.out (i, j) rfl).2
          simp only at htl hrl
          have HROW := Lib.hid (l01Rows_q ut (tbl ac (i, j)) X3 hTl (by omega) (fun x hx => by have := (hrl x hx).1; omega))
          obtain ⟨ta, tc, hut⟩ := Sl.shape hTl
          subst hut
          obtain ⟨nt, hnt⟩ : ∃ k, k = (tbl ac (i, j)).length := ⟨_, rfl⟩
          rw [← hnt] at hA2 HROW
          clear hTl hTt hn2 hnt htl hrl hX3
          go_wp2_with fail
          refine HROW.out.mono ?_
          rintro ee Y3 ⟨u, rfl, hgq, hby⟩
          clear c0 c1 c2 c3 hA1 hA2 HROW
          obtain ⟨xa, xc, hux⟩ := Sl.shape hgq.l2
          obtain ⟨nx, hnx⟩ : ∃ k, k = (tbl ac (i, j)).length := ⟨_, rfl⟩
          rw [← hnx] at hux
          subst hux
          clear hnx
          obtain ⟨M3, hM⟩ : ∃ M : Nat → Nat, M = fun b => if b < X3.heap.size then L3 b else 40 := ⟨_, rfl⟩
          have mo : ∀ b, b < X3.heap.size → M3 b = L3 b := fun b hb => by rw [hM]; exact if_pos hb
          have mn : ∀ b, X3.heap.size ≤ b → M3 b = 40 := fun b hb => by rw [hM]; exact if_neg (by omega)
          clear hM
          have hxs : w1.heap.size ≤ X3.heap.size := HB3.out.size
          have ht0 : TTab M3 40 w1.heap.size Y3 (.slice xa nx xc) (tbl ac (i, j)) := TTab.of_gq hgq hxs mn
          obtain ⟨V3, hV⟩ : ∃ W', W' = Y3.alloc (.cells #[.slice xa nx xc] 22) := ⟨_, rfl⟩
          have hbv : Below Y3.heap.size Y3 V3 := by rw [hV]; exact below_alloc1 _ _
          have hcv : V3.cell? ⟨Y3.heap.size, 0, none⟩ = some (.slice xa nx xc) := by rw [hV]; exact cell_alloc1 _ _ _
          have hbxv : Below X3.heap.size X3 V3 := hby.trans (hbv.mono hby.size)
          have sv : Stp1 L3 M3 50 X3 V3 := Stp1.of_below hbxv mo 50
          have htv : TTab M3 40 w1.heap.size V3 (.slice xa nx xc) (tbl ac (i, j)) := ht0.kept (Stp1.of_below hbv (fun _ _ => rfl) 50) (by omega)
          obtain ⟨f1, f2, f3, f4⟩ := HS3.out
          have q1 := f1.below hbxv mo (by omega)
          have q2 := f2.kept sv (by omega)
          have q3 := f3.kept sv (by omega) (fun _ _ => by show 40 ≠ 50; omega)
          have q4 := f4.kept sv (by omega) (fun _ _ => by show 40 ≠ 50; omega)
          have hbw : w1.heap.size ≤ V3.heap.size := by have := hbxv.size; omega
          obtain ⟨g9, c9, W9, hrun, hgr, hg9, hL9⟩ := (q4).append (fun _ _ => by show 40 ≠ 30 + j; omega) (show TTab M3 ((fun _ : Nat => 40) (rowp (tbl ac) j i).length) w1.heap.size V3 (.slice xa nx xc) (tbl ac (i, j)) from htv) Y3.heap.size hcv (by rw [rowp_len]; omega) hbw
          obtain ⟨L4, hLd⟩ : ∃ M : Nat → Nat, M = fun b => if b < V3.heap.size then M3 b else (30 + j) := ⟨_, rfl⟩
          have lo : ∀ b, b < V3.heap.size → L4 b = M3 b := fun b hb => by rw [hLd]; exact if_pos hb
          have ln : ∀ b, V3.heap.size ≤ b → L4 b = (30 + j) := fun b hb => by rw [hLd]; exact if_neg (by omega)
          clear hLd
          have hown : ∀ q, Value.ownBlock vv2 = some q → M3 q = (30 + j) ∧ w1.heap.size ≤ q := fun q hq => by obtain ⟨vs, ho, _⟩ := q4; exact ⟨ho.2 q hq, (ho.1.lt q hq).1⟩
          have sw : Stp1 M3 L4 (30 + j) V3 W9 := ⟨⟨_, hgr, fun q e _ => .inl (hown q e).1⟩, lo⟩
          have HB4 : Hid (Below w1.heap.size w1 W9) := Lib.hid ((HB3.out.trans (hbxv.mono hxs)).grown hgr hbw (fun q hq => (hown q hq).2))
          have hr9 := hL9 L4 lo ln
          rw [show (rowp (tbl ac) j i ++ [tbl ac (i, j)]) = rowp (tbl ac) j (i + 1) from (rowp_succ (tbl ac) j i).symm] at hr9
          have hk1 := q1.kept sw ⟨by omega, by omega, by omega, by omega, by omega, fun q hq => by omega, fun q hq => by omega, fun q hq => by omega⟩
          have hk2 := q2.kept sw (by omega)
          have hk3 := q3.kept sw (by omega) (fun _ _ => by show 40 ≠ 30 + j; omega)
          have HS4 := Lib.hid (And.intro hk1 (And.intro hk2 (And.intro hk3 hr9)))
          have HRUN := Lib.hid hrun
          have HVD := Lib.hid hV
          clear hgq hby mo mn ht0 hbv hcv hbxv sv htv f1 f2 f3 f4 q1 q2 q3 q4 hrun hgr hg9 hL9 lo ln hown sw hr9 hk1 hk2 hk3 hV hbw
          rw [HVD.out] at HRUN
          go_wp2_with (at_builtin; refine Lib.wpList_append_run _ rfl _ _ _ _ rfl _ _ rfl rfl _ _ HRUN.out ?_)
          have HS4X : Hid (∃ L, FlM L w1.heap.size W9 g p j j j vD vA vV ((List.range j).map (rowG ds (cdI ds))) ((List.range j).map (rowG ds (tbl dn))) ((List.range j).map (rowG ds (tbl ac))) ∧ TI L (10 + j) w1.heap.size W9 _ (rowp (cdI ds) j (i + 1)) ∧ TTabs L (20 + j) (fun _ => 40) w1.heap.size W9 _ (rowp (tbl dn) j (i + 1)) ∧ TTabs L (30 + j) (fun _ => 40) w1.heap.size W9 _ (rowp (tbl ac) j (i + 1))) := Lib.hid ⟨L4, HS4.out⟩
          go_roundw
          case rel => first | exact ⟨i + 1, _, _, _, rfl, rfl, rfl, by omega, by go_num, HS4X, HB4⟩ | ((repeat apply Exists.intro); exact ⟨⟨i + 1, _, _, _, rfl, rfl, rfl, by omega, by go_num, HS4X, HB4⟩, rfl⟩)
          case measure => simp [intOf]; omega
        · obtain rfl : i = m := by omega
          have hge : ¬ (i : Int) < (i : Int) := by omega
          obtain ⟨T1, f1, f2, f3, f4⟩ := HSI.out
          have HP1 := Lib.hid (And.intro f1 (And.intro f2 (And.intro f3 f4)))
          obtain ⟨xd, yd, hsd⟩ := Sl.shape f2.1.l1
          obtain ⟨xa, na, ya, hsa, _⟩ := f3.cap
          obtain ⟨xv, nv, yv, hsv, _⟩ := f4.cap
          obtain ⟨nd, hnd⟩ : ∃ q, q = (rowp (cdI ds) j i).length := ⟨_, rfl⟩
          rw [← hnd] at hsd
          clear f1 f2 f3 f4 HSI hnd
          subst hsd hsa hsv
          obtain ⟨P1, hP1⟩ : ∃ W, W = X1 := ⟨_, rfl⟩
          rw [← hP1] at HB1 HP1 ⊢
          have HBP1 := HB1
          clear hP1 HB1
          go_upto_region 13 with fail
          obtain ⟨E1, hE⟩ : ∃ W', W' = P1.alloc (.cells #[.slice xd nd yd] 35) := ⟨_, rfl⟩
          have hbe : Below P1.heap.size P1 E1 := by rw [hE]; exact below_alloc1 _ _
          have hce : E1.cell? ⟨P1.heap.size, 0, none⟩ = some (.slice xd nd yd) := by rw [hE]; exact cell_alloc1 _ _ _
          have se : Stp1 T1 T1 50 P1 E1 := Stp1.of_below hbe (fun _ _ => rfl) 50
          obtain ⟨p1, p2, p3, p4⟩ := HP1.out
          have e1 := p1.below hbe (fun _ _ => rfl) (by omega)
          have e2 := p2.kept se (by omega)
          have e3 := p3.kept se (by omega) (fun _ _ => by show 40 ≠ 50; omega)
          have e4 := p4.kept se (by omega) (fun _ _ => by show 40 ≠ 50; omega)
          obtain ⟨g1, k1, F1, T2, hrun, hpsh, hlo9, hfl⟩ := e1.pushD e2 P1.heap.size hce (by omega)
          obtain ⟨h1, h2, h3, h4, h5⟩ := hpsh
          have HBP2 : Hid (Below w1.heap.size w1 (F1.setCell ⟨g, 1, none⟩ (.slice (some ⟨g1, 0, none⟩) (j + 1) k1))) := Lib.hid (((HBP1.out.trans (hbe.mono HBP1.out.size)).grown h1 (HBP1.out.trans (hbe.mono HBP1.out.size)).size hlo9).setCell (by show w1.heap.size ≤ g; exact hgw) _)
          have HP2 := Lib.hid (And.intro hfl (And.intro ((e2.kept h2 (by omega)).kept h3 (by omega)) (And.intro ((e3.kept h2 (by omega) (fun _ _ => by show 40 ≠ 1; omega)).kept h3 (by omega) (fun _ _ => by show 40 ≠ 0; omega)) ((e4.kept h2 (by omega) (fun _ _ => by show 40 ≠ 1; omega)).kept h3 (by omega) (fun _ _ => by show 40 ≠ 0; omega)))))
          have gb : P1.cell? ⟨g, 1, none⟩ = some vD := by simp [World.cell?, p1.box]
          have HRUN := Lib.hid hrun
          have HED := Lib.hid hE
          rw [HED.out] at HRUN
          clear hbe hce se p1 p2 p3 p4 e1 e2 e3 e4 hrun h1 h2 h3 hfl hE hlo9
          go_upto_region 14 with (at_builtin; refine Lib.wpList_append_run _ rfl _ _ _ _ rfl _ _ rfl rfl _ _ HRUN.out ?_)
          obtain ⟨P2, hPn⟩ : ∃ W, W = F1.setCell ⟨g, 1, none⟩ (.slice (some ⟨g1, 0, none⟩) (j + 1) k1) := ⟨_, rfl⟩
          rw [← hPn] at HBP2 HP2 ⊢
          clear hPn HRUN HED h4 h5 gb
          obtain ⟨E2, hE⟩ : ∃ W', W' = P2.alloc (.cells #[.slice xa na ya] 36) := ⟨_, rfl⟩
          have hbe : Below P2.heap.size P2 E2 := by rw [hE]; exact below_alloc1 _ _
          have hce : E2.cell? ⟨P2.heap.size, 0, none⟩ = some (.slice xa na ya) := by rw [hE]; exact cell_alloc1 _ _ _
          have se : Stp1 T2 T2 50 P2 E2 := Stp1.of_below hbe (fun _ _ => rfl) 50
          obtain ⟨p1, p2, p3, p4⟩ := HP2.out
          have e1 := p1.below hbe (fun _ _ => rfl) (by omega)
          have e2 := p2.kept se (by omega)
          have e3 := p3.kept se (by omega) (fun _ _ => by show 40 ≠ 50; omega)
          have e4 := p4.kept se (by omega) (fun _ _ => by show 40 ≠ 50; omega)
          obtain ⟨g2, k2, F2, T3, hrun, hpsh, hlo9, hfl⟩ := e1.pushA e3 P2.heap.size hce (by omega)
          obtain ⟨h1, h2, h3, h4, h5⟩ := hpsh
          have HBP3 : Hid (Below w1.heap.size w1 (F2.setCell ⟨g, 2, none⟩ (.slice (some ⟨g2, 0, none⟩) (j + 1) k2))) := Lib.hid (((HBP2.out.trans (hbe.mono HBP2.out.size)).grown h1 (HBP2.out.trans (hbe.mono HBP2.out.size)).size hlo9).setCell (by show w1.heap.size ≤ g; exact hgw) _)
          have HP3 := Lib.hid (And.intro hfl (And.intro ((e2.kept h2 (by omega)).kept h3 (by omega)) (And.intro ((e3.kept h2 (by omega) (fun _ _ => by show 40 ≠ 2; omega)).kept h3 (by omega) (fun _ _ => by show 40 ≠ 0; omega)) ((e4.kept h2 (by omega) (fun _ _ => by show 40 ≠ 2; omega)).kept h3 (by omega) (fun _ _ => by show 40 ≠ 0; omega)))))
          have gb : P2.cell? ⟨g, 2, none⟩ = some vA := by simp [World.cell?, p1.box]
          have HRUN := Lib.hid hrun
          have HED := Lib.hid hE
          rw [HED.out] at HRUN
          clear hbe hce se p1 p2 p3 p4 e1 e2 e3 e4 hrun h1 h2 h3 hfl hE hlo9
          go_upto_region 15 with (at_builtin; refine Lib.wpList_append_run _ rfl _ _ _ _ rfl _ _ rfl rfl _ _ HRUN.out ?_)
          obtain ⟨P3, hPn⟩ : ∃ W, W = F2.setCell ⟨g, 2, none⟩ (.slice (some ⟨g2, 0, none⟩) (j + 1) k2) := ⟨_, rfl⟩
          rw [← hPn] at HBP3 HP3 ⊢
          clear hPn HRUN HED h4 h5 gb
          obtain ⟨E3, hE⟩ : ∃ W', W' = P3.alloc (.cells #[.slice xv nv yv] 36) := ⟨_, rfl⟩
          have hbe : Below P3.heap.size P3 E3 := by rw [hE]; exact below_alloc1 _ _
          have hce : E3.cell? ⟨P3.heap.size, 0, none⟩ = some (.slice xv nv yv) := by rw [hE]; exact cell_alloc1 _ _ _
          have se : Stp1 T3 T3 50 P3 E3 := Stp1.of_below hbe (fun _ _ => rfl) 50
          obtain ⟨p1, p2, p3, p4⟩ := HP3.out
          have e1 := p1.below hbe (fun _ _ => rfl) (by omega)
          have e2 := p2.kept se (by omega)
          have e3 := p3.kept se (by omega) (fun _ _ => by show 40 ≠ 50; omega)
          have e4 := p4.kept se (by omega) (fun _ _ => by show 40 ≠ 50; omega)
          obtain ⟨g3, k3, F3, T4, hrun, hpsh, hlo9, hfl⟩ := e1.pushV e4 P3.heap.size hce (by omega)
          obtain ⟨h1, h2, h3, h4, h5⟩ := hpsh
          have HBP4 : Hid (Below w1.heap.size w1 (F3.setCell ⟨g, 3, none⟩ (.slice (some ⟨g3, 0, none⟩) (j + 1) k3))) := Lib.hid (((HBP3.out.trans (hbe.mono HBP3.out.size)).grown h1 (HBP3.out.trans (hbe.mono HBP3.out.size)).size hlo9).setCell (by show w1.heap.size ≤ g; exact hgw) _)
          have HP4 := Lib.hid (And.intro hfl (And.intro ((e2.kept h2 (by omega)).kept h3 (by omega)) (And.intro ((e3.kept h2 (by omega) (fun _ _ => by show 40 ≠ 3; omega)).kept h3 (by omega) (fun _ _ => by show 40 ≠ 0; omega)) ((e4.kept h2 (by omega) (fun _ _ => by show 40 ≠ 3; omega)).kept h3 (by omega) (fun _ _ => by show 40 ≠ 0; omega)))))
          have gb : P3.cell? ⟨g, 3, none⟩ = some vV := by simp [World.cell?, p1.box]
          have HRUN := Lib.hid hrun
          have HED := Lib.hid hE
          rw [HED.out] at HRUN
          clear hbe hce se p1 p2 p3 p4 e1 e2 e3 e4 hrun h1 h2 h3 hfl hE hlo9
          go_wp2_with (at_builtin; refine Lib.wpList_append_run _ rfl _ _ _ _ rfl _ _ rfl rfl _ _ HRUN.out ?_)
          obtain ⟨P4, hPn⟩ : ∃ W, W = F3.setCell ⟨g, 3, none⟩ (.slice (some ⟨g3, 0, none⟩) (j + 1) k3) := ⟨_, rfl⟩
          have HPN := Lib.hid hPn
          rw [← hPn] at HBP4 HP4
          clear hPn HRUN HED gb
          rw [← HPN.out]
          go_roundw
          case rel =>
            have HEQ : Hid (∃ L, FlM L w1.heap.size P4 g p (j + 1) (j + 1) (j + 1) (.slice (some ⟨g1, 0, none⟩) (j + 1) k1) (.slice (some ⟨g2, 0, none⟩) (j + 1) k2) (.slice (some ⟨g3, 0, none⟩) (j + 1) k3) ((List.range (j + 1)).map (rowG ds (cdI ds))) ((List.range (j + 1)).map (rowG ds (tbl dn))) ((List.range (j + 1)).map (rowG ds (tbl ac)))) := Lib.hid ⟨T4, by
              have h0 := HP4.out.1
              rw [HM.out, rowp_all, rowp_all, rowp_all] at h0
              rw [range_snoc, range_snoc, range_snoc]
              exact h0⟩
            exact ⟨j + 1, by omega, by omega, _, _, _, HEQ⟩
          case measure => simp [intOf]; omega
    · obtain rfl : j = hh := by omega
      have hge : ¬ (j : Int) < (j : Int) := by omega
      obtain ⟨L, hf⟩ := HS.out
      obtain ⟨xd, nd, yd, hsd⟩ : ∃ a n c, vD = .slice a n c := by obtain ⟨vs, ho, _⟩ := hf.o1; rcases ho.1.2 with ⟨h0, _⟩ | ⟨g', c', cur, hu, _⟩; exact ⟨_, _, _, h0⟩; exact ⟨_, _, _, hu⟩
      obtain ⟨xa, na, ya, hsa⟩ : ∃ a n c, vA = .slice a n c := by obtain ⟨vs, ho, _⟩ := hf.o2; rcases ho.1.2 with ⟨h0, _⟩ | ⟨g', c', cur, hu, _⟩; exact ⟨_, _, _, h0⟩; exact ⟨_, _, _, hu⟩
      obtain ⟨xv, nv, yv, hsv⟩ : ∃ a n c, vV = .slice a n c := by obtain ⟨vs, ho, _⟩ := hf.o3; rcases ho.1.2 with ⟨h0, _⟩ | ⟨g', c', cur, hu, _⟩; exact ⟨_, _, _, h0⟩; exact ⟨_, _, _, hu⟩
      subst hsd hsa hsv
      have hbx := hf.box
      have g0 : wx.cell? ⟨g, 0, none⟩ = some (.int .i64 p) := by simp [World.cell?, hbx]
      have g1 : wx.cell? ⟨g, 1, none⟩ = some (.slice xd nd yd) := by simp [World.cell?, hbx]
      have g2 : wx.cell? ⟨g, 2, none⟩ = some (.slice xa na ya) := by simp [World.cell?, hbx]
      have g3 : wx.cell? ⟨g, 3, none⟩ = some (.slice xv nv yv) := by simp [World.cell?, hbx]
      have HZ : Hid (wx.heap[w.heap.size + 1]? = some (.cells Zd4 28 (0, 0))) := Lib.hid (HNX.out _ HBX.out).2.2
      obtain ⟨L', hL'⟩ : ∃ M, M = retag L (w.heap.size + 1) := ⟨_, rfl⟩
      have hne : w.heap.size + 1 ≠ g := by omega
      obtain ⟨WF, hWF⟩ : ∃ WF, WF = wx.setRow (w.heap.size + 1) #[.int .i64 p, .slice xd nd yd, .slice xa na ya, .slice xv nv yv] := ⟨_, rfl⟩
      have hrF : Rz WF (w.heap.size + 1) 28 #[.int .i64 p, .slice xd nd yd, .slice xa na ya, .slice xv nv yv] := by rw [hWF]; exact Rz.set HZ.out _
      have hgF : wx.grownBy WF (some (w.heap.size + 1)) := by rw [hWF]; exact grown_setRow _ _ _
      have HDXF : Hid (Dx w.heap.size WF (.slice xd nd yd) (.slice xa na ya) (.slice xv nv yv) ((List.range j).map (rowG ds (cdI ds))) ((List.range j).map (rowG ds (tbl dn))) ((List.range j).map (rowG ds (tbl ac)))) := Lib.hid (by
        have st : Stp1 (fun b => if b = w.heap.size + 1 then 50 else L b) (fun b => if b = w.heap.size + 1 then 50 else L b) 50 wx WF := ⟨⟨_, hgF, fun q e _ => by cases e; exact .inl (if_pos rfl)⟩, fun _ _ => rfl⟩
        have hf2 : FlM (fun b => if b = w.heap.size + 1 then 50 else L b) w1.heap.size wx g p j j j (.slice xd nd yd) (.slice xa na ya) (.slice xv nv yv) ((List.range j).map (rowG ds (cdI ds))) ((List.range j).map (rowG ds (tbl dn))) ((List.range j).map (rowG ds (tbl ac))) := hf.retag (fun b hb => if_neg (by omega)) (if_neg (by omega))
        exact (hf2.kept st ⟨by omega, by omega, by omega, by omega, by omega, fun q hq => by omega, fun q hq => by omega, fun q hq => by omega⟩).dx.lower (by omega))
      have HBF : Hid (Below w.heap.size w WF) := Lib.hid (by rw [hWF]; exact below_setRow (HW0.out _ HBX.out) (Nat.le_succ _) _)
      have k0 := hrF.cell (i := 0) (v := _) rfl
      have k1 := hrF.cell (i := 1) (v := _) rfl
      have k2 := hrF.cell (i := 2) (v := _) rfl
      have k3 := hrF.cell (i := 3) (v := _) rfl
      have HWF := Lib.hid hWF
      clear hWF hrF hgF hf hbx hL' HS
      go_wp2_with (with_reducible refine wpList_store_row rfl 28 (.tmp 2) (.tmp 91) rfl (w.heap.size + 1) #[.int .i64 p, .slice xd nd yd, .slice xa na ya, .slice xv nv yv] rfl rfl 28 Zd4 HZ.out (infoDb _ _ _ _) rfl (by kernel_rfl) ?_)
      rw [← HWF.out]
      go_wp2
      refine bodyPost_ret (v := .agg #[.int .i64 p, .slice xd nd yd, .slice xa na ya, .slice xv nv yv]) (results_db HRES.out _ (w.heap.size + 1) _ _ _ _ _ rfl k0 k1 k2 k3) rfl ⟨_, _, _, rfl, by first | (rw [← HQ.out]; exact HDXF.out) | (rw [show (ds[0]?.getD []).length = j from by rw [← List.getD_eq_getElem?_getD]; exact HQ.out.symm]; exact HDXF.out), HBF.out⟩
end Go.Proofs.Ytlopenephgabhaa


namespace Go.Proofs.Ytlopenephgabhaa
open Go.ChangeShapes Go.WideShapes Go.ChangeAt Go.RowKit Go.Deep

structure Dd (lo : Nat) (w : World) (dv av vv : Value) (dl : List (List Int)) (al : List (List (List (List Int)))) (vl : List (List (List (List Int)))) : Prop where
  fd : L2 lo w dv dl
  fa : L4 lo w av al
  fv : L4 lo w vv vl
theorem Dd.below {lo : Nat} {w w' : World} {dv av vv : Value} {dl : List (List Int)} {al : List (List (List (List Int)))} {vl : List (List (List (List Int)))} (h : Dd lo w dv av vv dl al vl) (hb : Below w.heap.size w w') : Dd lo w' dv av vv dl al vl := ⟨h.fd.below hb, h.fa.below hb, h.fv.below hb⟩
theorem Dd.lower {lo lo' : Nat} (hl : lo' ≤ lo) {w : World} {dv av vv : Value} {dl : List (List Int)} {al : List (List (List (List Int)))} {vl : List (List (List (List Int)))} (h : Dd lo w dv av vv dl al vl) : Dd lo' w dv av vv dl al vl := ⟨h.fd.lower hl, h.fa.lower hl, h.fv.lower hl⟩
structure DdB (n : Nat) (dl : List (List Int)) (al : List (List (List (List Int)))) (vl : List (List (List (List Int)))) : Prop where
  bd : Bd2 n dl
  ba : Bd4 n al
  bv : Bd4 n vl
structure DdW (lo hi : Nat) (w : World) (dv av vv : Value) (dl : List (List Int)) (al : List (List (List (List Int)))) (vl : List (List (List (List Int)))) : Prop where
  fd : W2 lo hi w dv dl
  fa : W4 lo hi w av al
  fv : W4 lo hi w vv vl
theorem DdW.same {lo hi : Nat} {w w' : World} {dv av vv : Value} {dl : List (List Int)} {al : List (List (List (List Int)))} {vl : List (List (List (List Int)))} (h : DdW lo hi w dv av vv dl al vl) (s : Same lo hi w w') : DdW lo hi w' dv av vv dl al vl := ⟨h.fd.same s, h.fa.same s, h.fv.same s⟩
theorem DdW.cx {lo hi : Nat} {w : World} {dv av vv : Value} {dl : List (List Int)} {al : List (List (List (List Int)))} {vl : List (List (List (List Int)))} (h : DdW lo hi w dv av vv dl al vl) : Dd lo w dv av vv dl al vl := ⟨h.fd.l2, h.fa.l4, h.fv.l4⟩
/-- The box of one, in whatever later world. -/
structure BxDd (w wr : World) (b : Nat) (p : Int) (dv av vv : Value) (dl : List (List Int)) (al : List (List (List (List Int)))) (vl : List (List (List (List Int)))) : Prop where
  below : Below w.heap.size w wr
  c0 : wr.cell? ⟨b, 0, none⟩ = some (.int .i64 p)
  c1 : wr.cell? ⟨b, 1, none⟩ = some (dv)
  c2 : wr.cell? ⟨b, 2, none⟩ = some (av)
  c3 : wr.cell? ⟨b, 3, none⟩ = some (vv)
  lt : b < wr.heap.size
  cx : Dd 0 wr dv av vv dl al vl
theorem BxDd.start {w : World} {p : Int} {dv av vv : Value} {dl : List (List Int)} {al : List (List (List (List Int)))} {vl : List (List (List (List Int)))} (t : TypeId) (h : Dd 0 w dv av vv dl al vl) : BxDd w (w.alloc (.cells #[.int .i64 p, dv, av, vv] t)) w.heap.size p dv av vv dl al vl :=
  ⟨(Below.refl _ _).alloc (Nat.le_refl _) _, by simp, by simp, by simp, by simp, by simp, h.below ((Below.refl _ _).alloc (Nat.le_refl _) _)⟩
structure BqDd (wr : World) (b : Nat) (p : Int) (dv av vv : Value) (dl : List (List Int)) (al : List (List (List (List Int)))) (vl : List (List (List (List Int)))) : Prop where
  c0 : wr.cell? ⟨b, 0, none⟩ = some (.int .i64 p)
  c1 : wr.cell? ⟨b, 1, none⟩ = some (dv)
  c2 : wr.cell? ⟨b, 2, none⟩ = some (av)
  c3 : wr.cell? ⟨b, 3, none⟩ = some (vv)
  lt : b < wr.heap.size
  cx : Dd 0 wr dv av vv dl al vl
theorem BxDd.bq {w wr : World} {b : Nat} {p : Int} {dv av vv : Value} {dl : List (List Int)} {al : List (List (List (List Int)))} {vl : List (List (List (List Int)))} (h : BxDd w wr b p dv av vv dl al vl) : BqDd wr b p dv av vv dl al vl := ⟨h.c0, h.c1, h.c2, h.c3, h.lt, h.cx⟩
theorem BqDd.next {wr w' : World} {b : Nat} {p : Int} {dv av vv : Value} {dl : List (List Int)} {al : List (List (List (List Int)))} {vl : List (List (List (List Int)))} (h : BqDd wr b p dv av vv dl al vl) (hb : Below wr.heap.size wr w') : BqDd w' b p dv av vv dl al vl :=
  ⟨later hb (Nat.le_refl _) h.c0, later hb (Nat.le_refl _) h.c1, later hb (Nat.le_refl _) h.c2, later hb (Nat.le_refl _) h.c3, Nat.lt_of_lt_of_le h.lt hb.size, h.cx.below hb⟩
set_option maxHeartbeats 1600000 in
theorem eqDouble_true (p : Int) (dv av vv : Value) (dv2 av2 vv2 : Value) (dl : List (List Int)) (al : List (List (List (List Int)))) (vl : List (List (List (List Int)))) (w : World) (h : Dd 0 w dv av vv dl al vl) (h2 : Dd 0 w dv2 av2 vv2 dl al vl) (hm : DdB 1048576 dl al vl) :
    Calls Try.prog 14 #[.agg #[.int .i64 p, dv, av, vv], .agg #[.int .i64 p, dv2, av2, vv2]] w (BR (.bool true) w) := by
  have HM := Lib.hid hm
  have HB0 : Hid (Below w.heap.size w ((w.alloc (.cells #[.int .i64 p, dv, av, vv] 28)).alloc (.cells #[.int .i64 p, dv2, av2, vv2] 28))) := Lib.hid (((Below.refl _ _).alloc (Nat.le_refl _) _).alloc (by simp) _)
  have H := Lib.hid (h.below HB0.out)
  have H2 := Lib.hid (h2.below HB0.out)
  clear hm h h2
  go_enter Try.func14, Try.ntmps14
  go_wp2_with fail
  have h1 := eq2_any dv dv2 dl dl _ H.out.fd H2.out.fd HM.out.bd HM.out.bd
  rw [decide_eq_true rfl] at h1
  refine h1.mono ?_
  clear h1
  rintro ee w' ⟨rfl, m0, rfl⟩
  go_wp2_with fail
  have h1 := eq4_any av av2 al al _ (H.out.fa.below (drewN_below _ (m0))) (H2.out.fa.below (drewN_below _ (m0))) HM.out.ba HM.out.ba
  rw [decide_eq_true rfl] at h1
  refine h1.mono ?_
  clear h1
  rintro ee w' ⟨rfl, m1, rfl⟩
  go_wp2_with fail
  have h1 := eq4_any vv vv2 vl vl _ (H.out.fv.below (drewN_below _ (m0 + m1))) (H2.out.fv.below (drewN_below _ (m0 + m1))) HM.out.bv HM.out.bv
  rw [decide_eq_true rfl] at h1
  refine h1.mono ?_
  clear h1
  rintro ee w' ⟨rfl, m2, rfl⟩
  go_wp2
  go_ret
  exact ⟨rfl, HB0.out.trans ((drewN_below _ (m0 + m1 + m2)).mono HB0.out.size)⟩
section
variable {H : Type} {enc : TypeId × Value → H} {P : Program} {w : World} {base : Nat} {held : Bool} {spare : Nat → Bool}
end
end Go.Proofs.Ytlopenephgabhaa


namespace Go.Proofs.Ytlopenephgabhaa
open Go.RowKit

def S4 (lo hi : Nat) := SS (S3 lo hi) lo hi
theorem S4.tame {lo hi : Nat} {w w' : World} {v : Value} {I : List Iv} (h : S4 lo hi w v I) (t : Tame w w') : S4 lo hi w' v I :=
  SS.keep h (fun _ _ h => S3.tame h t) (fun b o v _ _ ⟨a, n, c, e⟩ hc => by subst e; exact t.slices _ _ _ _ _ hc) (fun _ _ h => SS.shape h)
theorem S4.same {lo hi : Nat} {w w' : World} {v : Value} {I : List Iv} (h : S4 lo hi w v I) (s : Same lo hi w w') : S4 lo hi w' v I :=
  SS.keep h (fun _ _ h => S3.same h s) (fun b o _ hb hb2 _ hc => (World.cell?_of_block (w := w) (a := ⟨b, o, none⟩) (s b hb hb2)).trans hc) (fun _ _ h => SS.shape h)
theorem S4.wider {lo hi lo' hi' : Nat} {W : World} {u : Value} {I : List Iv} (h : S4 lo hi W u I) (h1 : lo' ≤ lo) (h2 : hi ≤ hi') : S4 lo' hi' W u I := SS.wider h (fun _ _ k => S3.wider k h1 h2) h1 h2

set_option maxHeartbeats 1600000 in
theorem mark4s_any {lo hi : Nat} (v : Value) (I : List Iv) (k : Int) (w : World) (h : S4 lo hi w v I) (hn : Nums lo hi w I) (hd : Disj I) (hk0 : 0 ≤ k) (hk1 : k + (ivSize I : Int) ≤ 4611686018427387904) :
    Calls Try.prog 52 #[v, .int .i64 k] w (MarkS lo hi I k w) := by
  obtain ⟨ad, m, cap, f, J, rfl, hm, rfl, hs, hc⟩ := h
  have HS := Lib.hid hs
  have HN := Lib.hid hn
  have HD := Lib.hid hd
  clear hs hn hd
  by_cases h0 : m = 0
  · subst h0
    clear hc
    go_enter Try.func52, Try.ntmps52
    go_wp2
    refine wp_loop_rounds 1 ?_
    rw [rounds_succ]
    go_wp2
    go_ret
    exact ⟨ret_int (by simp [ivSize, flat]), Only.refl _ _ _, Tame.refl _, OutC.refl _ _, trivial⟩
  · obtain ⟨b, o, rfl, hlo, hhi, hcl⟩ := hc (by omega)
    have HC := Lib.hid hcl
    have HK := Lib.hid hk1
    clear hcl hc hk1
    go_enter Try.func52, Try.ntmps52
    go_wp2
    go_loopw [1, 5] (fun kk i wr => ∃ (j : Nat) (s : Int), j ≤ m ∧ i = .int .i64 j ∧ kk = .int .i64 s ∧ Hid (s = k + (ivSize (flat J j) : Int)) ∧ Hid (Only lo hi w wr ∧ Tame w wr ∧ OutC (flat J j) w wr ∧ Marked wr (flat J j) k)) (fun _ i _ => m - (intOf i).toNat)
    case atStart => exact ⟨0, k, Nat.zero_le _, rfl, rfl, Lib.hid (by simp [flat, ivSize]), Lib.hid ⟨Only.refl _ _ _, Tame.refl _, OutC.refl _ _, trivial⟩⟩
    case round =>
      obtain ⟨j, s, hj, rfl, rfl, HSU, HO⟩ := hrel
      by_cases hlt : j < m
      · obtain ⟨a1, n1, c1, hu1⟩ := SS.shape (HS.out j hlt)
        have hu := HC.out j hlt
        rw [hu1] at hu
        have hu' := HO.out.2.1.slices _ _ _ _ _ hu
        have hs := HS.out
        have hsz := flat_size (J := J) hlt
        have hs0 : 0 ≤ s ∧ s ≤ 4611686018427387904 := by have := HSU.out; have := HK.out; omega
        have HM1 := Lib.hid (mark3s_any (f j) (J j) s wr (S3.tame (hs j hlt) HO.out.2.1) ((HN.out.sub (flat_mem hlt)).tame HO.out.2.1) (flat_disj hlt HD.out) (by omega) (by have := HSU.out; have := HK.out; omega))
        rw [hu1] at HM1
        have HS2 : Hid (s + (ivSize (J j) : Int) = k + (ivSize (flat J (j + 1)) : Int)) := Lib.hid (by have := HSU.out; rw [flat_succ, ivSize_append]; omega)
        clear hu hu1 hs hsz
        go_wp2_with fail
        refine HM1.out.mono ?_
        rintro e w2 ⟨rfl, ho, ht, hout, hmk⟩
        have HO2 : Hid (Only lo hi w w2 ∧ Tame w w2 ∧ OutC (flat J (j + 1)) w w2 ∧ Marked w2 (flat J (j + 1)) k) := Lib.hid ⟨HO.out.1.trans ho, HO.out.2.1.trans ht, by rw [flat_succ]; exact HO.out.2.2.1.trans hout, by
          rw [flat_succ]
          exact (HO.out.2.2.2.keep hout (flat_apart hlt HD.out)).append (by rw [← HSU.out]; exact hmk)⟩
        have hs1 : 0 ≤ s + (ivSize (J j) : Int) ∧ s + (ivSize (J j) : Int) ≤ 4611686018427387904 := by
          have h1 := HS2.out
          have h2 := HK.out
          have h3 : ivSize (flat J (j + 1)) ≤ ivSize (flat J m) := by
            obtain ⟨r, hr⟩ := flat_part J (show j + 1 ≤ m by omega)
            rw [hr, ivSize_append]; omega
          omega
        clear ho ht hout hmk HM1
        go_wp2
        go_roundw
        case rel => exact ⟨j + 1, s + (ivSize (J j) : Int), by omega, by go_num, rfl, HS2, HO2⟩
        case measure => simp [intOf]; omega
      · have hjj : Hid (j = m) := Lib.hid (by omega)
        go_wp2
        go_ret
        have h := HO.out
        have h2 := HSU.out
        rw [hjj.out] at h h2
        exact ⟨ret_int h2, h.1, h.2.1, h.2.2.1, h.2.2.2⟩

set_option maxHeartbeats 1600000 in
theorem held4s_any {lo hi : Nat} (v : Value) (I : List Iv) (k : Int) (w : World) (h : S4 lo hi w v I) (hn : Marked w I k) (hk0 : 0 ≤ k) (hk1 : k + (ivSize I : Int) ≤ 4611686018427387904) :
    Calls Try.prog 53 #[v, .int .i64 k] w (QW (.int .i64 (k + (ivSize I : Int))) w) := by
  obtain ⟨ad, m, cap, f, J, rfl, hm, rfl, hs, hc⟩ := h
  have HS := Lib.hid hs
  have HN := Lib.hid hn
  clear hs hn
  by_cases h0 : m = 0
  · subst h0
    clear hc
    go_enter Try.func53, Try.ntmps53
    go_wp2
    refine wp_loop_rounds 1 ?_
    rw [rounds_succ]
    go_wp2
    go_ret
    exact ⟨ret_int (by simp [ivSize, flat]), rfl⟩
  · obtain ⟨b, o, rfl, hlo, hhi, hcl⟩ := hc (by omega)
    have HC := Lib.hid hcl
    have HK := Lib.hid hk1
    clear hcl hc hk1
    go_enter Try.func53, Try.ntmps53
    go_wp2
    go_loop [1, 5] (fun kk i => ∃ (j : Nat) (s : Int), j ≤ m ∧ i = .int .i64 j ∧ kk = .int .i64 s ∧ Hid (s = k + (ivSize (flat J j) : Int))) (fun _ i => m - (intOf i).toNat)
    case atStart => exact ⟨0, k, Nat.zero_le _, rfl, rfl, Lib.hid (by simp [flat, ivSize])⟩
    case round =>
      obtain ⟨j, s, hj, rfl, rfl, HSU⟩ := hrel
      by_cases hlt : j < m
      · obtain ⟨a1, n1, c1, hu1⟩ := SS.shape (HS.out j hlt)
        have hu' := HC.out j hlt
        rw [hu1] at hu'
        have hs := HS.out
        have hsz := flat_size (J := J) hlt
        have hs0 : 0 ≤ s ∧ s ≤ 4611686018427387904 := by have := HSU.out; have := HK.out; omega
        have hmk : Marked w (J j) s := by
          obtain ⟨r, hr⟩ := flat_part J (show j + 1 ≤ m by omega)
          have h := HN.out
          rw [hr, flat_succ] at h
          have h2 := h.parts.1.parts.2
          rw [← HSU.out] at h2
          exact h2
        have HM1 := Lib.hid (held3s_any (f j) (J j) s w (hs j hlt) hmk (by omega) (by have := HSU.out; have := HK.out; omega))
        rw [hu1] at HM1
        have HS2 : Hid (s + (ivSize (J j) : Int) = k + (ivSize (flat J (j + 1)) : Int)) := Lib.hid (by have := HSU.out; rw [flat_succ, ivSize_append]; omega)
        clear hu1 hs hsz hmk
        go_wp2_with fail
        refine HM1.out.mono ?_
        rintro e w2 ⟨rfl, rfl⟩
        have hneg : ¬ (s + (ivSize (J j) : Int) < 0) := by omega
        have hs1 : 0 ≤ s + (ivSize (J j) : Int) ∧ s + (ivSize (J j) : Int) ≤ 4611686018427387904 := by
          have h1 := HS2.out
          have h2 := HK.out
          have h3 : ivSize (flat J (j + 1)) ≤ ivSize (flat J m) := by
            obtain ⟨r, hr⟩ := flat_part J (show j + 1 ≤ m by omega)
            rw [hr, ivSize_append]; omega
          omega
        clear hu' HM1
        go_wp2
        go_round
        case rel => exact ⟨j + 1, s + (ivSize (J j) : Int), by omega, by go_num, rfl, HS2⟩
        case measure => simp [intOf]; omega
      · have hjj : Hid (j = m) := Lib.hid (by omega)
        go_wp2
        go_ret
        have h2 := HSU.out
        rw [hjj.out] at h2
        exact ⟨ret_int h2, rfl⟩
end Go.Proofs.Ytlopenephgabhaa


namespace Go.Proofs.Ytlopenephgabhaa
open Go.RowKit
/-- Numbers, dimensions and tables. -/
abbrev DdO : Type := Int × List (List Int) × List (List (List (List Int))) × List (List (List (List Int)))
structure PtDd (lo hi : Nat) (W : World) (dv av vv : Value) (Id Ia Iw : List Iv) : Prop where
  sd : S2 lo hi W dv Id
  nd : Nums lo hi W Id
  dd : Disj Id
  zd : ivSize Id ≤ 1099511627776
  sa : S4 lo hi W av Ia
  na : Nums lo hi W Ia
  da : Disj Ia
  za : ivSize Ia ≤ 1152921504606846976
  sv : S4 lo hi W vv Iw
  nv : Nums lo hi W Iw
  ddv : Disj Iw
  zv : ivSize Iw ≤ 1152921504606846976
  ada : ∀ x ∈ Id, ∀ y ∈ Ia, Apart x y
  adv : ∀ x ∈ Id, ∀ y ∈ Iw, Apart x y
  aav : ∀ x ∈ Ia, ∀ y ∈ Iw, Apart x y
theorem PtDd.same {lo hi : Nat} {W W' : World} {dv av vv : Value} {Id Ia Iw : List Iv} (h : PtDd lo hi W dv av vv Id Ia Iw) (s : Same lo hi W W') : PtDd lo hi W' dv av vv Id Ia Iw :=
  ⟨h.sd.same s, h.nd.same s, h.dd, h.zd, h.sa.same s, h.na.same s, h.da, h.za, h.sv.same s, h.nv.same s, h.ddv, h.zv, h.ada, h.adv, h.aav⟩
theorem PtDd.wider {lo hi lo' hi' : Nat} {W : World} {dv av vv : Value} {Id Ia Iw : List Iv} (h : PtDd lo hi W dv av vv Id Ia Iw) (h1 : lo' ≤ lo) (h2 : hi ≤ hi') : PtDd lo' hi' W dv av vv Id Ia Iw :=
  ⟨h.sd.wider h1 h2, h.nd.wider h1 h2, h.dd, h.zd, h.sa.wider h1 h2, h.na.wider h1 h2, h.da, h.za, h.sv.wider h1 h2, h.nv.wider h1 h2, h.ddv, h.zv, h.ada, h.adv, h.aav⟩
def RcDd (lo hi : Nat) (W : World) (dv av vv : Value) (dl : List (List Int)) (al : List (List (List (List Int)))) (vl : List (List (List (List Int)))) : Prop := DdW lo hi W dv av vv dl al vl ∧ ∃ Id Ia Iw, PtDd lo hi W dv av vv Id Ia Iw
theorem RcDd.same {lo hi : Nat} {W W' : World} {dv av vv : Value} {dl : List (List Int)} {al : List (List (List (List Int)))} {vl : List (List (List (List Int)))} (h : RcDd lo hi W dv av vv dl al vl) (s : Same lo hi W W') : RcDd lo hi W' dv av vv dl al vl := by
  obtain ⟨h0, Id, Ia, Iw, h1⟩ := h
  exact ⟨h0.same s, Id, Ia, Iw, h1.same s⟩
theorem RcDd.wider {lo hi lo' hi' : Nat} {W : World} {dv av vv : Value} {dl : List (List Int)} {al : List (List (List (List Int)))} {vl : List (List (List (List Int)))} (h : RcDd lo hi W dv av vv dl al vl) (h1 : lo' ≤ lo) (h2 : hi ≤ hi') : RcDd lo' hi' W dv av vv dl al vl := by
  obtain ⟨h0, Id, Ia, Iw, h3⟩ := h
  exact ⟨⟨h0.fd.wider h1 h2, h0.fa.wider h1 h2, h0.fv.wider h1 h2⟩, Id, Ia, Iw, h3.wider h1 h2⟩
theorem RcDd.cx {lo hi : Nat} {W : World} {dv av vv : Value} {dl : List (List Int)} {al : List (List (List (List Int)))} {vl : List (List (List (List Int)))} (h : RcDd lo hi W dv av vv dl al vl) : Dd 0 W dv av vv dl al vl := h.1.cx.lower (Nat.zero_le _)
def RwDd (lo hi : Nat) (W : World) (u : Value) (o : DdO) : Prop := ∃ ad cd aa ca av cv, u = .agg #[.int .i64 o.1, .slice ad o.2.1.length cd, .slice aa o.2.2.1.length ca, .slice av o.2.2.2.length cv] ∧ RcDd lo hi W (.slice ad o.2.1.length cd) (.slice aa o.2.2.1.length ca) (.slice av o.2.2.2.length cv) o.2.1 o.2.2.1 o.2.2.2
theorem RwDd.nil (lo hi : Nat) (W : World) : RwDd lo hi W (.agg #[.int .i64 0, .slice none 0 0, .slice none 0 0, .slice none 0 0]) (0, [], [], []) :=
  ⟨none, 0, none, 0, none, 0, rfl, ⟨Or.inl ⟨rfl, _, _, rfl⟩, Or.inl ⟨rfl, _, _, rfl⟩, Or.inl ⟨rfl, _, _, rfl⟩⟩, [], [], [], ⟨⟨none, 0, 0, fun _ => .slice none 0 0, fun _ => [], rfl, by omega, rfl, fun _ h => absurd h (Nat.not_lt_zero _), fun h => absurd h (Nat.lt_irrefl _)⟩, fun _ h => absurd h (by simp), List.Pairwise.nil, by simp [ivSize], ⟨none, 0, 0, fun _ => .slice none 0 0, fun _ => [], rfl, by omega, rfl, fun _ h => absurd h (Nat.not_lt_zero _), fun h => absurd h (Nat.lt_irrefl _)⟩, fun _ h => absurd h (by simp), List.Pairwise.nil, by simp [ivSize], ⟨none, 0, 0, fun _ => .slice none 0 0, fun _ => [], rfl, by omega, rfl, fun _ h => absurd h (Nat.not_lt_zero _), fun h => absurd h (Nat.lt_irrefl _)⟩, fun _ h => absurd h (by simp), List.Pairwise.nil, by simp [ivSize], fun _ h => absurd h (by simp), fun _ h => absurd h (by simp), fun _ h => absurd h (by simp)⟩⟩

def RsDd (W : World) (u : Value) (o : DdO) : Prop := ∃ ad cd aa ca av cv, u = .agg #[.int .i64 o.1, .slice ad o.2.1.length cd, .slice aa o.2.2.1.length ca, .slice av o.2.2.2.length cv] ∧ Dd 0 W (.slice ad o.2.1.length cd) (.slice aa o.2.2.1.length ca) (.slice av o.2.2.2.length cv) o.2.1 o.2.2.1 o.2.2.2
theorem RsDd.nil (W : World) : RsDd W (.agg #[.int .i64 0, .slice none 0 0, .slice none 0 0, .slice none 0 0]) (0, [], [], []) := ⟨none, 0, none, 0, none, 0, rfl, ⟨Or.inl ⟨rfl, _, _, rfl⟩, Or.inl ⟨rfl, _, _, rfl⟩, Or.inl ⟨rfl, _, _, rfl⟩⟩⟩
/-- What a law asks of one that it compares. -/
def DdBo (o : DdO) : Prop := DdB 1048576 o.2.1 o.2.2.1 o.2.2.2
structure HcDd' (lo hi : Nat) (W : World) (dv av vv : Value) (m : Int) (Id Ia Iw : List Iv) : Prop where
  sd : S2 lo hi W dv Id
  mmd : Marked W Id (1)
  rd : ∀ x ∈ Id, lo ≤ x.1 ∧ x.1 < hi
  zd : ivSize Id ≤ 1099511627776
  sa : S4 lo hi W av Ia
  mma : Marked W Ia (1 + (ivSize Id : Int))
  ra : ∀ x ∈ Ia, lo ≤ x.1 ∧ x.1 < hi
  za : ivSize Ia ≤ 1152921504606846976
  sv : S4 lo hi W vv Iw
  mmv : Marked W Iw (1 + (ivSize Id : Int) + (ivSize Ia : Int))
  rv : ∀ x ∈ Iw, lo ≤ x.1 ∧ x.1 < hi
  zv : ivSize Iw ≤ 1152921504606846976
  me : m = 1 + (ivSize Id : Int) + (ivSize Ia : Int) + (ivSize Iw : Int)
def HcDd (lo hi : Nat) (W : World) (dv av vv : Value) (m : Int) : Prop := ∃ Id Ia Iw, HcDd' lo hi W dv av vv m Id Ia Iw
theorem HcDd.same {lo hi : Nat} {W W' : World} {dv av vv : Value} {m : Int} (h : HcDd lo hi W dv av vv m) (s : Same lo hi W W') : HcDd lo hi W' dv av vv m := by
  obtain ⟨Id, Ia, Iw, h⟩ := h
  exact ⟨Id, Ia, Iw, h.sd.same s, h.mmd.same h.rd s, h.rd, h.zd, h.sa.same s, h.mma.same h.ra s, h.ra, h.za, h.sv.same s, h.mmv.same h.rv s, h.rv, h.zv, h.me⟩
def MkRDd (lo hi : Nat) (dv av vv : Value) (w : World) (ee : Ending) (w' : World) : Prop := ∃ (m : Int) (w1 : World), ee = .returned (.int .i64 m) ∧ 1 ≤ m ∧ m ≤ 4611686018427387904 ∧ Below w.heap.size w w1 ∧ Only lo hi w1 w' ∧ HcDd lo hi w' dv av vv m

set_option maxHeartbeats 1600000 in
theorem markRDd_any {lo hi : Nat} (p : Int) (dv av vv : Value) (dl : List (List Int)) (al : List (List (List (List Int)))) (vl : List (List (List (List Int)))) (w : World) (h : RcDd lo hi w dv av vv dl al vl) (hh : hi ≤ w.heap.size) :
    Calls Try.prog 17 #[.agg #[.int .i64 p, dv, av, vv], .int .i64 1] w (MkRDd lo hi dv av vv w) := by
  obtain ⟨_, Id, Ia, Iw, h1⟩ := h
  have hb0 : Below w.heap.size w (w.alloc (.cells #[.int .i64 p, dv, av, vv] 28)) := (Below.refl _ _).alloc (Nat.le_refl _) _
  have HP := Lib.hid (h1.same (Same.of_below hb0 hh))
  have HB0 := Lib.hid hb0
  have hzd := h1.zd
  have hza := h1.za
  have hzv := h1.zv
  clear h1 hb0
  go_enter Try.func17, Try.ntmps17
  go_wp2_with fail
  refine (mark2s_any dv Id (1) _ HP.out.sd HP.out.nd HP.out.dd (by omega) (by omega)).mono ?_
  rintro ee w1 ⟨rfl, ho, ht, hc, hm⟩
  have c02 : w1.cell? ⟨w.heap.size, 2, none⟩ = some av := (ho.cell (Or.inr hh)).trans (by simp)
  have c03 : w1.cell? ⟨w.heap.size, 3, none⟩ = some vv := (ho.cell (Or.inr hh)).trans (by simp)
  have HMd := Lib.hid hm
  have HO0 := Lib.hid (And.intro ho ht)
  clear ho ht hc hm
  go_wp2_with fail
  refine (mark4s_any av Ia (1 + (ivSize Id : Int)) _ (HP.out.sa.tame HO0.out.2) (HP.out.na.tame HO0.out.2) HP.out.da (by omega) (by omega)).mono ?_
  rintro ee w2 ⟨rfl, ho, ht, hc, hm⟩
  have c13 : w2.cell? ⟨w.heap.size, 3, none⟩ = some vv := (ho.cell (Or.inr hh)).trans c03
  clear c02 c03
  have HMd' := Lib.hid (HMd.out.keep hc HP.out.ada)
  clear HMd
  have HMd := HMd'
  clear HMd'
  have HMa := Lib.hid hm
  have HO1 := Lib.hid (And.intro (HO0.out.1.trans ho) (HO0.out.2.trans ht))
  clear ho ht hc hm
  go_wp2_with fail
  refine (mark4s_any vv Iw (1 + (ivSize Id : Int) + (ivSize Ia : Int)) _ (HP.out.sv.tame HO1.out.2) (HP.out.nv.tame HO1.out.2) HP.out.ddv (by omega) (by omega)).mono ?_
  rintro ee w3 ⟨rfl, ho, ht, hc, hm⟩
  clear c13
  have HMd' := Lib.hid (HMd.out.keep hc HP.out.adv)
  clear HMd
  have HMd := HMd'
  clear HMd'
  have HMa' := Lib.hid (HMa.out.keep hc HP.out.aav)
  clear HMa
  have HMa := HMa'
  clear HMa'
  have HMv := Lib.hid hm
  have HO2 := Lib.hid (And.intro (HO1.out.1.trans ho) (HO1.out.2.trans ht))
  clear ho ht hc hm
  go_wp2
  go_ret
  exact ⟨_, _, rfl, by omega, by omega, HB0.out, HO2.out.1, Id, Ia, Iw, ⟨HP.out.sd.tame HO2.out.2, HMd.out, fun x hx => ⟨(HP.out.nd x hx).1, (HP.out.nd x hx).2.1⟩, hzd, HP.out.sa.tame HO2.out.2, HMa.out, fun x hx => ⟨(HP.out.na x hx).1, (HP.out.na x hx).2.1⟩, hza, HP.out.sv.tame HO2.out.2, HMv.out, fun x hx => ⟨(HP.out.nv x hx).1, (HP.out.nv x hx).2.1⟩, hzv, rfl⟩⟩

set_option maxHeartbeats 1600000 in
theorem heldRDd_any {lo hi : Nat} (p : Int) (dv av vv : Value) (m : Int) (w : World) (h : HcDd lo hi w dv av vv m) (hh : hi ≤ w.heap.size) :
    Calls Try.prog 18 #[.agg #[.int .i64 p, dv, av, vv], .int .i64 1] w (BR (.int .i64 m) w) := by
  have hb0 : Below w.heap.size w (w.alloc (.cells #[.int .i64 p, dv, av, vv] 28)) := (Below.refl _ _).alloc (Nat.le_refl _) _
  obtain ⟨Id, Ia, Iw, h1⟩ := h.same (Same.of_below hb0 hh)
  have hme := h1.me
  subst hme
  have HP := Lib.hid h1
  have HB0 := Lib.hid hb0
  have hzd := h1.zd
  have hza := h1.za
  have hzv := h1.zv
  have hn0 : ¬ (1 + (ivSize Id : Int)) < 0 := by omega
  have hn1 : ¬ (1 + (ivSize Id : Int) + (ivSize Ia : Int)) < 0 := by omega
  have hn2 : ¬ (1 + (ivSize Id : Int) + (ivSize Ia : Int) + (ivSize Iw : Int)) < 0 := by omega
  clear h1 hb0 h
  go_enter Try.func18, Try.ntmps18
  go_wp2_with fail
  refine (held2s_any dv Id (1) _ HP.out.sd HP.out.mmd (by omega) (by omega)).mono ?_
  rintro ee w1 ⟨rfl, rfl⟩
  go_wp2_with fail
  refine (held4s_any av Ia (1 + (ivSize Id : Int)) _ HP.out.sa HP.out.mma (by omega) (by omega)).mono ?_
  rintro ee w2 ⟨rfl, rfl⟩
  go_wp2_with fail
  refine (held4s_any vv Iw (1 + (ivSize Id : Int) + (ivSize Ia : Int)) _ HP.out.sv HP.out.mmv (by omega) (by omega)).mono ?_
  rintro ee w3 ⟨rfl, rfl⟩
  go_wp2
  go_ret
  exact ⟨rfl, HB0.out⟩
/-- The cells of a box alone. -/
structure BcDd (wr : World) (b : Nat) (p : Int) (dv av vv : Value) : Prop where
  c0 : wr.cell? ⟨b, 0, none⟩ = some (.int .i64 p)
  c1 : wr.cell? ⟨b, 1, none⟩ = some (dv)
  c2 : wr.cell? ⟨b, 2, none⟩ = some (av)
  c3 : wr.cell? ⟨b, 3, none⟩ = some (vv)
  lt : b < wr.heap.size
theorem BcDd.start (w : World) (p : Int) (dv av vv : Value) (t : TypeId) : BcDd (w.alloc (.cells #[.int .i64 p, dv, av, vv] t)) w.heap.size p dv av vv := ⟨by simp, by simp, by simp, by simp, by simp⟩
theorem BcDd.next {wr w' : World} {b : Nat} {p : Int} {dv av vv : Value} (h : BcDd wr b p dv av vv) (hb : Below wr.heap.size wr w') : BcDd w' b p dv av vv :=
  ⟨later hb (Nat.le_refl _) h.c0, later hb (Nat.le_refl _) h.c1, later hb (Nat.le_refl _) h.c2, later hb (Nat.le_refl _) h.c3, Nat.lt_of_lt_of_le h.lt hb.size⟩
theorem BcDd.only {wr w' : World} {b lo hi : Nat} {p : Int} {dv av vv : Value} (h : BcDd wr b p dv av vv) (ho : Only lo hi wr w') (hb : b < lo ∨ hi ≤ b) : BcDd w' b p dv av vv :=
  ⟨(ho.cell hb).trans h.c0, (ho.cell hb).trans h.c1, (ho.cell hb).trans h.c2, (ho.cell hb).trans h.c3, by have := ho.size; have := h.lt; omega⟩
end Go.Proofs.Ytlopenephgabhaa


namespace Go.Proofs.Ytlopenephgabhaa
open Go.RowKit

def InT (L : Nat → Nat) (P : Nat → Prop) (I : List Iv) : Prop := ∀ x ∈ I, P (L x.1)
theorem InT.mono {L : Nat → Nat} {P Q : Nat → Prop} {I : List Iv} (h : InT L P I) (hq : ∀ a, P a → Q a) : InT L Q I := fun x hx => hq _ (h x hx)
theorem apart_tags {L : Nat → Nat} {P Q : Nat → Prop} {I J : List Iv} (h : InT L P I) (k : InT L Q J) (hd : ∀ a b, P a → Q b → a ≠ b) : ∀ x ∈ I, ∀ y ∈ J, Apart x y := fun x hx y hy => .inl (fun e => hd _ _ (h x hx) (k y hy) (by rw [e]))
/-- One level up. -/
theorem iv_up {α : Type} {R : World → Value → α → Prop} {S : World → Value → List Iv → Prop} {L : Nat → Nat} {base n B : Nat} {e : TypeId} {W : World} {u : Value} {vs : List Value} {xs : List α} {P : Nat → Nat → Prop} (h : W.ownsRow base e 1 u n vs) (hl : xs.length = n) (hn : n ≤ 1048576)
    (hR : ∀ i (h1 : i < vs.length) (h2 : i < xs.length), R W vs[i] xs[i] ∧ ∃ I, S W vs[i] I ∧ Nums base W.heap.size W I ∧ Disj I ∧ InT L (P i) I ∧ ivSize I ≤ B)
    (hd : ∀ i j a b, i < n → j < n → i ≠ j → P i a → P j b → a ≠ b) :
    Sw base W.heap.size R W u xs ∧ ∃ I, SS S base W.heap.size W u I ∧ Nums base W.heap.size W I ∧ Disj I ∧ InT L (fun a => ∃ i, i < n ∧ P i a) I ∧ ivSize I ≤ B * n := by
  have hvl : vs.length = n := by have := h.1; omega
  have hex : ∀ j, j < n → ∃ I, S W (vs.getD j undef) I ∧ Nums base W.heap.size W I ∧ Disj I ∧ InT L (P j) I ∧ ivSize I ≤ B := fun j hj => by
    rw [getD_of_lt _ (by omega : j < vs.length)]
    exact (hR j (by omega) (by omega)).2
  obtain ⟨J, hJ⟩ := choose2 hex
  have h4 : Disj (flat J n) := disj_flat (fun j hj => (hJ j hj).2.2.1) (fun i j hi hj hij x hx y hy e => hd i j _ _ hi hj hij ((hJ i hi).2.2.2.1 x hx) ((hJ j hj).2.2.2.1 y hy) (by rw [e]))
  have h3 : Nums base W.heap.size W (flat J n) := nums_flat (fun j hj => (hJ j hj).2.1)
  have h5 : InT L (fun a => ∃ i, i < n ∧ P i a) (flat J n) := fun x hx => by
    obtain ⟨j, hj, hx⟩ := List.mem_flatMap.1 hx
    have hj := List.mem_range.1 hj
    exact ⟨j, hj, (hJ j hj).2.2.2.1 x hx⟩
  have h6 := size_spans (J := J) (n := n) (B := B) (fun j hj => (hJ j hj).2.2.2.2)
  rcases h.2 with ⟨rfl, h0⟩ | ⟨g, cap, cur, rfl, hg, hh, hnc, _, hcs, htk⟩
  · subst h0
    exact ⟨.inl ⟨List.eq_nil_of_length_eq_zero (by omega), _, _, rfl⟩, _, ⟨none, 0, 0, fun j => vs.getD j undef, J, rfl, by omega, rfl, fun j hj => (hJ j hj).1, fun h => absurd h (Nat.lt_irrefl _)⟩, h3, h4, h5, h6⟩
  · have hgl : g < W.heap.size := (Array.getElem?_eq_some_iff.1 hh).1
    have hcell : ∀ j (hj : j < vs.length), W.cell? ⟨g, j, none⟩ = some vs[j] := fun j hj => by
      have h5 : (cur.toList.take (n * 1))[j]? = vs[j]? := by rw [htk]
      rw [List.getElem?_take, if_pos (by omega), List.getElem?_eq_getElem hj] at h5
      simp [World.cell?, hh]
      simpa using h5
    refine ⟨?_, flat J n, ⟨some ⟨g, 0, none⟩, n, cap, fun j => vs.getD j undef, J, rfl, hn, rfl, fun j hj => (hJ j hj).1, fun _ => ⟨g, 0, rfl, hg, hgl, fun j hj => by show W.cell? ⟨g, 0 + j, none⟩ = some (vs.getD j undef); rw [Nat.zero_add, getD_of_lt _ (by omega : j < vs.length)]; exact hcell j (by omega)⟩⟩, h3, h4, h5, h6⟩
    by_cases h0 : n = 0
    · exact .inl ⟨List.eq_nil_of_length_eq_zero (by omega), _, _, by rw [h0]⟩
    · exact .inr ⟨g, 0, cap, by rw [hl], hg, hgl, by omega, fun k hk => ⟨vs[k]'(by omega), by rw [Nat.zero_add]; exact hcell k (by omega), (hR k (by omega) hk).1⟩, fun k hk => by simp [World.frozen?, hh]⟩
theorem TI.iv {L : Nat → Nat} {k base : Nat} {W : World} {u : Value} {xs : List Int} (h : TI L k base W u xs) (hl : xs.length ≤ 1048576) : W1 base W.heap.size W u xs ∧ ∃ I, S1 base W.heap.size W u I ∧ Nums base W.heap.size W I ∧ Disj I ∧ InT L (fun a => a = k) I ∧ ivSize I ≤ 1048576 := by
  obtain ⟨h1, I, h2, h3, h4, h5, h6⟩ := gb_iv h.1 hl
  exact ⟨h1, I, h2, h3, h4, fun x hx => h.2 _ (h6 x hx), h5⟩
theorem TTab.iv {L : Nat → Nat} {k base : Nat} {W : World} {u : Value} {t : List (List Int)} (h : TTab L k base W u t) (hl : t.length ≤ 1024) (hr : ∀ x ∈ t, x.length ≤ 1048576) : W2 base W.heap.size W u t ∧ ∃ I, S2 base W.heap.size W u I ∧ Nums base W.heap.size W I ∧ Disj I ∧ InT L (fun a => a = k) I ∧ ivSize I ≤ 1073741824 := by
  obtain ⟨vs, hq, h1, h2⟩ := h
  have hvl := hq.len
  obtain ⟨a1, I, a2, a3, a4, a5, a6⟩ := iv_up (L := fun b => b) (P := fun i a => (vs.getD i undef).ownBlock = some a) (B := 1048576) hq.own rfl (by omega) (fun i b1 b2 => by
    obtain ⟨c1, J, c2, c3, c4, c5, c6⟩ := gb_iv (hq.rows i b1 b2) (hr _ (List.getElem_mem b2))
    exact ⟨c1, J, c2, c3, c4, fun x hx => by rw [getD_of_lt _ b1]; exact c6 x hx, c5⟩) (fun i j a b hi hj hij p q e => by
      subst e
      rw [getD_of_lt _ (by omega : i < vs.length)] at p
      rw [getD_of_lt _ (by omega : j < vs.length)] at q
      exact hq.ap i j (by omega) (by omega) hij _ p q)
  refine ⟨a1, I, a2, a3, a4, fun x hx => ?_, by have : 1048576 * t.length ≤ 1048576 * 1024 := Nat.mul_le_mul (Nat.le_refl _) hl; omega⟩
  obtain ⟨i, hi, e⟩ := a5 x hx
  rw [getD_of_lt _ (by omega : i < vs.length)] at e
  exact h2 i (by omega) _ e
theorem TTabs.iv {L : Nat → Nat} {k base : Nat} {τ : Nat → Nat} {W : World} {u : Value} {ts : List (List (List Int))} (h : TTabs L k τ base W u ts) (hl : ts.length ≤ 100) (hr : ∀ t ∈ ts, t.length ≤ 1024 ∧ ∀ x ∈ t, x.length ≤ 1048576) (hτ : ∀ i j, i ≠ j → τ i ≠ τ j) : W3 base W.heap.size W u ts ∧ ∃ I, S3 base W.heap.size W u I ∧ Nums base W.heap.size W I ∧ Disj I ∧ InT L (fun a => ∃ i, i < ts.length ∧ a = τ i) I ∧ ivSize I ≤ 1099511627776 := by
  obtain ⟨vs, ho, hx⟩ := h
  obtain ⟨a1, I, a2, a3, a4, a5, a6⟩ := iv_up (L := L) (P := fun i a => a = τ i) (B := 1073741824) ho.1 rfl (by omega) (fun i b1 b2 => (hx i b1 b2).iv (hr _ (List.getElem_mem b2)).1 (hr _ (List.getElem_mem b2)).2) (fun i j a b _ _ hij p q => by rw [p, q]; exact hτ i j hij)
  exact ⟨a1, I, a2, a3, a4, a5, by have : 1073741824 * ts.length ≤ 1073741824 * 1024 := Nat.mul_le_mul (Nat.le_refl _) (by omega); omega⟩
/-- What a double complex is bounded by. -/
def BdF (d2 : List (List Int)) (a2 v2 : List (List (List (List Int)))) : Prop := (∀ x ∈ d2, x.length ≤ 100) ∧ (∀ y ∈ a2, y.length ≤ 100 ∧ ∀ t ∈ y, t.length ≤ 1024 ∧ ∀ x ∈ t, x.length ≤ 1048576) ∧ ∀ y ∈ v2, y.length ≤ 100 ∧ ∀ t ∈ y, t.length ≤ 1024 ∧ ∀ x ∈ t, x.length ≤ 1048576
theorem Fl.rc {L : Nat → Nat} {base : Nat} {W : World} {D A V n : Nat} {dvs avs vvs : List Value} {d2 : List (List Int)} {a2 v2 : List (List (List (List Int)))} (h : Fl L base W D A V n dvs avs vvs d2 a2 v2) (hn : n ≤ 20) (hb : BdF d2 a2 v2) :
    RcDd base W.heap.size W (.slice (some ⟨D, 0, none⟩) n n) (.slice (some ⟨A, 0, none⟩) n n) (.slice (some ⟨V, 0, none⟩) n n) d2 a2 v2 := by
  obtain ⟨d1, I, d3, d4, d5, d6, d7⟩ := iv_up (R := W1 base W.heap.size) (S := S1 base W.heap.size) (L := L) (P := fun i a => a = 4 + 3 * i) (B := 1048576) h.d0.1 h.ld (by omega) (fun i b1 b2 => (h.dr i b1 b2).iv (by have := hb.1 _ (List.getElem_mem b2); omega)) (fun i j a b _ _ hij p q => by omega)
  obtain ⟨a1, J, a3, a4, a5, a6, a7⟩ := iv_up (R := W3 base W.heap.size) (S := S3 base W.heap.size) (L := L) (P := fun i a => ∃ x, x < 100 ∧ a = 100 + 200 * i + x) (B := 1099511627776) h.a0.1 h.la (by omega) (fun i b1 b2 => by
    have hy := hb.2.1 _ (List.getElem_mem b2)
    obtain ⟨c1, K, c2, c3, c4, c5, c6⟩ := (h.ar i b1 b2).iv hy.1 hy.2 (fun i j hij => by show _ + _ ≠ _ + _; omega)
    exact ⟨c1, K, c2, c3, c4, c5.mono (fun a ⟨x, hx, e⟩ => ⟨x, by omega, e⟩), c6⟩) (fun i j a b _ _ hij ⟨x, hx, p⟩ ⟨y, hy, q⟩ => by omega)
  obtain ⟨v1, K, v3, v4, v5, v6, v7⟩ := iv_up (R := W3 base W.heap.size) (S := S3 base W.heap.size) (L := L) (P := fun i a => ∃ x, x < 100 ∧ a = 200 + 200 * i + x) (B := 1099511627776) h.v0.1 h.lv (by omega) (fun i b1 b2 => by
    have hy := hb.2.2 _ (List.getElem_mem b2)
    obtain ⟨c1, K, c2, c3, c4, c5, c6⟩ := (h.vr i b1 b2).iv hy.1 hy.2 (fun i j hij => by show _ + _ ≠ _ + _; omega)
    exact ⟨c1, K, c2, c3, c4, c5.mono (fun a ⟨x, hx, e⟩ => ⟨x, by omega, e⟩), c6⟩) (fun i j a b _ _ hij ⟨x, hx, p⟩ ⟨y, hy, q⟩ => by omega)
  refine ⟨⟨d1, a1, v1⟩, I, J, K, ⟨d3, d4, d5, by omega, a3, a4, a5, by omega, v3, v4, v5, by omega, apart_tags d6 a6 ?_, apart_tags d6 v6 ?_, apart_tags a6 v6 ?_⟩⟩
  · rintro a b ⟨i, hi, e⟩ ⟨j, hj, x, hx, e2⟩; omega
  · rintro a b ⟨i, hi, e⟩ ⟨j, hj, x, hx, e2⟩; omega
  · rintro a b ⟨i, hi, y, hy, e⟩ ⟨j, hj, x, hx, e2⟩; omega
end Go.Proofs.Ytlopenephgabhaa


namespace Go.Proofs.Ytlopenephgabhaa
open Go.ChangeShapes Go.WideShapes Go.ChangeAt Go.RowKit Go.Deep

structure Dc (lo : Nat) (w : World) (dv av vv : Value) (dl : List (List Int)) (al : List (List (List (List Int)))) (vl : List (List (List (List Int)))) : Prop where
  fd : L2 lo w dv dl
  fa : L4 lo w av al
  fv : L5 lo w vv vl
theorem Dc.below {lo : Nat} {w w' : World} {dv av vv : Value} {dl : List (List Int)} {al : List (List (List (List Int)))} {vl : List (List (List (List Int)))} (h : Dc lo w dv av vv dl al vl) (hb : Below w.heap.size w w') : Dc lo w' dv av vv dl al vl := ⟨h.fd.below hb, h.fa.below hb, h.fv.below hb⟩
theorem Dc.lower {lo lo' : Nat} (hl : lo' ≤ lo) {w : World} {dv av vv : Value} {dl : List (List Int)} {al : List (List (List (List Int)))} {vl : List (List (List (List Int)))} (h : Dc lo w dv av vv dl al vl) : Dc lo' w dv av vv dl al vl := ⟨h.fd.lower hl, h.fa.lower hl, h.fv.lower hl⟩
theorem Dc.zero {lo : Nat} {w : World} {dv av vv : Value} {dl : List (List Int)} {al : List (List (List (List Int)))} {vl : List (List (List (List Int)))} (h : Dc lo w dv av vv dl al vl) : Dc 0 w dv av vv dl al vl := h.lower (Nat.zero_le _)
theorem Dc.shapes {lo : Nat} {w : World} {dv av vv : Value} {dl : List (List Int)} {al : List (List (List (List Int)))} {vl : List (List (List (List Int)))} (h : Dc lo w dv av vv dl al vl) : (∃ a c, dv = .slice a dl.length c) ∧ (∃ a c, av = .slice a al.length c) ∧ (∃ a c, vv = .slice a vl.length c) := ⟨Sl.shape h.fd, Sl.shape h.fa, Sl.shape h.fv⟩
structure DcB (n : Nat) (dl : List (List Int)) (al : List (List (List (List Int)))) (vl : List (List (List (List Int)))) : Prop where
  bd : Bd2 n dl
  ba : Bd4 n al
  bv : Bd5 n vl
structure DcW (lo hi : Nat) (w : World) (dv av vv : Value) (dl : List (List Int)) (al : List (List (List (List Int)))) (vl : List (List (List (List Int)))) : Prop where
  fd : W2 lo hi w dv dl
  fa : W4 lo hi w av al
  fv : W5 lo hi w vv vl
theorem DcW.same {lo hi : Nat} {w w' : World} {dv av vv : Value} {dl : List (List Int)} {al : List (List (List (List Int)))} {vl : List (List (List (List Int)))} (h : DcW lo hi w dv av vv dl al vl) (s : Same lo hi w w') : DcW lo hi w' dv av vv dl al vl := ⟨h.fd.same s, h.fa.same s, h.fv.same s⟩
theorem DcW.cx {lo hi : Nat} {w : World} {dv av vv : Value} {dl : List (List Int)} {al : List (List (List (List Int)))} {vl : List (List (List (List Int)))} (h : DcW lo hi w dv av vv dl al vl) : Dc lo w dv av vv dl al vl := ⟨h.fd.l2, h.fa.l4, h.fv.l5⟩
/-- The box of one, in whatever later world. -/
structure BxDc (w wr : World) (b : Nat) (p : Int) (dv av vv : Value) (dl : List (List Int)) (al : List (List (List (List Int)))) (vl : List (List (List (List Int)))) : Prop where
  below : Below w.heap.size w wr
  c0 : wr.cell? ⟨b, 0, none⟩ = some (.int .i64 p)
  c1 : wr.cell? ⟨b, 1, none⟩ = some (dv)
  c2 : wr.cell? ⟨b, 2, none⟩ = some (av)
  c3 : wr.cell? ⟨b, 3, none⟩ = some (vv)
  lt : b < wr.heap.size
  cx : Dc 0 wr dv av vv dl al vl
theorem BxDc.next {w wr w' : World} {b : Nat} {p : Int} {dv av vv : Value} {dl : List (List Int)} {al : List (List (List (List Int)))} {vl : List (List (List (List Int)))} (h : BxDc w wr b p dv av vv dl al vl) (hb : Below wr.heap.size wr w') : BxDc w w' b p dv av vv dl al vl :=
  ⟨h.below.trans (hb.mono h.below.size), later hb (Nat.le_refl _) h.c0, later hb (Nat.le_refl _) h.c1, later hb (Nat.le_refl _) h.c2, later hb (Nat.le_refl _) h.c3, Nat.lt_of_lt_of_le h.lt hb.size, h.cx.below hb⟩
theorem BxDc.start {w : World} {p : Int} {dv av vv : Value} {dl : List (List Int)} {al : List (List (List (List Int)))} {vl : List (List (List (List Int)))} (t : TypeId) (h : Dc 0 w dv av vv dl al vl) : BxDc w (w.alloc (.cells #[.int .i64 p, dv, av, vv] t)) w.heap.size p dv av vv dl al vl :=
  ⟨(Below.refl _ _).alloc (Nat.le_refl _) _, by simp, by simp, by simp, by simp, by simp, h.below ((Below.refl _ _).alloc (Nat.le_refl _) _)⟩
structure BqDc (wr : World) (b : Nat) (p : Int) (dv av vv : Value) (dl : List (List Int)) (al : List (List (List (List Int)))) (vl : List (List (List (List Int)))) : Prop where
  c0 : wr.cell? ⟨b, 0, none⟩ = some (.int .i64 p)
  c1 : wr.cell? ⟨b, 1, none⟩ = some (dv)
  c2 : wr.cell? ⟨b, 2, none⟩ = some (av)
  c3 : wr.cell? ⟨b, 3, none⟩ = some (vv)
  lt : b < wr.heap.size
  cx : Dc 0 wr dv av vv dl al vl
theorem BxDc.bq {w wr : World} {b : Nat} {p : Int} {dv av vv : Value} {dl : List (List Int)} {al : List (List (List (List Int)))} {vl : List (List (List (List Int)))} (h : BxDc w wr b p dv av vv dl al vl) : BqDc wr b p dv av vv dl al vl := ⟨h.c0, h.c1, h.c2, h.c3, h.lt, h.cx⟩
theorem BqDc.next {wr w' : World} {b : Nat} {p : Int} {dv av vv : Value} {dl : List (List Int)} {al : List (List (List (List Int)))} {vl : List (List (List (List Int)))} (h : BqDc wr b p dv av vv dl al vl) (hb : Below wr.heap.size wr w') : BqDc w' b p dv av vv dl al vl :=
  ⟨later hb (Nat.le_refl _) h.c0, later hb (Nat.le_refl _) h.c1, later hb (Nat.le_refl _) h.c2, later hb (Nat.le_refl _) h.c3, Nat.lt_of_lt_of_le h.lt hb.size, h.cx.below hb⟩
def ToDc (p : Int) (dl : List (List Int)) (al : List (List (List (List Int)))) (vl : List (List (List (List Int)))) (w : World) (e' : Ending) (w' : World) : Prop := ∃ dv av vv, e' = .returned (.agg #[.int .i64 p, dv, av, vv]) ∧ Dc w.heap.size w' dv av vv dl al vl ∧ Below w.heap.size w w'

set_option maxHeartbeats 1600000 in
theorem toDoublec_any (p : Int) (dv av vv : Value) (dl : List (List Int)) (al : List (List (List (List Int)))) (vl : List (List (List (List Int)))) (w : World) (h : Dc 0 w dv av vv dl al vl) (hm : DcB 1048576 dl al vl) :
    Calls Try.prog 12 #[.agg #[.int .i64 p, dv, av, vv]] w (ToDc p dl al vl w) := by
  have H := Lib.hid h
  have HM := Lib.hid hm
  clear h hm
  have hres : Try.f12.results = #[.cell 2 28] := by kernel_rfl
  have HRES := Lib.hid hres
  clear hres
  have HB0 : Hid (Below w.heap.size w (((w.alloc (.cells #[.int .i64 p, dv, av, vv] 25)).alloc (.cells #[.int .i64 0, .slice none 0 0, .slice none 0 0, .slice none 0 0] 28)).alloc (.cells #[.int .i64 p, .slice none 0 0, .slice none 0 0, .slice none 0 0] 28))) := Lib.hid ((((Below.refl _ _).alloc (Nat.le_refl _) _).alloc (by simp) _).alloc (by simp; omega) _)
  have hz0 : w.heap.size + 3 = (((w.alloc (.cells #[.int .i64 p, dv, av, vv] 25)).alloc (.cells #[.int .i64 0, .slice none 0 0, .slice none 0 0, .slice none 0 0] 28)).alloc (.cells #[.int .i64 p, .slice none 0 0, .slice none 0 0, .slice none 0 0] 28)).heap.size := by simp
  have HZ0 := Lib.hid hz0
  clear hz0
  go_enter Try.func12, Try.ntmps12
  go_wp2_with fail
  refine (to2_any dv dl _ (H.out.fd.below HB0.out) HM.out.bd).mono ?_
  rintro ee w1 ⟨u0, rfl, hr, hb⟩
  obtain ⟨ad, cd, rfl⟩ := Sl.shape hr
  have hs0 : w.heap.size + 3 ≤ w1.heap.size := by have := hb.size; simp at this; omega
  obtain ⟨hc0, hf0⟩ := bcell hb
  have HB0b := Lib.hid (HB0.out.trans (hb.mono (by first | omega | (simp; omega) | simp)))
  have HRd : Hid (L2 (w.heap.size + 1 + 1 + 1) w1 (.slice ad dl.length cd) dl) := Lib.hid (hr.lower (by first | omega | (simp; omega) | simp))
  clear hr hb
  have hzx0 : w.heap.size < w1.heap.size := by omega
  have hzz0 : w.heap.size + 1 < w1.heap.size := by omega
  have hzy0 : w.heap.size + 1 + 1 < w1.heap.size := by omega
  have HB0c : Hid (Below w.heap.size w (w1.setCell ⟨w.heap.size + 1 + 1, 1, none⟩ (.slice ad dl.length cd))) := Lib.hid (HB0b.out.setCell (by show w.heap.size ≤ w.heap.size + 1 + 1; omega) _)
  have HRd' : Hid (L2 (w.heap.size + 1 + 1 + 1) (w1.setCell ⟨w.heap.size + 1 + 1, 1, none⟩ (.slice ad dl.length cd)) (.slice ad dl.length cd) dl) := Lib.hid (stable2 _ _ _ _ _ (Keep.set _ (Nat.lt_succ_self _)) HRd.out)
  clear HRd
  have HRd := HRd'
  clear HRd'
  go_wp2_with fail
  refine (to4_any av al _ (H.out.fa.below HB0c.out) HM.out.ba).mono ?_
  rintro ee w2 ⟨u1, rfl, hr, hb⟩
  obtain ⟨aa, ca, rfl⟩ := Sl.shape hr
  have hs1 : w1.heap.size ≤ w2.heap.size := by have := hb.size; simpa using this
  obtain ⟨hc1, hf1⟩ := bcell hb
  have HB1b := Lib.hid (HB0c.out.trans (hb.mono (by first | omega | (simp; omega) | simp)))
  have HRd' := Lib.hid (HRd.out.below hb)
  clear HRd
  have HRd := HRd'
  clear HRd'
  have HRa : Hid (L4 (w.heap.size + 1 + 1 + 1) w2 (.slice aa al.length ca) al) := Lib.hid (hr.lower (by first | omega | (simp; omega) | simp))
  clear hr hb
  have hzx1 : w.heap.size < w2.heap.size := by omega
  have hzz1 : w.heap.size + 1 < w2.heap.size := by omega
  have hzy1 : w.heap.size + 1 + 1 < w2.heap.size := by omega
  have HB1c : Hid (Below w.heap.size w (w2.setCell ⟨w.heap.size + 1 + 1, 2, none⟩ (.slice aa al.length ca))) := Lib.hid (HB1b.out.setCell (by show w.heap.size ≤ w.heap.size + 1 + 1; omega) _)
  have HRd' : Hid (L2 (w.heap.size + 1 + 1 + 1) (w2.setCell ⟨w.heap.size + 1 + 1, 2, none⟩ (.slice aa al.length ca)) (.slice ad dl.length cd) dl) := Lib.hid (stable2 _ _ _ _ _ (Keep.set _ (Nat.lt_succ_self _)) HRd.out)
  clear HRd
  have HRd := HRd'
  clear HRd'
  have HRa' : Hid (L4 (w.heap.size + 1 + 1 + 1) (w2.setCell ⟨w.heap.size + 1 + 1, 2, none⟩ (.slice aa al.length ca)) (.slice aa al.length ca) al) := Lib.hid (stable4 _ _ _ _ _ (Keep.set _ (Nat.lt_succ_self _)) HRa.out)
  clear HRa
  have HRa := HRa'
  clear HRa'
  go_wp2_with fail
  refine (to5_any vv vl _ (H.out.fv.below HB1c.out) HM.out.bv).mono ?_
  rintro ee w3 ⟨u2, rfl, hr, hb⟩
  obtain ⟨av, cv, rfl⟩ := Sl.shape hr
  have hs2 : w2.heap.size ≤ w3.heap.size := by have := hb.size; simpa using this
  obtain ⟨hc2, hf2⟩ := bcell hb
  have HB2b := Lib.hid (HB1c.out.trans (hb.mono (by first | omega | (simp; omega) | simp)))
  have HRd' := Lib.hid (HRd.out.below hb)
  have HRa' := Lib.hid (HRa.out.below hb)
  clear HRd
  have HRd := HRd'
  clear HRd'
  clear HRa
  have HRa := HRa'
  clear HRa'
  have HRv : Hid (L5 (w.heap.size + 1 + 1 + 1) w3 (.slice av vl.length cv) vl) := Lib.hid (hr.lower (by first | omega | (simp; omega) | simp))
  clear hr hb
  have hzx2 : w.heap.size < w3.heap.size := by omega
  have hzz2 : w.heap.size + 1 < w3.heap.size := by omega
  have hzy2 : w.heap.size + 1 + 1 < w3.heap.size := by omega
  go_wp2
  refine bodyPost_ret (v := .agg #[.int .i64 p, .slice ad dl.length cd, .slice aa al.length ca, .slice av vl.length cv]) ?_ rfl ?_
  · simp only [results, HRES.out]
    go_simp
  · have hk : Keep (w.heap.size + 1 + 1 + 1) w3 (((((w3.setCell ⟨w.heap.size + 1 + 1, 3, none⟩ (.slice av vl.length cv)).setCell ⟨w.heap.size + 1, 0, none⟩ (.int .i64 p)).setCell ⟨w.heap.size + 1, 1, none⟩ (.slice ad dl.length cd)).setCell ⟨w.heap.size + 1, 2, none⟩ (.slice aa al.length ca)).setCell ⟨w.heap.size + 1, 3, none⟩ (.slice av vl.length cv)) := (((((Keep.set _ (by omega)).trans (Keep.set _ (by omega))).trans (Keep.set _ (by omega))).trans (Keep.set _ (by omega))).trans (Keep.set _ (by omega)))
    refine ⟨_, _, _, rfl, ⟨?_, ?_, ?_⟩, ?_⟩
    · exact (stable2 _ _ _ _ _ hk HRd.out).lower (by omega)
    · exact (stable4 _ _ _ _ _ hk HRa.out).lower (by omega)
    · exact (stable5 _ _ _ _ _ hk HRv.out).lower (by omega)
    · exact (((((HB2b.out.setCell (by show w.heap.size ≤ w.heap.size + 1 + 1; omega) _).setCell (by show w.heap.size ≤ w.heap.size + 1; omega) _).setCell (by show w.heap.size ≤ w.heap.size + 1; omega) _).setCell (by show w.heap.size ≤ w.heap.size + 1; omega) _).setCell (by show w.heap.size ≤ w.heap.size + 1; omega) _)
def ToDcW (p : Int) (dl : List (List Int)) (al : List (List (List (List Int)))) (vl : List (List (List (List Int)))) (w : World) (e' : Ending) (w' : World) : Prop := ∃ dv av vv, e' = .returned (.agg #[.int .i64 p, dv, av, vv]) ∧ DcW w.heap.size w'.heap.size w' dv av vv dl al vl ∧ Below w.heap.size w w'

set_option maxHeartbeats 1600000 in
theorem toDoublecw_any (p : Int) (dv av vv : Value) (dl : List (List Int)) (al : List (List (List (List Int)))) (vl : List (List (List (List Int)))) (w : World) (h : Dc 0 w dv av vv dl al vl) (hm : DcB 1048576 dl al vl) :
    Calls Try.prog 12 #[.agg #[.int .i64 p, dv, av, vv]] w (ToDcW p dl al vl w) := by
  have H := Lib.hid h
  have HM := Lib.hid hm
  clear h hm
  have hres : Try.f12.results = #[.cell 2 28] := by kernel_rfl
  have HRES := Lib.hid hres
  clear hres
  have HB0 : Hid (Below w.heap.size w (((w.alloc (.cells #[.int .i64 p, dv, av, vv] 25)).alloc (.cells #[.int .i64 0, .slice none 0 0, .slice none 0 0, .slice none 0 0] 28)).alloc (.cells #[.int .i64 p, .slice none 0 0, .slice none 0 0, .slice none 0 0] 28))) := Lib.hid ((((Below.refl _ _).alloc (Nat.le_refl _) _).alloc (by simp) _).alloc (by simp; omega) _)
  have hz0 : w.heap.size + 3 = (((w.alloc (.cells #[.int .i64 p, dv, av, vv] 25)).alloc (.cells #[.int .i64 0, .slice none 0 0, .slice none 0 0, .slice none 0 0] 28)).alloc (.cells #[.int .i64 p, .slice none 0 0, .slice none 0 0, .slice none 0 0] 28)).heap.size := by simp
  have HZ0 := Lib.hid hz0
  clear hz0
  go_enter Try.func12, Try.ntmps12
  go_wp2_with fail
  refine (to2w_any dv dl _ (H.out.fd.below HB0.out) HM.out.bd).mono ?_
  rintro ee w1 ⟨u0, rfl, hr, hb⟩
  obtain ⟨ad, cd, rfl⟩ := Sw.shape hr
  have hs0 : w.heap.size + 3 ≤ w1.heap.size := by have := hb.size; simp at this; omega
  obtain ⟨hc0, hf0⟩ := bcell hb
  have HB0b := Lib.hid (HB0.out.trans (hb.mono (by first | omega | (simp; omega) | simp)))
  have HRd : Hid (W2 (w.heap.size + 1 + 1 + 1) (w1.heap.size) w1 (.slice ad dl.length cd) dl) := Lib.hid (hr.wider (by first | omega | (simp; omega) | simp) (Nat.le_refl _))
  clear hr hb
  have hzx0 : w.heap.size < w1.heap.size := by omega
  have hzz0 : w.heap.size + 1 < w1.heap.size := by omega
  have hzy0 : w.heap.size + 1 + 1 < w1.heap.size := by omega
  have HB0c : Hid (Below w.heap.size w (w1.setCell ⟨w.heap.size + 1 + 1, 1, none⟩ (.slice ad dl.length cd))) := Lib.hid (HB0b.out.setCell (by show w.heap.size ≤ w.heap.size + 1 + 1; omega) _)
  have HRd' : Hid (W2 (w.heap.size + 1 + 1 + 1) (w1.heap.size) (w1.setCell ⟨w.heap.size + 1 + 1, 1, none⟩ (.slice ad dl.length cd)) (.slice ad dl.length cd) dl) := Lib.hid (HRd.out.same (Same.set _ (Or.inl (Nat.lt_succ_self _))))
  clear HRd
  have HRd := HRd'
  clear HRd'
  go_wp2_with fail
  refine (to4w_any av al _ (H.out.fa.below HB0c.out) HM.out.ba).mono ?_
  rintro ee w2 ⟨u1, rfl, hr, hb⟩
  obtain ⟨aa, ca, rfl⟩ := Sw.shape hr
  have hs1 : w1.heap.size ≤ w2.heap.size := by have := hb.size; simpa using this
  obtain ⟨hc1, hf1⟩ := bcell hb
  have HB1b := Lib.hid (HB0c.out.trans (hb.mono (by first | omega | (simp; omega) | simp)))
  have HRd' := Lib.hid (HRd.out.same (Same.of_below hb (by simp)))
  clear HRd
  have HRd := HRd'
  clear HRd'
  have HRa : Hid (W4 (w.heap.size + 1 + 1 + 1) (w2.heap.size) w2 (.slice aa al.length ca) al) := Lib.hid (hr.wider (by first | omega | (simp; omega) | simp) (Nat.le_refl _))
  clear hr hb
  have hzx1 : w.heap.size < w2.heap.size := by omega
  have hzz1 : w.heap.size + 1 < w2.heap.size := by omega
  have hzy1 : w.heap.size + 1 + 1 < w2.heap.size := by omega
  have HRd' : Hid (W2 (w.heap.size + 1 + 1 + 1) (w2.heap.size) w2 (.slice ad dl.length cd) dl) := Lib.hid (HRd.out.wider (Nat.le_refl _) (by omega))
  clear HRd
  have HRd := HRd'
  clear HRd'
  have HB1c : Hid (Below w.heap.size w (w2.setCell ⟨w.heap.size + 1 + 1, 2, none⟩ (.slice aa al.length ca))) := Lib.hid (HB1b.out.setCell (by show w.heap.size ≤ w.heap.size + 1 + 1; omega) _)
  have HRd' : Hid (W2 (w.heap.size + 1 + 1 + 1) (w2.heap.size) (w2.setCell ⟨w.heap.size + 1 + 1, 2, none⟩ (.slice aa al.length ca)) (.slice ad dl.length cd) dl) := Lib.hid (HRd.out.same (Same.set _ (Or.inl (Nat.lt_succ_self _))))
  clear HRd
  have HRd := HRd'
  clear HRd'
  have HRa' : Hid (W4 (w.heap.size + 1 + 1 + 1) (w2.heap.size) (w2.setCell ⟨w.heap.size + 1 + 1, 2, none⟩ (.slice aa al.length ca)) (.slice aa al.length ca) al) := Lib.hid (HRa.out.same (Same.set _ (Or.inl (Nat.lt_succ_self _))))
  clear HRa
  have HRa := HRa'
  clear HRa'
  go_wp2_with fail
  refine (to5w_any vv vl _ (H.out.fv.below HB1c.out) HM.out.bv).mono ?_
  rintro ee w3 ⟨u2, rfl, hr, hb⟩
  obtain ⟨av, cv, rfl⟩ := Sw.shape hr
  have hs2 : w2.heap.size ≤ w3.heap.size := by have := hb.size; simpa using this
  obtain ⟨hc2, hf2⟩ := bcell hb
  have HB2b := Lib.hid (HB1c.out.trans (hb.mono (by first | omega | (simp; omega) | simp)))
  have HRd' := Lib.hid (HRd.out.same (Same.of_below hb (by simp)))
  have HRa' := Lib.hid (HRa.out.same (Same.of_below hb (by simp)))
  clear HRd
  have HRd := HRd'
  clear HRd'
  clear HRa
  have HRa := HRa'
  clear HRa'
  have HRv : Hid (W5 (w.heap.size + 1 + 1 + 1) (w3.heap.size) w3 (.slice av vl.length cv) vl) := Lib.hid (hr.wider (by first | omega | (simp; omega) | simp) (Nat.le_refl _))
  clear hr hb
  have hzx2 : w.heap.size < w3.heap.size := by omega
  have hzz2 : w.heap.size + 1 < w3.heap.size := by omega
  have hzy2 : w.heap.size + 1 + 1 < w3.heap.size := by omega
  have HRd' : Hid (W2 (w.heap.size + 1 + 1 + 1) (w3.heap.size) w3 (.slice ad dl.length cd) dl) := Lib.hid (HRd.out.wider (Nat.le_refl _) (by omega))
  clear HRd
  have HRd := HRd'
  clear HRd'
  have HRa' : Hid (W4 (w.heap.size + 1 + 1 + 1) (w3.heap.size) w3 (.slice aa al.length ca) al) := Lib.hid (HRa.out.wider (Nat.le_refl _) (by omega))
  clear HRa
  have HRa := HRa'
  clear HRa'
  go_wp2
  refine bodyPost_ret (v := .agg #[.int .i64 p, .slice ad dl.length cd, .slice aa al.length ca, .slice av vl.length cv]) ?_ rfl ?_
  · simp only [results, HRES.out]
    go_simp
  · have hk : ∀ hi, Same (w.heap.size + 1 + 1 + 1) hi w3 (((((w3.setCell ⟨w.heap.size + 1 + 1, 3, none⟩ (.slice av vl.length cv)).setCell ⟨w.heap.size + 1, 0, none⟩ (.int .i64 p)).setCell ⟨w.heap.size + 1, 1, none⟩ (.slice ad dl.length cd)).setCell ⟨w.heap.size + 1, 2, none⟩ (.slice aa al.length ca)).setCell ⟨w.heap.size + 1, 3, none⟩ (.slice av vl.length cv)) := fun hi => (((((Same.set _ (Or.inl (by omega))).trans (Same.set _ (Or.inl (by omega)))).trans (Same.set _ (Or.inl (by omega)))).trans (Same.set _ (Or.inl (by omega)))).trans (Same.set _ (Or.inl (by omega))))
    refine ⟨_, _, _, rfl, ⟨?_, ?_, ?_⟩, ?_⟩
    · exact (HRd.out.same (hk _)).wider (by omega) (by simp)
    · exact (HRa.out.same (hk _)).wider (by omega) (by simp)
    · exact (HRv.out.same (hk _)).wider (by omega) (by simp)
    · exact (((((HB2b.out.setCell (by show w.heap.size ≤ w.heap.size + 1 + 1; omega) _).setCell (by show w.heap.size ≤ w.heap.size + 1; omega) _).setCell (by show w.heap.size ≤ w.heap.size + 1; omega) _).setCell (by show w.heap.size ≤ w.heap.size + 1; omega) _).setCell (by show w.heap.size ≤ w.heap.size + 1; omega) _)

set_option maxHeartbeats 1600000 in
theorem eqDoublec_true (p : Int) (dv av vv : Value) (dv2 av2 vv2 : Value) (dl : List (List Int)) (al : List (List (List (List Int)))) (vl : List (List (List (List Int)))) (w : World) (h : Dc 0 w dv av vv dl al vl) (h2 : Dc 0 w dv2 av2 vv2 dl al vl) (hm : DcB 1048576 dl al vl) :
    Calls Try.prog 14 #[.agg #[.int .i64 p, dv, av, vv], .agg #[.int .i64 p, dv2, av2, vv2]] w (BR (.bool true) w) := by
  have HM := Lib.hid hm
  have HB0 : Hid (Below w.heap.size w ((w.alloc (.cells #[.int .i64 p, dv, av, vv] 28)).alloc (.cells #[.int .i64 p, dv2, av2, vv2] 28))) := Lib.hid (((Below.refl _ _).alloc (Nat.le_refl _) _).alloc (by simp) _)
  have H := Lib.hid (h.below HB0.out)
  have H2 := Lib.hid (h2.below HB0.out)
  clear hm h h2
  go_enter Try.func14, Try.ntmps14
  go_wp2_with fail
  have h1 := eq2_any dv dv2 dl dl _ H.out.fd H2.out.fd HM.out.bd HM.out.bd
  rw [decide_eq_true rfl] at h1
  refine h1.mono ?_
  clear h1
  rintro ee w' ⟨rfl, m0, rfl⟩
  go_wp2_with fail
  have h1 := eq4_any av av2 al al _ (H.out.fa.below (drewN_below _ (m0))) (H2.out.fa.below (drewN_below _ (m0))) HM.out.ba HM.out.ba
  rw [decide_eq_true rfl] at h1
  refine h1.mono ?_
  clear h1
  rintro ee w' ⟨rfl, m1, rfl⟩
  go_wp2_with fail
  have h1 := eq5_any vv vv2 vl vl _ (H.out.fv.below (drewN_below _ (m0 + m1))) (H2.out.fv.below (drewN_below _ (m0 + m1))) HM.out.bv HM.out.bv
  rw [decide_eq_true rfl] at h1
  refine h1.mono ?_
  clear h1
  rintro ee w' ⟨rfl, m2, rfl⟩
  go_wp2
  go_ret
  exact ⟨rfl, HB0.out.trans ((drewN_below _ (m0 + m1 + m2)).mono HB0.out.size)⟩
theorem array4c {α : Type} {cs : Array α} (h : cs.size = 4) : ∃ c0 c1 c2 c3, cs = #[c0, c1, c2, c3] := by
  obtain ⟨l⟩ := cs
  match l, h with
  | [c0, c1, c2, c3], _ => exact ⟨c0, c1, c2, c3, rfl⟩
theorem Try.cellsDc : Try.prog.cellsOf 25 = 4 := by kernel_rfl
section
variable {H : Type} {enc : TypeId × Value → H} {P : Program} {w : World} {base : Nat} {held : Bool} {spare : Nat → Bool}
theorem trod_struct4c {t : TypeId} {f0 f1 f2 f3 : Field} {fuel : Nat} {cs : List Value} {x : DataW H × List MemPlace} (ht : P.underlying t = some (.struct #[f0, f1, f2, f3])) (h : DataW.trod enc P w base (fun _ => true) held fuel t cs = some x) :
    ∃ y0 y1 y2 y3 m, DataW.trod enc P w base (fun _ => true) held m f0.type ((cs.drop f0.offset).take (P.cellsOf f0.type)) = some y0 ∧ DataW.trod enc P w base (fun _ => true) held m f1.type ((cs.drop f1.offset).take (P.cellsOf f1.type)) = some y1 ∧ DataW.trod enc P w base (fun _ => true) held m f2.type ((cs.drop f2.offset).take (P.cellsOf f2.type)) = some y2 ∧ DataW.trod enc P w base (fun _ => true) held m f3.type ((cs.drop f3.offset).take (P.cellsOf f3.type)) = some y3 := by
  obtain ⟨xs, m, _, rfl, hl, hlen, hf⟩ := DataW.trod_struct ht h
  match xs, hlen with
  | [y0, y1, y2, y3], _ => exact ⟨y0, y1, y2, y3, m, by simpa using hf 0 f0 rfl, by simpa using hf 1 f1 rfl, by simpa using hf 2 f2 rfl, by simpa using hf 3 f3 rfl⟩
set_option maxRecDepth 100000 in
theorem doublec_of_trod {r : Reach} {b0 : Nat} {v : Value} {d' : DataW H} {p' : List MemPlace} (hv : Value.okWide Try.prog w r b0 25 v) (h : DataW.Trod enc Try.prog w base (fun _ => true) held 25 v d' p') :
    ∃ (p : Int) (dv av vv : Value) (dl : List (List Int)) (al : List (List (List (List Int)))) (vl : List (List (List (List Int)))), v = .agg #[.int .i64 p, dv, av, vv] ∧ Dc 0 w dv av vv dl al vl ∧ DcB 9223372036854775807 dl al vl := by
  obtain ⟨cs, rfl, hsz⟩ := okWide_struct Try.underlying25 hv
  obtain ⟨c0, c1, c2, c3, rfl⟩ := array4c (hsz.trans Try.cellsDc)
  obtain ⟨fuel, hf⟩ := h
  obtain ⟨y0, y1, y2, y3, m, h0, h1, h2, h3⟩ := trod_struct4c Try.underlying25 hf
  have h0' : DataW.trod enc Try.prog w base (fun _ => true) held m 2 [c0] = some y0 := h0
  have h1' : DataW.trod enc Try.prog w base (fun _ => true) held m 22 [c1] = some y1 := h1
  have h2' : DataW.trod enc Try.prog w base (fun _ => true) held m 23 [c2] = some y2 := h2
  have h3' : DataW.trod enc Try.prog w base (fun _ => true) held m 23 [c3] = some y3 := h3
  obtain ⟨q0, e0, _, _⟩ := DataW.trod_int Try.underlying2 h0'
  obtain rfl : c0 = .int .i64 q0 := by simpa using e0
  obtain ⟨x1, hx1, hy1⟩ := l2_of_trod h1'
  obtain ⟨x2, hx2, hy2⟩ := l4_of_trod h2'
  obtain ⟨x3, hx3, hy3⟩ := l5_of_trod h3'
  exact ⟨q0, c1, c2, c3, x1, x2, x3, rfl, ⟨hx1, hx2, hx3⟩, ⟨hy1, hy2, hy3⟩⟩
end
end Go.Proofs.Ytlopenephgabhaa


namespace Go.Proofs.Ytlopenephgabhaa
open Go.RowKit

def smL {α : Type} (f : α → Nat) (xs : List α) : Nat := (xs.map f).sum
theorem smL_succ {α : Type} (f : α → Nat) (xs : List α) {j : Nat} (h : j < xs.length) : smL f (xs.take (j + 1)) = smL f (xs.take j) + f xs[j] := by
  show ((xs.take (j + 1)).map f).sum = ((xs.take j).map f).sum + f xs[j]
  rw [← List.take_append_getElem h, List.map_append, List.sum_append]
  simp only [List.map_cons, List.map_nil, List.sum_cons, List.sum_nil, Nat.add_zero]
theorem smL_full {α : Type} (f : α → Nat) (xs : List α) {j : Nat} (h : j = xs.length) : smL f (xs.take j) = smL f xs := by rw [h, List.take_length]
theorem smL_take {α : Type} (f : α → Nat) (xs : List α) (j : Nat) : smL f (xs.take j) ≤ smL f xs := by
  have h : smL f xs = smL f (xs.take j) + smL f (xs.drop j) := by simp only [smL]; rw [← List.sum_append, ← List.map_append, List.take_append_drop]
  omega
theorem smL_mono {α : Type} {f g : α → Nat} (xs : List α) (h : ∀ x, f x ≤ g x) : smL f xs ≤ smL g xs := by
  induction xs with
  | nil => simp [smL]
  | cons x xs ih => have := h x; simp only [smL, List.map_cons, List.sum_cons] at ih ⊢; omega
def tot1 (xs : List Int) : Nat := xs.length
def tot2 (xs : List (List Int)) : Nat := xs.length + smL tot1 xs
def tot3 (xs : List (List (List Int))) : Nat := xs.length + smL tot2 xs
def tot4 (xs : List (List (List (List Int)))) : Nat := xs.length + smL tot3 xs
def cnt1 (xs : List Int) : Nat := xs.length
def cnt2 (xs : List (List Int)) : Nat := smL cnt1 xs
def cnt3 (xs : List (List (List Int))) : Nat := smL cnt2 xs
def cnt4 (xs : List (List (List (List Int)))) : Nat := smL cnt3 xs
theorem cnt2_le (xs : List (List Int)) : cnt2 xs ≤ tot2 xs := by unfold cnt2 tot2; have := smL_mono (f := cnt1) (g := tot1) xs (fun _ => Nat.le_refl _); omega
theorem cnt3_le (xs : List (List (List Int))) : cnt3 xs ≤ tot3 xs := by unfold cnt3 tot3; have := smL_mono (f := cnt2) (g := tot2) xs cnt2_le; omega
theorem cnt4_le (xs : List (List (List (List Int)))) : cnt4 xs ≤ tot4 xs := by unfold cnt4 tot4; have := smL_mono (f := cnt3) (g := tot3) xs cnt3_le; omega
def T4 (lo hi : Nat) := Sw lo hi (T3 lo hi)

/-- A size: what is left is told, or there was too much. -/
def SzT (left : Int) (n : Nat) (w : World) (e : Ending) (w' : World) : Prop := ∃ r : Int, e = .returned (.int .i64 r) ∧ w = w' ∧ (r = -1 ∨ 0 ≤ r ∧ r = left - (n : Int))

set_option maxHeartbeats 800000 in
theorem szt1_any {lo : Nat} (v : Value) (xs : List Int) (left : Int) (w : World) (h : L1 lo w v xs) (h0 : 0 ≤ left) (h1 : left ≤ 1048576) (hm : xs.length ≤ 9223372036854775807) :
    Calls Try.prog 73 #[v, .int .i64 left] w (SzT left (tot1 xs) w) := by
  obtain ⟨ad, cap, rfl⟩ := Sl.shape h
  by_cases hlt : left - xs.length < 0
  · go_enter Try.func73, Try.ntmps73
    go_wp2
    go_ret
    exact ⟨_, rfl, rfl, Or.inl rfl⟩
  · go_enter Try.func73, Try.ntmps73
    go_wp2
    go_ret
    exact ⟨_, rfl, rfl, Or.inr ⟨by omega, by unfold tot1; omega⟩⟩

set_option maxHeartbeats 800000 in
theorem szt2_any {lo : Nat} (v : Value) (xs : List (List Int)) (left : Int) (w : World) (h : L2 lo w v xs) (h0 : 0 ≤ left) (h1 : left ≤ 1048576) (hm : Bd2 9223372036854775807 xs) :
    Calls Try.prog 40 #[v, .int .i64 left] w (SzT left (tot2 xs) w) := by
  have hm0 : xs.length ≤ 9223372036854775807 := hm.1
  refine Sl.cases h (fun ad cap hx hv => ?_) (fun b o cap hv _ hpos hc => ?_)
  · subst hx hv
    go_enter Try.func40, Try.ntmps40
    go_wp2
    refine wp_loop_rounds 1 ?_
    rw [rounds_succ]
    go_wp2
    go_ret
    exact ⟨_, rfl, rfl, Or.inr ⟨by omega, by simp [tot2, smL]⟩⟩
  · subst hv
    clear h
    by_cases hlt : left - xs.length < 0
    · go_enter Try.func40, Try.ntmps40
      go_wp2
      go_ret
      exact ⟨_, rfl, rfl, Or.inl rfl⟩
    · have HM := Lib.hid hm
      have HC := Lib.hid hc
      clear hm hc
      go_enter Try.func40, Try.ntmps40
      go_wp2
      go_loop [1, 5] (fun l i => ∃ (k : Nat) (r : Int), k ≤ xs.length ∧ i = .int .i64 k ∧ l = .int .i64 r ∧ 0 ≤ r ∧ r ≤ left ∧ Hid (r = left - (xs.length : Int) - (smL tot1 (xs.take k) : Int))) (fun _ i => xs.length - (intOf i).toNat)
      case atStart => exact ⟨0, _, Nat.zero_le _, rfl, rfl, by omega, by omega, Lib.hid (by simp [smL])⟩
      case round =>
        obtain ⟨k, r, hk, rfl, rfl, hr0, hr1, HR1⟩ := hrel
        by_cases hlt2 : k < xs.length
        · obtain ⟨u, hu, hr⟩ := HC.out k hlt2
          have hmu : (xs[k]).length ≤ 9223372036854775807 := HM.out.2 _ (List.getElem_mem hlt2)
          go_wp2_with fail
          refine (szt1_any u xs[k] r _ hr hr0 (by omega) hmu).mono ?_
          rintro e w' ⟨r2, rfl, rfl, hpost⟩
          rcases hpost with rfl | ⟨hp0, hp1⟩
          · go_wp2
            go_ret
            exact ⟨_, rfl, rfl, Or.inl rfl⟩
          · have hrn : Hid (r2 = left - (xs.length : Int) - (smL tot1 (xs.take (k + 1)) : Int)) := Lib.hid (by have := smL_succ tot1 xs hlt2; have := HR1.out; omega)
            have hrl : r2 ≤ left := by omega
            clear hp1 HR1
            go_wp2
            go_round
            case rel => exact ⟨k + 1, r2, by omega, by go_num, rfl, hp0, hrl, hrn⟩
            case measure => simp [intOf]; omega
        · have hfin : Hid (r = left - (tot2 xs : Int)) := Lib.hid (by have := smL_full tot1 xs (show k = xs.length by omega); have := HR1.out; unfold tot2; omega)
          clear HR1
          go_wp2
          go_ret
          exact ⟨_, rfl, rfl, Or.inr ⟨hr0, hfin.out⟩⟩

set_option maxHeartbeats 800000 in
theorem szt3_any {lo : Nat} (v : Value) (xs : List (List (List Int))) (left : Int) (w : World) (h : L3 lo w v xs) (h0 : 0 ≤ left) (h1 : left ≤ 1048576) (hm : Bd3 9223372036854775807 xs) :
    Calls Try.prog 74 #[v, .int .i64 left] w (SzT left (tot3 xs) w) := by
  have hm0 : xs.length ≤ 9223372036854775807 := hm.1
  refine Sl.cases h (fun ad cap hx hv => ?_) (fun b o cap hv _ hpos hc => ?_)
  · subst hx hv
    go_enter Try.func74, Try.ntmps74
    go_wp2
    refine wp_loop_rounds 1 ?_
    rw [rounds_succ]
    go_wp2
    go_ret
    exact ⟨_, rfl, rfl, Or.inr ⟨by omega, by simp [tot3, smL]⟩⟩
  · subst hv
    clear h
    by_cases hlt : left - xs.length < 0
    · go_enter Try.func74, Try.ntmps74
      go_wp2
      go_ret
      exact ⟨_, rfl, rfl, Or.inl rfl⟩
    · have HM := Lib.hid hm
      have HC := Lib.hid hc
      clear hm hc
      go_enter Try.func74, Try.ntmps74
      go_wp2
      go_loop [1, 5] (fun l i => ∃ (k : Nat) (r : Int), k ≤ xs.length ∧ i = .int .i64 k ∧ l = .int .i64 r ∧ 0 ≤ r ∧ r ≤ left ∧ Hid (r = left - (xs.length : Int) - (smL tot2 (xs.take k) : Int))) (fun _ i => xs.length - (intOf i).toNat)
      case atStart => exact ⟨0, _, Nat.zero_le _, rfl, rfl, by omega, by omega, Lib.hid (by simp [smL])⟩
      case round =>
        obtain ⟨k, r, hk, rfl, rfl, hr0, hr1, HR1⟩ := hrel
        by_cases hlt2 : k < xs.length
        · obtain ⟨u, hu, hr⟩ := HC.out k hlt2
          have hmu : Bd2 9223372036854775807 xs[k] := HM.out.2 _ (List.getElem_mem hlt2)
          go_wp2_with fail
          refine (szt2_any u xs[k] r _ hr hr0 (by omega) hmu).mono ?_
          rintro e w' ⟨r2, rfl, rfl, hpost⟩
          rcases hpost with rfl | ⟨hp0, hp1⟩
          · go_wp2
            go_ret
            exact ⟨_, rfl, rfl, Or.inl rfl⟩
          · have hrn : Hid (r2 = left - (xs.length : Int) - (smL tot2 (xs.take (k + 1)) : Int)) := Lib.hid (by have := smL_succ tot2 xs hlt2; have := HR1.out; omega)
            have hrl : r2 ≤ left := by omega
            clear hp1 HR1
            go_wp2
            go_round
            case rel => exact ⟨k + 1, r2, by omega, by go_num, rfl, hp0, hrl, hrn⟩
            case measure => simp [intOf]; omega
        · have hfin : Hid (r = left - (tot3 xs : Int)) := Lib.hid (by have := smL_full tot2 xs (show k = xs.length by omega); have := HR1.out; unfold tot3; omega)
          clear HR1
          go_wp2
          go_ret
          exact ⟨_, rfl, rfl, Or.inr ⟨hr0, hfin.out⟩⟩

set_option maxHeartbeats 800000 in
theorem szt4_any {lo : Nat} (v : Value) (xs : List (List (List (List Int)))) (left : Int) (w : World) (h : L4 lo w v xs) (h0 : 0 ≤ left) (h1 : left ≤ 1048576) (hm : Bd4 9223372036854775807 xs) :
    Calls Try.prog 41 #[v, .int .i64 left] w (SzT left (tot4 xs) w) := by
  have hm0 : xs.length ≤ 9223372036854775807 := hm.1
  refine Sl.cases h (fun ad cap hx hv => ?_) (fun b o cap hv _ hpos hc => ?_)
  · subst hx hv
    go_enter Try.func41, Try.ntmps41
    go_wp2
    refine wp_loop_rounds 1 ?_
    rw [rounds_succ]
    go_wp2
    go_ret
    exact ⟨_, rfl, rfl, Or.inr ⟨by omega, by simp [tot4, smL]⟩⟩
  · subst hv
    clear h
    by_cases hlt : left - xs.length < 0
    · go_enter Try.func41, Try.ntmps41
      go_wp2
      go_ret
      exact ⟨_, rfl, rfl, Or.inl rfl⟩
    · have HM := Lib.hid hm
      have HC := Lib.hid hc
      clear hm hc
      go_enter Try.func41, Try.ntmps41
      go_wp2
      go_loop [1, 5] (fun l i => ∃ (k : Nat) (r : Int), k ≤ xs.length ∧ i = .int .i64 k ∧ l = .int .i64 r ∧ 0 ≤ r ∧ r ≤ left ∧ Hid (r = left - (xs.length : Int) - (smL tot3 (xs.take k) : Int))) (fun _ i => xs.length - (intOf i).toNat)
      case atStart => exact ⟨0, _, Nat.zero_le _, rfl, rfl, by omega, by omega, Lib.hid (by simp [smL])⟩
      case round =>
        obtain ⟨k, r, hk, rfl, rfl, hr0, hr1, HR1⟩ := hrel
        by_cases hlt2 : k < xs.length
        · obtain ⟨u, hu, hr⟩ := HC.out k hlt2
          have hmu : Bd3 9223372036854775807 xs[k] := HM.out.2 _ (List.getElem_mem hlt2)
          go_wp2_with fail
          refine (szt3_any u xs[k] r _ hr hr0 (by omega) hmu).mono ?_
          rintro e w' ⟨r2, rfl, rfl, hpost⟩
          rcases hpost with rfl | ⟨hp0, hp1⟩
          · go_wp2
            go_ret
            exact ⟨_, rfl, rfl, Or.inl rfl⟩
          · have hrn : Hid (r2 = left - (xs.length : Int) - (smL tot3 (xs.take (k + 1)) : Int)) := Lib.hid (by have := smL_succ tot3 xs hlt2; have := HR1.out; omega)
            have hrl : r2 ≤ left := by omega
            clear hp1 HR1
            go_wp2
            go_round
            case rel => exact ⟨k + 1, r2, by omega, by go_num, rfl, hp0, hrl, hrn⟩
            case measure => simp [intOf]; omega
        · have hfin : Hid (r = left - (tot4 xs : Int)) := Lib.hid (by have := smL_full tot3 xs (show k = xs.length by omega); have := HR1.out; unfold tot4; omega)
          clear HR1
          go_wp2
          go_ret
          exact ⟨_, rfl, rfl, Or.inr ⟨hr0, hfin.out⟩⟩

set_option maxHeartbeats 800000 in
theorem mark2t_any {lo hi : Nat} (v : Value) (xs : List (List Int)) (k : Int) (w : World) (h : T2 lo hi w v xs) (hm : Bd2 1048576 xs) (hk0 : 0 ≤ k) (hk1 : k + (cnt2 xs : Int) ≤ 4611686018427387904) :
    Calls Try.prog 27 #[v, .int .i64 k] w (MarkD lo hi k (k + (cnt2 xs : Int)) w) := by
  have hml : xs.length ≤ 1048576 := hm.1
  have HM := Lib.hid hm
  have H := Lib.hid h
  clear hm
  refine Sw.cases h (fun ad cap hx hv => ?_) (fun b o cap hv hlo hhi hpos hc hf => ?_)
  · subst hx hv
    clear h
    go_enter Try.func27, Try.ntmps27
    go_wp2
    refine wp_loop_rounds 1 ?_
    rw [rounds_succ]
    go_wp2
    go_ret
    exact ⟨k, rfl, Int.le_refl _, by simp [cnt2, smL], Only.refl _ _ _, Tame.refl _⟩
  · subst hv
    clear h
    have HC := Lib.hid hc
    clear hc hf
    go_enter Try.func27, Try.ntmps27
    go_wp2
    go_loopw [1, 5] (fun kk i wr => ∃ (j : Nat) (r : Int), j ≤ xs.length ∧ i = .int .i64 j ∧ kk = .int .i64 r ∧ k ≤ r ∧ r ≤ k + (smL cnt1 (xs.take j) : Int) ∧ Hid (Only lo hi w wr ∧ Tame w wr)) (fun _ i _ => xs.length - (intOf i).toNat)
    case atStart => exact ⟨0, k, Nat.zero_le _, rfl, rfl, Int.le_refl _, by simp [smL], Lib.hid ⟨Only.refl _ _ _, Tame.refl _⟩⟩
    case round =>
      obtain ⟨j, r, hj, rfl, rfl, hr0, hr1, HO⟩ := hrel
      by_cases hlt : j < xs.length
      · obtain ⟨u, hu, hr⟩ := HC.out j hlt
        obtain ⟨a1, c1, hu1⟩ := Sw.shape hr
        rw [hu1] at hu hr
        have hu' := HO.out.2.slices _ _ _ _ _ hu
        have HR := Lib.hid (T1.tame hr HO.out.2)
        have hmx : (xs[j]).length ≤ 1048576 := HM.out.2 _ (List.getElem_mem hlt)
        clear hu hr hu1
        have hsm := smL_succ cnt1 xs hlt
        have hst := smL_take cnt1 xs (j + 1)
        have hct : cnt2 xs = smL cnt1 xs := rfl
        have hc1 : cnt1 xs[j] = (xs[j]).length := rfl
        go_wp2_with fail
        refine (mark1_any _ xs[j] r _ HR.out hmx (by omega) (by omega)).mono ?_
        rintro e w2 ⟨rfl, ho, ht, _⟩
        have HO2 := Lib.hid (And.intro (HO.out.1.trans ho) (HO.out.2.trans ht))
        clear ho ht
        go_wp2
        go_roundw
        case rel => exact ⟨j + 1, r + ((xs[j]).length : Int), by omega, by go_num, rfl, by omega, by omega, HO2⟩
        case measure => simp [intOf]; omega
      · have hjj : Hid (j = xs.length) := Lib.hid (by omega)
        have hsf := smL_full cnt1 xs hjj.out
        have hct : cnt2 xs = smL cnt1 xs := rfl
        go_wp2
        go_ret
        exact ⟨r, rfl, hr0, by have := hjj.out; omega, HO.out.1, HO.out.2⟩

set_option maxHeartbeats 800000 in
theorem mark3t_any {lo hi : Nat} (v : Value) (xs : List (List (List Int))) (k : Int) (w : World) (h : T3 lo hi w v xs) (hm : Bd3 1048576 xs) (hk0 : 0 ≤ k) (hk1 : k + (cnt3 xs : Int) ≤ 4611686018427387904) :
    Calls Try.prog 64 #[v, .int .i64 k] w (MarkD lo hi k (k + (cnt3 xs : Int)) w) := by
  have hml : xs.length ≤ 1048576 := hm.1
  have HM := Lib.hid hm
  refine Sw.cases h (fun ad cap hx hv => ?_) (fun b o cap hv hlo hhi hpos hc hf => ?_)
  · subst hx hv
    clear h hm
    go_enter Try.func64, Try.ntmps64
    go_wp2
    refine wp_loop_rounds 1 ?_
    rw [rounds_succ]
    go_wp2
    go_ret
    exact ⟨k, rfl, Int.le_refl _, by simp [cnt3, smL], Only.refl _ _ _, Tame.refl _⟩
  · subst hv
    clear h hm
    have HC := Lib.hid hc
    clear hc hf
    go_enter Try.func64, Try.ntmps64
    go_wp2
    go_loopw [1, 5] (fun kk i wr => ∃ (j : Nat) (r : Int), j ≤ xs.length ∧ i = .int .i64 j ∧ kk = .int .i64 r ∧ k ≤ r ∧ r ≤ k + (smL cnt2 (xs.take j) : Int) ∧ Hid (Only lo hi w wr ∧ Tame w wr)) (fun _ i _ => xs.length - (intOf i).toNat)
    case atStart => exact ⟨0, k, Nat.zero_le _, rfl, rfl, Int.le_refl _, by simp [smL], Lib.hid ⟨Only.refl _ _ _, Tame.refl _⟩⟩
    case round =>
      obtain ⟨j, r, hj, rfl, rfl, hr0, hr1, HO⟩ := hrel
      by_cases hlt : j < xs.length
      · obtain ⟨u, hu, hr⟩ := HC.out j hlt
        obtain ⟨a1, c1, hu1⟩ := Sw.shape hr
        rw [hu1] at hu hr
        have hu' := HO.out.2.slices _ _ _ _ _ hu
        have HR := Lib.hid (T2.tame hr HO.out.2)
        have hmy : (xs[j]).length ≤ 1048576 := (HM.out.2 _ (List.getElem_mem hlt)).1
        clear hu hr hu1
        have hsm := smL_succ cnt2 xs hlt
        have hst := smL_take cnt2 xs (j + 1)
        have hct : cnt3 xs = smL cnt2 xs := rfl
        have hmz : (xs[j]).length ≤ 1048576 := hmy
        go_wp2_with fail
        refine (mark2t_any _ xs[j] r _ HR.out (HM.out.2 _ (List.getElem_mem hlt)) (by omega) (by omega)).mono ?_
        rintro e w2 ⟨r2, rfl, hs0, hs1, ho, ht⟩
        have HO2 := Lib.hid (And.intro (HO.out.1.trans ho) (HO.out.2.trans ht))
        clear ho ht
        go_wp2
        go_roundw
        case rel => exact ⟨j + 1, r2, by omega, by go_num, rfl, by omega, by omega, HO2⟩
        case measure => simp [intOf]; omega
      · have hjj : Hid (j = xs.length) := Lib.hid (by omega)
        have hsf := smL_full cnt2 xs hjj.out
        have hct : cnt3 xs = smL cnt2 xs := rfl
        go_wp2
        go_ret
        exact ⟨r, rfl, hr0, by have := hjj.out; omega, HO.out.1, HO.out.2⟩

theorem W4.t4 {lo hi : Nat} {w : World} {v : Value} {xs : List (List (List (List Int)))} (h : W4 lo hi w v xs) : T4 lo hi w v xs := Sw.wider (Nat.le_refl _) (Nat.le_refl _) (fun _ _ _ h => h.t3) h

set_option maxHeartbeats 800000 in
theorem mark4t_any {lo hi : Nat} (v : Value) (xs : List (List (List (List Int)))) (k : Int) (w : World) (h : T4 lo hi w v xs) (hm : Bd4 1048576 xs) (hk0 : 0 ≤ k) (hk1 : k + (cnt4 xs : Int) ≤ 4611686018427387904) :
    Calls Try.prog 52 #[v, .int .i64 k] w (MarkD lo hi k (k + (cnt4 xs : Int)) w) := by
  have hml : xs.length ≤ 1048576 := hm.1
  have HM := Lib.hid hm
  refine Sw.cases h (fun ad cap hx hv => ?_) (fun b o cap hv hlo hhi hpos hc hf => ?_)
  · subst hx hv
    clear h hm
    go_enter Try.func52, Try.ntmps52
    go_wp2
    refine wp_loop_rounds 1 ?_
    rw [rounds_succ]
    go_wp2
    go_ret
    exact ⟨k, rfl, Int.le_refl _, by simp [cnt4, smL], Only.refl _ _ _, Tame.refl _⟩
  · subst hv
    clear h hm
    have HC := Lib.hid hc
    clear hc hf
    go_enter Try.func52, Try.ntmps52
    go_wp2
    go_loopw [1, 5] (fun kk i wr => ∃ (j : Nat) (r : Int), j ≤ xs.length ∧ i = .int .i64 j ∧ kk = .int .i64 r ∧ k ≤ r ∧ r ≤ k + (smL cnt3 (xs.take j) : Int) ∧ Hid (Only lo hi w wr ∧ Tame w wr)) (fun _ i _ => xs.length - (intOf i).toNat)
    case atStart => exact ⟨0, k, Nat.zero_le _, rfl, rfl, Int.le_refl _, by simp [smL], Lib.hid ⟨Only.refl _ _ _, Tame.refl _⟩⟩
    case round =>
      obtain ⟨j, r, hj, rfl, rfl, hr0, hr1, HO⟩ := hrel
      by_cases hlt : j < xs.length
      · obtain ⟨u, hu, hr⟩ := HC.out j hlt
        obtain ⟨a1, c1, hu1⟩ := Sw.shape hr
        rw [hu1] at hu hr
        have hu' := HO.out.2.slices _ _ _ _ _ hu
        have HR := Lib.hid (T3.tame hr HO.out.2)
        have hmy : (xs[j]).length ≤ 1048576 := (HM.out.2 _ (List.getElem_mem hlt)).1
        clear hu hr hu1
        have hsm := smL_succ cnt3 xs hlt
        have hst := smL_take cnt3 xs (j + 1)
        have hct : cnt4 xs = smL cnt3 xs := rfl
        have hmz : (xs[j]).length ≤ 1048576 := hmy
        go_wp2_with fail
        refine (mark3t_any _ xs[j] r _ HR.out (HM.out.2 _ (List.getElem_mem hlt)) (by omega) (by omega)).mono ?_
        rintro e w2 ⟨r2, rfl, hs0, hs1, ho, ht⟩
        have HO2 := Lib.hid (And.intro (HO.out.1.trans ho) (HO.out.2.trans ht))
        clear ho ht
        go_wp2
        go_roundw
        case rel => exact ⟨j + 1, r2, by omega, by go_num, rfl, by omega, by omega, HO2⟩
        case measure => simp [intOf]; omega
      · have hjj : Hid (j = xs.length) := Lib.hid (by omega)
        have hsf := smL_full cnt3 xs hjj.out
        have hct : cnt4 xs = smL cnt3 xs := rfl
        go_wp2
        go_ret
        exact ⟨r, rfl, hr0, by have := hjj.out; omega, HO.out.1, HO.out.2⟩

end Go.Proofs.Ytlopenephgabhaa


namespace Go.Proofs.Ytlopenephgabhaa
open Go.RowKit
theorem smL_mem {α : Type} (f : α → Nat) {xs : List α} {x : α} (h : x ∈ xs) : f x ≤ smL f xs := by
  induction xs with
  | nil => cases h
  | cons y xs ih =>
    have e : smL f (y :: xs) = f y + smL f xs := by simp [smL]
    rcases List.mem_cons.1 h with rfl | h
    · omega
    · have := ih h; omega
theorem bd1_tot {n : Nat} {xs : List Int} (h : tot1 xs ≤ n) : Bd1 n xs := h
theorem bd2_tot {n : Nat} {xs : List (List Int)} (h : tot2 xs ≤ n) : Bd2 n xs := by
  unfold tot2 at h
  exact ⟨by omega, fun x hx => bd1_tot (by have := smL_mem tot1 hx; omega)⟩
theorem bd3_tot {n : Nat} {xs : List (List (List Int))} (h : tot3 xs ≤ n) : Bd3 n xs := by
  unfold tot3 at h
  exact ⟨by omega, fun x hx => bd2_tot (by have := smL_mem tot2 hx; omega)⟩
theorem bd4_tot {n : Nat} {xs : List (List (List (List Int)))} (h : tot4 xs ≤ n) : Bd4 n xs := by
  unfold tot4 at h
  exact ⟨by omega, fun x hx => bd3_tot (by have := smL_mem tot3 hx; omega)⟩
theorem T4.tame {lo hi : Nat} {w w' : World} {v : Value} {xs : List (List (List (List Int)))} (h : T4 lo hi w v xs) (ht : Tame w w') : T4 lo hi w' v xs :=
  tame_sw (fun _ _ x h => by obtain ⟨a, c, e⟩ := Sw.shape h; exact ⟨a, _, c, e⟩) (fun _ _ h => T3.tame h ht) h ht
def tot5 (xs : List (List (List (List Int)))) : Nat := tot4 xs
def cnt5 (xs : List (List (List (List Int)))) : Nat := cnt4 xs
theorem cnt5_le (xs : List (List (List (List Int)))) : cnt5 xs ≤ tot5 xs := cnt4_le xs
theorem bd5_tot {n : Nat} {xs : List (List (List (List Int)))} (h : tot5 xs ≤ n) : Bd5 n xs := bd4_tot h
def T5 (lo hi : Nat) := T4 lo hi
theorem T5.tame {lo hi : Nat} {w w' : World} {v : Value} {xs : List (List (List (List Int)))} (h : T5 lo hi w v xs) (ht : Tame w w') : T5 lo hi w' v xs := T4.tame h ht
theorem W5.t5 {lo hi : Nat} {w : World} {v : Value} {xs : List (List (List (List Int)))} (h : W5 lo hi w v xs) : T5 lo hi w v xs := Sw.wider (Nat.le_refl _) (Nat.le_refl _) (fun _ _ _ h => h.1.t3) h
theorem szt5_any {lo : Nat} (v : Value) (xs : List (List (List (List Int)))) (left : Int) (w : World) (h : L5 lo w v xs) (h0 : 0 ≤ left) (h1 : left ≤ 1048576) (hm : Bd5 9223372036854775807 xs) :
    Calls Try.prog 41 #[v, .int .i64 left] w (SzT left (tot5 xs) w) := szt4_any v xs left w h.l4 h0 h1 hm
theorem mark5t_any {lo hi : Nat} (v : Value) (xs : List (List (List (List Int)))) (k : Int) (w : World) (h : T5 lo hi w v xs) (hm : Bd5 1048576 xs) (hk0 : 0 ≤ k) (hk1 : k + (cnt5 xs : Int) ≤ 4611686018427387904) :
    Calls Try.prog 52 #[v, .int .i64 k] w (MarkD lo hi k (k + (cnt5 xs : Int)) w) := mark4t_any v xs k w h hm hk0 hk1
end Go.Proofs.Ytlopenephgabhaa


namespace Go.Proofs.Ytlopenephgabhaa
open Go.ChangeShapes Go.WideShapes Go.ChangeAt Go.RowKit Go.Deep

structure DcS (n : Nat) (dl : List (List Int)) (al : List (List (List (List Int)))) (vl : List (List (List (List Int)))) : Prop where
  b : DcB n dl al vl
  tot : tot2 dl + tot4 al + tot5 vl ≤ n

set_option maxHeartbeats 800000 in
theorem sztDoublec_any (p : Int) (dv av vv : Value) (dl : List (List Int)) (al : List (List (List (List Int)))) (vl : List (List (List (List Int)))) (left : Int) (w : World) (h : Dc 0 w dv av vv dl al vl) (h0 : 0 ≤ left) (h1 : left ≤ 1048576) (hml : DcB 9223372036854775807 dl al vl) :
    Calls Try.prog 10 #[.agg #[.int .i64 p, dv, av, vv], .int .i64 left] w (SzB left (DcS 1048576 dl al vl) w) := by
  have H := Lib.hid h
  have HML := Lib.hid hml
  have HB : Hid (Below w.heap.size w (w.alloc (.cells #[.int .i64 p, dv, av, vv] 25))) := Lib.hid ((Below.refl _ _).alloc (Nat.le_refl _) _)
  clear h hml
  go_enter Try.func10, Try.ntmps10
  go_wp2_with fail
  refine (szt2_any (lo := 0) dv dl left _ (H.out.fd.below HB.out) h0 (by omega) HML.out.bd).mono ?_
  rintro ee w' ⟨r0, rfl, rfl, hpost⟩
  rcases hpost with rfl | ⟨hp0, hr0⟩
  · go_wp2
    go_ret
    exact ⟨_, rfl, HB.out, Or.inl rfl⟩
  have HR0 := Lib.hid hr0
  have hq0 : r0 ≤ left := by omega
  clear hr0
  go_wp2_with fail
  refine (szt4_any (lo := 0) av al r0 _ (H.out.fa.below HB.out) hp0 (by omega) HML.out.ba).mono ?_
  rintro ee w' ⟨r1, rfl, rfl, hpost⟩
  rcases hpost with rfl | ⟨hp1, hr1⟩
  · go_wp2
    go_ret
    exact ⟨_, rfl, HB.out, Or.inl rfl⟩
  have HR1 := Lib.hid hr1
  have hq1 : r1 ≤ r0 := by omega
  clear hr1
  go_wp2_with fail
  refine (szt5_any (lo := 0) vv vl r1 _ (H.out.fv.below HB.out) hp1 (by omega) HML.out.bv).mono ?_
  rintro ee w' ⟨r2, rfl, rfl, hpost⟩
  rcases hpost with rfl | ⟨hp2, hr2⟩
  · go_wp2
    go_ret
    exact ⟨_, rfl, HB.out, Or.inl rfl⟩
  have HR2 := Lib.hid hr2
  have hq2 : r2 ≤ r1 := by omega
  clear hr2
  have HT : Hid (tot2 dl + tot4 al + tot5 vl ≤ 1048576) := Lib.hid (by have e0 := HR0.out; have e1 := HR1.out; have e2 := HR2.out; omega)
  go_wp2
  go_ret
  exact ⟨_, rfl, HB.out, Or.inr ⟨hp2, by omega, ⟨⟨bd2_tot (by have := HT.out; omega), bd4_tot (by have := HT.out; omega), bd5_tot (by have := HT.out; omega)⟩, HT.out⟩⟩⟩
structure DcT (lo hi : Nat) (w : World) (dv av vv : Value) (dl : List (List Int)) (al : List (List (List (List Int)))) (vl : List (List (List (List Int)))) : Prop where
  fd : T2 lo hi w dv dl
  fa : T4 lo hi w av al
  fv : T5 lo hi w vv vl
theorem DcW.t {lo hi : Nat} {w : World} {dv av vv : Value} {dl : List (List Int)} {al : List (List (List (List Int)))} {vl : List (List (List (List Int)))} (h : DcW lo hi w dv av vv dl al vl) : DcT lo hi w dv av vv dl al vl := ⟨h.fd.t2, h.fa.t4, h.fv.t5⟩

set_option maxHeartbeats 1600000 in
theorem markDoublecK_any {lo hi : Nat} (kk : Int) (p : Int) (dv av vv : Value) (dl : List (List Int)) (al : List (List (List (List Int)))) (vl : List (List (List (List Int)))) (w : World) (h : DcW lo hi w dv av vv dl al vl) (hh : hi ≤ w.heap.size) (hm : DcS 1048576 dl al vl) (hk0 : 0 ≤ kk) (hk1 : kk ≤ 2305843009213693952) :
    Calls Try.prog 17 #[.agg #[.int .i64 p, dv, av, vv], .int .i64 kk] w (MarkC lo hi kk w) := by
  have hcn : cnt2 dl + cnt4 al + cnt5 vl ≤ 1048576 := by have := hm.tot; have ed := cnt2_le dl; have ea := cnt4_le al; have ev := cnt5_le vl; omega
  have HM := Lib.hid hm.b
  have hb0 : Below w.heap.size w (w.alloc (.cells #[.int .i64 p, dv, av, vv] 28)) := (Below.refl _ _).alloc (Nat.le_refl _) _
  have HC := Lib.hid (h.same (Same.of_below hb0 hh)).t
  have HB0 := Lib.hid hb0
  have hmld : dl.length ≤ 1048576 := hm.b.bd.1
  have hmla : al.length ≤ 1048576 := hm.b.ba.1
  have hmlv : vl.length ≤ 1048576 := hm.b.bv.1
  clear h hm hb0
  go_enter Try.func17, Try.ntmps17
  go_wp2_with fail
  refine (mark2t_any dv dl kk _ HC.out.fd HM.out.bd (by omega) (by omega)).mono ?_
  rintro ee w1 ⟨r0, rfl, hs00, hs01, ho, ht⟩
  have c02 : w1.cell? ⟨w.heap.size, 2, none⟩ = some av := (ho.cell (Or.inr hh)).trans (by simp)
  have c03 : w1.cell? ⟨w.heap.size, 3, none⟩ = some vv := (ho.cell (Or.inr hh)).trans (by simp)
  have HO0 := Lib.hid (And.intro ho ht)
  clear ho ht
  go_wp2_with fail
  refine (mark4t_any av al r0 _ (HC.out.fa.tame HO0.out.2) HM.out.ba (by omega) (by omega)).mono ?_
  rintro ee w2 ⟨r1, rfl, hs10, hs11, ho, ht⟩
  have c13 : w2.cell? ⟨w.heap.size, 3, none⟩ = some vv := (ho.cell (Or.inr hh)).trans c03
  clear c02 c03
  have HO1 := Lib.hid (And.intro (HO0.out.1.trans ho) (HO0.out.2.trans ht))
  clear ho ht
  go_wp2_with fail
  refine (mark5t_any vv vl r1 _ (HC.out.fv.tame HO1.out.2) HM.out.bv (by omega) (by omega)).mono ?_
  rintro ee w3 ⟨r2, rfl, hs20, hs21, ho, ht⟩
  clear c13
  have HO2 := Lib.hid (And.intro (HO1.out.1.trans ho) (HO1.out.2.trans ht))
  clear ho ht
  go_wp2
  go_ret
  exact ⟨r2, _, rfl, by omega, by omega, HB0.out, HO2.out.1, HO2.out.2⟩
end Go.Proofs.Ytlopenephgabhaa


namespace Go.Proofs.Ytlopenephgabhaa
open Go.RowKit

def tzO (p : Int) (ds : List (List Int)) (ac dn : List (List (List (List Int)))) : DdO := (p, flG ds (cdI ds), flG ds (tbl dn), flG ds (tbl ac))
noncomputable def tzCode (p : Int) (ds : List (List Int)) (ac dn : List (List (List (List Int)))) : Int := by
  classical exact if IsDb p ds ac dn then 0 else 1
section
variable {p : Int} {ds : List (List Int)} {ac dn : List (List (List (List Int)))}
theorem tzCode_1 (h : ¬ IsDb p ds ac dn) : tzCode p ds ac dn = 1 := by unfold tzCode; exact if_neg h
theorem tzCode_0 (h : IsDb p ds ac dn) : tzCode p ds ac dn = 0 := by unfold tzCode; exact if_pos h
theorem tzCode_zero (h : tzCode p ds ac dn = 0) : IsDb p ds ac dn := by
  by_cases hc : IsDb p ds ac dn
  · exact hc
  · rw [tzCode_1 hc] at h; cases h
theorem tz_l1 : (tzO p ds ac dn).2.1.length = (ds.getD 0 []).length := flG_len
theorem tz_l2 : (tzO p ds ac dn).2.2.1.length = (ds.getD 0 []).length := flG_len
theorem tz_l3 : (tzO p ds ac dn).2.2.2.length = (ds.getD 0 []).length := flG_len
theorem dcl_le4 (hok : DclOk ds) (i j : Int) : dcl ds i j ≤ 4 := by
  unfold dcl
  split
  · omega
  · by_cases hi : i.toNat < ds.length
    · by_cases hj : j.toNat < (ds.getD i.toNat []).length
      · rw [getD_of_lt _ hj]
        exact ((hok.col _ (by rw [getD_of_lt _ hi]; exact List.getElem_mem hi)).2 _ (List.getElem_mem hj)).2
      · rw [List.getD_eq_getElem?_getD (l := ds.getD i.toNat []), List.getElem?_eq_none (by omega)]
        simp
    · have e : ds.getD i.toNat [] = [] := by rw [List.getD_eq_getElem?_getD, List.getElem?_eq_none (by omega)]; rfl
      rw [e]
      simp
theorem tab_bdf {c r : Int} {t : List (List Int)} (h : TabOk p c r t) (hc : c ≤ 4) (hr : r ≤ 4) : t.length ≤ 1024 ∧ ∀ x ∈ t, x.length ≤ 1048576 :=
  ⟨by have := h.1; omega, fun x hx => by have := (h.2 x hx).1; omega⟩
theorem db_bdf (h : IsDb p ds ac dn) : BdF ds ac dn := by
  have hh : ∀ i, i < ds.length → (ds.getD i []).length ≤ 100 := fun i hi => by
    have := cl_height h.cel hi
    have h2 := h.cel.h1
    show (clD ds i).length ≤ 100
    omega
  refine ⟨fun x hx => ?_, fun y hy => ?_, fun y hy => ?_⟩
  · obtain ⟨i, hi, rfl⟩ := List.getElem_of_mem hx
    have := hh i hi
    rwa [getD_of_lt _ hi] at this
  · obtain ⟨i, hi, rfl⟩ := List.getElem_of_mem hy
    have hi2 : i < ds.length := by rw [← h.tbs.la]; exact hi
    have e := h.tbs.ca i hi2
    rw [getD_of_lt _ hi] at e
    refine ⟨by have := hh i hi2; omega, fun t ht => ?_⟩
    obtain ⟨j, hj, rfl⟩ := List.getElem_of_mem ht
    have hm : (i, j) ∈ cellsTo ds ds.length := mem_cells.2 ⟨hi2, by show j < (ds.getD i []).length; omega⟩
    have et : (ac[i])[j] = tbl ac (i, j) := by unfold tbl; dsimp only; rw [getD_of_lt _ hi, getD_of_lt _ hj]
    rw [et]
    exact tab_bdf (h.tbs.tab (i, j) hm).1 (dcl_le4 h.cel _ _) (dcl_le4 h.cel _ _)
  · obtain ⟨i, hi, rfl⟩ := List.getElem_of_mem hy
    have hi2 : i < ds.length := by rw [← h.tbs.ld]; exact hi
    have e := h.tbs.cd i hi2
    rw [getD_of_lt _ hi] at e
    refine ⟨by have := hh i hi2; omega, fun t ht => ?_⟩
    obtain ⟨j, hj, rfl⟩ := List.getElem_of_mem ht
    have hm : (i, j) ∈ cellsTo ds ds.length := mem_cells.2 ⟨hi2, by show j < (ds.getD i []).length; omega⟩
    have et : (dn[i])[j] = tbl dn (i, j) := by unfold tbl; dsimp only; rw [getD_of_lt _ hi, getD_of_lt _ hj]
    rw [et]
    exact tab_bdf (h.tbs.tab (i, j) hm).2 (dcl_le4 h.cel _ _) (dcl_le4 h.cel _ _)
theorem bdf_bd (h : BdF ds ac dn) (h1 : ds.length ≤ 1048576) (h2 : ac.length ≤ 1048576) (h3 : dn.length ≤ 1048576) : DdB 1048576 ds ac dn :=
  ⟨⟨h1, fun x hx => by have := h.1 x hx; show x.length ≤ 1048576; omega⟩, ⟨h2, fun y hy => ⟨by have := (h.2.1 y hy).1; omega, fun t ht => ⟨by have := ((h.2.1 y hy).2 t ht).1; omega, fun x hx => ((h.2.1 y hy).2 t ht).2 x hx⟩⟩⟩,
    ⟨h3, fun y hy => ⟨by have := (h.2.2 y hy).1; omega, fun t ht => ⟨by have := ((h.2.2 y hy).2 t ht).1; omega, fun x hx => ((h.2.2 y hy).2 t ht).2 x hx⟩⟩⟩⟩
theorem tz_bd (h : tzCode p ds ac dn = 0) : DdBo (tzO p ds ac dn) := by
  have h0 := tzCode_zero h
  have h1 := h0.cel.h1
  exact bdf_bd (db_bdf (fl_db h0)) (by rw [tz_l1]; omega) (by rw [tz_l2]; omega) (by rw [tz_l3]; omega)
theorem keep_setRow {W WF : World} {g lo : Nat} {c : Array Value} (h : WF = W.setRow g c) (hg : g < lo) : Keep lo W WF := by
  subst h
  refine ⟨by simp, fun b o h1 h2 => ?_⟩
  have hb : (W.setRow g c).heap[b]? = W.heap[b]? := setRow_other _ _ _ _ (by omega)
  exact World.cell?_of_block (w := W) (a := ⟨b, o, none⟩) hb
end
set_option maxHeartbeats 3200000 in
set_option maxRecDepth 100000 in
theorem transposeDouble_any (p : Int) (dv av vv : Value) (ds : List (List Int)) (ac dn : List (List (List (List Int)))) (w : World) (h : Dx 0 w dv av vv ds ac dn) (hbd : Bd2 1048576 ds) (hba : Bd4 1048576 ac) (hbv : Bd4 1048576 dn) :
    Calls Try.prog 16 #[.agg #[.int .i64 p, dv, av, vv]] w (AnsW RwDd (fun o => o = tzO p ds ac dn) (0, [], [], []) (tzCode p ds ac dn) w) := by
  have hres : Try.f16.results = #[.cell 2 28, .tmp 3] := by kernel_rfl
  have HRES := Lib.hid hres
  obtain ⟨w0, hw0⟩ : ∃ w0, w0 = (w.alloc (.cells #[.int .i64 p, dv, av, vv] 28)).alloc (.cells #[.int .i64 0, .slice none 0 0, .slice none 0 0, .slice none 0 0] 28) := ⟨_, rfl⟩
  have HX0 : Hid (DBx w w0 w.heap.size p dv av vv ds ac dn) := Lib.hid (by rw [hw0]; exact (DBx.start 28 h).next (below_alloc1 _ _))
  have HS0 : Hid (w.heap.size + 2 ≤ w0.heap.size) := Lib.hid (by rw [hw0]; simp)
  have HR : Hid (∀ W, Below w0.heap.size w0 W → Rz W (w.heap.size + 1) 28 Zd4) := Lib.hid (fun W hb => by
    have h0 : Rz w0 (w.heap.size + 1) 28 Zd4 := by
      rw [hw0]
      have := Rz.new (w.alloc (.cells #[.int .i64 p, dv, av, vv] 28)) 28 Zd4
      have h1 : (w.alloc (.cells #[.int .i64 p, dv, av, vv] 28)).heap.size = w.heap.size + 1 := by simp
      rw [h1] at this
      exact this
    exact h0.next hb)
  have HNX : Hid (∀ W, Below w0.heap.size w0 W → DBx w W w.heap.size p dv av vv ds ac dn) := Lib.hid (fun W hb => HX0.out.next hb)
  have HW0 : Hid (∀ W, Below w0.heap.size w0 W → Below w.heap.size w W) := Lib.hid (fun W hb => (HNX.out W hb).below)
  have HID := Lib.hid (isDouble_any p dv av vv ds ac dn w0 HX0.out.dx hbd hba hbv)
  have c0 := HX0.out.c0
  have c1 := HX0.out.c1
  have c2 := HX0.out.c2
  have c3 := HX0.out.c3
  obtain ⟨cc, hcc⟩ : ∃ cc, cc = tzCode p ds ac dn := ⟨_, rfl⟩
  have HCC := Lib.hid hcc
  rw [← hcc]
  clear hres h hbd hba hbv hcc
  go_enter Try.func16, Try.ntmps16
  go_upto_region 1 with fail
  rw [← hw0]
  clear hw0
  go_wp2_with fail
  refine HID.out.mono ?_
  rintro e w1 ⟨bb, rfl, hb1, hbb⟩
  have HB1 := Lib.hid hb1
  have HBB := Lib.hid hbb
  clear hb1 hbb c0 c1 c2 c3 HID HX0
  cases bb with
  | false =>
    have hno : ¬ IsDb p ds ac dn := fun h => by have := HBB.out.2 h; cases this
    obtain rfl : cc = 1 := HCC.out.trans (tzCode_1 hno)
    clear hno
    have HZZ : Hid (w1.heap[w.heap.size + 1]? = some (.cells Zd4 28 (0, 0))) := Lib.hid (HR.out w1 HB1.out)
    have HWR : Hid (Below w.heap.size w (w1.setRow (w.heap.size + 1) #[.int .i64 0, .slice none 0 0, .slice none 0 0, .slice none 0 0])) := Lib.hid (below_setRow (HW0.out w1 HB1.out) (Nat.le_succ _) _)
    obtain ⟨WF, hWF⟩ : ∃ WF, WF = w1.setRow (w.heap.size + 1) #[.int .i64 0, .slice none 0 0, .slice none 0 0, .slice none 0 0] := ⟨_, rfl⟩
    have hRz : Rz WF (w.heap.size + 1) 28 #[.int .i64 0, .slice none 0 0, .slice none 0 0, .slice none 0 0] := by rw [hWF]; exact Rz.set HZZ.out _
    have f0 := hRz.cell (i := 0) (v := _) rfl
    have f1 := hRz.cell (i := 1) (v := _) rfl
    have f2 := hRz.cell (i := 2) (v := _) rfl
    have f3 := hRz.cell (i := 3) (v := _) rfl
    rw [← hWF] at HWR
    have HWF := Lib.hid hWF
    clear hRz hWF
    go_wp2_with (with_reducible refine wpList_store_row rfl 28 (.tmp 2) (.tmp 7) rfl (w.heap.size + 1) #[.int .i64 0, .slice none 0 0, .slice none 0 0, .slice none 0 0] rfl rfl 28 Zd4 HZZ.out (infoDb _ _ _ _) rfl (by kernel_rfl) ?_)
    rw [← HWF.out]
    go_wp2
    refine bodyPost_ret (v := .tuple #[.agg #[.int .i64 0, .slice none 0 0, .slice none 0 0, .slice none 0 0], .int .i64 1]) ?_ rfl ?_
    · simp only [results, HRES.out]
      go_simp
    · exact ⟨_, (0, [], [], []), 1, rfl, RwDd.nil _ _ _, HWR.out, RsOut.of_no (by decide)⟩
  | true =>
    have HDB : Hid (IsDb p ds ac dn) := Lib.hid (HBB.out.1 rfl)
    obtain rfl : cc = 0 := HCC.out.trans (tzCode_0 HDB.out)
    have hX := HNX.out _ HB1.out
    have c0 := hX.c0
    have c1 := hX.c1
    have c2 := hX.c2
    have c3 := hX.c3
    have HT := Lib.hid (transposedDouble_any p dv av vv ds ac dn w1 hX.dx HDB.out)
    clear hX HBB
    go_wp2_with fail
    refine HT.out.mono ?_
    rintro e w2 ⟨base, D, A, V, n, L, dvs, avs, vvs, rfl, hn, hbase, hfl, hb2⟩
    have hs1 : w0.heap.size ≤ w1.heap.size := HB1.out.size
    have hs0 := HS0.out
    have HB2 := Lib.hid (HB1.out.trans (hb2.mono hs1))
    have HRC := Lib.hid (hfl.rc (by rw [hn]; have := HDB.out.cel.h1; omega) (by rw [hn, colF_flG HDB.out.cel, colF_flG HDB.out.cel, colF_flG HDB.out.cel]; exact db_bdf (fl_db HDB.out)))
    have HFE : Hid (n = (ds.getD 0 []).length) := Lib.hid hn
    clear hn hfl hb2 c0 c1 c2 c3 HT
    have HZZ : Hid (w2.heap[w.heap.size + 1]? = some (.cells Zd4 28 (0, 0))) := Lib.hid (HR.out w2 HB2.out)
    have HWR : Hid (Below w.heap.size w (w2.setRow (w.heap.size + 1) #[.int .i64 p, .slice (some ⟨D, 0, none⟩) n n, .slice (some ⟨A, 0, none⟩) n n, .slice (some ⟨V, 0, none⟩) n n])) := Lib.hid (below_setRow (HW0.out w2 HB2.out) (Nat.le_succ _) _)
    obtain ⟨WF, hWF⟩ : ∃ WF, WF = w2.setRow (w.heap.size + 1) #[.int .i64 p, .slice (some ⟨D, 0, none⟩) n n, .slice (some ⟨A, 0, none⟩) n n, .slice (some ⟨V, 0, none⟩) n n] := ⟨_, rfl⟩
    have hRz : Rz WF (w.heap.size + 1) 28 #[.int .i64 p, .slice (some ⟨D, 0, none⟩) n n, .slice (some ⟨A, 0, none⟩) n n, .slice (some ⟨V, 0, none⟩) n n] := by rw [hWF]; exact Rz.set HZZ.out _
    have f0 := hRz.cell (i := 0) (v := _) rfl
    have f1 := hRz.cell (i := 1) (v := _) rfl
    have f2 := hRz.cell (i := 2) (v := _) rfl
    have f3 := hRz.cell (i := 3) (v := _) rfl
    rw [← hWF] at HWR
    have HWF := Lib.hid hWF
    clear hRz hWF
    go_wp2_with (with_reducible refine wpList_store_row rfl 28 (.tmp 2) (.tmp 9) rfl (w.heap.size + 1) #[.int .i64 p, .slice (some ⟨D, 0, none⟩) n n, .slice (some ⟨A, 0, none⟩) n n, .slice (some ⟨V, 0, none⟩) n n] rfl rfl 28 Zd4 HZZ.out (infoDb _ _ _ _) rfl (by kernel_rfl) ?_)
    rw [← HWF.out]
    go_wp2
    refine bodyPost_ret (v := .tuple #[.agg #[.int .i64 p, .slice (some ⟨D, 0, none⟩) n n, .slice (some ⟨A, 0, none⟩) n n, .slice (some ⟨V, 0, none⟩) n n], .int .i64 0]) ?_ rfl ?_
    · simp only [results, HRES.out]
      go_simp
    · have hrc := HRC.out
      rw [HFE.out] at hrc ⊢
      rw [colF_flG HDB.out.cel, colF_flG HDB.out.cel, colF_flG HDB.out.cel] at hrc
      refine ⟨_, tzO p ds ac dn, 0, rfl, ⟨some ⟨D, 0, none⟩, (ds.getD 0 []).length, some ⟨A, 0, none⟩, (ds.getD 0 []).length, some ⟨V, 0, none⟩, (ds.getD 0 []).length, by rw [tz_l1, tz_l2, tz_l3]; rfl, ?_⟩, HWR.out, RsOut.of_yes rfl rfl⟩
      rw [tz_l1, tz_l2, tz_l3]
      have hss : Same base w2.heap.size w2 WF := fun b h1 h2 => by rw [HWF.out]; exact setRow_other _ _ _ _ (by omega)
      have hsz : w2.heap.size ≤ WF.heap.size := by rw [HWF.out]; simp
      exact (hrc.same hss).wider (by omega) hsz
set_option maxHeartbeats 3200000 in
set_option maxRecDepth 100000 in
theorem spTransposeDouble_any (p : Int) (dv av vv : Value) (ds : List (List Int)) (ac dn : List (List (List (List Int)))) (w : World) (h : Dx 0 w dv av vv ds ac dn) (hbd : Bd2 1048576 ds) (hba : Bd4 1048576 ac) (hbv : Bd4 1048576 dn) :
    Calls Try.prog 15 #[.agg #[.int .i64 p, dv, av, vv]] w (AnsS RsDd (fun o => o = tzO p ds ac dn) (0, [], [], []) (tzCode p ds ac dn) w) := by
  have hres : Try.f15.results = #[.cell 2 28, .tmp 3] := by kernel_rfl
  have HRES := Lib.hid hres
  obtain ⟨w0, hw0⟩ : ∃ w0, w0 = (w.alloc (.cells #[.int .i64 p, dv, av, vv] 28)).alloc (.cells #[.int .i64 0, .slice none 0 0, .slice none 0 0, .slice none 0 0] 28) := ⟨_, rfl⟩
  have HX0 : Hid (DBx w w0 w.heap.size p dv av vv ds ac dn) := Lib.hid (by rw [hw0]; exact (DBx.start 28 h).next (below_alloc1 _ _))
  have HS0 : Hid (w.heap.size + 2 ≤ w0.heap.size) := Lib.hid (by rw [hw0]; simp)
  have HR : Hid (∀ W, Below w0.heap.size w0 W → Rz W (w.heap.size + 1) 28 Zd4) := Lib.hid (fun W hb => by
    have h0 : Rz w0 (w.heap.size + 1) 28 Zd4 := by
      rw [hw0]
      have := Rz.new (w.alloc (.cells #[.int .i64 p, dv, av, vv] 28)) 28 Zd4
      have h1 : (w.alloc (.cells #[.int .i64 p, dv, av, vv] 28)).heap.size = w.heap.size + 1 := by simp
      rw [h1] at this
      exact this
    exact h0.next hb)
  have HNX : Hid (∀ W, Below w0.heap.size w0 W → DBx w W w.heap.size p dv av vv ds ac dn) := Lib.hid (fun W hb => HX0.out.next hb)
  have HW0 : Hid (∀ W, Below w0.heap.size w0 W → Below w.heap.size w W) := Lib.hid (fun W hb => (HNX.out W hb).below)
  have HID := Lib.hid (l03Is_any p dv av vv ds ac dn w0 HX0.out.dx hbd hba hbv)
  have c0 := HX0.out.c0
  have c1 := HX0.out.c1
  have c2 := HX0.out.c2
  have c3 := HX0.out.c3
  obtain ⟨cc, hcc⟩ : ∃ cc, cc = tzCode p ds ac dn := ⟨_, rfl⟩
  have HCC := Lib.hid hcc
  rw [← hcc]
  clear hres h hbd hba hbv hcc
  go_enter Try.func15, Try.ntmps15
  go_upto_region 1 with fail
  rw [← hw0]
  clear hw0
  go_wp2_with fail
  refine HID.out.mono ?_
  rintro e w1 ⟨bb, rfl, hb1, hbb⟩
  have HB1 := Lib.hid hb1
  have HBB := Lib.hid hbb
  clear hb1 hbb c0 c1 c2 c3 HID HX0
  cases bb with
  | false =>
    have hno : ¬ IsDb p ds ac dn := fun h => by have := HBB.out.2 h; cases this
    obtain rfl : cc = 1 := HCC.out.trans (tzCode_1 hno)
    clear hno
    have HZZ : Hid (w1.heap[w.heap.size + 1]? = some (.cells Zd4 28 (0, 0))) := Lib.hid (HR.out w1 HB1.out)
    have HWR : Hid (Below w.heap.size w (w1.setRow (w.heap.size + 1) #[.int .i64 0, .slice none 0 0, .slice none 0 0, .slice none 0 0])) := Lib.hid (below_setRow (HW0.out w1 HB1.out) (Nat.le_succ _) _)
    obtain ⟨WF, hWF⟩ : ∃ WF, WF = w1.setRow (w.heap.size + 1) #[.int .i64 0, .slice none 0 0, .slice none 0 0, .slice none 0 0] := ⟨_, rfl⟩
    have hRz : Rz WF (w.heap.size + 1) 28 #[.int .i64 0, .slice none 0 0, .slice none 0 0, .slice none 0 0] := by rw [hWF]; exact Rz.set HZZ.out _
    have f0 := hRz.cell (i := 0) (v := _) rfl
    have f1 := hRz.cell (i := 1) (v := _) rfl
    have f2 := hRz.cell (i := 2) (v := _) rfl
    have f3 := hRz.cell (i := 3) (v := _) rfl
    rw [← hWF] at HWR
    have HWF := Lib.hid hWF
    clear hRz hWF
    go_wp2_with (with_reducible refine wpList_store_row rfl 28 (.tmp 2) (.tmp 7) rfl (w.heap.size + 1) #[.int .i64 0, .slice none 0 0, .slice none 0 0, .slice none 0 0] rfl rfl 28 Zd4 HZZ.out (infoDb _ _ _ _) rfl (by kernel_rfl) ?_)
    rw [← HWF.out]
    go_wp2
    refine bodyPost_ret (v := .tuple #[.agg #[.int .i64 0, .slice none 0 0, .slice none 0 0, .slice none 0 0], .int .i64 1]) ?_ rfl ?_
    · simp only [results, HRES.out]
      go_simp
    · exact ⟨_, (0, [], [], []), 1, rfl, RsDd.nil _, HWR.out, RsOut.of_no (by decide)⟩
  | true =>
    have HDB : Hid (IsDb p ds ac dn) := Lib.hid (HBB.out.1 rfl)
    obtain rfl : cc = 0 := HCC.out.trans (tzCode_0 HDB.out)
    have hX := HNX.out _ HB1.out
    have c0 := hX.c0
    have c1 := hX.c1
    have c2 := hX.c2
    have c3 := hX.c3
    have HT := Lib.hid (l03Flip_any p dv av vv ds ac dn w1 hX.dx HDB.out)
    clear hX HBB
    go_wp2_with fail
    refine HT.out.mono ?_
    rintro e w2 ⟨vD, vA, vV, rfl, hdx, hb2⟩
    have hs1 : w0.heap.size ≤ w1.heap.size := HB1.out.size
    have hs0 := HS0.out
    have HB2 := Lib.hid (HB1.out.trans (hb2.mono hs1))
    have HDX : Hid (Dx w1.heap.size w2 vD vA vV (flG ds (cdI ds)) (flG ds (tbl dn)) (flG ds (tbl ac))) := Lib.hid hdx
    obtain ⟨xd, yd, rfl⟩ := Sl.shape HDX.out.dims
    obtain ⟨xa, ya, rfl⟩ := Sl.shape HDX.out.across
    obtain ⟨xv, yv, rfl⟩ := Sl.shape HDX.out.down
    rw [flG_len, flG_len, flG_len] at HDX ⊢
    obtain ⟨n, hn⟩ : ∃ n, n = (ds.getD 0 []).length := ⟨_, rfl⟩
    rw [← hn] at HDX ⊢
    have HFE : Hid (n = (ds.getD 0 []).length) := Lib.hid hn
    clear hn hdx hb2 c0 c1 c2 c3 HT
    have HZZ : Hid (w2.heap[w.heap.size + 1]? = some (.cells Zd4 28 (0, 0))) := Lib.hid (HR.out w2 HB2.out)
    have HWR : Hid (Below w.heap.size w (w2.setRow (w.heap.size + 1) #[.int .i64 p, .slice xd n yd, .slice xa n ya, .slice xv n yv])) := Lib.hid (below_setRow (HW0.out w2 HB2.out) (Nat.le_succ _) _)
    obtain ⟨WF, hWF⟩ : ∃ WF, WF = w2.setRow (w.heap.size + 1) #[.int .i64 p, .slice xd n yd, .slice xa n ya, .slice xv n yv] := ⟨_, rfl⟩
    have hRz : Rz WF (w.heap.size + 1) 28 #[.int .i64 p, .slice xd n yd, .slice xa n ya, .slice xv n yv] := by rw [hWF]; exact Rz.set HZZ.out _
    have f0 := hRz.cell (i := 0) (v := _) rfl
    have f1 := hRz.cell (i := 1) (v := _) rfl
    have f2 := hRz.cell (i := 2) (v := _) rfl
    have f3 := hRz.cell (i := 3) (v := _) rfl
    rw [← hWF] at HWR
    have HWF := Lib.hid hWF
    clear hRz hWF
    go_wp2_with (with_reducible refine wpList_store_row rfl 28 (.tmp 2) (.tmp 9) rfl (w.heap.size + 1) #[.int .i64 p, .slice xd n yd, .slice xa n ya, .slice xv n yv] rfl rfl 28 Zd4 HZZ.out (infoDb _ _ _ _) rfl (by kernel_rfl) ?_)
    rw [← HWF.out]
    go_wp2
    refine bodyPost_ret (v := .tuple #[.agg #[.int .i64 p, .slice xd n yd, .slice xa n ya, .slice xv n yv], .int .i64 0]) ?_ rfl ?_
    · simp only [results, HRES.out]
      go_simp
    · have hrc := HDX.out
      rw [HFE.out] at hrc ⊢
      refine ⟨_, tzO p ds ac dn, 0, rfl, ⟨xd, yd, xa, ya, xv, yv, by rw [tz_l1, tz_l2, tz_l3]; rfl, ?_⟩, HWR.out, RsOut.of_yes rfl rfl⟩
      rw [tz_l1, tz_l2, tz_l3]
      have hk : Keep w1.heap.size w2 WF := keep_setRow HWF.out (by omega)
      exact ⟨(stable2 _ _ _ _ _ hk hrc.dims).lower (Nat.zero_le _), (stable4 _ _ _ _ _ hk hrc.across).lower (Nat.zero_le _), (stable4 _ _ _ _ _ hk hrc.down).lower (Nat.zero_le _)⟩
theorem transposeDoubleK_any (p : Int) (dv av vv : Value) (ds : List (List Int)) (ac dn : List (List (List (List Int)))) (w : World) (h : Dc 0 w dv av vv ds ac dn) (hb : DcB 1048576 ds ac dn) :
    Calls Try.prog 16 #[.agg #[.int .i64 p, dv, av, vv]] w (AnsW RwDd (fun o => o = tzO p ds ac dn) (0, [], [], []) (tzCode p ds ac dn) w) := transposeDouble_any p dv av vv ds ac dn w ⟨h.fd, h.fa, h.fv.l4⟩ hb.bd hb.ba hb.bv
theorem spTransposeDoubleK_any (p : Int) (dv av vv : Value) (ds : List (List Int)) (ac dn : List (List (List (List Int)))) (w : World) (h : Dc 0 w dv av vv ds ac dn) (hb : DcB 1048576 ds ac dn) :
    Calls Try.prog 15 #[.agg #[.int .i64 p, dv, av, vv]] w (AnsS RsDd (fun o => o = tzO p ds ac dn) (0, [], [], []) (tzCode p ds ac dn) w) := spTransposeDouble_any p dv av vv ds ac dn w ⟨h.fd, h.fa, h.fv.l4⟩ hb.bd hb.ba hb.bv
end Go.Proofs.Ytlopenephgabhaa


namespace Go.Proofs.Ytlopenephgabhaa
open Go.RowKit

set_option maxHeartbeats 6400000 in
set_option maxRecDepth 100000 in
theorem lawTzl_any (p0 : Int) (dv0 av0 vv0 : Value) (dl0 : List (List Int)) (al0 : List (List (List (List Int)))) (vl0 : List (List (List (List Int)))) (w : World) (h0 : Dc 0 w dv0 av0 vv0 dl0 al0 vl0) (hml0 : DcB 9223372036854775807 dl0 al0 vl0) :
    Calls Try.prog 4 #[.agg #[.int .i64 p0, dv0, av0, vv0]] w (BR (.bool true) w) := by
  obtain ⟨W0, hW0⟩ : ∃ W0, W0 = (w.alloc (.cells #[.int .i64 p0, dv0, av0, vv0] 25)) := ⟨_, rfl⟩
  have HS0 : Hid (W0.heap.size = w.heap.size + 1) := Lib.hid (by rw [hW0]; simp)
  have HZ0 : Hid (Below w.heap.size w W0) := Lib.hid (by rw [hW0]; exact below_alloc1 _ _)
  have HK0 : Hid (BxDc w W0 w.heap.size p0 dv0 av0 vv0 dl0 al0 vl0) := Lib.hid (by rw [hW0]; exact BxDc.start _ h0)
  have HN0 : Hid (∀ W, Below (w.heap.size + 1) W0 W → BxDc w W w.heap.size p0 dv0 av0 vv0 dl0 al0 vl0) := Lib.hid (fun W hb => HK0.out.next (by rw [HS0.out]; exact hb))
  have HNW : Hid (∀ W, Below (w.heap.size + 1) W0 W → Below w.heap.size w W) := Lib.hid (fun W hb => HZ0.out.trans (hb.mono (by omega)))
  have HB : Hid (Below (w.heap.size + 1) W0 W0) := Lib.hid (Below.refl _ _)
  have hs0 : w.heap.size + 1 ≤ W0.heap.size := by have := HS0.out; omega
  have HML0 := Lib.hid hml0
  clear h0 hml0 HK0
  go_enter Try.func4, Try.ntmps4
  go_upto_region 1 with fail
  rw [← hW0]
  clear hW0
  have c00 := (HN0.out _ HB.out).c0
  have c01 := (HN0.out _ HB.out).c1
  have c02 := (HN0.out _ HB.out).c2
  have c03 := (HN0.out _ HB.out).c3
  go_wp2_with fail
  refine (sztDoublec_any p0 dv0 av0 vv0 dl0 al0 vl0 1048576 _ (HN0.out _ HB.out).cx (by omega) (by omega) HML0.out).mono ?_
  rintro e wz0 ⟨sz0, rfl, hb, hpost⟩
  have hsz0 : W0.heap.size ≤ wz0.heap.size := hb.size
  have HB' := Lib.hid (HB.out.trans (hb.mono (by omega)))
  clear c00 c01 c02 c03
  clear hb HB
  have HB := HB'
  clear HB'
  rcases hpost with rfl | ⟨hp00, hp01, hpm0⟩
  · go_wp2
    go_ret
    exact ⟨rfl, HNW.out _ HB.out⟩
  have HMS0 := Lib.hid hpm0
  clear hpm0
  have c00 := (HN0.out _ HB.out).c0
  have c01 := (HN0.out _ HB.out).c1
  have c02 := (HN0.out _ HB.out).c2
  have c03 := (HN0.out _ HB.out).c3
  have HQd : Hid (Below wz0.heap.size wz0 wz0) := Lib.hid (Below.refl _ _)
  go_wp2_with fail
  refine (toDoublec_any p0 dv0 av0 vv0 dl0 al0 vl0 _ (HN0.out _ HB.out).cx HMS0.out.b).mono ?_
  rintro e wS0 ⟨xdv0S, xav0S, xvv0S, rfl, hc, hb⟩
  have hsS0 : wz0.heap.size ≤ wS0.heap.size := hb.size
  have HBS0 := Lib.hid (HB.out.trans (hb.mono (by omega)))
  have HQ0 := Lib.hid (HQd.out.trans (hb.mono (by omega)))
  have HXS0 := Lib.hid hc.zero
  clear hb hc
  clear c00 c01 c02 c03
  go_wp2_with fail
  refine (spTransposeDoubleK_any p0 xdv0S xav0S xvv0S dl0 al0 vl0 _ (HXS0.out) HMS0.out.b).mono ?_
  rintro e wSr ⟨uS, oS, kS, rfl, hrS, hb, hoS⟩
  have hsSr : wS0.heap.size ≤ wSr.heap.size := hb.size
  have HQr := Lib.hid (HQ0.out.trans (hb.mono (by omega)))
  have HRS := Lib.hid hrS
  have HOS := Lib.hid hoS
  clear hb hrS hoS
  have hb := HQr.out
  clear HQd HQr HQ0 HXS0 HBS0
  have HB' := Lib.hid (HB.out.trans (hb.mono (by omega)))
  clear hb HB
  have HB := HB'
  clear HB'
  obtain ⟨pS, dsS, asS, vsS⟩ := oS
  obtain ⟨aSd, cSd, aSa, cSa, aSv, cSv, huS, hcS⟩ := HRS.out
  have huS : uS = .agg #[.int .i64 pS, .slice aSd dsS.length cSd, .slice aSa asS.length cSa, .slice aSv vsS.length cSv] := huS
  subst huS
  have HXS : Hid (Dd 0 wSr (.slice aSd dsS.length cSd) (.slice aSa asS.length cSa) (.slice aSv vsS.length cSv) dsS asS vsS) := Lib.hid hcS
  clear hcS HRS
  have HBD : Hid (DdBo (pS, dsS, asS, vsS)) := Lib.hid (HOS.out.all (Q := DdBo) ⟨⟨by simp, by simp⟩, ⟨by simp, by simp⟩, ⟨by simp, by simp⟩⟩ (fun h0 a ha => by rw [show a = _ from ha]; exact tz_bd h0))
  have HBE : Hid (DdB 1048576 dsS asS vsS) := Lib.hid HBD.out
  obtain ⟨wbS, hwb⟩ : ∃ wbS, wbS = wSr.alloc (.cells #[.int .i64 pS, .slice aSd dsS.length cSd, .slice aSa asS.length cSa, .slice aSv vsS.length cSv] 28) := ⟨_, rfl⟩
  have hb : Below wSr.heap.size wSr wbS := by rw [hwb]; exact below_alloc1 _ _
  have hsbS : wSr.heap.size + 1 = wbS.heap.size := by rw [hwb]; simp
  have hsBS : wSr.heap.size ≤ wbS.heap.size := by omega
  have HYS : Hid (BqDd wbS wSr.heap.size pS (.slice aSd dsS.length cSd) (.slice aSa asS.length cSa) (.slice aSv vsS.length cSv) dsS asS vsS) := Lib.hid (by rw [hwb]; exact (BxDd.start _ HXS.out).bq)
  have HB' := Lib.hid (HB.out.trans (hb.mono (by omega)))
  clear hb HB
  have HB := HB'
  clear HB'
  go_upto_region 6 with fail
  rw [← hwb]
  clear hwb
  clear HXS
  have HK : Hid (Below wbS.heap.size wbS wbS) := Lib.hid (Below.refl _ _)
  have c00 := (HN0.out _ HB.out).c0
  have c01 := (HN0.out _ HB.out).c1
  have c02 := (HN0.out _ HB.out).c2
  have c03 := (HN0.out _ HB.out).c3
  go_wp2_with fail
  refine (toDoublecw_any p0 dv0 av0 vv0 dl0 al0 vl0 _ (HN0.out _ HB.out).cx HMS0.out.b).mono ?_
  rintro e wc0 ⟨ydv0, yav0, yvv0, rfl, hc, hb⟩
  have hsc0 : wbS.heap.size ≤ wc0.heap.size := hb.size
  clear c00 c01 c02 c03
  have HB' := Lib.hid (HB.out.trans (hb.mono (by omega)))
  have HK' := Lib.hid (HK.out.trans (hb.mono (by omega)))
  clear hb HB HK
  have HB := HB'
  have HK := HK'
  clear HB' HK'
  have HC0 := Lib.hid hc
  obtain ⟨⟨ya0d, yc0d, rfl⟩, ⟨ya0a, yc0a, rfl⟩, ⟨ya0v, yc0v, rfl⟩⟩ := hc.cx.shapes
  clear hc
  obtain ⟨wb0, hwb⟩ : ∃ wb0, wb0 = wc0.alloc (.cells #[.int .i64 p0, .slice ya0d dl0.length yc0d, .slice ya0a al0.length yc0a, .slice ya0v vl0.length yc0v] 28) := ⟨_, rfl⟩
  have hb : Below wc0.heap.size wc0 wb0 := by rw [hwb]; exact below_alloc1 _ _
  have hsb0 : wc0.heap.size + 1 = wb0.heap.size := by rw [hwb]; simp
  have hsB0 : wc0.heap.size ≤ wb0.heap.size := by omega
  have HY0 : Hid (BqDc wb0 wc0.heap.size p0 (.slice ya0d dl0.length yc0d) (.slice ya0a al0.length yc0a) (.slice ya0v vl0.length yc0v) dl0 al0 vl0) := Lib.hid (by rw [hwb]; exact (BxDc.start _ HC0.out.cx.zero).bq)
  have HB' := Lib.hid (HB.out.trans (hb.mono (by omega)))
  have HK' := Lib.hid (HK.out.trans (hb.mono (by omega)))
  have HC0' := Lib.hid (HC0.out.same (Same.of_below hb (by omega)))
  clear hb HB HK HC0
  have HB := HB'
  have HK := HK'
  have HC0 := HC0'
  clear HB' HK' HC0'
  go_upto_region 7 with fail
  rw [← hwb]
  clear hwb
  have d00 := HY0.out.c0
  have d01 := HY0.out.c1
  have d02 := HY0.out.c2
  have d03 := HY0.out.c3
  go_wp2_with fail
  refine (transposeDoubleK_any p0 _ _ _ dl0 al0 vl0 _ (HC0.out.cx.zero) HMS0.out.b).mono ?_
  rintro e w7 ⟨u7, o7, k7, rfl, hw7, hb, hout7⟩
  obtain ⟨rfl, rfl⟩ := RsOut.unique (fun _ a b ha hb => ha.trans hb.symm) HOS.out hout7
  have hs7 : wb0.heap.size ≤ w7.heap.size := hb.size
  clear d00 d01 d02 d03
  have HB' := Lib.hid (HB.out.trans (hb.mono (by omega)))
  have HK' := Lib.hid (HK.out.trans (hb.mono (by omega)))
  have HC0' := Lib.hid (HC0.out.same (Same.of_below hb (by omega)))
  have HY0' := Lib.hid (HY0.out.next hb)
  clear hb HB HK HC0 HY0
  have HB := HB'
  have HK := HK'
  have HC0 := HC0'
  have HY0 := HY0'
  clear HB' HK' HC0' HY0'
  obtain ⟨aGd, cGd, aGa, cGa, aGv, cGv, hu7, hG⟩ := hw7
  have hu7 : u7 = .agg #[.int .i64 pS, .slice aGd dsS.length cGd, .slice aGa asS.length cGa, .slice aGv vsS.length cGv] := hu7
  subst hu7
  have HG : Hid (RcDd wb0.heap.size w7.heap.size w7 (.slice aGd dsS.length cGd) (.slice aGa asS.length cGa) (.slice aGv vsS.length cGv) dsS asS vsS) := Lib.hid hG
  clear hG hout7
  obtain ⟨wbG, hwb⟩ : ∃ wbG, wbG = w7.alloc (.cells #[.int .i64 pS, .slice aGd dsS.length cGd, .slice aGa asS.length cGa, .slice aGv vsS.length cGv] 28) := ⟨_, rfl⟩
  have hb : Below w7.heap.size w7 wbG := by rw [hwb]; exact below_alloc1 _ _
  have hsbG : w7.heap.size + 1 = wbG.heap.size := by rw [hwb]; simp
  have hsBG : w7.heap.size ≤ wbG.heap.size := by omega
  have HCG0 : Hid (BcDd wbG w7.heap.size pS (.slice aGd dsS.length cGd) (.slice aGa asS.length cGa) (.slice aGv vsS.length cGv)) := Lib.hid (by rw [hwb]; exact BcDd.start _ _ _ _ _ _)
  have HB' := Lib.hid (HB.out.trans (hb.mono (by omega)))
  have HK' := Lib.hid (HK.out.trans (hb.mono (by omega)))
  have HC0' := Lib.hid (HC0.out.same (Same.of_below hb (by omega)))
  have HY0' := Lib.hid (HY0.out.next hb)
  have HG' := Lib.hid (HG.out.same (Same.of_below hb (by omega)))
  clear hb HB HK HC0 HY0 HG
  have HB := HB'
  have HK := HK'
  have HC0 := HC0'
  have HY0 := HY0'
  have HG := HG'
  clear HB' HK' HC0' HY0' HG'
  have HCG := HCG0
  clear HCG0
  go_upto_region 8 with fail
  rw [← hwb]
  clear hwb
  have hcode : (kS != kS) = false := by simp
  have s0 := (HYS.out.next HK.out).c0
  have s1 := (HYS.out.next HK.out).c1
  have s2 := (HYS.out.next HK.out).c2
  have s3 := (HYS.out.next HK.out).c3
  have g0 := HCG.out.c0
  have g1 := HCG.out.c1
  have g2 := HCG.out.c2
  have g3 := HCG.out.c3
  go_wp2_with fail
  refine (eqDouble_true pS _ _ _ _ _ _ dsS asS vsS _ HG.out.cx (HYS.out.next HK.out).cx HBE.out).mono ?_
  rintro e we1 ⟨rfl, hb⟩
  have hse1 : wbG.heap.size ≤ we1.heap.size := hb.size
  clear s0 s1 s2 s3 g0 g1 g2 g3
  have HB' := Lib.hid (HB.out.trans (hb.mono (by omega)))
  have HK' := Lib.hid (HK.out.trans (hb.mono (by omega)))
  have HC0' := Lib.hid (HC0.out.same (Same.of_below hb (by omega)))
  have HY0' := Lib.hid (HY0.out.next hb)
  have HG' := Lib.hid (HG.out.same (Same.of_below hb (by omega)))
  have HCG' := Lib.hid (HCG.out.next hb)
  clear hb HB HK HC0 HY0 HG HCG
  have HB := HB'
  have HK := HK'
  have HC0 := HC0'
  have HY0 := HY0'
  have HG := HG'
  have HCG := HCG'
  clear HB' HK' HC0' HY0' HG' HCG'
  have c00 := (HN0.out _ HB.out).c0
  have c01 := (HN0.out _ HB.out).c1
  have c02 := (HN0.out _ HB.out).c2
  have c03 := (HN0.out _ HB.out).c3
  have d00 := HY0.out.c0
  have d01 := HY0.out.c1
  have d02 := HY0.out.c2
  have d03 := HY0.out.c3
  have HCX := Lib.hid ((HN0.out _ HB.out).cx.below (Below.refl _ _).drew)
  have HCC := Lib.hid (HY0.out.cx.below (Below.refl _ _).drew)
  go_wp2_with fail
  go_region_held3 (fun w' => w'.cell? ⟨w.heap.size, 0, none⟩ = some (.int .i64 p0) ∧ w'.cell? ⟨w.heap.size, 1, none⟩ = some (dv0) ∧ w'.cell? ⟨w.heap.size, 2, none⟩ = some (av0) ∧ w'.cell? ⟨w.heap.size, 3, none⟩ = some (vv0) ∧ w'.cell? ⟨wc0.heap.size, 0, none⟩ = some (.int .i64 p0) ∧ w'.cell? ⟨wc0.heap.size, 1, none⟩ = some (.slice ya0d dl0.length yc0d) ∧ w'.cell? ⟨wc0.heap.size, 2, none⟩ = some (.slice ya0a al0.length yc0a) ∧ w'.cell? ⟨wc0.heap.size, 3, none⟩ = some (.slice ya0v vl0.length yc0v))
    (first | exact ⟨c00, c01, c02, c03, d00, d01, d02, d03⟩ | exact HS9.out | exact HSA.out | go_keep)
    (first
      | (go_at_call 12; refine (toDoublec_any p0 dv0 av0 vv0 dl0 al0 vl0 _ HCX.out HMS0.out.b).mono ?_; rintro e w9 ⟨dv09, av09, vv09, rfl, hcx9, hb9⟩; have HS9 := Lib.hid (And.intro (later hb9 (Nat.le_refl _) c00) (And.intro (later hb9 (Nat.le_refl _) c01) (And.intro (later hb9 (Nat.le_refl _) c02) (And.intro (later hb9 (Nat.le_refl _) c03) (And.intro (later hb9 (Nat.le_refl _) d00) (And.intro (later hb9 (Nat.le_refl _) d01) (And.intro (later hb9 (Nat.le_refl _) d02) (later hb9 (Nat.le_refl _) d03)))))))); have HX9 := Lib.hid (And.intro hcx9 (And.intro (HCC.out.below hb9) (Below.trans ((Below.refl we1.heap.size we1).drew) hb9))); clear hcx9 hb9)
      | (go_at_call 14; refine (eqDoublec_true p0 _ _ _ dv09 av09 vv09 dl0 al0 vl0 _ HX9.out.2.1 HX9.out.1.zero HMS0.out.b).mono ?_; rintro e wA0 ⟨rfl, hbA⟩; have HSA := Lib.hid (And.intro (later hbA (Nat.le_refl _) HS9.out.1) (And.intro (later hbA (Nat.le_refl _) HS9.out.2.1) (And.intro (later hbA (Nat.le_refl _) HS9.out.2.2.1) (And.intro (later hbA (Nat.le_refl _) HS9.out.2.2.2.1) (And.intro (later hbA (Nat.le_refl _) HS9.out.2.2.2.2.1) (And.intro (later hbA (Nat.le_refl _) HS9.out.2.2.2.2.2.1) (And.intro (later hbA (Nat.le_refl _) HS9.out.2.2.2.2.2.2.1) (later hbA (Nat.le_refl _) HS9.out.2.2.2.2.2.2.2)))))))); have HXA := Lib.hid (Below.trans HX9.out.2.2 (hbA.mono HX9.out.2.2.size)); clear hbA))
  have hsa0 : we1.heap.size ≤ wA0.heap.size := HXA.out.size
  have hb := HXA.out
  clear c00 c01 c02 c03
  clear d00 d01 d02 d03
  clear HXA HSA HS9 HX9 HCX HCC
  have HB' := Lib.hid (HB.out.trans (hb.mono (by omega)))
  have HK' := Lib.hid (HK.out.trans (hb.mono (by omega)))
  have HC0' := Lib.hid (HC0.out.same (Same.of_below hb (by omega)))
  have HY0' := Lib.hid (HY0.out.next hb)
  have HG' := Lib.hid (HG.out.same (Same.of_below hb (by omega)))
  have HCG' := Lib.hid (HCG.out.next hb)
  clear hb HB HK HC0 HY0 HG HCG
  have HB := HB'
  have HK := HK'
  have HC0 := HC0'
  have HY0 := HY0'
  have HG := HG'
  have HCG := HCG'
  clear HB' HK' HC0' HY0' HG' HCG'
  have d00 := HY0.out.c0
  have d01 := HY0.out.c1
  have d02 := HY0.out.c2
  have d03 := HY0.out.c3
  go_wp2_with fail
  refine (markDoublecK_any 1 p0 _ _ _ dl0 al0 vl0 _ HC0.out (by omega) HMS0.out (by omega) (by omega)).mono ?_
  rintro e wD0 ⟨r0, wM, rfl, hr00, hr01, hb, hoM, htM⟩
  have hsM0 : wA0.heap.size ≤ wM.heap.size := hb.size
  have hsD0 : wD0.heap.size = wM.heap.size := hoM.size
  have hsE0 : wA0.heap.size ≤ wD0.heap.size := by omega
  clear d00 d01 d02 d03
  have HB' := Lib.hid ((HB.out.trans (hb.mono (by omega))).trans (hoM.below (by omega)))
  have HK' := Lib.hid ((HK.out.trans (hb.mono (by omega))).trans (hoM.below (by omega)))
  have HG' := Lib.hid (HG.out.same ((Same.of_below hb (by omega)).trans (hoM.same (by omega))))
  have HCG' := Lib.hid ((HCG.out.next hb).only hoM (by omega))
  clear hoM htM hb HC0 HY0 HB HK HG HCG
  have HB := HB'
  have HK := HK'
  have HG := HG'
  have HCG := HCG'
  clear HB' HK' HG' HCG'
  have hneg0 : ¬ r0 < 0 := by omega
  have s0 := (HYS.out.next HK.out).c0
  have s1 := (HYS.out.next HK.out).c1
  have s2 := (HYS.out.next HK.out).c2
  have s3 := (HYS.out.next HK.out).c3
  have g0 := HCG.out.c0
  have g1 := HCG.out.c1
  have g2 := HCG.out.c2
  have g3 := HCG.out.c3
  go_wp2_with fail
  refine (eqDouble_true pS _ _ _ _ _ _ dsS asS vsS _ HG.out.cx (HYS.out.next HK.out).cx HBE.out).mono ?_
  rintro e we2 ⟨rfl, hb⟩
  have hse2 : wD0.heap.size ≤ we2.heap.size := hb.size
  clear s0 s1 s2 s3 g0 g1 g2 g3
  have HB' := Lib.hid (HB.out.trans (hb.mono (by omega)))
  have HK' := Lib.hid (HK.out.trans (hb.mono (by omega)))
  have HG' := Lib.hid (HG.out.same (Same.of_below hb (by omega)))
  have HCG' := Lib.hid (HCG.out.next hb)
  clear hb HB HK HG HCG
  have HB := HB'
  have HK := HK'
  have HG := HG'
  have HCG := HCG'
  clear HB' HK' HG' HCG'
  have g0 := HCG.out.c0
  have g1 := HCG.out.c1
  have g2 := HCG.out.c2
  have g3 := HCG.out.c3
  go_wp2_with fail
  refine (markRDd_any pS _ _ _ dsS asS vsS _ HG.out (by omega)).mono ?_
  rintro e wG ⟨mm, wM2, rfl, hm0, hm1, hb, hoG, hmk⟩
  have hsM2 : we2.heap.size ≤ wM2.heap.size := hb.size
  have hsG0 : wG.heap.size = wM2.heap.size := hoG.size
  have hsG : we2.heap.size ≤ wG.heap.size := by omega
  clear g0 g1 g2 g3
  have HB' := Lib.hid ((HB.out.trans (hb.mono (by omega))).trans (hoG.below (by omega)))
  have HK' := Lib.hid ((HK.out.trans (hb.mono (by omega))).trans (hoG.below (by omega)))
  have HCG' := Lib.hid ((HCG.out.next hb).only hoG (by omega))
  have HG' := Lib.hid hmk
  clear hoG hmk hb HB HK HG HCG
  have HB := HB'
  have HK := HK'
  have HG := HG'
  have HCG := HCG'
  clear HB' HK' HG' HCG'
  have hneg : ¬ mm < 0 := by omega
  have hsum : (mm != mm) = false := by simp
  have g0 := HCG.out.c0
  have g1 := HCG.out.c1
  have g2 := HCG.out.c2
  have g3 := HCG.out.c3
  go_wp2_with fail
  refine (heldRDd_any pS _ _ _ mm _ HG.out (by omega)).mono ?_
  rintro e wH1 ⟨rfl, hb⟩
  have hsH1 : wG.heap.size ≤ wH1.heap.size := hb.size
  clear g0 g1 g2 g3
  have HB' := Lib.hid (HB.out.trans (hb.mono (by omega)))
  have HK' := Lib.hid (HK.out.trans (hb.mono (by omega)))
  have HG' := Lib.hid (HG.out.same (Same.of_below hb (by omega)))
  have HCG' := Lib.hid (HCG.out.next hb)
  clear hb HB HK HG HCG
  have HB := HB'
  have HK := HK'
  have HG := HG'
  have HCG := HCG'
  clear HB' HK' HG' HCG'
  have c00 := (HN0.out _ HB.out).c0
  have c01 := (HN0.out _ HB.out).c1
  have c02 := (HN0.out _ HB.out).c2
  have c03 := (HN0.out _ HB.out).c3
  have HQd : Hid (Below wH1.heap.size wH1 wH1) := Lib.hid (Below.refl _ _)
  go_wp2_with fail
  refine (toDoublec_any p0 dv0 av0 vv0 dl0 al0 vl0 _ (HN0.out _ HB.out).cx HMS0.out.b).mono ?_
  rintro e wJ0 ⟨xdv0J, xav0J, xvv0J, rfl, hc, hb⟩
  have hsJ0 : wH1.heap.size ≤ wJ0.heap.size := hb.size
  have HBJ0 := Lib.hid (HB.out.trans (hb.mono (by omega)))
  have HQ0 := Lib.hid (HQd.out.trans (hb.mono (by omega)))
  have HXJ0 := Lib.hid hc.zero
  clear hb hc
  clear c00 c01 c02 c03
  go_wp2_with fail
  refine (transposeDoubleK_any p0 xdv0J xav0J xvv0J dl0 al0 vl0 _ (HXJ0.out) HMS0.out.b).mono ?_
  rintro e wJr ⟨uJ, oJ, kJ, rfl, hrJ, hb, hoJ⟩
  have hsJr : wJ0.heap.size ≤ wJr.heap.size := hb.size
  have HQr := Lib.hid (HQ0.out.trans (hb.mono (by omega)))
  have HRJ := Lib.hid hrJ
  have HOJ := Lib.hid hoJ
  clear hb hrJ hoJ
  have hb := HQr.out
  clear HQd HQr HQ0 HXJ0 HBJ0
  have HB' := Lib.hid (HB.out.trans (hb.mono (by omega)))
  have HK' := Lib.hid (HK.out.trans (hb.mono (by omega)))
  have HG' := Lib.hid (HG.out.same (Same.of_below hb (by omega)))
  have HCG' := Lib.hid (HCG.out.next hb)
  clear hb HB HK HG HCG
  have HB := HB'
  have HK := HK'
  have HG := HG'
  have HCG := HCG'
  clear HB' HK' HG' HCG'
  obtain ⟨rfl, rfl⟩ := RsOut.unique (fun _ a b ha hb => ha.trans hb.symm) HOS.out HOJ.out
  obtain ⟨aJd, cJd, aJa, cJa, aJv, cJv, huJ, hcJ⟩ := HRJ.out
  have huJ : uJ = .agg #[.int .i64 pS, .slice aJd dsS.length cJd, .slice aJa asS.length cJa, .slice aJv vsS.length cJv] := huJ
  subst huJ
  have HXJ : Hid (Dd 0 wJr (.slice aJd dsS.length cJd) (.slice aJa asS.length cJa) (.slice aJv vsS.length cJv) dsS asS vsS) := Lib.hid hcJ.cx
  clear hcJ HRJ HOJ
  obtain ⟨wbJ, hwb⟩ : ∃ wbJ, wbJ = wJr.alloc (.cells #[.int .i64 pS, .slice aJd dsS.length cJd, .slice aJa asS.length cJa, .slice aJv vsS.length cJv] 28) := ⟨_, rfl⟩
  have hb : Below wJr.heap.size wJr wbJ := by rw [hwb]; exact below_alloc1 _ _
  have hsbJ : wJr.heap.size + 1 = wbJ.heap.size := by rw [hwb]; simp
  have hsBJ : wJr.heap.size ≤ wbJ.heap.size := by omega
  have HYJ : Hid (BqDd wbJ wJr.heap.size pS (.slice aJd dsS.length cJd) (.slice aJa asS.length cJa) (.slice aJv vsS.length cJv) dsS asS vsS) := Lib.hid (by rw [hwb]; exact (BxDd.start _ HXJ.out).bq)
  have HB' := Lib.hid (HB.out.trans (hb.mono (by omega)))
  have HK' := Lib.hid (HK.out.trans (hb.mono (by omega)))
  have HG' := Lib.hid (HG.out.same (Same.of_below hb (by omega)))
  have HCG' := Lib.hid (HCG.out.next hb)
  clear hb HB HK HG HCG
  have HB := HB'
  have HK := HK'
  have HG := HG'
  have HCG := HCG'
  clear HB' HK' HG' HCG'
  go_upto_region 25 with fail
  rw [← hwb]
  clear hwb
  clear HXJ
  have s0 := (HYS.out.next HK.out).c0
  have s1 := (HYS.out.next HK.out).c1
  have s2 := (HYS.out.next HK.out).c2
  have s3 := (HYS.out.next HK.out).c3
  have j0 := HYJ.out.c0
  have j1 := HYJ.out.c1
  have j2 := HYJ.out.c2
  have j3 := HYJ.out.c3
  go_wp2_with fail
  refine (eqDouble_true pS _ _ _ _ _ _ dsS asS vsS _ HYJ.out.cx (HYS.out.next HK.out).cx HBE.out).mono ?_
  rintro e wK ⟨rfl, hb⟩
  have hsK : wbJ.heap.size ≤ wK.heap.size := hb.size
  clear s0 s1 s2 s3 j0 j1 j2 j3
  clear HYJ
  have HB' := Lib.hid (HB.out.trans (hb.mono (by omega)))
  have HK' := Lib.hid (HK.out.trans (hb.mono (by omega)))
  have HG' := Lib.hid (HG.out.same (Same.of_below hb (by omega)))
  have HCG' := Lib.hid (HCG.out.next hb)
  clear hb HB HK HG HCG
  have HB := HB'
  have HK := HK'
  have HG := HG'
  have HCG := HCG'
  clear HB' HK' HG' HCG'
  have g0 := HCG.out.c0
  have g1 := HCG.out.c1
  have g2 := HCG.out.c2
  have g3 := HCG.out.c3
  go_wp2_with fail
  refine (heldRDd_any pS _ _ _ mm _ HG.out (by omega)).mono ?_
  rintro e wH2 ⟨rfl, hb⟩
  have hsH2 : wK.heap.size ≤ wH2.heap.size := hb.size
  clear g0 g1 g2 g3
  have HB' := Lib.hid (HB.out.trans (hb.mono (by omega)))
  have HK' := Lib.hid (HK.out.trans (hb.mono (by omega)))
  have HG' := Lib.hid (HG.out.same (Same.of_below hb (by omega)))
  have HCG' := Lib.hid (HCG.out.next hb)
  clear hb HB HK HG HCG
  have HB := HB'
  have HK := HK'
  have HG := HG'
  have HCG := HCG'
  clear HB' HK' HG' HCG'
  go_wp2
  go_ret
  exact ⟨rfl, HNW.out _ HB.out⟩
end Go.Proofs.Ytlopenephgabhaa

