/-
  impl.homologyOf by its contract: the lists of all degrees, by their lengths.
-/
import Derived.Test.YtpdkfidmmjlmnaaKhl
import Derived.Test.YtpdkfidmmjlmnaaKhn
namespace Go.Proofs.Ytpdkfidmmjlmnaa
open Go.RowKit

/-- The homology numbers of all degrees. -/
def HnL (p : Int) (ds : List Int) (ms : List (List (List Int))) (ns : List Int) : Prop := ns.length = ds.length ∧ ∀ i (h : i < ns.length), HNum p ds ms i ns[i]
theorem HnL.unique {p : Int} (hp : 1 < p) {ds : List Int} {ms : List (List (List Int))} {a b : List Int} (h : HnL p ds ms a) (k : HnL p ds ms b) : a = b :=
  List.ext_getElem (by rw [h.1, k.1]) fun i h1 h2 => (h.2 i h1).unique hp (k.2 i h2)
/-- A homology, its basis by its lengths. -/
def HoR (p : Int) (ds : List Int) (ms : List (List (List Int))) (w : World) (e : Ending) (w' : World) : Prop :=
  ∃ (s : Int) (bv sv tv : Value) (ns : List Int), e = .returned (.agg #[.int .i64 p, .int .i64 s, bv, sv, tv]) ∧ Below w.heap.size w w' ∧ Lq w' sv ns ∧ HnL p ds ms ns ∧ ∀ x ∈ ns, 0 ≤ x ∧ x ≤ 8

set_option maxHeartbeats 12800000 in
set_option maxRecDepth 100000 in
theorem homologyOf_any (p : Int) (dv mv : Value) (ds : List Int) (ms : List (List (List Int))) (w : World) (h : Cx 0 w dv mv ds ms) (hc : IsCx p ds ms) :
    Calls Try.prog 135 #[.agg #[.int .i64 p, dv, mv]] w (HoR p ds ms w) := by
  have hres : Try.f135.results = #[.cell 2 120] := by kernel_rfl
  have HRES := Lib.hid hres
  have HC := Lib.hid hc
  obtain ⟨wa, hwa⟩ : ∃ wa, wa = w.alloc (.cells #[.int .i64 p, dv, mv] 28) := ⟨_, rfl⟩
  obtain ⟨wB, hwB⟩ : ∃ wB, wB = wa.alloc (.cells #[.int .i64 0, .int .i64 0, .slice none 0 0, .slice none 0 0, .slice none 0 0] 120) := ⟨_, rfl⟩
  have hsa : wa.heap.size = w.heap.size + 1 := by rw [hwa]; simp
  have hs1 : w.heap.size + 2 = wB.heap.size := by rw [hwB]; simp [hsa]
  have HX : Hid (Bx w wB w.heap.size p dv mv ds ms) := Lib.hid (by rw [hwB]; exact (show Bx w wa w.heap.size p dv mv ds ms by rw [hwa]; exact Bx.start _ h).next (below_alloc1 _ _))
  have HR0 : Hid (Rz wB (w.heap.size + 1) 120 #[.int .i64 0, .int .i64 0, .slice none 0 0, .slice none 0 0, .slice none 0 0]) := Lib.hid (by rw [hwB, ← hsa]; exact Rz.new _ _ _)
  obtain ⟨ad, cap, rfl⟩ := Sl.shape h.dims
  obtain ⟨am, capm, rfl⟩ := Sl.shape h.maps
  have HNB : Hid (∀ W, Below wB.heap.size wB W → Bx w W w.heap.size p (.slice ad ds.length cap) (.slice am ms.length capm) ds ms ∧ Rz W (w.heap.size + 1) 120 #[.int .i64 0, .int .i64 0, .slice none 0 0, .slice none 0 0, .slice none 0 0]) := Lib.hid (fun W hb => ⟨HX.out.next hb, HR0.out.next hb⟩)
  have c0 := HX.out.c0
  have c1 := HX.out.c1
  have c2 := HX.out.c2
  have hl1 := hc.1.len1
  have hl0 := hc.1.len0
  clear h hc hres HX HR0
  obtain ⟨wo, hwo⟩ : ∃ wo, wo = wB.alloc (.cells #[.int .i64 p, .int .i64 0, .slice none 0 0, .slice none 0 0, .slice none 0 0] 120) := ⟨_, rfl⟩
  obtain ⟨g, hg⟩ : ∃ g, g = wB.heap.size := ⟨_, rfl⟩
  have HGB := Lib.hid hg
  have HS0 : Hid (Ho wB wo g p 0 (.slice none 0 0) (.slice none 0 0) (.slice none 0 0) [] [] []) := Lib.hid (by
    have b3 : Below wB.heap.size wB wo := by rw [hwo]; exact below_alloc1 _ _
    refine ⟨b3, by omega, ?_, ⟨rfl, Or.inl ⟨rfl, rfl⟩⟩, ⟨rfl, Or.inl ⟨rfl, rfl⟩⟩, ⟨rfl, Or.inl ⟨rfl, rfl⟩⟩, fun g2 hg2 => by simp [Value.ownBlock] at hg2⟩
    rw [hg, hwo]
    exact rowIs5 (heap_alloc_new wB _))
  go_enter Try.func135, Try.ntmps135
  go_upto_region 1 with fail
  rw [← hwa, ← hwB]
  clear hwa hwB hsa
  go_upto_region 2 with fail
  rw [← hwo]
  rw [← hg]
  clear hwo hg c0 c1 c2
  have HX0 := Lib.hid (HNB.out _ HS0.out.below)
  have c0 := HX0.out.1.c0
  have c1 := HX0.out.1.c1
  have c2 := HX0.out.1.c2
  go_wp2_with fail
  refine (topOf_any p _ _ ds.length ad cap _ rfl (by omega)).mono ?_
  rintro ee w2 ⟨rfl, hb2⟩
  have HS2 := Lib.hid (HS0.out.next hb2)
  obtain ⟨n, hn⟩ : ∃ n, n = ds.length := ⟨_, rfl⟩
  have HN := Lib.hid hn
  have hadd : IntKind.i64.wrap ((n : Int) - 1 + 1) = (n : Int) := by rw [show (n : Int) - 1 + 1 = (n : Int) by omega]; exact IntWalk.i64_in _ (by omega)
  have hadd2 : (n : Int) - 1 + 1 = (n : Int) := by omega
  rw [← hn] at hl1 hl0 ⊢
  clear hb2 HS0 HX0 c0 c1 c2 hn
  go_wp2
  go_loopw [4, 5, 12] (fun _ _ i wr => ∃ (k s : Nat) (a1 a2 a3 : Option Addr) (c1 c2 c3 : Nat) (bs ss : List Value) (ys ns : List Int), k ≤ n ∧ i = .int .i64 k ∧ s ≤ 8 * k ∧ Hid (Ho wB wr g p s (.slice a1 k c1) (.slice a2 k c2) (.slice a3 k c3) bs ss ys) ∧ Hid (bs.length = k ∧ ss.length = k ∧ ys.length = k) ∧ Hid (Els ss ns) ∧ Hid (∀ i (h : i < ns.length), HNum p ds ms i ns[i]) ∧ Hid (∀ x ∈ ns, 0 ≤ x ∧ x ≤ 8)) (fun _ _ i _ => n - (intOf i).toNat)
  case atStart => exact ⟨0, 0, none, none, none, 0, 0, 0, [], [], [], [], Nat.zero_le _, rfl, Nat.zero_le _, HS2, Lib.hid ⟨rfl, rfl, rfl⟩, Lib.hid Els.nil, Lib.hid (fun i h => absurd h (by simp)), Lib.hid (by simp)⟩
  case round =>
    clear HS2
    obtain ⟨k, s, a1, a2, a3, cc1, cc2, cc3, bs, ss, ys, ns, hk, rfl, hs8, HS, HL, HE, HNS, HNB8⟩ := hrel
    obtain ⟨wx, hwx⟩ : ∃ wx : World, wx = wr := ⟨_, rfl⟩
    subst hwx
    by_cases hlt : k < n
    · have hkd : k < ds.length := by have := HN.out; omega
      have hkn : (k : Int) < (n : Int) := by omega
      have HXX := Lib.hid (HNB.out _ HS.out.below)
      have c0 := HXX.out.1.c0
      have c1 := HXX.out.1.c1
      have c2 := HXX.out.1.c2
      have hd8 := (dimN_le8 HC.out k).1
      go_wp2_with fail
      refine (homologySpace_any p k _ _ ds ms wx HXX.out.1.cx HC.out hkd).mono ?_
      rintro ee w5 ⟨s5, R, rfl, hb5, ho5, hr5⟩
      obtain ⟨a5, c5, rfl⟩ := ho5.shape
      have hm8 := hr5.short
      have HHN := Lib.hid (hom_len HC.out hkd hr5)
      obtain ⟨m, hm⟩ : ∃ m, m = R.length := ⟨_, rfl⟩
      rw [← hm] at hm8 HHN ⊢
      have HS5 := Lib.hid (HS.out.next hb5)
      clear hb5 ho5 hr5 hm HS HXX c0 c1 c2
      have hsx : wB.heap.size ≤ w5.heap.size := HS5.out.below.size
      go_upto_region 6 with fail
      go_wp2
      refine wp_region_last (fun W => Below wB.heap.size wB W ∧ W.cell? ⟨g, 2, none⟩ = some (.slice a1 k cc1)) 8 (by kernel_rfl) rfl (by kernel_rfl) ?_
      change wpAnyH _ _ _ _ _ _ _ _ w5.drew
      have hbd0 : Below w5.heap.size w5 w5.drew := (Below.refl _ _).drew
      obtain ⟨wd, hwd⟩ : ∃ wd, wd = w5.drew := ⟨_, rfl⟩
      rw [← hwd] at hbd0 ⊢
      clear hwd
      have HSD := HS5.out.next hbd0
      have S0 : Below wB.heap.size wB wd ∧ wd.cell? ⟨g, 2, none⟩ = some (.slice a1 k cc1) := ⟨HSD.below, HSD.box.cell (i := 2) (by omega)⟩
      refine held_take (i := 0) (v := .pointer (some ⟨g, 2, none⟩)) (some 18) rfl rfl (by kernel_rfl) (by kernel_rfl) (by kernel_rfl) (fun _ _ _ h => h) (yieldsIf_run (by kernel_rfl) (fun W _ => by kernel_rfl)) S0 ?_
      refine held_take (i := 1) (v := .slice a1 k cc1) (some 19) rfl rfl (by kernel_rfl) (by kernel_rfl) (by kernel_rfl) (fun _ _ _ h => h) (yieldsIf_cell (by kernel_rfl) rfl (by kernel_rfl) (fun W h => hloadL W h.2)) S0 ?_
      refine held_take (i := 2) (v := .agg #[.int .i64 p, .slice ad ds.length cap, .slice am ms.length capm]) (some 20) rfl rfl (by kernel_rfl) (by kernel_rfl) (by kernel_rfl) (fun _ _ _ h => h) (yieldsIf_cell (by kernel_rfl) rfl (by kernel_rfl) (fun W h => hload3x (HNB.out W h.1).1)) S0 ?_
      refine held_take (i := 3) (v := .int .i64 (k : Int)) (some 21) rfl rfl (by kernel_rfl) (by kernel_rfl) (by kernel_rfl) (fun _ _ _ h => h) (yieldsIf_move (by kernel_rfl) rfl (by kernel_rfl)) S0 ?_
      refine held_enter (i := 4) (some 22) (f := 98) (args := #[.agg #[.int .i64 p, .slice ad ds.length cap, .slice am ms.length capm], .int .i64 (k : Int)]) (by kernel_rfl) rfl rfl rfl (by kernel_rfl) (boundarySpace_any p k _ _ ds ms wd (HNB.out _ S0.1).1.cx HC.out) ?_ (fun c w' h => by obtain ⟨_, _, h, _⟩ := h; cases h) (fun w' h => by obtain ⟨_, _, h, _⟩ := h; cases h)
      rintro e6 W6 ⟨s6, B, he6, hb6, ho6, hr6⟩
      injection he6 with he6
      subst he6
      obtain ⟨a6, c6, rfl⟩ := ho6.shape
      obtain ⟨m6, hm6⟩ : ∃ m6, m6 = B.length := ⟨_, rfl⟩
      rw [← hm6]
      have HSW := HSD.next hb6
      have S1 : Below wB.heap.size wB W6 ∧ W6.cell? ⟨g, 2, none⟩ = some (.slice a1 k cc1) := ⟨HSW.below, HSW.box.cell (i := 2) (by omega)⟩
      refine ⟨S1, ?_⟩
      clear ho6 hr6 hm6 S0 HSD
      obtain ⟨we, hwe⟩ : ∃ we, we = (W6.alloc (.cells #[.slice a6 m6 c6] 86)) := ⟨_, rfl⟩
      have hbe : Below W6.heap.size W6 we := by rw [hwe]; exact below_alloc1 _ _
      have hcell : we.cell? ⟨W6.heap.size, 0, none⟩ = some (.slice a6 m6 c6) := by rw [hwe]; exact cell_alloc1 W6 _ _
      have HSE := HSW.next hbe
      have S2 : Below wB.heap.size wB we ∧ we.cell? ⟨g, 2, none⟩ = some (.slice a1 k cc1) := ⟨HSE.below, HSE.box.cell (i := 2) (by omega)⟩
      refine held_mem (i := 5) (v := .slice (some ⟨W6.heap.size, 0, none⟩) 1 1) (w' := we) (some 23) (by kernel_rfl) rfl rfl rfl (by rw [hwe]; go_simp) S2 ?_
      refine held_call (i := 6) (by kernel_rfl) rfl rfl ?_
      refine wp_appendLl (some 24) rfl (.tmp 19) (.tmp 23) rfl wB.heap.size (.slice a1 k cc1) bs (by kernel_rfl) HSE.bot W6.heap.size (by kernel_rfl) a6 m6 c6 hcell (by rw [HL.out.1]; omega) HSE.below.size ?_
      rw [HL.out.1]
      intro g9 c9 w9 hn9 hgw hlw
      have HS9 : Hid (Ho wB (w9.setCell ⟨g, 2, none⟩ (.slice (some ⟨g9, 0, none⟩) (k + 1) c9)) g p s (.slice (some ⟨g9, 0, none⟩) (k + 1) c9) (.slice a2 k cc2) (.slice a3 k cc3) (bs ++ [Value.slice a6 m6 c6]) ss ys) := Lib.hid (HSE.stepB hgw hn9 hlw)
      have hrb := row_grown HSE.box HSE.bot hoT.2 hgw
      have z1 : w9.cell? ⟨g, 2, none⟩ = some (.slice a1 k cc1) := hrb.cell (i := 2) (by omega)
      have z2 : w9.frozen? ⟨g, 2, none⟩ = false := hrb.frozen 2
      have hb9 : Below wB.heap.size wB w9 := HSE.below.grown hgw HSE.below.size (fun g0 hg0 => ((World.ownsRow.lt HSE.bot) g0 hg0).1)
      have S3 : Below wB.heap.size wB w9 ∧ w9.cell? ⟨g, 2, none⟩ = some (.slice a1 k cc1) := ⟨hb9, z1⟩
      refine ⟨S3, ?_⟩
      refine held_take (i := 7) (v := .pointer (some ⟨g, 2, none⟩)) (some 25) rfl rfl (by kernel_rfl) (by kernel_rfl) (by kernel_rfl) (fun _ _ _ h => h) (yieldsIf_run (by kernel_rfl) (fun W _ => by kernel_rfl)) S3 ?_
      refine held_none (i := 8) (v := .bool false) rfl rfl (by kernel_rfl) (by kernel_rfl) (by kernel_rfl) (fun _ _ _ h => h) (yieldsIf_move (by kernel_rfl) rfl (by kernel_rfl)) S3 ?_
      refine wpAnyH_done (by kernel_rfl) (lastQ_of rfl (by kernel_rfl) ?_) _
      simp only [Act.put, List.setIfInBounds_toArray, List.set_cons_zero, List.set_cons_succ]
      go_simp
      obtain ⟨wf, hwf⟩ : ∃ wf, wf = (w9.setCell ⟨g, 2, none⟩ (.slice (some ⟨g9, 0, none⟩) (k + 1) c9)) := ⟨_, rfl⟩
      rw [← hwf]
      rw [← hwf] at HS9
      have HLB : Hid ((bs ++ [Value.slice a6 m6 c6]).length = k + 1) := Lib.hid (by simp [HL.out.1])
      obtain ⟨bs9, hbs9⟩ : ∃ bs9, bs9 = bs ++ [Value.slice a6 m6 c6] := ⟨_, rfl⟩
      rw [← hbs9] at HS9 HLB
      clear hwf z1 z2 S1 S2 S3 hb9 hrb hgw hlw hn9 hcell hbe hwe hbd0 HSE HSW hb6 hbs9 HS5
      -- the basis
      have hbe : Below wf.heap.size wf (wf.alloc (.cells #[.slice a5 m c5] 86)) := below_alloc1 _ _
      have HSE := Lib.hid (HS9.out.next hbe)
      have hcell := cell_alloc1 wf (.slice a5 m c5) 86
      have HCE := Lib.hid hcell
      have HBS := Lib.hid HSE.out.bas
      have HC4 : Hid (wB.heap.size ≤ (wf.alloc (.cells #[.slice a5 m c5] 86)).heap.size) := Lib.hid HSE.out.below.size
      have HC3 : Hid (ss.length ≤ 2097151) := Lib.hid (by rw [HL.out.2.1]; omega)
      have g1 : wf.cell? ⟨g, 3, none⟩ = some (.slice a2 k cc2) := HS9.out.box.cell (i := 3) (by omega)
      clear hbe
      go_wp2_with (at_builtin; refine wpList_appendLl rfl (some 30) rfl (.tmp 27) (.tmp 29) rfl wB.heap.size (.slice a2 k cc2) ss rfl HBS.out wf.heap.size rfl a5 m c5 HCE.out HC3.out HC4.out ?_)
      rw [HL.out.2.1]
      intro g10 c10 w10 hn10 hgw hlw
      have HS10 : Hid (Ho wB (w10.setCell ⟨g, 3, none⟩ (.slice (some ⟨g10, 0, none⟩) (k + 1) c10)) g p s (.slice (some ⟨g9, 0, none⟩) (k + 1) c9) (.slice (some ⟨g10, 0, none⟩) (k + 1) c10) (.slice a3 k cc3) bs9 (ss ++ [Value.slice a5 m c5]) ys) := Lib.hid (HSE.out.stepS hgw hn10 (hlw.imp id (fun h => by simpa using h)))
      have hrb := row_grown HSE.out.box HSE.out.bas hoT.2 hgw
      have z1 : w10.cell? ⟨g, 3, none⟩ = some (.slice a2 k cc2) := hrb.cell (i := 3) (by omega)
      have z2 : w10.frozen? ⟨g, 3, none⟩ = false := hrb.frozen 3
      obtain ⟨wh, hwh⟩ : ∃ wh, wh = (w10.setCell ⟨g, 3, none⟩ (.slice (some ⟨g10, 0, none⟩) (k + 1) c10)) := ⟨_, rfl⟩
      have HE10 : Hid (Els (ss ++ [Value.slice a5 m c5]) (ns ++ [(m : Int)])) := Lib.hid (HE.out.push m a5 c5)
      have HLS : Hid ((ss ++ [Value.slice a5 m c5]).length = k + 1) := Lib.hid (by simp [HL.out.2.1])
      have HNL : Hid (ns.length = k) := Lib.hid (by rw [HE.out.len, HL.out.2.1])
      obtain ⟨ss9, hss9⟩ : ∃ ss9, ss9 = ss ++ [Value.slice a5 m c5] := ⟨_, rfl⟩
      rw [← hss9] at HS10 HLS HE10
      clear hn10 hgw hlw hrb hcell g1 HSE HBS HC4 HC3 HCE HS9 hss9
      go_upto_region 8 with fail
      rw [← hwh]
      rw [← hwh] at HS10
      clear hwh z1 z2
      -- the start
      have hbe : Below wh.heap.size wh (wh.alloc (.cells #[.int .i64 (s : Int)] 2)) := below_alloc1 _ _
      have HSE := Lib.hid (HS10.out.next hbe)
      have hcell := cell_alloc1 wh (.int .i64 (s : Int)) 2
      have HCE := Lib.hid hcell
      have HST := Lib.hid HSE.out.st
      have HC4 : Hid (wB.heap.size ≤ (wh.alloc (.cells #[.int .i64 (s : Int)] 2)).heap.size) := Lib.hid HSE.out.below.size
      have HC3 : Hid (ys.length ≤ 2097151) := Lib.hid (by rw [HL.out.2.2]; omega)
      have g1 : wh.cell? ⟨g, 4, none⟩ = some (.slice a3 k cc3) := HS10.out.box.cell (i := 4) (by omega)
      have g2 : wh.cell? ⟨g, 1, none⟩ = some (.int .i64 (s : Int)) := HS10.out.box.cell (i := 1) (by omega)
      clear hbe
      go_wp2_with (at_builtin; refine wpList_appendB1l rfl (some 37) rfl (.tmp 33) (.tmp 36) rfl wB.heap.size (.slice a3 k cc3) ys rfl HST.out wh.heap.size rfl (s : Int) HCE.out HC3.out HC4.out ?_)
      rw [HL.out.2.2]
      intro g11 c11 w11 hn11 hgw hlw
      have HS11 : Hid (Ho wB (w11.setCell ⟨g, 4, none⟩ (.slice (some ⟨g11, 0, none⟩) (k + 1) c11)) g p s (.slice (some ⟨g9, 0, none⟩) (k + 1) c9) (.slice (some ⟨g10, 0, none⟩) (k + 1) c10) (.slice (some ⟨g11, 0, none⟩) (k + 1) c11) bs9 ss9 (ys ++ [(s : Int)])) := Lib.hid (HSE.out.stepT hgw hn11)
      have hrb := row_grown HSE.out.box HSE.out.st hoT.1 hgw
      have z1 : w11.cell? ⟨g, 4, none⟩ = some (.slice a3 k cc3) := hrb.cell (i := 4) (by omega)
      have z2 : w11.frozen? ⟨g, 4, none⟩ = false := hrb.frozen 4
      obtain ⟨wi, hwi⟩ : ∃ wi, wi = (w11.setCell ⟨g, 4, none⟩ (.slice (some ⟨g11, 0, none⟩) (k + 1) c11)) := ⟨_, rfl⟩
      have HLY : Hid ((ys ++ [(s : Int)]).length = k + 1) := Lib.hid (by simp [HL.out.2.2])
      clear hn11 hgw hlw hrb hcell g1 g2 HSE HST HC4 HC3 HCE HS10
      go_upto_region 9 with fail
      rw [← hwi]
      rw [← hwi] at HS11
      clear hwi z1 z2
      -- the size
      have g2 : wi.cell? ⟨g, 1, none⟩ = some (.int .i64 (s : Int)) := HS11.out.box.cell (i := 1) (by omega)
      have g3 : wi.frozen? ⟨g, 1, none⟩ = false := HS11.out.box.frozen 1
      have hws : IntKind.i64.wrap ((s : Int) + (m : Int)) = ((s + m : Nat) : Int) := by rw [show (s : Int) + (m : Int) = ((s + m : Nat) : Int) by omega]; exact IntWalk.i64_in _ (by omega)
      have HS12 : Hid (Ho wB (wi.setCell ⟨g, 1, none⟩ (.int .i64 ((s + m : Nat) : Int))) g p ((s + m : Nat) : Int) (.slice (some ⟨g9, 0, none⟩) (k + 1) c9) (.slice (some ⟨g10, 0, none⟩) (k + 1) c10) (.slice (some ⟨g11, 0, none⟩) (k + 1) c11) bs9 ss9 (ys ++ [(s : Int)])) := Lib.hid (HS11.out.setZ _)
      have HNS2 : Hid (∀ i (h : i < (ns ++ [(m : Int)]).length), HNum p ds ms i (ns ++ [(m : Int)])[i]) := Lib.hid (fun i hi => by
        by_cases e : i < ns.length
        · rw [List.getElem_append_left e]
          exact HNS.out i e
        · have e2 : i = ns.length := by simp at hi; omega
          subst e2
          rw [List.getElem_append_right (Nat.le_refl _)]
          simp only [Nat.sub_self, List.getElem_cons_zero]
          rw [HNL.out]
          exact HHN.out)
      have HNB2 : Hid (∀ x ∈ ns ++ [(m : Int)], 0 ≤ x ∧ x ≤ 8) := Lib.hid (fun x hx => by
        rcases List.mem_append.1 hx with hx | hx
        · exact HNB8.out x hx
        · rw [List.mem_singleton.1 hx]; omega)
      have HLL : Hid (bs9.length = k + 1 ∧ ss9.length = k + 1 ∧ (ys ++ [(s : Int)]).length = k + 1) := Lib.hid ⟨HLB.out, HLS.out, HLY.out⟩
      clear HS11
      go_wp2
      go_roundw
      case rel => exact ⟨k + 1, s + m, _, _, _, _, _, _, _, _, _, _, by omega, by go_num, by omega, HS12, HLL, HE10, HNS2, HNB2⟩
      case measure => simp [intOf]; omega
    · have hkn : k = n := by omega
      subst hkn
      have HNF := Lib.hid (HNB.out _ HS.out.below)
      have hsz : w.heap.size + 1 < wx.heap.size := HNF.out.2.lt
      have b0 : wx.cell? ⟨g, 0, none⟩ = some (.int .i64 p) := HS.out.box.cell (i := 0) (by omega)
      have b1 : wx.cell? ⟨g, 1, none⟩ = some (.int .i64 (s : Int)) := HS.out.box.cell (i := 1) (by omega)
      have b2 : wx.cell? ⟨g, 2, none⟩ = some (.slice a1 k cc1) := HS.out.box.cell (i := 2) (by omega)
      have b3 : wx.cell? ⟨g, 3, none⟩ = some (.slice a2 k cc2) := HS.out.box.cell (i := 3) (by omega)
      have b4 : wx.cell? ⟨g, 4, none⟩ = some (.slice a3 k cc3) := HS.out.box.cell (i := 4) (by omega)
      have r0 := rowIs5 HNF.out.2
      have o0 := HS.out.bas
      have q0 : (wx).cell? ⟨w.heap.size + 1, 0, none⟩ = some (.int .i64 0) := r0.cell (i := 0) (by omega)
      have z0 : (wx).frozen? ⟨w.heap.size + 1, 0, none⟩ = false := r0.frozen 0
      have r1 := r0.set 0 (.int .i64 p)
      have o1 := owns_off o0 r0 hoT.2 0 (.int .i64 p)
      have q1 : ((wx).setCell ⟨w.heap.size + 1, 0, none⟩ (.int .i64 p)).cell? ⟨w.heap.size + 1, 1, none⟩ = some (.int .i64 0) := r1.cell (i := 1) (by omega)
      have z1 : ((wx).setCell ⟨w.heap.size + 1, 0, none⟩ (.int .i64 p)).frozen? ⟨w.heap.size + 1, 1, none⟩ = false := r1.frozen 1
      have r2 := r1.set 1 (.int .i64 (s : Int))
      have o2 := owns_off o1 r1 hoT.2 1 (.int .i64 (s : Int))
      have q2 : (((wx).setCell ⟨w.heap.size + 1, 0, none⟩ (.int .i64 p)).setCell ⟨w.heap.size + 1, 1, none⟩ (.int .i64 (s : Int))).cell? ⟨w.heap.size + 1, 2, none⟩ = some (.slice none 0 0) := r2.cell (i := 2) (by omega)
      have z2 : (((wx).setCell ⟨w.heap.size + 1, 0, none⟩ (.int .i64 p)).setCell ⟨w.heap.size + 1, 1, none⟩ (.int .i64 (s : Int))).frozen? ⟨w.heap.size + 1, 2, none⟩ = false := r2.frozen 2
      have r3 := r2.set 2 (.slice a1 k cc1)
      have o3 := owns_off o2 r2 hoT.2 2 (.slice a1 k cc1)
      have q3 : ((((wx).setCell ⟨w.heap.size + 1, 0, none⟩ (.int .i64 p)).setCell ⟨w.heap.size + 1, 1, none⟩ (.int .i64 (s : Int))).setCell ⟨w.heap.size + 1, 2, none⟩ (.slice a1 k cc1)).cell? ⟨w.heap.size + 1, 3, none⟩ = some (.slice none 0 0) := r3.cell (i := 3) (by omega)
      have z3 : ((((wx).setCell ⟨w.heap.size + 1, 0, none⟩ (.int .i64 p)).setCell ⟨w.heap.size + 1, 1, none⟩ (.int .i64 (s : Int))).setCell ⟨w.heap.size + 1, 2, none⟩ (.slice a1 k cc1)).frozen? ⟨w.heap.size + 1, 3, none⟩ = false := r3.frozen 3
      have r4 := r3.set 3 (.slice a2 k cc2)
      have o4 := owns_off o3 r3 hoT.2 3 (.slice a2 k cc2)
      have q4 : (((((wx).setCell ⟨w.heap.size + 1, 0, none⟩ (.int .i64 p)).setCell ⟨w.heap.size + 1, 1, none⟩ (.int .i64 (s : Int))).setCell ⟨w.heap.size + 1, 2, none⟩ (.slice a1 k cc1)).setCell ⟨w.heap.size + 1, 3, none⟩ (.slice a2 k cc2)).cell? ⟨w.heap.size + 1, 4, none⟩ = some (.slice none 0 0) := r4.cell (i := 4) (by omega)
      have z4 : (((((wx).setCell ⟨w.heap.size + 1, 0, none⟩ (.int .i64 p)).setCell ⟨w.heap.size + 1, 1, none⟩ (.int .i64 (s : Int))).setCell ⟨w.heap.size + 1, 2, none⟩ (.slice a1 k cc1)).setCell ⟨w.heap.size + 1, 3, none⟩ (.slice a2 k cc2)).frozen? ⟨w.heap.size + 1, 4, none⟩ = false := r4.frozen 4
      have r5 := r4.set 4 (.slice a3 k cc3)
      have o5 := owns_off o4 r4 hoT.2 4 (.slice a3 k cc3)
      obtain ⟨WF, hWF⟩ : ∃ W : World, W = (((((wx).setCell ⟨w.heap.size + 1, 0, none⟩ (.int .i64 p)).setCell ⟨w.heap.size + 1, 1, none⟩ (.int .i64 (s : Int))).setCell ⟨w.heap.size + 1, 2, none⟩ (.slice a1 k cc1)).setCell ⟨w.heap.size + 1, 3, none⟩ (.slice a2 k cc2)).setCell ⟨w.heap.size + 1, 4, none⟩ (.slice a3 k cc3) := ⟨_, rfl⟩
      have hbWF : Below w.heap.size w WF := by rw [hWF]; exact (((((HNF.out.1.below.setCell (by show w.heap.size ≤ w.heap.size + 1; omega) _).setCell (by show w.heap.size ≤ w.heap.size + 1; omega) _).setCell (by show w.heap.size ≤ w.heap.size + 1; omega) _).setCell (by show w.heap.size ≤ w.heap.size + 1; omega) _).setCell (by show w.heap.size ≤ w.heap.size + 1; omega) _)
      rw [← hWF] at r5 o5
      have f0 : WF.cell? ⟨w.heap.size + 1, 0, none⟩ = some (.int .i64 p) := r5.cell (i := 0) (by omega)
      have f1 : WF.cell? ⟨w.heap.size + 1, 1, none⟩ = some (.int .i64 (s : Int)) := r5.cell (i := 1) (by omega)
      have f2 : WF.cell? ⟨w.heap.size + 1, 2, none⟩ = some (.slice a1 k cc1) := r5.cell (i := 2) (by omega)
      have f3 : WF.cell? ⟨w.heap.size + 1, 3, none⟩ = some (.slice a2 k cc2) := r5.cell (i := 3) (by omega)
      have f4 : WF.cell? ⟨w.heap.size + 1, 4, none⟩ = some (.slice a3 k cc3) := r5.cell (i := 4) (by omega)
      have HWWF := Lib.hid hWF
      have HBF := Lib.hid hbWF
      have HLQ := Lib.hid (HE.out.lq o5)
      have HHL : Hid (HnL p ds ms ns) := Lib.hid ⟨by rw [HE.out.len, HL.out.2.1, HN.out], HNS.out⟩
      clear r0 r1 r2 r3 r4 r5 o0 o1 o2 o3 o4 o5 hWF hbWF HS
      go_wp2
      rw [← HWWF.out]
      refine bodyPost_ret (v := .agg #[.int .i64 p, .int .i64 (s : Int), .slice a1 k cc1, .slice a2 k cc2, .slice a3 k cc3]) ?_ rfl ?_
      · simp only [results, HRES.out]
        go_simp
      · exact ⟨(s : Int), _, _, _, ns, rfl, HBF.out, HLQ.out, HHL.out, HNB8.out⟩
end Go.Proofs.Ytpdkfidmmjlmnaa
