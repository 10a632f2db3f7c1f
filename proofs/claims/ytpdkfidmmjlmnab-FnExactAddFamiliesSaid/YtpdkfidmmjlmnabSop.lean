/-
  impl.sumOfPaths by contract: each row of a new family gathers what all paths make of a basis vector.
-/
import Derived.Test.YtpdkfidmmjlmnabFmt
namespace Go.Proofs.Ytpdkfidmmjlmnab
open Go.RowKit

/-- Number q of what the first k paths make together. -/
def pS (p : Int) (fc : Nat → Int) (v : Nat → List Int) (q : Nat) : Nat → Int
  | 0 => 0
  | k + 1 => addMod p (fc k) (pS p fc v q k) ((v k).getD q 0)
theorem pS_bd {p : Int} (hp : 0 < p ∧ p ≤ 7) (fc : Nat → Int) (v : Nat → List Int) (q k : Nat) : 0 ≤ pS p fc v q k ∧ pS p fc v q k ≤ 6 := by
  cases k with
  | zero => simp [pS]
  | succ k =>
    simp only [pS, addMod]
    have h1 := Int.emod_nonneg (pS p fc v q k + fc k * (v k).getD q 0) (show p ≠ 0 by omega)
    have h2 := Int.emod_lt_of_pos (pS p fc v q k + fc k * (v k).getD q 0) hp.1
    omega
/-- The numbers when the tables ahead of n are done, of table n the rows ahead of i, of row i the paths ahead of k. -/
def spZ (p : Int) (fc : Nat → Int) (V : Nat → Nat → Nat → List Int) (np n i k : Nat) (n2 i2 q : Nat) : Int :=
  if n2 < n ∨ (n2 = n ∧ i2 < i) then pS p fc (V n2 i2) q np else if n2 = n ∧ i2 = i then pS p fc (V n2 i2) q k else 0
theorem spZ_zero (p : Int) (fc : Nat → Int) (V : Nat → Nat → Nat → List Int) (np n2 i2 q : Nat) : spZ p fc V np 0 0 0 n2 i2 q = 0 := by
  simp only [spZ, pS]
  rw [if_neg (by omega)]
  split <;> rfl
theorem spZ_row (p : Int) (fc : Nat → Int) (V : Nat → Nat → Nat → List Int) (np n i n2 i2 q : Nat) : spZ p fc V np n i np n2 i2 q = spZ p fc V np n (i + 1) 0 n2 i2 q := by
  simp only [spZ, pS]
  by_cases h : n2 < n ∨ (n2 = n ∧ i2 < i)
  · rw [if_pos h, if_pos (by omega)]
  · rw [if_neg h]
    by_cases h2 : n2 = n ∧ i2 = i
    · rw [if_pos h2, if_pos (by omega)]
    · rw [if_neg h2, if_neg (by omega)]
      split <;> rfl
theorem spZ_tab (p : Int) (fc : Nat → Int) (V : Nat → Nat → Nat → List Int) (np n r n2 i2 q : Nat) (h2 : n2 = n → i2 < r) : spZ p fc V np n r 0 n2 i2 q = spZ p fc V np (n + 1) 0 0 n2 i2 q := by
  simp only [spZ, pS]
  by_cases h : n2 < n ∨ (n2 = n ∧ i2 < r)
  · rw [if_pos h, if_pos (by omega)]
  · have e1 : ¬ (n2 < n + 1 ∨ (n2 = n + 1 ∧ i2 < 0)) := by omega
    rw [if_neg h, if_neg e1]
    split <;> split <;> rfl
theorem spZ_all (p : Int) (fc : Nat → Int) (V : Nat → Nat → Nat → List Int) (np n n2 i2 q : Nat) (h : n2 < n) : spZ p fc V np n 0 0 n2 i2 q = pS p fc (V n2 i2) q np := by
  simp only [spZ]
  rw [if_pos (Or.inl h)]
theorem spZ_at (p : Int) (fc : Nat → Int) (V : Nat → Nat → Nat → List Int) (np n i k q : Nat) : spZ p fc V np n i k n i q = pS p fc (V n i) q k := by
  simp [spZ]
theorem spZ_put (p : Int) (fc : Nat → Int) (V : Nat → Nat → Nat → List Int) (np n i k n2 i2 q : Nat) : (if n2 = n ∧ i2 = i then addMod p (fc k) (spZ p fc V np n i k n i q) ((V n i k).getD q 0) else spZ p fc V np n i k n2 i2 q) = spZ p fc V np n i (k + 1) n2 i2 q := by
  by_cases h : n2 = n ∧ i2 = i
  · rw [if_pos h, h.1, h.2, spZ_at, spZ_at, pS]
  · rw [if_neg h]
    simp only [spZ]
    by_cases h1 : n2 < n ∨ (n2 = n ∧ i2 < i)
    · rw [if_pos h1, if_pos h1]
    · rw [if_neg h1, if_neg h1, if_neg h, if_neg h]

def unitL (d i : Nat) : List Int := (List.range d).map fun q => if q = i then 1 else 0
theorem Tb.row1 {W : World} {g r c : Nat} {Z : Nat → Nat → Int} (h : Tb W g r c Z) {j : Nat} (hj : j < r) : L1 0 W (.slice (some ⟨g + 1 + j, 0, none⟩) c c) ((List.range c).map (Z j)) := by
  by_cases h0 : c = 0
  · subst h0
    exact Or.inl ⟨rfl, _, _, rfl⟩
  · refine Or.inr ⟨g + 1 + j, 0, c, by simp, Nat.zero_le _, by simp; omega, fun i hi => ?_⟩
    have hi' : i < c := by simpa using hi
    exact ⟨_, by rw [Nat.zero_add]; exact (h.rows j hj).cell hi', by simp [IsI]⟩
theorem Tb.but {W W' : World} {g r c b : Nat} {Z : Nat → Nat → Int} (h : Tb W g r c Z) (hb : But b W W') (ho : b < g ∨ g + 1 + r ≤ b) : Tb W' g r c Z :=
  ⟨h.top.of_block (hb.block _ h.top.lt (by omega)), fun j hj => (h.rows j hj).of_block (hb.block _ (h.rows j hj).lt (by omega)), Nat.le_trans h.lt hb.size⟩

/-- Paths with their factors and maps, in a row at block b. -/
def PathsAt (w : World) (b np : Nat) (fc : Nat → Int) (gl : Nat → List Value) : Prop :=
  ∀ j, j < np → ∃ mv, w.cell? ⟨b, j * 2, none⟩ = some (.int .i64 (fc j)) ∧ w.cell? ⟨b, j * 2 + 1, none⟩ = some mv ∧ MapsAt w mv (gl j) ∧ 0 < (gl j).length ∧ (gl j).length ≤ 1048576

theorem hloadP (w : World) {b : Nat} {x y : Value} (c0 : w.cell? ⟨b, 0, none⟩ = some x) (c1 : w.cell? ⟨b, 1, none⟩ = some y) : (Instr.loadAt 129 (.pointer (some ⟨b, 0, none⟩))).run Try.prog w = .ok (.agg #[x, y]) w := by go_simp

set_option maxHeartbeats 6400000 in
set_option maxRecDepth 100000 in
theorem sumOfPaths_any (p p2 s : Int) (np bp cp : Nat) (fc : Nat → Int) (gl : Nat → List Value) (V : Nat → Nat → Nat → List Int) (dv mv dv2 mv2 : Value) (ds : List Int) (ms : List (List (List Int))) (ds2 : List Int) (ms2 : List (List (List Int))) (w : World) (h : Cx 0 w dv mv ds ms) (h2 : Cx 0 w dv2 mv2 ds2 ms2) (hcx : IsCx p ds ms) (hcy : IsCx p2 ds2 ms2) (hs : -1 ≤ s ∧ s ≤ 1)
    (hP : PathsAt w bp np fc gl) (hfc : ∀ j, j < np → 0 ≤ fc j ∧ fc j ≤ 6) (hnp : np ≤ 100) (hch : ∀ n, n < ds.length → ∀ i, i < rsF ds n → ∀ j, j < np → ∃ z, Chain w (gl j) (n : Int) (unitL (rsF ds n) i) z (V n i j)) (hV : ∀ n, n < ds.length → ∀ i, i < rsF ds n → ∀ j, j < np → (V n i j).length = csF ds2 s n ∧ ∀ y ∈ V n i j, 0 ≤ y ∧ y ≤ 6) :
    Calls Try.prog 127 #[.agg #[.int .i64 p, dv, mv], .agg #[.int .i64 p2, dv2, mv2], .int .i64 s, .slice (some ⟨bp, 0, none⟩) np cp] w (Fam3R (famL ds.length (rsF ds) (csF ds2 s) fun n i q => pS p fc (V n i) q np) w) := by
  obtain ⟨ad, cap, rfl⟩ := Sl.shape h.dims
  obtain ⟨am, capm, rfl⟩ := Sl.shape h.maps
  obtain ⟨ad2, cap2, rfl⟩ := Sl.shape h2.dims
  obtain ⟨am2, capm2, rfl⟩ := Sl.shape h2.maps
  obtain ⟨k1, k2⟩ := bx_two (p := p) (p2 := p2) 31 h h2
  have HX0 := Lib.hid k1
  have HY0 := Lib.hid k2
  have HCX := Lib.hid hcx
  have HCY := Lib.hid hcy
  have HS := Lib.hid hs
  have HP := Lib.hid hP
  have HFC := Lib.hid hfc
  have HCH := Lib.hid hch
  have HV := Lib.hid hV
  have hl6 := hcx.1.len1
  have hp27 : 2 ≤ p ∧ p ≤ 7 := ⟨hcx.1.prime.lo, hcx.1.prime.hi⟩
  obtain ⟨hp2, hp7⟩ := hp27
  obtain ⟨w1, hw1⟩ : ∃ w1, w1 = ((w.alloc (.cells #[.int .i64 p, .slice ad ds.length cap, .slice am ms.length capm] 31)).alloc (.cells #[.int .i64 p2, .slice ad2 ds2.length cap2, .slice am2 ms2.length capm2] 31)) := ⟨_, rfl⟩
  rw [← hw1] at HX0 HY0
  have c0 := HX0.out.c0
  have c1 := HX0.out.c1
  have c2 := HX0.out.c2
  have d0 := HY0.out.c0
  have d1 := HY0.out.c1
  have d2 := HY0.out.c2
  have hs1w : w.heap.size < w1.heap.size := HX0.out.lt
  have HB01 := Lib.hid HX0.out.below
  have HZF := Lib.hid (zeroFamT_any p p2 s _ _ _ _ ds ms ds2 ms2 w1 HX0.out.cx HY0.out.cx hcx hcy hs)
  clear h h2 k1 k2 hcx hcy hP hfc hch hV hs
  go_enter Try.func127, Try.ntmps127
  go_upto_region 1 with fail
  rw [← hw1]
  clear hw1
  go_wp2_with fail
  refine HZF.out.mono ?_
  rintro e w2 ⟨G, f, gs, rfl, hG, hF, hb2⟩
  have HF := Lib.hid (hF.congr (Z' := spZ p fc V np 0 0 0) (fun n _ j _ q _ => (spZ_zero p fc V np n j q).symm))
  have HB2 := Lib.hid hb2
  clear hF hb2 HZF c0 c1 c2 d0 d1 d2
  go_wp2
  go_loopw [22] (fun i wr => ∃ (n : Nat), n ≤ ds.length ∧ i = .int .i64 n ∧ Hid (Below w1.heap.size w1 wr) ∧ Hid (FamT wr G ds.length ds.length f gs (rsF ds) (csF ds2 s) (spZ p fc V np n 0 0))) (fun i _ => ds.length - (intOf i).toNat)
  case atStart => exact ⟨0, Nat.zero_le _, rfl, HB2, HF⟩
  case round =>
    obtain ⟨n, hn, rfl, HB, HFR⟩ := hrel
    obtain ⟨wx, hwx⟩ : ∃ wx : World, wx = wr := ⟨_, rfl⟩
    subst hwx
    by_cases hlt : n < ds.length
    · have hX := HX0.out.next HB.out
      have c1 := hX.c1
      obtain ⟨r, hr⟩ : ∃ r, r = rsF ds n := ⟨_, rfl⟩
      have hdim := HCX.out.1.dim n
      have hr2 : ds.getD n 0 = (r : Int) := by rw [hr]; simp only [rsF]; omega
      have hr8 : r ≤ 8 := by omega
      obtain ⟨c, hc⟩ : ∃ c, c = csF ds2 s n := ⟨_, rfl⟩
      have hc8 : c ≤ 8 := by rw [hc]; simp only [csF]; have := dimZ_8 HCY.out ((n : Int) + s); omega
      refine Sl.cases hX.cx.dims (fun _ _ hx _ => absurd hlt (by simp [hx])) (fun bd od capd hvd _ _ hcl => ?_)
      injection hvd with e1 e2 e3
      clear e2
      subst e1 e3
      obtain ⟨u, hu, hru⟩ := hcl n hlt
      have hu2 : wx.cell? ⟨bd, od + n, none⟩ = some (.int .i64 (r : Int)) := by rw [hu, hru, ← hr2, getD_of_lt _ hlt]
      obtain ⟨g, hg⟩ : ∃ g, g = gs n := ⟨_, rfl⟩
      have hrow : wx.cell? ⟨G, n, none⟩ = some (.slice (some ⟨g, 0, none⟩) r r) := by have := HFR.out.row.cell hlt; rwa [HFR.out.val n hlt, ← hr, ← hg] at this
      have HR := Lib.hid hr
      have HC := Lib.hid hc
      have HG := Lib.hid hg
      clear hu hru hcl hX hdim hr2 hr hc hg
      go_wp2_with fail
      refine (identityTable_any r _ (by omega)).mono ?_
      rintro e w3 ⟨rfl, hm3⟩
      have HB3 := Lib.hid (HB.out.trans (hm3.below.mono HB.out.size))
      have HF3 := Lib.hid (HFR.out.below hm3.below)
      have HU3 : Hid (Tb w3 wx.heap.size r r (fun j i => if i = j then 1 else 0)) := Lib.hid hm3.tb
      obtain ⟨gi, hgi⟩ : ∃ gi, gi = wx.heap.size := ⟨_, rfl⟩
      have hgg : g + 1 + r ≤ gi := by have := (HFR.out.tb n hlt).lt; rw [← HR.out, ← HG.out, ← hgi] at this; exact this
      have hg1 : w1.heap.size < g := by have := HFR.out.lo n hlt; rw [← HG.out] at this; omega
      rw [← hgi] at HU3 ⊢
      have HF0 := Lib.hid HFR.out
      clear hm3 hrow hu2 c1 hgi
      go_wp2
      go_loopw [34] (fun i wr => ∃ (i0 : Nat), i0 ≤ r ∧ i = .int .i64 i0 ∧ Hid (Below w1.heap.size w1 wr) ∧ Hid (FamT wr G ds.length ds.length f gs (rsF ds) (csF ds2 s) (spZ p fc V np n i0 0)) ∧ Hid (Tb wr gi r r (fun j i => if i = j then 1 else 0))) (fun i _ => r - (intOf i).toNat)
      case atStart => exact ⟨0, Nat.zero_le _, rfl, HB3, HF3, HU3⟩
      case round =>
        obtain ⟨i0, hi0, rfl, HB4, HF4, HU4⟩ := hrel
        obtain ⟨wy, hwy⟩ : ∃ wy : World, wy = wr := ⟨_, rfl⟩
        subst hwy
        by_cases hlt2 : i0 < r
        · have hurow := HU4.out.top.cell hlt2
          go_wp2
          clear hurow
          go_loopw [41] (fun i wr => ∃ (k : Nat), k ≤ np ∧ i = .int .i64 k ∧ Hid (Below w1.heap.size w1 wr) ∧ Hid (FamT wr G ds.length ds.length f gs (rsF ds) (csF ds2 s) (spZ p fc V np n i0 k)) ∧ Hid (Tb wr gi r r (fun j i => if i = j then 1 else 0))) (fun i _ => np - (intOf i).toNat)
          case atStart => exact ⟨0, Nat.zero_le _, rfl, HB4, HF4, HU4⟩
          case round =>
            obtain ⟨k, hk, rfl, HB5, HF5, HU5⟩ := hrel
            obtain ⟨wz, hwz⟩ : ∃ wz : World, wz = wr := ⟨_, rfl⟩
            subst hwz
            by_cases hlt3 : k < np
            · obtain ⟨mvv, hq0, hq1, hma, hgl0, hgl1⟩ := HP.out k hlt3
              have HBW : Hid (Below w.heap.size w wz) := Lib.hid (HB01.out.trans (HB5.out.mono HB01.out.size))
              have q0 := later HBW.out (Nat.le_refl _) hq0
              have q1 := later HBW.out (Nat.le_refl _) hq1
              have HMA := Lib.hid hma
              obtain ⟨bm, om, cm, hmv, _⟩ := hma
              subst hmv
              obtain ⟨wq, hwq⟩ : ∃ wq, wq = wz.alloc (.cells #[.int .i64 (fc k), .slice (some ⟨bm, om, none⟩) (gl k).length cm] 129) := ⟨_, rfl⟩
              have hbq : Below wz.heap.size wz wq := by rw [hwq]; exact below_alloc1 _ _
              have pa0 : wq.cell? ⟨wz.heap.size, 0, none⟩ = some (.int .i64 (fc k)) := by rw [hwq]; simp
              have pa1 : wq.cell? ⟨wz.heap.size, 1, none⟩ = some (.slice (some ⟨bm, om, none⟩) (gl k).length cm) := by rw [hwq]; simp
              have hsq : wq.heap.size = wz.heap.size + 1 := by rw [hwq]; simp
              have HFQ := Lib.hid (HF5.out.below hbq)
              have HUQ := Lib.hid (HU5.out.below hbq)
              have HTQ : Hid (Tb wq g r c (spZ p fc V np n i0 k n)) := Lib.hid (by have := HFQ.out.tb n hlt; rwa [← HG.out, ← HR.out, ← HC.out] at this)
              have HBQ : Hid (Below w1.heap.size w1 wq) := Lib.hid (HB5.out.trans (hbq.mono HB5.out.size))
              have HBWQ : Hid (Below w.heap.size w wq) := Lib.hid (HBW.out.trans (hbq.mono HBW.out.size))
              have hgz : gi + 1 + r ≤ wz.heap.size := HU5.out.lt
              have hxq := HX0.out.next HBQ.out
              have x0 := hxq.c0
              have hgw : w.heap.size < w1.heap.size := hs1w
              obtain ⟨b, hb⟩ : ∃ b, b = g + 1 + i0 := ⟨_, rfl⟩
              have HROW : Hid (wq.rowIs b 2 c (fun q => .int .i64 (spZ p fc V np n i0 k n i0 q))) := Lib.hid (by rw [hb]; exact HTQ.out.rows i0 hlt2)
              have hbb : g < b ∧ b < gi ∧ b < wz.heap.size := by omega
              have htop : wq.cell? ⟨g, 0 + i0, none⟩ = some (.slice (some ⟨b, 0, none⟩) c c) := by rw [hb, Nat.zero_add]; exact HTQ.out.top.cell hlt2
              obtain ⟨hbb1, hbb2, hbb3⟩ := hbb
              have HADD : Hid (Calls Try.prog 185 #[.agg #[.int .i64 (fc k), .slice (some ⟨bm, om, none⟩) (gl k).length cm], .int .i64 p, .slice (some ⟨b, 0, none⟩) c c, .agg #[.int .i64 (n : Int), .slice (some ⟨gi + 1 + i0, 0, none⟩) r r]] wq.drew (AddR b c (fun q => addMod p (fc k) (spZ p fc V np n i0 k n i0 q) ((V n i0 k).getD q 0)) wq.drew)) := Lib.hid (by
                obtain ⟨z, hz⟩ := HCH.out n hlt i0 (by rw [← HR.out]; exact hlt2) k hlt3
                obtain ⟨hv1, hv2⟩ := HV.out n hlt i0 (by rw [← HR.out]; exact hlt2) k hlt3
                rw [← HR.out] at hz
                rw [← HC.out] at hv1
                exact addTo_any p (fc k) n z b c _ (unitL r i0) (V n i0 k) (gl k) _ _ w wq.drew HBWQ.out.drew HROW.out.drew HMA.out ⟨hgl0, hgl1⟩ ((HUQ.out.below (Below.refl _ _).drew).row1 hlt2) hz (by omega) (HFC.out k hlt3) (fun q _ => by rw [spZ_at]; exact pS_bd (by omega) fc (V n i0) q k) hv1 hv2 (by omega))
              have S0 : Hid (But b wq wq.drew) := Lib.hid (But.refl _ _).drew
              have HSQ : Hid (∀ W, But b wq W → W.cell? ⟨wz.heap.size, 0, none⟩ = some (.int .i64 (fc k)) ∧ W.cell? ⟨wz.heap.size, 1, none⟩ = some (.slice (some ⟨bm, om, none⟩) (gl k).length cm) ∧ W.cell? ⟨w.heap.size, 0, none⟩ = some (.int .i64 p) ∧ W.cell? ⟨g, 0 + i0, none⟩ = some (.slice (some ⟨b, 0, none⟩) c c)) := Lib.hid (fun W h => ⟨by rw [h.cell (by omega) (by omega)]; exact pa0, by rw [h.cell (by omega) (by omega)]; exact pa1, by rw [h.cell (cell_lt x0) (by omega)]; exact x0, by rw [h.cell (cell_lt htop) (by omega)]; exact htop⟩)
              clear hq0 hq1 hxq x0 htop pa0 pa1 hbq
              go_upto_region 11 with fail
              rw [← hwq]
              refine wp_region_held_drew (S := fun W => Hid (But b wq W)) (by kernel_rfl) S0 (fun _ => ?_)
              refine held_take (i := 0) (v := .agg #[.int .i64 (fc k), .slice (some ⟨bm, om, none⟩) (gl k).length cm]) (some 45) rfl rfl (by kernel_rfl) (by kernel_rfl) (by kernel_rfl) (fun _ _ _ h => h) (yieldsIf_cell (by kernel_rfl) rfl (by kernel_rfl) (fun W h => hloadP W (HSQ.out W h.out).1 (HSQ.out W h.out).2.1)) S0 ?_
              refine held_take (i := 1) (v := .pointer (some ⟨w.heap.size, 0, none⟩)) (some 46) rfl rfl (by kernel_rfl) (by kernel_rfl) (by kernel_rfl) (fun _ _ _ h => h) (yieldsIf_run (by kernel_rfl) (fun W _ => by kernel_rfl)) S0 ?_
              refine held_take (i := 2) (v := .int .i64 p) (some 47) rfl rfl (by kernel_rfl) (by kernel_rfl) (by kernel_rfl) (fun _ _ _ h => h) (yieldsIf_cell (by kernel_rfl) rfl (by kernel_rfl) (fun W h => hload W (HSQ.out W h.out).2.2.1)) S0 ?_
              refine held_take (i := 3) (v := .slice (some ⟨g, 0, none⟩) r r) (some 48) rfl rfl (by kernel_rfl) (by kernel_rfl) (by kernel_rfl) (fun _ _ _ h => h) (yieldsIf_move (by kernel_rfl) rfl (by kernel_rfl)) S0 ?_
              refine held_take (i := 4) (v := .int .i64 (i0 : Int)) (some 49) rfl rfl (by kernel_rfl) (by kernel_rfl) (by kernel_rfl) (fun _ _ _ h => h) (yieldsIf_move (by kernel_rfl) rfl (by kernel_rfl)) S0 ?_
              refine held_take (i := 5) (v := .pointer (some ⟨g, 0 + i0, none⟩)) (some 50) rfl rfl (by kernel_rfl) (by kernel_rfl) (by kernel_rfl) (fun _ _ _ h => h) (yieldsIf_index (by kernel_rfl) rfl (by kernel_rfl) (by kernel_rfl) (hidxS g 0 r hlt2)) S0 ?_
              refine held_take (i := 6) (v := .slice (some ⟨b, 0, none⟩) c c) (some 51) rfl rfl (by kernel_rfl) (by kernel_rfl) (by kernel_rfl) (fun _ _ _ h => h) (yieldsIf_cell (by kernel_rfl) rfl (by kernel_rfl) (fun W h => hloadS W (HSQ.out W h.out).2.2.2)) S0 ?_
              refine held_take (i := 7) (v := .int .i64 (n : Int)) (some 52) rfl rfl (by kernel_rfl) (by kernel_rfl) (by kernel_rfl) (fun _ _ _ h => h) (yieldsIf_move (by kernel_rfl) rfl (by kernel_rfl)) S0 ?_
              refine held_take (i := 8) (v := .slice (some ⟨gi + 1 + i0, 0, none⟩) r r) (some 53) rfl rfl (by kernel_rfl) (by kernel_rfl) (by kernel_rfl) (fun _ _ _ h => h) (yieldsIf_move (by kernel_rfl) rfl (by kernel_rfl)) S0 ?_
              refine held_take (i := 9) (v := .agg #[.int .i64 (n : Int), .slice (some ⟨gi + 1 + i0, 0, none⟩) r r]) (some 54) rfl rfl (by kernel_rfl) (by kernel_rfl) (by kernel_rfl) (fun _ _ _ h => h) (yieldsIf_run (by kernel_rfl) (fun W _ => by kernel_rfl)) S0 ?_
              refine held_enter (i := 10) (some 55) (f := 185) (args := #[.agg #[.int .i64 (fc k), .slice (some ⟨bm, om, none⟩) (gl k).length cm], .int .i64 p, .slice (some ⟨b, 0, none⟩) c c, .agg #[.int .i64 (n : Int), .slice (some ⟨gi + 1 + i0, 0, none⟩) r r]]) (by kernel_rfl) rfl rfl rfl (by kernel_rfl) HADD.out ?_ (fun c w' h => by cases h.1) (fun w' h => by cases h.1)
              rintro e5 w5 ⟨he5, hb5, hr5⟩
              injection he5 with he5
              subst he5
              have HBU5 : Hid (But b wq w5) := Lib.hid (S0.out.trans hb5)
              have HFN : Hid (FamT w5 G ds.length ds.length f gs (rsF ds) (csF ds2 s) (spZ p fc V np n i0 (k + 1))) := Lib.hid ((HFQ.out.put (n := n) (i := i0) hlt (by rw [← HR.out]; exact hlt2) (y := fun q => addMod p (fc k) (spZ p fc V np n i0 k n i0 q) ((V n i0 k).getD q 0)) (by rw [← HG.out, ← hb]; exact HBU5.out) (by rw [← HG.out, ← hb, ← HC.out]; exact hr5)).congr (fun n2 _ j _ q _ => spZ_put p fc V np n i0 k n2 j q))
              have HUN : Hid (Tb w5 gi r r (fun j i => if i = j then 1 else 0)) := Lib.hid (HUQ.out.but HBU5.out (Or.inl hbb2))
              have HBN : Hid (Below w1.heap.size w1 w5) := Lib.hid (HBQ.out.trans (HBU5.out.below HBQ.out.size (by omega)))
              refine ⟨HBU5, ?_⟩
              refine wpAnyH_done (by kernel_rfl) ?_ _
              simp only [Act.put, List.setIfInBounds_toArray, List.set_cons_zero, List.set_cons_succ]
              clear hb5 hr5 S0 HSQ HADD hwq hb hbb1 hbb2 hbb3 hgz q0 q1
              go_wp2
              go_roundw
              case rel => exact ⟨k + 1, by omega, by go_num, HBN, HFN, HUN⟩
              case measure => simp [intOf]; omega
            · have hke : k = np := by omega
              have HFN : Hid (FamT wz G ds.length ds.length f gs (rsF ds) (csF ds2 s) (spZ p fc V np n (i0 + 1) 0)) := Lib.hid (HF5.out.congr (fun n2 _ j _ q _ => by rw [hke]; exact spZ_row p fc V np n i0 n2 j q))
              clear hke
              go_wp2
              go_roundw
              case rel => exact ⟨i0 + 1, by omega, by go_num, HB5, HFN, HU5⟩
              case measure => simp [intOf]; omega
        · have hie : i0 = r := by omega
          have HFN : Hid (FamT wy G ds.length ds.length f gs (rsF ds) (csF ds2 s) (spZ p fc V np (n + 1) 0 0)) := Lib.hid (HF4.out.congr (fun n2 _ j hj q _ => by rw [hie]; exact spZ_tab p fc V np n r n2 j q (fun e => by rw [HR.out, ← e]; exact hj)))
          clear hie
          go_wp2
          go_roundw
          case rel => exact ⟨n + 1, by omega, by go_num, HB4, HFN⟩
          case measure => simp [intOf]; omega
    · have hne : n = ds.length := by omega
      have HXX := Lib.hid (HX0.out.next HB.out)
      have HRW : Hid (Rw3 w.heap.size wx.heap.size wx (.slice (some ⟨G, 0, none⟩) ds.length ds.length) (famL ds.length (rsF ds) (csF ds2 s) fun n i q => pS p fc (V n i) q np)) := Lib.hid (by
        have h1 := HFR.out.congr (Z' := fun n i q => pS p fc (V n i) q np) (fun n2 hn2 j _ q _ => spZ_all p fc V np n n2 j q (by omega))
        refine h1.rw3 (by omega) (by omega) (fun j hj => ⟨?_, ?_⟩)
        · simp only [rsF]; have := HCX.out.1.dim j; omega
        · simp only [csF]; have := dimZ_8 HCY.out ((j : Int) + s); omega)
      clear hne
      go_wp2
      go_ret
      exact ⟨_, rfl, HRW.out, HXX.out.below⟩
end Go.Proofs.Ytpdkfidmmjlmnab
