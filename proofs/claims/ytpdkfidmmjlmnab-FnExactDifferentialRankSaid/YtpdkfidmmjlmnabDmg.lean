/-
  Differentials of vectors: impl.differentialsOf by its contract.
-/
import Derived.Test.YtpdkfidmmjlmnabLim
import Derived.Test.YtpdkfidmmjlmnabMeM
namespace Go.Proofs.Ytpdkfidmmjlmnab
open Go.RowKit

/-- The differential of a vector, by the table. -/
def dimg (p : Int) (d : Nat) (t : List (List Int)) (u : Lin.V) : Lin.V := img p d (rowsV (t.map ofL)) u
theorem dimg_apT {p : Int} {d c : Nat} {t : List (List Int)} {u : Lin.V} (hp : IsP p) (htl : t.length = d) (htr : ∀ r ∈ t, RowOk p (c : Int) r) (hu : Lin.Md p u) : ApOk p c (toL d u) t ∧ apT p c (toL d u) t = toL c (dimg p d t u) := by
  have hrows : (t.map ofL).map (toL c) = t := rows_toL' (fun r hr => by have := (htr r hr).1; omega)
  have ok : ApOk p c (toL d u) t := ⟨hp, by rw [toL_length, htl]; exact Nat.le_refl _, fun x hx => by
    obtain ⟨i, _, rfl⟩ := List.mem_map.1 hx
    have := hu i
    omega, htr⟩
  refine ⟨ok, ?_⟩
  have h := apT_img (p := p) (n := c) (a := d) (E := t.map ofL) (s := u) (by rw [hrows]; exact ok) (by rw [List.length_map, htl])
  rw [hrows] at h
  exact h
theorem dimg_md {p : Int} (hp : 0 < p) (d : Nat) (t : List (List Int)) (u : Lin.V) : Lin.Md p (dimg p d t u) := img_md hp _ _ _
theorem dimg_wd {p : Int} {d c : Nat} {t : List (List Int)} (htl : t.length = d) (htr : ∀ r ∈ t, RowOk p (c : Int) r) (u : Lin.V) : Lin.Wd c (dimg p d t u) := fun j hj => by
  simp only [dimg, img]
  rw [Lin.dot_nil (fun i hi => by
    simp only [Lin.col]
    rw [rowsV_at (by rw [List.length_map, htl]; exact hi), List.getElem_map]
    have hr := htr _ (List.getElem_mem (show i < t.length by omega))
    have : ofL t[i] j = 0 := ofL_wd (n := c) (by have := hr.1; omega) j hj
    rw [this, Int.zero_mul])]
  rfl
theorem at_l1 {w : World} {b d : Nat} {u : Lin.V} (h : At w b 0 u) (hd : d ≤ 40) : L1 0 w (.slice (some ⟨b, 0, none⟩) d 40) (toL d u) := by
  by_cases h0 : d = 0
  · subst h0
    exact Or.inl ⟨rfl, _, _, rfl⟩
  · refine Or.inr ⟨b, 0, 40, by rw [toL_length], Nat.zero_le _, by rw [toL_length]; omega, fun k hk => ?_⟩
    have hk' : k < d := by rw [toL_length] at hk; exact hk
    exact ⟨_, h.cell (by omega), by rw [toL_get]; rfl⟩
theorem hidxVs (b : Nat) {k n : Nat} (cap : Nat) (hk : k < n) (w : World) : (Instr.indexAt 108 (.slice (some ⟨b, 0, none⟩) n cap) (.int .i64 k)).run Try.prog w = .ok (.pointer (some ⟨b, k * 40, none⟩)) w := by
  have h2 : (0 : Int) ≤ (k : Int) := by omega
  have h3 : (k : Int) < (n : Int) := by omega
  go_simp
section
variable {P : Program} {ops : Array Oper} {S : World → Prop}
theorem yieldsIf_slice {o : Oper} {a : Act} {x y : Operand} {u i v : Value} {t : TypeId} (hg : o.guard = none) (ho : o.op = .slice t x none (some y) none) (hx : a.eval x = u) (hy : a.eval y = i) (hrun : ∀ w, (Instr.sliceAt t u none (some i) none).run P w = .ok v w) : YieldsIf P ops S o v a :=
  Or.inl ⟨by unfold Region.wanted; rw [hg], fun w _ => by
    unfold execOp
    simp only [ho, Option.map_none, Option.map_some, hx, hy, Sem.run_bind, hrun w, Result.andThen_ok]
    rfl⟩
end

set_option maxHeartbeats 1600000 in
set_option maxRecDepth 100000 in
theorem differentialsOf_0 (p : Int) (sl : Value) (L : List Lin.V) (dv mv : Value) (ds : List Int) (ms : List (List (List Int))) (w : World) (h : Cx 0 w dv mv ds ms) (hL : Vs 0 w sl L) (hl : L.length ≤ 1000) :
    Calls Try.prog 161 #[.agg #[.int .i64 p, dv, mv], .int .i64 0, sl] w (VsR (fun M => M = List.replicate L.length Lin.zv) w) := by
  have HX0 := Lib.hid (Bx.start (p := p) 31 h)
  obtain ⟨ac, cc, rfl⟩ := Vs.shape hL
  obtain ⟨w1, hw1⟩ : ∃ w1, w1 = w.alloc (.cells #[.int .i64 p, dv, mv] 31) := ⟨_, rfl⟩
  have hs01 : w1.heap.size = w.heap.size + 1 := by rw [hw1]; simp
  have HS01 := Lib.hid hs01
  rw [← hw1] at HX0
  clear h hL hs01
  go_enter Try.func161, Try.ntmps161
  go_upto_region 1 with fail
  rw [← hw1]
  clear hw1
  go_wp2_with (with_reducible refine wpList_makeV rfl (some 12) rfl (.tmp 11) rfl L.length rfl (by omega) ?_; intro W1 hx1 hb1; have HX1 := Lib.hid hx1; have HB1 := Lib.hid hb1; clear hx1 hb1)
  go_ret
  exact ⟨_, List.replicate L.length Lin.zv, rfl, HX0.out.below.trans (HB1.out.mono (by have := HS01.out; omega)), by
    have h := HX1.out.own
    exact ⟨by simpa using h.1, by
      have h2 := h.2
      rw [List.length_replicate] at h2 ⊢
      exact h2.imp id (fun ⟨g, cap, cur, a1, a2, a3⟩ => ⟨g, cap, cur, a1, by have := HS01.out; omega, a3⟩)⟩, rfl⟩

set_option maxHeartbeats 1600000 in
set_option maxRecDepth 100000 in
theorem differentialsOf_nil (p n : Int) (sl : Value) (dv mv : Value) (ds : List Int) (ms : List (List (List Int))) (w : World) (h : Cx 0 w dv mv ds ms) (hL : Vs 0 w sl []) (hn : n ≠ 0) :
    Calls Try.prog 161 #[.agg #[.int .i64 p, dv, mv], .int .i64 n, sl] w (VsR (fun M => M = []) w) := by
  have HX0 := Lib.hid (Bx.start (p := p) 31 h)
  obtain ⟨ac, cc, rfl⟩ := Vs.shape hL
  obtain ⟨w1, hw1⟩ : ∃ w1, w1 = w.alloc (.cells #[.int .i64 p, dv, mv] 31) := ⟨_, rfl⟩
  have hs01 : w1.heap.size = w.heap.size + 1 := by rw [hw1]; simp
  have HS01 := Lib.hid hs01
  rw [← hw1] at HX0
  have hne : (n == 0) = false := by simp [hn]
  clear h hL hs01 hn
  simp only [List.length_nil]
  go_enter Try.func161, Try.ntmps161
  go_upto_region 1 with fail
  rw [← hw1]
  clear hw1
  go_wp2_with (with_reducible refine wpList_makeV rfl (some 12) rfl (.tmp 11) rfl 0 rfl (by omega) ?_; intro W1 hx1 hb1; have HX1 := Lib.hid hx1; have HB1 := Lib.hid hb1; clear hx1 hb1)
  go_wp2
  refine wp_loop_rounds 1 ?_
  rw [rounds_succ]
  go_wp2
  go_ret
  exact ⟨_, [], rfl, HX0.out.below.trans (HB1.out.mono (by have := HS01.out; omega)), by
    have h := HX1.out.own
    exact ⟨rfl, h.2.imp id (fun ⟨g, cap, cur, a1, a2, a3⟩ => ⟨g, cap, cur, a1, by have := HS01.out; omega, a3⟩)⟩, rfl⟩

set_option maxHeartbeats 6400000 in
set_option maxRecDepth 100000 in
theorem differentialsOf_s (p : Int) (n : Nat) (sl : Value) (L : List Lin.V) (dv mv : Value) (ds : List Int) (ms : List (List (List Int))) (w : World) (h : Cx 0 w dv mv ds ms) (hcx : IsCx p ds ms) (hn : n < ds.length) (hn0 : 0 < n)
    (hL : Vs 0 w sl L) (hLm : ∀ u ∈ L, Lin.Md p u) (hLw : ∀ u ∈ L, Lin.Wd (dimN ds (n : Int)) u) (hl : L.length ≤ 1000) :
    Calls Try.prog 161 #[.agg #[.int .i64 p, dv, mv], .int .i64 n, sl] w (VsR (fun M => M = L.map (dimg p (dimN ds (n : Int)) (cycT ds ms n))) w) := by
  have HX0 := Lib.hid (Bx.start (p := p) 31 h)
  have HCX := Lib.hid hcx
  have HLM := Lib.hid hLm
  have HL := Lib.hid hL
  have hl6 := hcx.1.len1
  have hml := hcx.1.mlen
  obtain ⟨k0, hk0⟩ : ∃ k0, k0 + 1 = n := ⟨n - 1, by omega⟩
  have hkm : k0 < ms.length := by omega
  have hkd : k0 < ds.length := by omega
  refine Sl.cases HX0.out.cx.dims (fun _ _ hx _ => absurd hn (by simp [hx])) (fun bd od capd hvd _ _ _ => ?_)
  subst hvd
  refine Sl.cases HX0.out.cx.maps (fun _ _ hx _ => absurd hkm (by simp [hx])) (fun bm om capm hvm _ _ _ => ?_)
  subst hvm
  obtain ⟨ac, cc, hvs⟩ := Vs.shape hL
  subst hvs
  obtain ⟨d, hd⟩ : ∃ d, d = dimN ds (n : Int) := ⟨_, rfl⟩
  have hd8 : d ≤ 8 := by rw [hd]; exact (dimN_le8 hcx n).1
  obtain ⟨c, hc⟩ : ∃ c, c = dimN ds (k0 : Int) := ⟨_, rfl⟩
  have hc8 : c ≤ 8 := by rw [hc]; exact (dimN_le8 hcx k0).1
  obtain ⟨t, ht⟩ : ∃ t, t = cycT ds ms n := ⟨_, rfl⟩
  have hok := cyc_ok hcx hn
  have HCM : Hid (cycM ds n = c) := Lib.hid (by rw [hc, ← hk0]; simp [cycM])
  rw [← ht, ← hd, HCM.out] at hok
  have HTL := Lib.hid hok.1
  have HTR := Lib.hid hok.2.1
  rw [← hd, ← ht]
  have HLW : Hid (∀ u ∈ L, Lin.Wd d u) := Lib.hid (by rw [hd]; exact hLw)
  have HTT : Hid (t = tabN ms k0) := Lib.hid (by rw [ht, ← hk0]; exact cycT_succ hcx (by omega))
  obtain ⟨w1, hw1⟩ : ∃ w1, w1 = w.alloc (.cells #[.int .i64 p, .slice (some ⟨bd, od, none⟩) ds.length capd, .slice (some ⟨bm, om, none⟩) ms.length capm] 31) := ⟨_, rfl⟩
  have hs01 : w1.heap.size = w.heap.size + 1 := by rw [hw1]; simp
  have HS01 := Lib.hid hs01
  rw [← hw1] at HX0
  have HNX : Hid (∀ W, Below w1.heap.size w1 W → Bx w W w.heap.size p (.slice (some ⟨bd, od, none⟩) ds.length capd) (.slice (some ⟨bm, om, none⟩) ms.length capm) ds ms) := Lib.hid (fun W h => HX0.out.next h)
  have HDQ : Hid (∀ W, Below w1.heap.size w1 W → W.cell? ⟨bd, od + n, none⟩ = some (.int .i64 (d : Int))) := Lib.hid (fun W h => by
    obtain ⟨ud, hud, hrd⟩ := Sl.at (HNX.out W h).cx.dims hn
    rw [hud, hrd, ← getD_of_lt 0 hn, (dimN_le8 HCX.out n).2, hd])
  have HDK : Hid (∀ W, Below w1.heap.size w1 W → W.cell? ⟨bd, od + k0, none⟩ = some (.int .i64 (c : Int))) := Lib.hid (fun W h => by
    obtain ⟨ud, hud, hrd⟩ := Sl.at (HNX.out W h).cx.dims hkd
    rw [hud, hrd, ← getD_of_lt 0 hkd, (dimN_le8 HCX.out k0).2, hc])
  have HTB : Hid (∃ um, L2 0 w1 um t ∧ ∀ W, Below w1.heap.size w1 W → W.cell? ⟨bm, om + k0, none⟩ = some um) := Lib.hid (by
    obtain ⟨um, hum, hrm⟩ := Sl.at HX0.out.cx.maps hkm
    exact ⟨um, by rw [HTT.out]; unfold tabN; rw [getD_of_lt _ hkm]; exact hrm, fun W h => later h (Nat.le_refl _) hum⟩)
  have HL1 : Hid (Vs 0 w1 (.slice ac L.length cc) L) := Lib.hid (HL.out.below (by rw [hw1]; exact below_alloc1 _ _))
  obtain ⟨TS, hTS⟩ : ∃ TS, TS = L.map (dimg p d t) := ⟨_, rfl⟩
  have HTS := Lib.hid hTS
  have HTSL : Hid (TS.length = L.length) := Lib.hid (by rw [hTS, List.length_map])
  rw [← hTS]
  have hne : ((n : Int) == 0) = false := by simp; omega
  have hsub := fun w => hsubN (k := k0) (n := n) hk0 (by omega) w
  have HSUB := Lib.hid hsub
  clear h hcx hLm hLw hL hml hk0 hd hc ht hok hTS hs01 hsub
  go_enter Try.func161, Try.ntmps161
  go_upto_region 1 with fail
  rw [← hw1]
  clear hw1
  go_wp2_with (with_reducible refine wpList_makeV rfl (some 12) rfl (.tmp 11) rfl L.length rfl (by omega) ?_; intro W1 hx1 hb1; have HX1 := Lib.hid hx1; have HB1 := Lib.hid hb1; clear hx1 hb1)
  go_wp2
  go_loopw [8, 9, 18] (fun _ _ i wr => ∃ (k : Nat), k ≤ L.length ∧ i = .int .i64 k ∧ Hid (Below w1.heap.size w1 wr) ∧ Hid (Ox w1.heap.size wr w1.heap.size L.length (filled TS k))) (fun _ _ i _ => L.length - (intOf i).toNat)
  case atStart => exact ⟨0, Nat.zero_le _, rfl, HB1, Lib.hid (by have := HX1.out; rw [filled, List.take_zero, HTSL.out, Nat.sub_zero]; exact this)⟩
  case round =>
    clear HX1 HB1
    obtain ⟨k, hk, rfl, HB, HX⟩ := hrel
    obtain ⟨wx, hwx⟩ : ∃ wx : World, wx = wr := ⟨_, rfl⟩
    subst hwx
    have hsx : w1.heap.size ≤ wx.heap.size := HB.out.size
    have hgx : w1.heap.size < wx.heap.size := HX.out.lt
    by_cases hlt : k < L.length
    · refine Vs.cases (HL1.out.below HB.out) (fun _ _ hx _ => absurd hlt (by simp [hx])) (fun b o cap2 hv _ _ hc => ?_)
      obtain ⟨rfl, rfl⟩ : ac = some ⟨b, o, none⟩ ∧ cc = cap2 := by simpa using hv
      obtain ⟨u, hu⟩ : ∃ u, u = L[k] := ⟨_, rfl⟩
      have HVA : Hid (At wx b (o + k * 40) u) := Lib.hid (by rw [hu]; exact hc k hlt)
      have HI2V := Lib.hid (Try.infoVl u)
      have HIS : Hid ((Try.prog.info? 161).map (·.size) = some (vl u).toArray.size) := Lib.hid (by have := HI2V.out; simpa using this)
      have HUM : Hid (Lin.Md p u) := Lib.hid (by rw [hu]; exact HLM.out _ (List.getElem_mem hlt))
      have HUW : Hid (Lin.Wd d u) := Lib.hid (by rw [hu]; exact HLW.out _ (List.getElem_mem hlt))
      have hkT : k < TS.length := by rw [HTSL.out]; exact hlt
      have HTK : Hid (TS[k] = dimg p d t u) := Lib.hid (by
        have h1 := HTS.out
        subst h1
        rw [List.getElem_map, hu])
      have HAP := Lib.hid (dimg_apT (u := u) HCX.out.1.prime HTL.out HTR.out HUM.out)
      clear hv hc hu
      go_upto_region 7 with (first | (with_reducible refine wpList_load_mid rfl 161 (.tmp 21) rfl b (o + k * 40) rfl (vl u) _ HVA.out.range Try.underlyingV rfl HI2V.out ?_) | (with_reducible refine wpList_allocV rfl (some 9) rfl rfl ?_; intro W2 hn2; have HN2 := Lib.hid hn2; have HT2 : Hid (W2.there wx.heap.size 0 (vl u).toArray.size) := (Lib.hid (by have := hn2.there; simpa [vl_length] using this)); clear hn2) | (with_reducible refine wpList_store_mid rfl 161 (.tmp 9) (.tmp 22) rfl wx.heap.size 0 (vl u).toArray rfl rfl HT2.out HIS.out (vl_all _) ?_))
      refine forget_wp (fun W => Hid (At W wx.heap.size 0 u ∧ Below wx.heap.size wx W)) (Lib.hid ?_) ?_
      · have hp2 := HN2.out.put u
        exact ⟨hp2.2.1, hp2.1⟩
      intro W3 HS3
      clear HN2 HT2 HVA HIS
      simp only [Act.put]
      have HB3 := Lib.hid (HB.out.trans (HS3.out.2.mono hsx))
      have HX3 := Lib.hid (HX.out.below HS3.out.2)
      obtain ⟨um, HRM, HTB2⟩ := HTB.out
      have hsub := HSUB.out
      have hsl := hsliceV wx.heap.size d (by omega)
      refine wp_region_last (fun W => Below w1.heap.size w1 W) 25 (by kernel_rfl) rfl (by kernel_rfl) ?_
      have S0 : Below w1.heap.size w1 W3.drew := HB3.out.drew
      have HAD : Hid (At W3.drew wx.heap.size 0 u) := Lib.hid (HS3.out.1.later (Below.refl _ _).drew)
      have HXD := Lib.hid (HX3.out.below (Below.refl W3.heap.size W3).drew)
      have hsd : wx.heap.size < W3.drew.heap.size := HAD.out.lt
      change wpAnyH _ _ _ _ _ _ _ _ W3.drew
      clear HX3 HS3 HB3
      generalize W3.drew = wd at *
      refine held_take (i := 0) (v := .slice (some ⟨w1.heap.size, 0, none⟩) L.length L.length) (some 23) rfl rfl (by kernel_rfl) (by kernel_rfl) (by kernel_rfl) (fun _ _ _ h => h) (yieldsIf_move (by kernel_rfl) rfl (by kernel_rfl)) S0 ?_
      refine held_take (i := 1) (v := .int .i64 (k : Int)) (some 24) rfl rfl (by kernel_rfl) (by kernel_rfl) (by kernel_rfl) (fun _ _ _ h => h) (yieldsIf_move (by kernel_rfl) rfl (by kernel_rfl)) S0 ?_
      refine held_take (i := 2) (v := .pointer (some ⟨w.heap.size, 0, none⟩)) (some 25) rfl rfl (by kernel_rfl) (by kernel_rfl) (by kernel_rfl) (fun _ _ _ h => h) (yieldsIf_run (by kernel_rfl) (fun W _ => by kernel_rfl)) S0 ?_
      refine held_take (i := 3) (v := .int .i64 p) (some 26) rfl rfl (by kernel_rfl) (by kernel_rfl) (by kernel_rfl) (fun _ _ _ h => h) (yieldsIf_cell (by kernel_rfl) rfl (by kernel_rfl) (fun W h => hload W ((HNX.out W h).c0))) S0 ?_
      refine held_take (i := 4) (v := .pointer (some ⟨w.heap.size, 1, none⟩)) (some 27) rfl rfl (by kernel_rfl) (by kernel_rfl) (by kernel_rfl) (fun _ _ _ h => h) (yieldsIf_run (by kernel_rfl) (fun W _ => by kernel_rfl)) S0 ?_
      refine held_take (i := 5) (v := .slice (some ⟨bd, od, none⟩) ds.length capd) (some 28) rfl rfl (by kernel_rfl) (by kernel_rfl) (by kernel_rfl) (fun _ _ _ h => h) (yieldsIf_cell (by kernel_rfl) rfl (by kernel_rfl) (fun W h => hloadS W ((HNX.out W h).c1))) S0 ?_
      refine held_take (i := 6) (v := .int .i64 (n : Int)) (some 29) rfl rfl (by kernel_rfl) (by kernel_rfl) (by kernel_rfl) (fun _ _ _ h => h) (yieldsIf_move (by kernel_rfl) rfl (by kernel_rfl)) S0 ?_
      refine held_take (i := 7) (v := .pointer (some ⟨bd, od + n, none⟩)) (some 30) rfl rfl (by kernel_rfl) (by kernel_rfl) (by kernel_rfl) (fun _ _ _ h => h) (yieldsIf_index (by kernel_rfl) rfl (by kernel_rfl) (by kernel_rfl) (hidxI bd od capd hn)) S0 ?_
      refine held_take (i := 8) (v := .int .i64 (d : Int)) (some 31) rfl rfl (by kernel_rfl) (by kernel_rfl) (by kernel_rfl) (fun _ _ _ h => h) (yieldsIf_cell (by kernel_rfl) rfl (by kernel_rfl) (fun W h => hload W (HDQ.out W h))) S0 ?_
      refine held_take (i := 9) (v := .slice (some ⟨wx.heap.size, 0, none⟩) d 40) (some 32) rfl rfl (by kernel_rfl) (by kernel_rfl) (by kernel_rfl) (fun _ _ _ h => h) (yieldsIf_slice (by kernel_rfl) rfl (by kernel_rfl) (by kernel_rfl) hsl) S0 ?_
      refine held_take (i := 10) (v := .pointer (some ⟨w.heap.size, 2, none⟩)) (some 33) rfl rfl (by kernel_rfl) (by kernel_rfl) (by kernel_rfl) (fun _ _ _ h => h) (yieldsIf_run (by kernel_rfl) (fun W _ => by kernel_rfl)) S0 ?_
      refine held_take (i := 11) (v := .slice (some ⟨bm, om, none⟩) ms.length capm) (some 34) rfl rfl (by kernel_rfl) (by kernel_rfl) (by kernel_rfl) (fun _ _ _ h => h) (yieldsIf_cell (by kernel_rfl) rfl (by kernel_rfl) (fun W h => hloadU W ((HNX.out W h).c2))) S0 ?_
      refine held_take (i := 12) (v := .int .i64 (n : Int)) (some 35) rfl rfl (by kernel_rfl) (by kernel_rfl) (by kernel_rfl) (fun _ _ _ h => h) (yieldsIf_move (by kernel_rfl) rfl (by kernel_rfl)) S0 ?_
      refine held_take (i := 13) (v := .int .i64 (k0 : Int)) (some 36) rfl rfl (by kernel_rfl) (by kernel_rfl) (by kernel_rfl) (fun _ _ _ h => h) (yieldsIf_bin (by kernel_rfl) rfl (by kernel_rfl) (by kernel_rfl) (fun _ => rfl) hsub) S0 ?_
      refine held_take (i := 14) (v := .pointer (some ⟨bm, om + k0, none⟩)) (some 37) rfl rfl (by kernel_rfl) (by kernel_rfl) (by kernel_rfl) (fun _ _ _ h => h) (yieldsIf_index (by kernel_rfl) rfl (by kernel_rfl) (by kernel_rfl) (hidxU bm om capm hkm)) S0 ?_
      refine held_take (i := 15) (v := um) (some 38) rfl rfl (by kernel_rfl) (by kernel_rfl) (by kernel_rfl) (fun _ _ _ h => h) (yieldsIf_cell (by kernel_rfl) rfl (by kernel_rfl) (fun W h => hloadT W (HTB2 W h))) S0 ?_
      refine held_take (i := 16) (v := .pointer (some ⟨w.heap.size, 1, none⟩)) (some 39) rfl rfl (by kernel_rfl) (by kernel_rfl) (by kernel_rfl) (fun _ _ _ h => h) (yieldsIf_run (by kernel_rfl) (fun W _ => by kernel_rfl)) S0 ?_
      refine held_take (i := 17) (v := .slice (some ⟨bd, od, none⟩) ds.length capd) (some 40) rfl rfl (by kernel_rfl) (by kernel_rfl) (by kernel_rfl) (fun _ _ _ h => h) (yieldsIf_cell (by kernel_rfl) rfl (by kernel_rfl) (fun W h => hloadS W ((HNX.out W h).c1))) S0 ?_
      refine held_take (i := 18) (v := .int .i64 (n : Int)) (some 41) rfl rfl (by kernel_rfl) (by kernel_rfl) (by kernel_rfl) (fun _ _ _ h => h) (yieldsIf_move (by kernel_rfl) rfl (by kernel_rfl)) S0 ?_
      refine held_take (i := 19) (v := .int .i64 (k0 : Int)) (some 42) rfl rfl (by kernel_rfl) (by kernel_rfl) (by kernel_rfl) (fun _ _ _ h => h) (yieldsIf_bin (by kernel_rfl) rfl (by kernel_rfl) (by kernel_rfl) (fun _ => rfl) hsub) S0 ?_
      refine held_take (i := 20) (v := .pointer (some ⟨bd, od + k0, none⟩)) (some 43) rfl rfl (by kernel_rfl) (by kernel_rfl) (by kernel_rfl) (fun _ _ _ h => h) (yieldsIf_index (by kernel_rfl) rfl (by kernel_rfl) (by kernel_rfl) (hidxI bd od capd hkd)) S0 ?_
      refine held_take (i := 21) (v := .int .i64 (c : Int)) (some 44) rfl rfl (by kernel_rfl) (by kernel_rfl) (by kernel_rfl) (fun _ _ _ h => h) (yieldsIf_cell (by kernel_rfl) rfl (by kernel_rfl) (fun W h => hload W (HDK.out W h))) S0 ?_
      refine held_enter (i := 22) (some 45) (f := 180) (args := #[.int .i64 p, .slice (some ⟨wx.heap.size, 0, none⟩) d 40, um, .int .i64 (c : Int)]) (by kernel_rfl) rfl rfl rfl (by kernel_rfl) (applyTable_any p c _ um (toL d u) t wd HAP.out.1 (at_l1 HAD.out (by omega)) (HRM.below S0) (by rw [toL_length]; omega) (by omega)) ?_ (fun c w' h => by obtain ⟨_, h, _⟩ := h; cases h) (fun w' h => by obtain ⟨_, h, _⟩ := h; cases h)
      rintro e4 W4 ⟨u4, he4, hl4, hb4⟩
      injection he4 with he4
      subst he4
      rw [HAP.out.2] at hl4
      have S1 : Below w1.heap.size w1 W4 := S0.trans (hb4.mono S0.size)
      have HX4 := Lib.hid (HXD.out.below hb4)
      have HL4 := Lib.hid (hl4.lower (Nat.zero_le _))
      refine ⟨S1, ?_⟩
      refine held_enter (i := 23) (some 46) (f := 171) (args := #[e4]) (by kernel_rfl) rfl rfl rfl (by kernel_rfl) (vectorOf_any e4 (toL c (dimg p d t u)) W4 HL4.out (by rw [toL_length]; omega)) ?_ (fun c w' h => by cases h.1) (fun w' h => by cases h.1)
      rw [ints_ofL (by rw [toL_length]; omega), ofL_toL (dimg_wd HTL.out HTR.out u)]
      rintro e5 W5 ⟨he5, hb5⟩
      injection he5 with he5
      subst he5
      have S2 : Below w1.heap.size w1 W5 := S1.trans (hb5.mono S1.size)
      have HX5 := Lib.hid (HX4.out.below hb5)
      refine ⟨S2, ?_⟩
      refine held_take (i := 24) (v := .pointer (some ⟨w1.heap.size, k * 40, none⟩)) (some 47) rfl rfl (by kernel_rfl) (by kernel_rfl) (by kernel_rfl) (fun _ _ _ h => h) (yieldsIf_index (by kernel_rfl) rfl (by kernel_rfl) (by kernel_rfl) (hidxVs w1.heap.size L.length hlt)) S2 ?_
      refine held_none (i := 25) (v := .bool false) rfl rfl (by kernel_rfl) (by kernel_rfl) (by kernel_rfl) (fun _ _ _ h => h) (yieldsIf_move (by kernel_rfl) rfl (by kernel_rfl)) S2 ?_
      have HP5 := Lib.hid (HX5.out.put (k := k) (by rw [filled_length]; exact hkT) (dimg p d t u))
      have HIr := Lib.hid (Try.infoVl (dimg p d t u))
      have HI2 : Hid ((Try.prog.info? 161).map (·.size) = some (vl (dimg p d t u)).toArray.size) := Lib.hid (by have := HIr.out; simpa using this)
      have HTH : Hid (W5.there w1.heap.size (k * 40) (vl (dimg p d t u)).toArray.size) := Lib.hid (by have := HP5.out.2; simpa [vl_length] using this)
      have HX6 : Hid (Ox w1.heap.size (W5.setCells w1.heap.size (k * 40) (vl (dimg p d t u))) w1.heap.size L.length (filled TS (k + 1))) := Lib.hid (by
        have h := HP5.out.1
        rw [← HTK.out, filled_set hkT] at h
        rw [← HTK.out]
        exact h)
      have HB6 : Hid (Below w1.heap.size w1 (W5.setCells w1.heap.size (k * 40) (vl (dimg p d t u)))) := Lib.hid (below_setCells _ (Nat.le_refl _) _ _ _ S2)
      refine wpAnyH_done (by kernel_rfl) (lastQ_store rfl (by kernel_rfl) (by kernel_rfl) 161 (.tmp 47) (.tmp 46) (by kernel_rfl) w1.heap.size (k * 40) (vl (dimg p d t u)).toArray (by kernel_rfl) (by kernel_rfl) HTH.out HI2.out (vl_all _) ?_) _
      simp only [Act.put, List.setIfInBounds_toArray, List.set_cons_zero, List.set_cons_succ]
      obtain ⟨W6, hW6⟩ : ∃ W6, W6 = W5.setCells w1.heap.size (k * 40) (vl (dimg p d t u)) := ⟨_, rfl⟩
      rw [← hW6] at HX6 HB6 ⊢
      clear hW6 S0 S1 S2 hb4 hb5 hl4 HX5 HX4 HXD HAD HP5 HTH hsub hsl
      go_wp2
      go_roundw
      case rel => exact ⟨k + 1, by omega, by go_num, HB6, HX6⟩
      case measure => simp [intOf]; omega
    · have hkk : Hid (filled TS k = TS) := Lib.hid (by rw [filled, List.take_of_length_le (by rw [HTSL.out]; omega), HTSL.out, show L.length - k = 0 by omega]; simp)
      go_wp2
      go_ret
      refine ⟨_, TS, rfl, (HNX.out _ HB.out).below, ?_, rfl⟩
      have h := HX.out.own
      rw [hkk.out] at h
      have h2 := h.2
      refine ⟨?_, ?_⟩
      · simpa using h.1
      · rw [HTSL.out] at h2 ⊢
        exact h2.imp id (fun ⟨g, cap, cur, a1, a2, a3⟩ => ⟨g, cap, cur, a1, by have := HS01.out; omega, a3⟩)
end Go.Proofs.Ytpdkfidmmjlmnab
