/-
  Texts that ProofPzl needs, part 6.
-/
import Derived.Test.YtckkbojankfdfaaDoorZg5
import Derived.Laws.EntriesVeiled
import Derived.Maps.AppendAt
import Derived.Defers
import Derived.Recover
namespace Go.Proofs.YtckkbojankfdfaaDoor
open Go.RowKit

set_option maxRecDepth 100000 in
theorem mapsOfCouples_any (w : World) : Calls Tryd.prog 50 #[] w (BR (.agg #[.func (.func 36) #[] #[], .func (.func 64) #[] #[], .func (.func 65) #[] #[]]) w) := by
  have hres : Tryd.f50.results = #[.cell 0 66] := by kernel_rfl
  have HRES := Lib.hid hres
  have HH : Hid ((w.alloc (.cells #[.nilFunc, .nilFunc, .nilFunc] 66)).heap[w.heap.size]? = some (.cells #[.nilFunc, .nilFunc, .nilFunc] 66 (0, 0))) := Lib.hid (by simpa using heap_alloc_new w (.cells #[.nilFunc, .nilFunc, .nilFunc] 66))
  have HB : Hid (Below w.heap.size w (w.alloc (.cells #[.nilFunc, .nilFunc, .nilFunc] 66))) := Lib.hid (below_alloc1 _ _)
  clear hres
  go_enter Tryd.func50, Tryd.ntmps50
  go_wp2
  refine bodyPost_ret (v := .agg #[.func (.func 36) #[] #[], .func (.func 64) #[] #[], .func (.func 65) #[] #[]]) ?_ rfl ?_
  · simp only [results, HRES.out]
    go_simp
  · exact ⟨rfl, below_alloc1 _ _⟩


set_option maxHeartbeats 400000 in
theorem mapI_any (p d e : Int) (iv jv kv : Value) (il jl kl : List (List Int)) (w : World) (h : Cp 0 w iv jv kv il jl kl) : Calls Tryd.prog 36 #[.agg #[.int .i64 p, .int .i64 d, .int .i64 e, iv, jv, kv]] w (BR (.agg #[.int .i64 p, .int .i64 d, .int .i64 d, iv]) w) := by
  have hres : Tryd.f36.results = #[.cell 2 53] := by kernel_rfl
  have HRES := Lib.hid hres
  obtain ⟨⟨ai, ci, rfl⟩, ⟨aj, cj, rfl⟩, ⟨ak, ck, rfl⟩⟩ := h.shapes
  clear hres h
  go_enter Tryd.func36, Tryd.ntmps36
  go_wp2
  refine bodyPost_ret (v := .agg #[.int .i64 p, .int .i64 d, .int .i64 d, .slice ai il.length ci]) ?_ rfl ?_
  · simp only [results, HRES.out]
    go_simp
  · exact ⟨rfl, (((Below.refl _ _).alloc (Nat.le_refl _) _).alloc (by simp) _)⟩


set_option maxHeartbeats 400000 in
theorem mapJ_any (p d e : Int) (iv jv kv : Value) (il jl kl : List (List Int)) (w : World) (h : Cp 0 w iv jv kv il jl kl) : Calls Tryd.prog 64 #[.agg #[.int .i64 p, .int .i64 d, .int .i64 e, iv, jv, kv]] w (BR (.agg #[.int .i64 p, .int .i64 d, .int .i64 e, jv]) w) := by
  have hres : Tryd.f64.results = #[.cell 2 53] := by kernel_rfl
  have HRES := Lib.hid hres
  obtain ⟨⟨ai, ci, rfl⟩, ⟨aj, cj, rfl⟩, ⟨ak, ck, rfl⟩⟩ := h.shapes
  clear hres h
  go_enter Tryd.func64, Tryd.ntmps64
  go_wp2
  refine bodyPost_ret (v := .agg #[.int .i64 p, .int .i64 d, .int .i64 e, .slice aj jl.length cj]) ?_ rfl ?_
  · simp only [results, HRES.out]
    go_simp
  · exact ⟨rfl, (((Below.refl _ _).alloc (Nat.le_refl _) _).alloc (by simp) _)⟩


set_option maxHeartbeats 400000 in
theorem mapK_any (p d e : Int) (iv jv kv : Value) (il jl kl : List (List Int)) (w : World) (h : Cp 0 w iv jv kv il jl kl) : Calls Tryd.prog 65 #[.agg #[.int .i64 p, .int .i64 d, .int .i64 e, iv, jv, kv]] w (BR (.agg #[.int .i64 p, .int .i64 e, .int .i64 d, kv]) w) := by
  have hres : Tryd.f65.results = #[.cell 2 53] := by kernel_rfl
  have HRES := Lib.hid hres
  obtain ⟨⟨ai, ci, rfl⟩, ⟨aj, cj, rfl⟩, ⟨ak, ck, rfl⟩⟩ := h.shapes
  clear hres h
  go_enter Tryd.func65, Tryd.ntmps65
  go_wp2
  refine bodyPost_ret (v := .agg #[.int .i64 p, .int .i64 e, .int .i64 d, .slice ak kl.length ck]) ?_ rfl ?_
  · simp only [results, HRES.out]
    go_simp
  · exact ⟨rfl, (((Below.refl _ _).alloc (Nat.le_refl _) _).alloc (by simp) _)⟩


theorem idxM0 (W : World) : (Instr.index 66 (.agg #[.func (.func 36) #[] #[], .func (.func 64) #[] #[], .func (.func 65) #[] #[]]) (.int .i64 0)).run Tryd.prog W = .ok (.func (.func 36) #[] #[]) W := by kernel_rfl
theorem idxM1 (W : World) : (Instr.index 66 (.agg #[.func (.func 36) #[] #[], .func (.func 64) #[] #[], .func (.func 65) #[] #[]]) (.int .i64 1)).run Tryd.prog W = .ok (.func (.func 64) #[] #[]) W := by kernel_rfl
theorem idxM2 (W : World) : (Instr.index 66 (.agg #[.func (.func 36) #[] #[], .func (.func 64) #[] #[], .func (.func 65) #[] #[]]) (.int .i64 2)).run Tryd.prog W = .ok (.func (.func 65) #[] #[]) W := by kernel_rfl
set_option maxHeartbeats 6400000 in
set_option maxRecDepth 100000 in
theorem isCouple_any (p d e : Int) (iv jv kv : Value) (il jl kl : List (List Int)) (w : World) (h : Cp 0 w iv jv kv il jl kl) (hm : CpB 1048576 il jl kl) :
    Calls Tryd.prog 24 #[.agg #[.int .i64 p, .int .i64 d, .int .i64 e, iv, jv, kv]] w (VrB (fun b => b = true ↔ IsCp p d e il jl kl) w) := by
  have HM := Lib.hid hm
  obtain ⟨w1, hw1⟩ : ∃ w1, w1 = w.alloc (.cells #[.int .i64 p, .int .i64 d, .int .i64 e, iv, jv, kv] 26) := ⟨_, rfl⟩
  have hs1 : w1.heap.size = w.heap.size + 1 := by rw [hw1]; simp
  have HX : Hid (BxCp w w1 w.heap.size p d e iv jv kv il jl kl) := Lib.hid (by rw [hw1]; exact BxCp.start 26 h)
  clear h hm
  obtain ⟨⟨ai, ci, rfl⟩, ⟨aj, cj, rfl⟩, ⟨ak, ck, rfl⟩⟩ := HX.out.cx.shapes
  have hq0 := idxM0
  have hq1 := idxM1
  have hq2 := idxM2
  have c0 := HX.out.c0
  have c1 := HX.out.c1
  have c2 := HX.out.c2
  have c3 := HX.out.c3
  have c4 := HX.out.c4
  have c5 := HX.out.c5
  go_enter Tryd.func24, Tryd.ntmps24
  go_upto_region 1 with fail
  rw [← hw1]
  clear hw1
  by_cases hp : IsP p
  · have HP := Lib.hid hp
    clear hp
    go_wp2_with fail
    refine (prime_yes HP.out _).mono ?_
    rintro ee w' ⟨rfl, rfl⟩
    by_cases hd : 0 ≤ d ∧ d ≤ 24
    · have HD := Lib.hid hd
      clear hd
      go_wp2_with fail
      refine (in_yes HD.out _).mono ?_
      rintro ee w' ⟨rfl, rfl⟩
      by_cases he : 0 ≤ e ∧ e ≤ 24
      · have HE := Lib.hid he
        clear he
        go_wp2_with fail
        refine (in_yes HE.out _).mono ?_
        rintro ee w' ⟨rfl, rfl⟩
        go_wp2_with fail
        refine (mapsOfCouples_any _).mono ?_
        rintro ee w2 ⟨rfl, hb⟩
        have HX2 := Lib.hid (HX.out.next hb)
        clear hb c0 c1 c2 c3 c4 c5
        have c0 := HX2.out.c0
        have c1 := HX2.out.c1
        have c2 := HX2.out.c2
        have c3 := HX2.out.c3
        have c4 := HX2.out.c4
        have c5 := HX2.out.c5
        go_wp2
        refine wp_loop_rounds 4 ?_
        rw [rounds_succ]
        go_wp2_with fail
        refine (mapI_any p d e _ _ _ il jl kl _ HX2.out.cx).mono ?_
        rintro ee w3 ⟨rfl, hb⟩
        have HY := Lib.hid (HX2.out.next hb)
        have HZ := Lib.hid (HY.out.next (below_alloc1 w3 (.cells #[.int .i64 p, .int .i64 d, .int .i64 d, .slice ai il.length ci] 53)))
        clear hb c0 c1 c2 c3 c4 c5
        go_wp2_with fail
        refine (isTable_any p d d (.slice ai il.length ci) il _ HP.out HZ.out.cx.fi HM.out.bi).mono ?_
        rintro ee w' ⟨b0, rfl, rfl, hbb⟩
        by_cases ht : TabOk p d d il
        · obtain rfl : b0 = true := hbb.2 ht
          have HT0 := Lib.hid ht
          have HX3 := HZ
          clear hbb ht HY HZ HX2
          have c0 := HX3.out.c0
          have c1 := HX3.out.c1
          have c2 := HX3.out.c2
          have c3 := HX3.out.c3
          have c4 := HX3.out.c4
          have c5 := HX3.out.c5
          go_wp2
          rw [rounds_succ]
          go_wp2_with fail
          refine (mapJ_any p d e _ _ _ il jl kl _ HX3.out.cx).mono ?_
          rintro ee w4 ⟨rfl, hb⟩
          have HY := Lib.hid (HX3.out.next hb)
          have HZ := Lib.hid (HY.out.next (below_alloc1 w4 (.cells #[.int .i64 p, .int .i64 d, .int .i64 e, .slice aj jl.length cj] 53)))
          clear hb c0 c1 c2 c3 c4 c5
          go_wp2_with fail
          refine (isTable_any p d e (.slice aj jl.length cj) jl _ HP.out HZ.out.cx.fj HM.out.bj).mono ?_
          rintro ee w' ⟨b1, rfl, rfl, hbb⟩
          by_cases ht : TabOk p d e jl
          · obtain rfl : b1 = true := hbb.2 ht
            have HT1 := Lib.hid ht
            have HX4 := HZ
            clear hbb ht HY HZ HX3
            have c0 := HX4.out.c0
            have c1 := HX4.out.c1
            have c2 := HX4.out.c2
            have c3 := HX4.out.c3
            have c4 := HX4.out.c4
            have c5 := HX4.out.c5
            go_wp2
            rw [rounds_succ]
            go_wp2_with fail
            refine (mapK_any p d e _ _ _ il jl kl _ HX4.out.cx).mono ?_
            rintro ee w5 ⟨rfl, hb⟩
            have HY := Lib.hid (HX4.out.next hb)
            have HZ := Lib.hid (HY.out.next (below_alloc1 w5 (.cells #[.int .i64 p, .int .i64 e, .int .i64 d, .slice ak kl.length ck] 53)))
            clear hb c0 c1 c2 c3 c4 c5
            go_wp2_with fail
            refine (isTable_any p e d (.slice ak kl.length ck) kl _ HP.out HZ.out.cx.fk HM.out.bk).mono ?_
            rintro ee w' ⟨b2, rfl, rfl, hbb⟩
            by_cases ht : TabOk p e d kl
            · obtain rfl : b2 = true := hbb.2 ht
              have HT2 := Lib.hid ht
              have HX5 := HZ
              clear hbb ht HY HZ HX4
              have c0 := HX5.out.c0
              have c1 := HX5.out.c1
              have c2 := HX5.out.c2
              have c3 := HX5.out.c3
              have c4 := HX5.out.c4
              have c5 := HX5.out.c5
              go_wp2
              rw [rounds_succ]
              go_wp2
              go_ret
              exact ⟨true, rfl, HX5.out.below, yes_iff ⟨HP.out, HD.out, HE.out, HT0.out, HT1.out, HT2.out⟩⟩
            · obtain rfl : b2 = false := bb_no hbb ht
              have HT := Lib.hid ht
              clear hbb ht
              go_wp2
              go_ret
              exact ⟨false, rfl, HZ.out.below, no_iff fun h => HT.out h.2.2.2.2.2⟩
          · obtain rfl : b1 = false := bb_no hbb ht
            have HT := Lib.hid ht
            clear hbb ht
            go_wp2
            go_ret
            exact ⟨false, rfl, HZ.out.below, no_iff fun h => HT.out h.2.2.2.2.1⟩
        · obtain rfl : b0 = false := bb_no hbb ht
          have HT := Lib.hid ht
          clear hbb ht
          go_wp2
          go_ret
          exact ⟨false, rfl, HZ.out.below, no_iff fun h => HT.out h.2.2.2.1⟩
      · have HE := Lib.hid he
        clear he
        go_wp2_with fail
        refine (in_no HE.out _).mono ?_
        rintro ee w' ⟨rfl, rfl⟩
        go_wp2
        go_ret
        exact ⟨false, rfl, HX.out.below, no_iff fun h => HE.out h.2.2.1⟩
    · have HD := Lib.hid hd
      clear hd
      go_wp2_with fail
      refine (in_no HD.out _).mono ?_
      rintro ee w' ⟨rfl, rfl⟩
      go_wp2
      go_ret
      exact ⟨false, rfl, HX.out.below, no_iff fun h => HD.out h.2.1⟩
  · have HP := Lib.hid hp
    clear hp
    go_wp2_with fail
    refine (prime_no HP.out _).mono ?_
    rintro ee w' ⟨rfl, rfl⟩
    go_wp2
    go_ret
    exact ⟨false, rfl, HX.out.below, no_iff fun h => HP.out h.1⟩

end Go.Proofs.YtckkbojankfdfaaDoor


namespace Go.Proofs.YtckkbojankfdfaaDoor
open Go.RowKit

def sel4 (x y z u : Value) : Nat → Value := fun i => if i = 0 then x else if i = 1 then y else if i = 2 then z else u
theorem rowIs4 {w : World} {b : Nat} {x y z u : Value} {t : TypeId} (h : w.heap[b]? = some (.cells #[x, y, z, u] t)) : w.rowIs b t 4 (sel4 x y z u) :=
  ⟨#[x, y, z, u], h, rfl, fun i hi => by
    match i, hi with
    | 0, _ => rfl
    | 1, _ => rfl
    | 2, _ => rfl
    | 3, _ => rfl⟩
def DifR (p e : Int) (t : List (List Int)) (w : World) (ee : Ending) (w' : World) : Prop := ∃ u, ee = .returned (.agg #[.int .i64 p, .int .i64 e, .int .i64 e, u]) ∧ Rw2 w.heap.size w'.heap.size w' u t ∧ Below w.heap.size w w'

set_option maxHeartbeats 3200000 in
set_option maxRecDepth 100000 in
theorem differential_any (p d e : Int) (iv jv kv : Value) (il jl kl : List (List Int)) (w : World) (h : Cp 0 w iv jv kv il jl kl) (hm : CpB 1048576 il jl kl) (hc : IsCp p d e il jl kl) :
    Calls Tryd.prog 69 #[.agg #[.int .i64 p, .int .i64 d, .int .i64 e, iv, jv, kv]] w (DifR p e (cdT p e jl kl) w) := by
  have hres : Tryd.f69.results = #[.cell 2 53] := by kernel_rfl
  have HRES := Lib.hid hres
  have HM := Lib.hid hm
  obtain ⟨wa, hwa⟩ : ∃ wa, wa = w.alloc (.cells #[.int .i64 p, .int .i64 d, .int .i64 e, iv, jv, kv] 26) := ⟨_, rfl⟩
  obtain ⟨w1, hw1⟩ : ∃ w1, w1 = wa.alloc (.cells #[.int .i64 0, .int .i64 0, .int .i64 0, .slice none 0 0] 53) := ⟨_, rfl⟩
  have hsa : wa.heap.size = w.heap.size + 1 := by rw [hwa]; simp
  have hs1 : w.heap.size + 2 ≤ w1.heap.size := by rw [hw1]; simp [hsa]
  have hlt0 : w.heap.size < w1.heap.size := by omega
  have hlt1 : w.heap.size + 1 < w1.heap.size := by omega
  have HX : Hid (BxCp w w1 w.heap.size p d e iv jv kv il jl kl) := Lib.hid (by
    have h0 : BxCp w wa w.heap.size p d e iv jv kv il jl kl := by rw [hwa]; exact BxCp.start 26 h
    rw [hw1]
    exact h0.next (below_alloc1 _ _))
  have HR0 : Hid (∃ x0 x1 x2 x3, w1.heap[w.heap.size + 1]? = some (.cells #[x0, x1, x2, x3] 53)) := Lib.hid ⟨_, _, _, _, by rw [hw1, ← hsa]; simpa using heap_alloc_new wa (.cells #[.int .i64 0, .int .i64 0, .int .i64 0, .slice none 0 0] 53)⟩
  have HC := Lib.hid hc
  obtain ⟨c, hce⟩ : ∃ c, c = e.toNat := ⟨_, rfl⟩
  have hec : e = (c : Int) := by have := hc.2.2.1; omega
  have hc24 : c ≤ 24 := by have := hc.2.2.1; omega
  have hkl : kl.length = c := by have := hc.2.2.1; have := hc.2.2.2.2.2.1; omega
  have HKL := Lib.hid hkl
  have HNX : Hid (∀ W, Below w1.heap.size w1 W → BxCp w W w.heap.size p d e iv jv kv il jl kl) := Lib.hid (fun W h => HX.out.next h)
  obtain ⟨⟨ai, ci, rfl⟩, ⟨aj, cj, rfl⟩, ⟨ak, ck, rfl⟩⟩ := HX.out.cx.shapes
  have HCL : Hid ((cdT p e jl kl).length = c) := Lib.hid (by simp [cdT, hkl])
  have HAP : Hid (∀ k (hk : k < kl.length), ApOk p c kl[k] jl) := Lib.hid (fun k hk => by rw [hce]; exact hc.ap (List.getElem_mem hk))
  have HCD : Hid (∀ k (hk : k < kl.length) (h2 : k < (cdT p e jl kl).length), (cdT p e jl kl)[k] = apT p c kl[k] jl) := Lib.hid (fun k hk h2 => by simp [cdT, hce])
  have hmk := run_make_row' (P := Tryd.prog) 22 33 (.slice none 0 0) 24 Tryd.underlying22 Tryd.infoS rfl .i64 .i64 c (by omega) (by omega)
  clear hc hce h hm hres hkl
  subst hec
  have c0 := HX.out.c0
  have c1 := HX.out.c1
  have c2 := HX.out.c2
  have c3 := HX.out.c3
  have c4 := HX.out.c4
  have c5 := HX.out.c5
  go_enter Tryd.func69, Tryd.ntmps69
  go_upto_region 1 with fail
  rw [← hwa, ← hw1]
  clear hwa hw1 hsa
  go_wp2
  clear hmk
  rw [HKL.out]
  go_loopw [4, 5, 12] (fun _ _ i wr => ∃ (k : Nat) (f : Nat → Value) (b : Nat → Nat), k ≤ c ∧ i = .int .i64 k ∧ Hid (Below w1.heap.size w1 wr) ∧ Hid (Fill2 wr w1.heap.size c k f b (cdT p (c : Int) jl kl))) (fun _ _ i _ => c - (intOf i).toNat)
  case atStart => exact ⟨0, _, _, Nat.zero_le _, rfl, Lib.hid (below_alloc1 _ _), Lib.hid (Fill2.start (World.rowIs_made w1 _ c _) (by simp) _)⟩
  case round =>
    obtain ⟨k, f, b, hk, rfl, HB, HF⟩ := hrel
    obtain ⟨wx, hwx⟩ : ∃ wx : World, wx = wr := ⟨_, rfl⟩
    subst hwx
    have hsx : w1.heap.size ≤ wx.heap.size := HB.out.size
    clear c0 c1 c2 c3 c4 c5
    have HXX := Lib.hid (HNX.out wx HB.out)
    have c0 := HXX.out.c0
    have c1 := HXX.out.c1
    have c2 := HXX.out.c2
    have c3 := HXX.out.c3
    have c4 := HXX.out.c4
    have c5 := HXX.out.c5
    by_cases hlt : k < c
    · have hlt2 : k < kl.length := by rw [HKL.out]; exact hlt
      refine Sl.cases HXX.out.cx.fk (fun _ _ hx _ => absurd hlt2 (by simp [hx])) (fun bk ok c2' hvv _ _ hcl => ?_)
      injection hvv with e1 e2 e3
      clear e2
      subst e1 e3
      obtain ⟨ur, hur, hrr⟩ := hcl k hlt2
      obtain ⟨y, hy⟩ : ∃ y, y = kl[k] := ⟨_, rfl⟩
      rw [← hy] at hrr
      have hok := HAP.out k hlt2
      rw [← hy] at hok
      have HOK := Lib.hid hok
      have HYL : Hid (y.length ≤ 1048576) := Lib.hid (HM.out.bk.2 y (by rw [hy]; exact List.getElem_mem hlt2))
      have HRR := Lib.hid hrr
      have HY : Hid (∀ h2 : k < (cdT p (c : Int) jl kl).length, (cdT p (c : Int) jl kl)[k] = apT p c y jl) := Lib.hid (fun h2 => by rw [HCD.out k hlt2 h2, hy])
      have hlk : (k : Int) < (c : Int) := by omega
      clear hcl hrr hy hok
      go_wp2_with fail
      refine (applyTablew_any p c ur (.slice aj jl.length cj) y jl _ HOK.out HRR.out HXX.out.cx.fj HYL.out (by omega)).mono ?_
      rintro ee w4 ⟨u, rfl, hw4, hb4⟩
      obtain ⟨au, cu, hus⟩ := Sw.shape hw4
      rw [apT_length' HOK.out] at hus
      subst hus
      have hs4 : wx.heap.size ≤ w4.heap.size := hb4.size
      have hlen : k < (cdT p (c : Int) jl kl).length := by rw [HCL.out]; exact hlt
      have hst := HF.out.step hb4 hlen (by rw [HY.out hlen]; exact w1_rw1 hw4 (by rw [apT_length' HOK.out]; omega))
      have hr4 := HF.out.row.of_block (hb4.block _ HF.out.row.lt)
      have g1 : w4.cell? ⟨w1.heap.size, k, none⟩ = some (f k) := hr4.cell hlt
      have g2 : w4.frozen? ⟨w1.heap.size, k, none⟩ = false := hr4.frozen k
      have HST := Lib.hid hst
      have HB4 : Hid (Below w1.heap.size w1 (w4.setCell ⟨w1.heap.size, k, none⟩ (.slice au c cu))) := Lib.hid ((HB.out.trans (hb4.mono hsx)).setCell (Nat.le_refl _) _)
      clear hw4 hb4 hst hr4 HF HB hlen
      go_wp2
      go_roundw
      case rel => first | exact ⟨k + 1, _, _, by omega, by go_num, HB4, HST⟩ | ((repeat apply Exists.intro); exact ⟨⟨k + 1, _, _, by omega, by go_num, HB4, HST⟩, rfl⟩)
      case measure => simp [intOf]; omega
    · have hlk : ¬ (k : Int) < (c : Int) := by omega
      have hkc : Hid (k = c) := Lib.hid (by omega)
      have HRW : Hid (Rw2 w1.heap.size wx.heap.size wx (.slice (some ⟨w1.heap.size, 0, none⟩) c c) (cdT p (c : Int) jl kl)) := Lib.hid (by
        have h0 := HF.out
        rw [hkc.out] at h0
        exact h0.rw2 HCL.out.symm (by omega))
      have HR1 : ∃ x0 x1 x2 x3, wx.heap[w.heap.size + 1]? = some (.cells #[x0, x1, x2, x3] 53) := by
        obtain ⟨x0, x1, x2, x3, hr⟩ := HR0.out
        exact ⟨x0, x1, x2, x3, by rw [HB.out.block (w.heap.size + 1) (by omega)]; exact hr⟩
      obtain ⟨x0, x1, x2, x3, hr⟩ := HR1
      have r0 : wx.rowIs (w.heap.size + 1) 53 4 (sel4 x0 x1 x2 x3) := rowIs4 hr
      have q0 : wx.cell? ⟨w.heap.size + 1, 0, none⟩ = some x0 := r0.cell (i := 0) (by omega)
      have z0 : wx.frozen? ⟨w.heap.size + 1, 0, none⟩ = false := r0.frozen 0
      have r1 := r0.set 0 (.int .i64 p)
      have q1 : (wx.setCell ⟨w.heap.size + 1, 0, none⟩ (.int .i64 p)).cell? ⟨w.heap.size + 1, 1, none⟩ = some x1 := r1.cell (i := 1) (by omega)
      have z1 : (wx.setCell ⟨w.heap.size + 1, 0, none⟩ (.int .i64 p)).frozen? ⟨w.heap.size + 1, 1, none⟩ = false := r1.frozen 1
      have r2 := r1.set 1 (.int .i64 (c : Int))
      have q2 : ((wx.setCell ⟨w.heap.size + 1, 0, none⟩ (.int .i64 p)).setCell ⟨w.heap.size + 1, 1, none⟩ (.int .i64 (c : Int))).cell? ⟨w.heap.size + 1, 2, none⟩ = some x2 := r2.cell (i := 2) (by omega)
      have z2 : ((wx.setCell ⟨w.heap.size + 1, 0, none⟩ (.int .i64 p)).setCell ⟨w.heap.size + 1, 1, none⟩ (.int .i64 (c : Int))).frozen? ⟨w.heap.size + 1, 2, none⟩ = false := r2.frozen 2
      have r3 := r2.set 2 (.int .i64 (c : Int))
      have q3 : (((wx.setCell ⟨w.heap.size + 1, 0, none⟩ (.int .i64 p)).setCell ⟨w.heap.size + 1, 1, none⟩ (.int .i64 (c : Int))).setCell ⟨w.heap.size + 1, 2, none⟩ (.int .i64 (c : Int))).cell? ⟨w.heap.size + 1, 3, none⟩ = some x3 := r3.cell (i := 3) (by omega)
      have z3 : (((wx.setCell ⟨w.heap.size + 1, 0, none⟩ (.int .i64 p)).setCell ⟨w.heap.size + 1, 1, none⟩ (.int .i64 (c : Int))).setCell ⟨w.heap.size + 1, 2, none⟩ (.int .i64 (c : Int))).frozen? ⟨w.heap.size + 1, 3, none⟩ = false := r3.frozen 3
      have r4 := r3.set 3 (.slice (some ⟨w1.heap.size, 0, none⟩) c c)
      obtain ⟨WF, hWF⟩ : ∃ W : World, W = ((((wx.setCell ⟨w.heap.size + 1, 0, none⟩ (.int .i64 p)).setCell ⟨w.heap.size + 1, 1, none⟩ (.int .i64 (c : Int))).setCell ⟨w.heap.size + 1, 2, none⟩ (.int .i64 (c : Int))).setCell ⟨w.heap.size + 1, 3, none⟩ (.slice (some ⟨w1.heap.size, 0, none⟩) c c)) := ⟨_, rfl⟩
      have hbWF : ∀ B (w0 : World), B ≤ w.heap.size + 1 → Below B w0 wx → Below B w0 WF := fun B w0 hl hb => by rw [hWF]; exact ((((hb.setCell (by show B ≤ w.heap.size + 1; exact hl) _).setCell (by show B ≤ w.heap.size + 1; exact hl) _).setCell (by show B ≤ w.heap.size + 1; exact hl) _).setCell (by show B ≤ w.heap.size + 1; exact hl) _)
      have hsWF : ∀ lo hi, w.heap.size + 1 < lo ∨ hi ≤ w.heap.size + 1 → Same lo hi wx WF := fun lo hi hl => by rw [hWF]; exact ((((Same.set _ hl).trans (Same.set _ hl)).trans (Same.set _ hl)).trans (Same.set _ hl))
      have hzWF : WF.heap.size = wx.heap.size := by rw [hWF]; simp
      rw [← hWF] at r4
      have f0 : WF.cell? ⟨w.heap.size + 1, 0, none⟩ = some (.int .i64 p) := r4.cell (i := 0) (by omega)
      have f1 : WF.cell? ⟨w.heap.size + 1, 1, none⟩ = some (.int .i64 (c : Int)) := r4.cell (i := 1) (by omega)
      have f2 : WF.cell? ⟨w.heap.size + 1, 2, none⟩ = some (.int .i64 (c : Int)) := r4.cell (i := 2) (by omega)
      have f3 : WF.cell? ⟨w.heap.size + 1, 3, none⟩ = some (.slice (some ⟨w1.heap.size, 0, none⟩) c c) := r4.cell (i := 3) (by omega)
      have HWWF := Lib.hid hWF
      clear hr r0 r1 r2 r3 r4 hWF
      have HRF := Lib.hid ((HRW.out.same (hsWF _ _ (Or.inl (by omega)))).wider (show w.heap.size ≤ w1.heap.size by omega) (Nat.le_of_eq hzWF.symm))
      have HBF := Lib.hid (hbWF w.heap.size w (by omega) HXX.out.below)
      clear hsWF hbWF hzWF HRW HF
      go_wp2
      rw [← HWWF.out]
      refine bodyPost_ret (v := .agg #[.int .i64 p, .int .i64 (c : Int), .int .i64 (c : Int), .slice (some ⟨w1.heap.size, 0, none⟩) c c]) ?_ rfl ?_
      · simp only [results, HRES.out]
        go_simp
      · exact ⟨_, rfl, HRF.out, HBF.out⟩

end Go.Proofs.YtckkbojankfdfaaDoor


namespace Go.Proofs.YtckkbojankfdfaaDoor
open Go.RowKit

section
variable {md : Region.Mode} {ops : Array Oper} {Q : Exit → Act → World → Prop} {S : World → Prop}
end

theorem own_ne {w : World} {base g size n : Nat} {e t : TypeId} {u : Value} {xs : List Value} {cs : Array Value} {fr : Nat × Nat} (h : w.ownsRow base e size u n xs) (hb : w.heap[g]? = some (.cells cs t fr)) (ht : t ≠ e) : u.ownBlock ≠ some g := by
  rcases h.2 with ⟨rfl, _⟩ | ⟨g2, cap, cur, rfl, _, hh, _⟩
  · simp [Value.ownBlock]
  · intro e2
    simp [Value.ownBlock] at e2
    subst e2
    rw [hh] at hb
    injection hb with hb
    injection hb with _ h2 _
    exact ht h2.symm
/-- A table under a write into a block of another type. -/
theorem gs_set {base : Nat} {w : World} {u : Value} {t : List (List Int)} {g o : Nat} {cs : Array Value} {fr : Nat × Nat} (h : Gs base w u t) (hb : w.heap[g]? = some (.cells cs 26 fr)) (x : Value) : Gs base (w.setCell ⟨g, o, none⟩ x) u t := by
  obtain ⟨vs, ho, hr⟩ := h
  exact ⟨vs, ownsRow_setCell_other ho (fun e2 => own_ne ho hb (by decide) e2) _, fun k h1 h2 => ownsRow_setCell_other (hr k h1 h2) (fun e2 => own_ne (hr k h1 h2) hb (by decide) e2) _⟩
/-- A table while another one grows. -/
theorem gs_off {base : Nat} {w w' : World} {u v : Value} {t s : List (List Int)} (h : Gs base w u t) (hv : Gs base w v s) (ho : OffB v.ownBlock u) (hg : w.grownBy w' v.ownBlock) : Gs base w' u t := by
  obtain ⟨vs, h1, hr⟩ := h
  obtain ⟨ws, h2, _⟩ := hv
  exact ⟨vs, owns_grown_off h1 ho hg, fun k a b => owns_grown (hr k a b) h2 (by decide) hg⟩
theorem offB_of {base n : Nat} {w : World} {u v v' : Value} {xs : List Value} {e : TypeId} {size : Nat} (h : OffB v.ownBlock u) (hu : w.ownsRow base e size u n xs) (hv : v'.ownBlock = v.ownBlock ∨ v'.ownBlock = some w.heap.size) : OffB v'.ownBlock u := fun b hb => by
  rcases hv with hv | hv
  · rw [hv]; exact h b hb
  · rw [hv]
    intro e
    injection e with e
    have := owns_lt hu hb
    omega
theorem OffB.symm' {u v : Value} (h : OffB u.ownBlock v) : OffB v.ownBlock u := fun b hb e => h b e hb

structure Tr3 (base : Nat) (W : World) (g : Nat) (p d e : Int) (iv jv kv : Value) (I J K : List (List Int)) : Prop where
  cs : W.heap[g]? = some (.cells #[.int .i64 p, .int .i64 d, .int .i64 e, iv, jv, kv] 26 (0, 0))
  lo : base ≤ g
  fi : Gs base W iv I
  fj : Gs base W jv J
  fk : Gs base W kv K
  ij : OffB iv.ownBlock jv
  ik : OffB iv.ownBlock kv
  jk : OffB jv.ownBlock kv
theorem Tr3.next {base : Nat} {W W' : World} {g : Nat} {p d e : Int} {iv jv kv : Value} {I J K : List (List Int)} (h : Tr3 base W g p d e iv jv kv I J K) (hb : Below W.heap.size W W') : Tr3 base W' g p d e iv jv kv I J K :=
  ⟨(hb.block g (Array.getElem?_eq_some_iff.1 h.cs).1).trans h.cs, h.lo, h.fi.below hb, h.fj.below hb, h.fk.below hb, h.ij, h.ik, h.jk⟩
theorem Tr3.lt {base : Nat} {W : World} {g : Nat} {p d e : Int} {iv jv kv : Value} {I J K : List (List Int)} (h : Tr3 base W g p d e iv jv kv I J K) : g < W.heap.size := (Array.getElem?_eq_some_iff.1 h.cs).1
theorem Tr3.cell {base : Nat} {W : World} {g : Nat} {p d e : Int} {iv jv kv : Value} {I J K : List (List Int)} (h : Tr3 base W g p d e iv jv kv I J K) {i : Nat} {v : Value} (hv : #[.int .i64 p, .int .i64 d, .int .i64 e, iv, jv, kv][i]? = some v) : W.cell? ⟨g, i, none⟩ = some v := by
  have h' := h.cs
  simp [World.cell?, h', hv]
theorem Tr3.frozen {base : Nat} {W : World} {g : Nat} {p d e : Int} {iv jv kv : Value} {I J K : List (List Int)} (h : Tr3 base W g p d e iv jv kv I J K) (i : Nat) : W.frozen? ⟨g, i, none⟩ = false := by
  have h' := h.cs
  simp [World.frozen?, h']
theorem set_block {w : World} {g i : Nat} {cs : Array Value} {t : TypeId} {fr : Nat × Nat} (h : w.heap[g]? = some (.cells cs t fr)) (v : Value) : (w.setCell ⟨g, i, none⟩ v).heap[g]? = some (.cells (cs.setIfInBounds i v) t fr) := by
  simp only [World.setCell]
  rw [Array.getElem?_modify, if_pos rfl, h]
  rfl
/-- A row behind the table I. -/
theorem Tr3.pushI {base : Nat} {W W' : World} {g : Nat} {p d e : Int} {iv jv kv : Value} {I J K : List (List Int)} {v' : Value} {y : List Int} (h : Tr3 base W g p d e iv jv kv I J K) (hn : Gs base W' v' (I ++ [y])) (hg : W.grownBy W' iv.ownBlock) (hat : v'.ownBlock = iv.ownBlock ∨ v'.ownBlock = some W.heap.size) :
    Tr3 base (W'.setCell ⟨g, 3, none⟩ v') g p d e v' jv kv (I ++ [y]) J K := by
  have hne : iv.ownBlock ≠ some g := own_ne h.fi.choose_spec.1 h.cs (by decide)
  have hb : W'.heap[g]? = some (.cells #[.int .i64 p, .int .i64 d, .int .i64 e, iv, jv, kv] 26 (0, 0)) := (hg.block g h.lt (fun e => hne e.symm)).trans h.cs
  have hs := set_block (i := 3) hb v'
  exact ⟨by rw [hs]; rfl, h.lo, gs_set hn hb _, gs_set (gs_off h.fj h.fi (h.ij) hg) hb _, gs_set (gs_off h.fk h.fi (h.ik) hg) hb _, offB_of (h.ij) h.fj.choose_spec.1 hat, offB_of (h.ik) h.fk.choose_spec.1 hat, h.jk⟩
/-- A row behind the table J. -/
theorem Tr3.pushJ {base : Nat} {W W' : World} {g : Nat} {p d e : Int} {iv jv kv : Value} {I J K : List (List Int)} {v' : Value} {y : List Int} (h : Tr3 base W g p d e iv jv kv I J K) (hn : Gs base W' v' (J ++ [y])) (hg : W.grownBy W' jv.ownBlock) (hat : v'.ownBlock = jv.ownBlock ∨ v'.ownBlock = some W.heap.size) :
    Tr3 base (W'.setCell ⟨g, 4, none⟩ v') g p d e iv v' kv I (J ++ [y]) K := by
  have hne : jv.ownBlock ≠ some g := own_ne h.fj.choose_spec.1 h.cs (by decide)
  have hb : W'.heap[g]? = some (.cells #[.int .i64 p, .int .i64 d, .int .i64 e, iv, jv, kv] 26 (0, 0)) := (hg.block g h.lt (fun e => hne e.symm)).trans h.cs
  have hs := set_block (i := 4) hb v'
  exact ⟨by rw [hs]; rfl, h.lo, gs_set (gs_off h.fi h.fj (h.ij.symm') hg) hb _, gs_set hn hb _, gs_set (gs_off h.fk h.fj (h.jk) hg) hb _, (offB_of (h.ij.symm') h.fi.choose_spec.1 hat).symm', h.ik, offB_of (h.jk) h.fk.choose_spec.1 hat⟩
/-- A row behind the table K. -/
theorem Tr3.pushK {base : Nat} {W W' : World} {g : Nat} {p d e : Int} {iv jv kv : Value} {I J K : List (List Int)} {v' : Value} {y : List Int} (h : Tr3 base W g p d e iv jv kv I J K) (hn : Gs base W' v' (K ++ [y])) (hg : W.grownBy W' kv.ownBlock) (hat : v'.ownBlock = kv.ownBlock ∨ v'.ownBlock = some W.heap.size) :
    Tr3 base (W'.setCell ⟨g, 5, none⟩ v') g p d e iv jv v' I J (K ++ [y]) := by
  have hne : kv.ownBlock ≠ some g := own_ne h.fk.choose_spec.1 h.cs (by decide)
  have hb : W'.heap[g]? = some (.cells #[.int .i64 p, .int .i64 d, .int .i64 e, iv, jv, kv] 26 (0, 0)) := (hg.block g h.lt (fun e => hne e.symm)).trans h.cs
  have hs := set_block (i := 5) hb v'
  exact ⟨by rw [hs]; rfl, h.lo, gs_set (gs_off h.fi h.fk (h.ik.symm') hg) hb _, gs_set (gs_off h.fj h.fk (h.jk.symm') hg) hb _, gs_set hn hb _, h.ij, (offB_of (h.ik.symm') h.fi.choose_spec.1 hat).symm', (offB_of (h.jk.symm') h.fj.choose_spec.1 hat).symm'⟩
theorem hstoreTt (w : World) {b o : Nat} {u : Value} (ad : Option Addr) (n c : Nat) (hc : w.cell? ⟨b, o, none⟩ = some u) (hf : w.frozen? ⟨b, o, none⟩ = false) : (Instr.storeAt 22 (.pointer (some ⟨b, o, none⟩)) (.slice ad n c)).run Tryd.prog w = .ok () (w.setCell ⟨b, o, none⟩ (.slice ad n c)) := by go_simp
section
variable {P : Program} {md : Region.Mode} {ops : Array Oper} {n : Nat} {Q : Exit → Act → World → Prop}
theorem lastQ_storeTt {on : Oper} {a : Act} {w : World} (hn : ops[n]? = some on) (hg : on.guard = none) (hd : on.dst = none) (x y : Operand) (ho : on.op = .store 22 x y)
    (b o : Nat) (ad : Option Addr) (l c : Nat) (u : Value) (hx : a.eval x = .pointer (some ⟨b, o, none⟩)) (hy : a.eval y = .slice ad l c) (hc : w.cell? ⟨b, o, none⟩ = some u) (hf : w.frozen? ⟨b, o, none⟩ = false)
    (h : Q .normal a (w.setCell ⟨b, o, none⟩ (.slice ad l c))) : lastQ Tryd.prog ops n Q .normal a w :=
  lastQ_of hn hg (by
    have e : a.put on.dst undef = a := by rw [hd]; rfl
    rw [← e] at h
    unfold Oper.wp execOp
    simp only [ho, hx, hy, Sem.run_bind, Sem.run_pure, hstoreTt w ad l c hc hf, Result.andThen_ok]
    exact h)
end
theorem gs_set6 {base : Nat} {w : World} {u : Value} {t : List (List Int)} {g : Nat} {cs : Array Value} {fr : Nat × Nat} (h : Gs base w u t) (hb : w.heap[g]? = some (.cells cs 26 fr)) (x0 x1 x2 x3 x4 x5 : Value) : Gs base ((((((w.setCell ⟨g, 0, none⟩ x0).setCell ⟨g, 1, none⟩ x1).setCell ⟨g, 2, none⟩ x2).setCell ⟨g, 3, none⟩ x3).setCell ⟨g, 4, none⟩ x4).setCell ⟨g, 5, none⟩ x5) u t := by
  have g0 := gs_set (o := 0) h hb x0
  have b0 := set_block (i := 0) hb x0
  have g1 := gs_set (o := 1) g0 b0 x1
  have b1 := set_block (i := 1) b0 x1
  have g2 := gs_set (o := 2) g1 b1 x2
  have b2 := set_block (i := 2) b1 x2
  have g3 := gs_set (o := 3) g2 b2 x3
  have b3 := set_block (i := 3) b2 x3
  have g4 := gs_set (o := 4) g3 b3 x4
  have b4 := set_block (i := 4) b3 x4
  have g5 := gs_set (o := 5) g4 b4 x5
  exact g5
theorem Tr3.start (W : World) (p d e : Int) : Tr3 W.heap.size ((((W.alloc (.cells #[] 33)).alloc (.cells #[] 33)).alloc (.cells #[] 33)).alloc (.cells #[.int .i64 p, .int .i64 d, .int .i64 e, .slice (some ⟨W.heap.size, 0, none⟩) 0 0, .slice (some ⟨(W.heap.size + 1), 0, none⟩) 0 0, .slice (some ⟨(W.heap.size + 1 + 1), 0, none⟩) 0 0] 26)) (W.heap.size + 1 + 1 + 1) p d e (.slice (some ⟨W.heap.size, 0, none⟩) 0 0) (.slice (some ⟨(W.heap.size + 1), 0, none⟩) 0 0) (.slice (some ⟨(W.heap.size + 1 + 1), 0, none⟩) 0 0) [] [] [] := by
  obtain ⟨w1, h1⟩ : ∃ w1, w1 = W.alloc (.cells #[] 33) := ⟨_, rfl⟩
  obtain ⟨w2, h2⟩ : ∃ w2, w2 = w1.alloc (.cells #[] 33) := ⟨_, rfl⟩
  obtain ⟨w3, h3⟩ : ∃ w3, w3 = w2.alloc (.cells #[] 33) := ⟨_, rfl⟩
  have s1 : w1.heap.size = W.heap.size + 1 := by rw [h1]; simp
  have s2 : w2.heap.size = W.heap.size + 1 + 1 := by rw [h2]; simp [s1]
  have s3 : w3.heap.size = W.heap.size + 1 + 1 + 1 := by rw [h3]; simp [s2]
  have g1 : Gs W.heap.size w1 (.slice (some ⟨W.heap.size, 0, none⟩) 0 0) [] := by rw [h1]; exact Gs.new W (Nat.le_refl _)
  have g2 : Gs W.heap.size w2 (.slice (some ⟨(W.heap.size + 1), 0, none⟩) 0 0) [] := by rw [h2, ← s1]; exact Gs.new w1 (by omega)
  have g3 : Gs W.heap.size w3 (.slice (some ⟨(W.heap.size + 1 + 1), 0, none⟩) 0 0) [] := by rw [h3, ← s2]; exact Gs.new w2 (by omega)
  have b12 : Below w1.heap.size w1 w2 := by rw [h2]; exact below_alloc1 _ _
  have b23 : Below w2.heap.size w2 w3 := by rw [h3]; exact below_alloc1 _ _
  rw [← h1, ← h2, ← h3]
  refine ⟨by rw [← s3]; simpa using heap_alloc_new w3 (.cells #[.int .i64 p, .int .i64 d, .int .i64 e, .slice (some ⟨W.heap.size, 0, none⟩) 0 0, .slice (some ⟨(W.heap.size + 1), 0, none⟩) 0 0, .slice (some ⟨(W.heap.size + 1 + 1), 0, none⟩) 0 0] 26), by omega, ((g1.below b12).below b23).below (below_alloc1 _ _), (g2.below b23).below (below_alloc1 _ _), g3.below (below_alloc1 _ _), ?_, ?_, ?_⟩
  · intro b hb e; simp [Value.ownBlock] at hb e; omega
  · intro b hb e; simp [Value.ownBlock] at hb e; omega
  · intro b hb e; simp [Value.ownBlock] at hb e; omega
end Go.Proofs.YtckkbojankfdfaaDoor


namespace Go.Proofs.YtckkbojankfdfaaDoor
open Go.RowKit

theorem Gb.put {base g n cap : Nat} {w : World} {xs : List Int} (h : Gb base w (.slice (some ⟨g, 0, none⟩) n cap) xs) {k : Nat} (_hk : k < xs.length) (x : Int) :
    Gb base (w.setCell ⟨g, k, none⟩ (.int .i64 x)) (.slice (some ⟨g, 0, none⟩) n cap) (xs.set k x) ∧ w.frozen? ⟨g, k, none⟩ = false ∧ base ≤ g := by
  obtain ⟨hl, h2⟩ := h
  rcases h2 with ⟨h0, _⟩ | ⟨g', c', cur, hv, hlo, hh, hnc, hcm, hcs, htk⟩
  · cases h0
  · injection hv with e1 e2 e3
    injection e1 with e1
    injection e1 with e1
    subst e1 e2 e3
    refine ⟨⟨by simp, Or.inr ⟨g, cap, cur.setIfInBounds k (.int .i64 x), by simp, hlo, block_setCell' hh _, by simpa using hnc, hcm, by simpa using hcs, ?_⟩⟩, by simp [World.frozen?, hh], hlo⟩
    simp only [List.length_set, Nat.mul_one] at htk ⊢
    rw [Array.toList_setIfInBounds, List.take_set, htk, List.map_set]
theorem Gb.cell {base g n cap : Nat} {w : World} {v : Lin.V} (h : Gb base w (.slice (some ⟨g, 0, none⟩) n cap) (toL n v)) {k : Nat} (hk : k < n) : w.cell? ⟨g, k, none⟩ = some (.int .i64 (v k)) := by
  obtain ⟨b, o, c, hv, hc⟩ := l1_toL h.l1 (show 0 < n by omega)
  injection hv with e1 _ _
  injection e1 with e1
  injection e1 with e1 e2
  subst e1 e2
  have := hc k hk
  rwa [Nat.zero_add] at this
theorem Gb.block {base n cap : Nat} {w : World} {xs : List Int} {ad : Option Addr} (h : Gb base w (.slice ad n cap) xs) (hx : 0 < xs.length) : ∃ g, ad = some ⟨g, 0, none⟩ ∧ base ≤ g := by
  obtain ⟨hl, h2⟩ := h
  rcases h2 with ⟨_, h0⟩ | ⟨g', c', cur, hv, hlo, _⟩
  · omega
  · injection hv with e1 _ _
    exact ⟨g', e1, hlo⟩

theorem add_zero {p : Int} {r t : Lin.V} (h : Lin.Md p r) : Lin.add p r (-0) t = r := funext fun i => by
  unfold Lin.add
  rw [Int.neg_zero, Int.zero_mul, Int.add_zero]
  exact Lin.md_mod (h i).1 (h i).2
section
variable {P : Program} {md : Region.Mode} {ops : Array Oper} {n : Nat} {Q : Exit → Act → World → Prop}
end

/-- As RestR, the rest told exactly. -/
def RestRE (p : Int) (n : Nat) (R : List Lin.V) (v : Lin.V) (w : World) (e : Ending) (w' : World) : Prop :=
  ∃ (u : Value) (r : Lin.V), e = .returned u ∧ Gb w.heap.size w' u (toL n r) ∧ Below w.heap.size w w' ∧ Lin.RestE p R v R.length r ∧ Lin.Wd n r

end Go.Proofs.YtckkbojankfdfaaDoor


namespace Go.Proofs.YtckkbojankfdfaaDoor
open Go.RowKit

set_option maxHeartbeats 3200000 in
set_option maxRecDepth 100000 in
theorem l01RestE_any (p : Int) (n : Nat) (vl vr : Value) (R : List Lin.V) (v : Lin.V) (w : World) (hp : IsP p) (hL : L2 0 w vl (R.map (toL n))) (hv : L1 0 w vr (toL n v)) (hR : Lin.Red p R) (hw : ∀ u ∈ R, Lin.Wd n u) (hm : Lin.Md p v) (hvw : Lin.Wd n v) (hn : n ≤ 1048576) (hl : R.length ≤ 1048576) :
    Calls Tryd.prog 44 #[.int .i64 p, vl, vr] w (RestRE p n R v w) := by
  have HP := Lib.hid hp
  have HL := Lib.hid hL
  have HR := Lib.hid hR
  have HW := Lib.hid hw
  have HM := Lib.hid hm
  have HVW := Lib.hid hvw
  have HOWN := Lib.hid (l01Own_any vr (toL n v) w hv (by rw [toL_length]; exact hn))
  obtain ⟨al, cl, hvl⟩ := Sl.shape hL
  rw [List.length_map] at hvl
  subst hvl
  clear hp hL hR hw hm hvw hv
  go_enter Tryd.func44, Tryd.ntmps44
  go_wp2_with fail
  refine HOWN.out.mono ?_
  rintro e w1 ⟨u1, rfl, hg1, hb1⟩
  have HG1 := Lib.hid hg1
  have HB1 := Lib.hid hb1
  clear hg1 hb1 HOWN
  go_wp2
  go_loopw [7, 8] (fun o i wr => ∃ (k : Nat) (r : Lin.V), k ≤ R.length ∧ i = .int .i64 k ∧ Hid (Below w.heap.size w wr) ∧ Hid (Gb w.heap.size wr o (toL n r)) ∧ Hid (Lin.RestE p R v k r) ∧ Hid (Lin.Wd n r)) (fun _ i _ => R.length - (intOf i).toNat)
  case atStart => exact ⟨0, v, Nat.zero_le _, rfl, HB1, HG1, Lib.hid (Lin.RestE.start HM.out), HVW⟩
  case round =>
    clear HG1 HB1
    obtain ⟨k, r, hk, rfl, HB, HG, HRE, HRW⟩ := hrel
    have hsz : w.heap.size ≤ wr.heap.size := HB.out.size
    by_cases hlt : k < R.length
    · refine Sl.cases HL.out (fun _ _ hx _ => absurd hlt (by have := congrArg List.length hx; simp at this; simp [this])) (fun b o c2 hvv _ _ hc => ?_)
      rw [List.length_map] at hvv
      obtain ⟨rfl, rfl⟩ : al = some ⟨b, o, none⟩ ∧ cl = c2 := by simpa using hvv
      obtain ⟨ur, hur, hrr⟩ := hc k (by rw [List.length_map]; exact hlt)
      rw [List.getElem_map] at hrr
      obtain ⟨t, ht⟩ : ∃ t, t = R[k] := ⟨_, rfl⟩
      have HTE := Lib.hid ht
      rw [← ht] at hrr
      have HTW : Hid (Lin.Wd n t) := Lib.hid (by rw [ht]; exact HW.out _ (List.getElem_mem hlt))
      have HTM : Hid (Lin.Md p t) := Lib.hid (by rw [ht]; exact HR.out.md _ (List.getElem_mem hlt))
      have HTN : Hid (t ≠ Lin.zv) := Lib.hid (by rw [ht]; exact HR.out.ne (List.getElem_mem hlt))
      obtain ⟨hdn, _, _⟩ := ld_ltn HTW.out HTN.out
      obtain ⟨d, hd⟩ : ∃ d, d = Lin.ld t := ⟨_, rfl⟩
      have HD := Lib.hid hd
      rw [← hd] at hdn
      obtain ⟨g, og, cg, hou, hcell⟩ := l1_toL HG.out.l1 (show 0 < n by omega)
      subst hou
      obtain ⟨f, hf⟩ : ∃ f, f = r d := ⟨_, rfl⟩
      have HF := Lib.hid hf
      have hfb := HRE.out.rest.md d
      rw [← hf] at hfb
      obtain ⟨ar, cr, hus⟩ := l1_slice hrr
      subst hus
      have HROW := Lib.hid hrr
      have hrow1 : ∀ W, Below wr.heap.size wr W → W.cell? ⟨b, o + k, none⟩ = some (.slice ar n cr) := fun W h => later (HB.out.trans (h.mono hsz)) (Nat.le_refl _) hur
      have hcell1 : ∀ W, Below wr.heap.size wr W → W.cell? ⟨g, og + d, none⟩ = some (.int .i64 f) := fun W h => by rw [hf]; exact later h (Nat.le_refl _) (hcell d hdn)
      obtain ⟨y, hy⟩ : ∃ y, y = Lin.add p r (-f) t := ⟨_, rfl⟩
      have HRE2 : Hid (Lin.RestE p R v (k + 1) y) := Lib.hid (by rw [hy, HF.out, HD.out, HTE.out]; exact HRE.out.step (by have := HP.out.lo1; omega) HR.out hlt)
      have HYW : Hid (Lin.Wd n y) := Lib.hid (by rw [hy]; exact Lin.add_wd _ HRW.out HTW.out)
      have HLEAD : Hid (∀ W, Below wr.heap.size wr W → Calls Tryd.prog 59 #[.slice ar n cr] W (QW (.int .i64 (d : Int)) W)) := Lib.hid (fun W h => by
        have := l01Lead_any _ _ W (HROW.out.below (HB.out.trans (h.mono hsz))) (by rw [toL_length]; exact hn)
        rwa [leadOf_toL HTW.out HTN.out, ← HD.out] at this)
      have HLESS : Hid (∀ W, Below wr.heap.size wr W → Calls Tryd.prog 61 #[.int .i64 p, .slice (some ⟨g, og, none⟩) n cg, .slice ar n cr, .int .i64 f] W (GbR (toL n y) W)) := Lib.hid (fun W h => by
        rw [hy]
        exact l01Less_any p f n _ _ r t W HP.out ((HG.out.below h).l1) (HROW.out.below (HB.out.trans (h.mono hsz))) HRE.out.rest.md HTM.out hfb hn)
      clear hvv hc hur hrr ht hd hcell hf hy hfb
      go_wp2
      refine wp_region_held (S := fun W => Below wr.heap.size wr W) (by kernel_rfl) ?_
      have S0 : Below wr.heap.size wr wr.drew := (Below.refl _ _).drew
      refine held_take (i := 0) (v := .int .i64 p) (some 17) rfl rfl (by kernel_rfl) (by kernel_rfl) (by kernel_rfl) (fun _ _ _ h => h) (yieldsIf_move (by kernel_rfl) rfl (by kernel_rfl)) S0 ?_
      refine held_take (i := 1) (v := .slice (some ⟨g, og, none⟩) n cg) (some 18) rfl rfl (by kernel_rfl) (by kernel_rfl) (by kernel_rfl) (fun _ _ _ h => h) (yieldsIf_move (by kernel_rfl) rfl (by kernel_rfl)) S0 ?_
      refine held_take (i := 2) (v := .slice (some ⟨b, o, none⟩) R.length cl) (some 19) rfl rfl (by kernel_rfl) (by kernel_rfl) (by kernel_rfl) (fun _ _ _ h => h) (yieldsIf_move (by kernel_rfl) rfl (by kernel_rfl)) S0 ?_
      refine held_take (i := 3) (v := .int .i64 (k : Int)) (some 20) rfl rfl (by kernel_rfl) (by kernel_rfl) (by kernel_rfl) (fun _ _ _ h => h) (yieldsIf_move (by kernel_rfl) rfl (by kernel_rfl)) S0 ?_
      refine held_take (i := 4) (v := .pointer (some ⟨b, o + k, none⟩)) (some 21) rfl rfl (by kernel_rfl) (by kernel_rfl) (by kernel_rfl) (fun _ _ _ h => h) (yieldsIf_index (by kernel_rfl) rfl (by kernel_rfl) (by kernel_rfl) (hidxS b o cl hlt)) S0 ?_
      refine held_take (i := 5) (v := .slice ar n cr) (some 22) rfl rfl (by kernel_rfl) (by kernel_rfl) (by kernel_rfl) (fun _ _ _ h => h) (yieldsIf_cell (by kernel_rfl) rfl (by kernel_rfl) (fun W h => hloadS W (hrow1 W h))) S0 ?_
      refine held_take (i := 6) (v := .slice (some ⟨g, og, none⟩) n cg) (some 23) rfl rfl (by kernel_rfl) (by kernel_rfl) (by kernel_rfl) (fun _ _ _ h => h) (yieldsIf_move (by kernel_rfl) rfl (by kernel_rfl)) S0 ?_
      refine held_take (i := 7) (v := .slice (some ⟨b, o, none⟩) R.length cl) (some 24) rfl rfl (by kernel_rfl) (by kernel_rfl) (by kernel_rfl) (fun _ _ _ h => h) (yieldsIf_move (by kernel_rfl) rfl (by kernel_rfl)) S0 ?_
      refine held_take (i := 8) (v := .int .i64 (k : Int)) (some 25) rfl rfl (by kernel_rfl) (by kernel_rfl) (by kernel_rfl) (fun _ _ _ h => h) (yieldsIf_move (by kernel_rfl) rfl (by kernel_rfl)) S0 ?_
      refine held_take (i := 9) (v := .pointer (some ⟨b, o + k, none⟩)) (some 26) rfl rfl (by kernel_rfl) (by kernel_rfl) (by kernel_rfl) (fun _ _ _ h => h) (yieldsIf_index (by kernel_rfl) rfl (by kernel_rfl) (by kernel_rfl) (hidxS b o cl hlt)) S0 ?_
      refine held_take (i := 10) (v := .slice ar n cr) (some 27) rfl rfl (by kernel_rfl) (by kernel_rfl) (by kernel_rfl) (fun _ _ _ h => h) (yieldsIf_cell (by kernel_rfl) rfl (by kernel_rfl) (fun W h => hloadS W (hrow1 W h))) S0 ?_
      refine held_enter (i := 11) (some 28) (f := 59) (args := #[.slice ar n cr]) (by kernel_rfl) rfl rfl rfl (by kernel_rfl) (HLEAD.out _ S0) ?_ (fun c w' h => by cases h.1) (fun w' h => by cases h.1)
      rintro e4 W4 ⟨he4, rfl⟩
      injection he4 with he4
      subst he4
      refine ⟨S0, ?_⟩
      refine held_take (i := 12) (v := .pointer (some ⟨g, og + d, none⟩)) (some 29) rfl rfl (by kernel_rfl) (by kernel_rfl) (by kernel_rfl) (fun _ _ _ h => h) (yieldsIf_index (by kernel_rfl) rfl (by kernel_rfl) (by kernel_rfl) (hidxI g og cg hdn)) S0 ?_
      refine held_take (i := 13) (v := .int .i64 f) (some 30) rfl rfl (by kernel_rfl) (by kernel_rfl) (by kernel_rfl) (fun _ _ _ h => h) (yieldsIf_cell (by kernel_rfl) rfl (by kernel_rfl) (fun W h => hload W (hcell1 W h))) S0 ?_
      refine held_enter (i := 14) (some 31) (f := 61) (args := #[.int .i64 p, .slice (some ⟨g, og, none⟩) n cg, .slice ar n cr, .int .i64 f]) (by kernel_rfl) rfl rfl rfl (by kernel_rfl) (HLESS.out _ S0) ?_ (fun c w' h => by obtain ⟨_, h, _⟩ := h; cases h) (fun w' h => by obtain ⟨_, h, _⟩ := h; cases h)
      rintro e5 W5 ⟨u5, he5, hg5, hb5⟩
      injection he5 with he5
      subst he5
      have S1 : Below wr.heap.size wr W5 := S0.trans hb5
      have HB5 := Lib.hid (HB.out.trans (S1.mono hsz))
      have HG5 : Hid (Gb w.heap.size W5 e5 (toL n y)) := Lib.hid (hg5.mono hsz)
      refine ⟨S1, ?_⟩
      refine held_take (i := 15) (v := e5) (some 7) rfl rfl (by kernel_rfl) (by kernel_rfl) (by kernel_rfl) (fun _ _ _ h => h) (yieldsIf_assign (by kernel_rfl) rfl (by kernel_rfl)) S1 ?_
      refine wpAnyH_done (by kernel_rfl) ?_ _
      simp only [Act.put, List.setIfInBounds_toArray, List.set_cons_zero, List.set_cons_succ]
      clear S0 S1 hg5 hb5 hrow1 hcell1 HLEAD HLESS HB HG
      go_wp2
      go_roundw
      case rel => exact ⟨k + 1, y, by omega, by go_num, HB5, HG5, HRE2, HYW⟩
      case measure => simp [intOf]; omega
    · have hkk : Hid (k = R.length) := Lib.hid (by omega)
      go_wp2
      go_ret
      exact ⟨_, r, rfl, HG.out, HB.out, by have := HRE.out; rwa [hkk.out] at this, HRW.out⟩
end Go.Proofs.YtckkbojankfdfaaDoor


namespace Go.Proofs.YtckkbojankfdfaaDoor
open Go.RowKit

/-- The couple in its box, and a place for a couple behind it. -/
structure DvB (w W : World) (p d e : Int) (iv jv kv : Value) (il jl kl : List (List Int)) : Prop where
  box : BxCp w W w.heap.size p d e iv jv kv il jl kl
  res : ∃ x0 x1 x2 x3 x4 x5, W.heap[w.heap.size + 1]? = some (.cells #[x0, x1, x2, x3, x4, x5] 26 (0, 0))
theorem DvB.next {w W W' : World} {p d e : Int} {iv jv kv : Value} {il jl kl : List (List Int)} (h : DvB w W p d e iv jv kv il jl kl) (hb : Below W.heap.size W W') : DvB w W' p d e iv jv kv il jl kl :=
  ⟨h.box.next hb, by
    obtain ⟨x0, x1, x2, x3, x4, x5, hr⟩ := h.res
    exact ⟨x0, x1, x2, x3, x4, x5, (hb.block _ (Array.getElem?_eq_some_iff.1 hr).1).trans hr⟩⟩
theorem DvB.start {w : World} {p d e : Int} {iv jv kv : Value} {il jl kl : List (List Int)} (h : Cp 0 w iv jv kv il jl kl) (x0 x1 x2 x3 x4 x5 : Value) :
    DvB w ((w.alloc (.cells #[.int .i64 p, .int .i64 d, .int .i64 e, iv, jv, kv] 26)).alloc (.cells #[x0, x1, x2, x3, x4, x5] 26)) p d e iv jv kv il jl kl :=
  ⟨(BxCp.start 26 h).next (below_alloc1 _ _), x0, x1, x2, x3, x4, x5, by
    have := heap_alloc_new (w.alloc (.cells #[.int .i64 p, .int .i64 d, .int .i64 e, iv, jv, kv] 26)) (.cells #[x0, x1, x2, x3, x4, x5] 26)
    simpa using this⟩

end Go.Proofs.YtckkbojankfdfaaDoor


namespace Go.Proofs.YtckkbojankfdfaaDoor
open Go.RowKit

theorem hidxVo (b o : Nat) {k n : Nat} (cap : Nat) (hk : k < n) (w : World) : (Instr.indexAt 73 (.slice (some ⟨b, o, none⟩) n cap) (.int .i64 k)).run Tryd.prog w = .ok (.pointer (some ⟨b, o + k * 40, none⟩)) w := by
  have h2 : (0 : Int) ≤ (k : Int) := by omega
  have h3 : (k : Int) < (n : Int) := by omega
  go_simp
theorem hneq_run (u v : Lin.V) (w : World) : (binOp .neq 82 (.agg (vl u).toArray) (.agg (vl v).toArray)).run Tryd.prog w = .ok (.bool (!decide (toL 40 u = toL 40 v))) w :=
  run_neq_ints w (toL 40 u) (toL 40 v) Tryd.underlyingV Tryd.underlying2 Tryd.infoI1 (toL_length _ _) (toL_length _ _)
theorem hneq_yes {u v : Lin.V} (h : u = v) (w : World) : (binOp .neq 82 (.agg (vl u).toArray) (.agg (vl v).toArray)).run Tryd.prog w = .ok (.bool false) w := by
  subst h
  rw [hneq_run, decide_eq_true rfl]
  rfl
theorem hneq_no {u v : Lin.V} (hu : Lin.Wd 40 u) (hv : Lin.Wd 40 v) (h : ¬ u = v) (w : World) : (binOp .neq 82 (.agg (vl u).toArray) (.agg (vl v).toArray)).run Tryd.prog w = .ok (.bool true) w := by
  rw [hneq_run, decide_eq_false (fun e => h (by rw [← ofL_toL hu, ← ofL_toL hv, e]))]
  rfl

set_option maxHeartbeats 3200000 in
set_option maxRecDepth 100000 in
theorem equalV_any (sa sb : Value) (A B : List Lin.V) (w : World) (hA : Vs 0 w sa A) (hB : Vs 0 w sb B) (wA : ∀ u ∈ A, Lin.Wd 40 u) (wB : ∀ u ∈ B, Lin.Wd 40 u) (hl : A.length ≤ 1048576) :
    Calls Tryd.prog 67 #[sa, sb] w (BB (A = B) w) := by
  obtain ⟨aa, ca, rfl⟩ := Vs.shape hA
  obtain ⟨ab, cb, rfl⟩ := Vs.shape hB
  have HA := Lib.hid hA
  have HB0 := Lib.hid hB
  have HWA := Lib.hid wA
  have HWB := Lib.hid wB
  obtain ⟨n, hn⟩ : ∃ n, n = A.length := ⟨_, rfl⟩
  obtain ⟨m, hm⟩ : ∃ m, m = B.length := ⟨_, rfl⟩
  rw [← hn] at hl ⊢
  rw [← hm]
  have HN := Lib.hid hn
  have HM := Lib.hid hm
  clear hA hB wA wB hn hm
  go_enter Tryd.func67, Tryd.ntmps67
  by_cases hnm : n = m
  · subst hnm
    have hq : ((n : Int) != (n : Int)) = false := by simp
    go_wp2
    go_loopw [5, 13] (fun _ i wr => ∃ k : Nat, k ≤ n ∧ i = .int .i64 k ∧ Hid (Below w.heap.size w wr) ∧ Hid (A.take k = B.take k)) (fun _ i _ => n - (intOf i).toNat)
    case atStart => exact ⟨0, Nat.zero_le _, rfl, Lib.hid (Below.refl _ _), Lib.hid rfl⟩
    case round =>
      obtain ⟨k, hk, rfl, HB, HE⟩ := hrel
      obtain ⟨wx, hwx⟩ : ∃ wx : World, wx = wr := ⟨_, rfl⟩
      subst hwx
      by_cases hlt : k < n
      · have hlA : k < A.length := by rw [← HN.out]; exact hlt
        have hlB : k < B.length := by rw [← HM.out]; exact hlt
        refine Vs.cases (HA.out.below HB.out) (fun _ _ hx _ => absurd hlA (by simp [hx])) (fun b o cap hv _ _ hc => ?_)
        refine Vs.cases (HB0.out.below HB.out) (fun _ _ hx _ => absurd hlB (by simp [hx])) (fun b2 o2 cap2 hv2 _ _ hc2 => ?_)
        rw [← HN.out] at hv
        rw [← HM.out] at hv2
        obtain ⟨rfl, rfl⟩ : aa = some ⟨b, o, none⟩ ∧ ca = cap := by simpa using hv
        obtain ⟨rfl, rfl⟩ : ab = some ⟨b2, o2, none⟩ ∧ cb = cap2 := by simpa using hv2
        obtain ⟨u, hu⟩ : ∃ u, u = A[k] := ⟨_, rfl⟩
        obtain ⟨v, hv9⟩ : ∃ v, v = B[k] := ⟨_, rfl⟩
        have HVA : Hid (∀ W, Below wx.heap.size wx W → At W b (o + k * 40) u) := Lib.hid (fun W hb => by have h0 := hc k hlA; rw [← hu] at h0; exact h0.below hb h0.lt)
        have HVB : Hid (∀ W, Below wx.heap.size wx W → At W b2 (o2 + k * 40) v) := Lib.hid (fun W hb => by have h0 := hc2 k hlB; rw [← hv9] at h0; exact h0.below hb h0.lt)
        have HUW : Hid (Lin.Wd 40 u) := Lib.hid (by rw [hu]; exact HWA.out _ (List.getElem_mem hlA))
        have HVW : Hid (Lin.Wd 40 v) := Lib.hid (by rw [hv9]; exact HWB.out _ (List.getElem_mem hlB))
        have HU := Lib.hid hu
        have HV := Lib.hid hv9
        clear hv hv2 hc hc2 hu hv9
        have hlk : (k : Int) < (n : Int) := by omega
        by_cases he : u = v
        · have huv := Lib.hid he
          clear he
          go_upto_region 6 with fail
          refine wp_region_held (S := fun W => Below wx.heap.size wx W) (by kernel_rfl) ?_
          have S0 : Below wx.heap.size wx wx.drew := (Below.refl _ _).drew
          change wpAnyH _ _ _ _ _ _ _ _ wx.drew
          refine held_take (i := 0) (v := .slice (some ⟨b, o, none⟩) n ca) (some 16) rfl rfl (by kernel_rfl) (by kernel_rfl) (by kernel_rfl) (fun _ _ _ h => h) (yieldsIf_move (by kernel_rfl) rfl (by kernel_rfl)) S0 ?_
          refine held_take (i := 1) (v := .int .i64 (k : Int)) (some 17) rfl rfl (by kernel_rfl) (by kernel_rfl) (by kernel_rfl) (fun _ _ _ h => h) (yieldsIf_move (by kernel_rfl) rfl (by kernel_rfl)) S0 ?_
          refine held_take (i := 2) (v := .pointer (some ⟨b, o + k * 40, none⟩)) (some 18) rfl rfl (by kernel_rfl) (by kernel_rfl) (by kernel_rfl) (fun _ _ _ h => h) (yieldsIf_index (by kernel_rfl) rfl (by kernel_rfl) (by kernel_rfl) (hidxVo b o ca hlt)) S0 ?_
          refine held_take (i := 3) (v := .agg (vl u).toArray) (some 19) rfl rfl (by kernel_rfl) (by kernel_rfl) (by kernel_rfl) (fun _ _ _ h => h) (yieldsIf_load_mid (by kernel_rfl) 82 (.tmp 18) (by kernel_rfl) b (o + k * 40) (by kernel_rfl) (vl u) _ (fun W h => (HVA.out W h).range) Tryd.underlyingV rfl (Tryd.infoVl u)) S0 ?_
          refine held_take (i := 4) (v := .slice (some ⟨b2, o2, none⟩) n cb) (some 20) rfl rfl (by kernel_rfl) (by kernel_rfl) (by kernel_rfl) (fun _ _ _ h => h) (yieldsIf_move (by kernel_rfl) rfl (by kernel_rfl)) S0 ?_
          refine held_take (i := 5) (v := .int .i64 (k : Int)) (some 21) rfl rfl (by kernel_rfl) (by kernel_rfl) (by kernel_rfl) (fun _ _ _ h => h) (yieldsIf_move (by kernel_rfl) rfl (by kernel_rfl)) S0 ?_
          refine held_take (i := 6) (v := .pointer (some ⟨b2, o2 + k * 40, none⟩)) (some 22) rfl rfl (by kernel_rfl) (by kernel_rfl) (by kernel_rfl) (fun _ _ _ h => h) (yieldsIf_index (by kernel_rfl) rfl (by kernel_rfl) (by kernel_rfl) (hidxVo b2 o2 cb hlt)) S0 ?_
          refine held_take (i := 7) (v := .agg (vl v).toArray) (some 23) rfl rfl (by kernel_rfl) (by kernel_rfl) (by kernel_rfl) (fun _ _ _ h => h) (yieldsIf_load_mid (by kernel_rfl) 82 (.tmp 22) (by kernel_rfl) b2 (o2 + k * 40) (by kernel_rfl) (vl v) _ (fun W h => (HVB.out W h).range) Tryd.underlyingV rfl (Tryd.infoVl v)) S0 ?_
          refine held_take (i := 8) (v := .bool false) (some 24) rfl rfl (by kernel_rfl) (by kernel_rfl) (by kernel_rfl) (fun _ _ _ h => h) (yieldsIf_bin (by kernel_rfl) rfl (by kernel_rfl) (by kernel_rfl) (fun _ => rfl) (hneq_yes huv.out)) S0 ?_
          refine wpAnyH_done (by kernel_rfl) ?_ _
          simp only [Act.put, List.setIfInBounds_toArray, List.set_cons_zero, List.set_cons_succ]
          have HBD := Lib.hid (HB.out.trans (S0.mono HB.out.size))
          clear S0
          go_wp2
          go_roundw
          case rel => exact ⟨k + 1, by omega, by go_num, HBD, Lib.hid (by rw [List.take_succ_eq_append_getElem hlA, List.take_succ_eq_append_getElem hlB, HE.out, ← HU.out, ← HV.out, huv.out])⟩
          case measure => simp [intOf]; omega
        · have huv := Lib.hid he
          clear he
          go_upto_region 6 with fail
          refine wp_region_held (S := fun W => Below wx.heap.size wx W) (by kernel_rfl) ?_
          have S0 : Below wx.heap.size wx wx.drew := (Below.refl _ _).drew
          change wpAnyH _ _ _ _ _ _ _ _ wx.drew
          refine held_take (i := 0) (v := .slice (some ⟨b, o, none⟩) n ca) (some 16) rfl rfl (by kernel_rfl) (by kernel_rfl) (by kernel_rfl) (fun _ _ _ h => h) (yieldsIf_move (by kernel_rfl) rfl (by kernel_rfl)) S0 ?_
          refine held_take (i := 1) (v := .int .i64 (k : Int)) (some 17) rfl rfl (by kernel_rfl) (by kernel_rfl) (by kernel_rfl) (fun _ _ _ h => h) (yieldsIf_move (by kernel_rfl) rfl (by kernel_rfl)) S0 ?_
          refine held_take (i := 2) (v := .pointer (some ⟨b, o + k * 40, none⟩)) (some 18) rfl rfl (by kernel_rfl) (by kernel_rfl) (by kernel_rfl) (fun _ _ _ h => h) (yieldsIf_index (by kernel_rfl) rfl (by kernel_rfl) (by kernel_rfl) (hidxVo b o ca hlt)) S0 ?_
          refine held_take (i := 3) (v := .agg (vl u).toArray) (some 19) rfl rfl (by kernel_rfl) (by kernel_rfl) (by kernel_rfl) (fun _ _ _ h => h) (yieldsIf_load_mid (by kernel_rfl) 82 (.tmp 18) (by kernel_rfl) b (o + k * 40) (by kernel_rfl) (vl u) _ (fun W h => (HVA.out W h).range) Tryd.underlyingV rfl (Tryd.infoVl u)) S0 ?_
          refine held_take (i := 4) (v := .slice (some ⟨b2, o2, none⟩) n cb) (some 20) rfl rfl (by kernel_rfl) (by kernel_rfl) (by kernel_rfl) (fun _ _ _ h => h) (yieldsIf_move (by kernel_rfl) rfl (by kernel_rfl)) S0 ?_
          refine held_take (i := 5) (v := .int .i64 (k : Int)) (some 21) rfl rfl (by kernel_rfl) (by kernel_rfl) (by kernel_rfl) (fun _ _ _ h => h) (yieldsIf_move (by kernel_rfl) rfl (by kernel_rfl)) S0 ?_
          refine held_take (i := 6) (v := .pointer (some ⟨b2, o2 + k * 40, none⟩)) (some 22) rfl rfl (by kernel_rfl) (by kernel_rfl) (by kernel_rfl) (fun _ _ _ h => h) (yieldsIf_index (by kernel_rfl) rfl (by kernel_rfl) (by kernel_rfl) (hidxVo b2 o2 cb hlt)) S0 ?_
          refine held_take (i := 7) (v := .agg (vl v).toArray) (some 23) rfl rfl (by kernel_rfl) (by kernel_rfl) (by kernel_rfl) (fun _ _ _ h => h) (yieldsIf_load_mid (by kernel_rfl) 82 (.tmp 22) (by kernel_rfl) b2 (o2 + k * 40) (by kernel_rfl) (vl v) _ (fun W h => (HVB.out W h).range) Tryd.underlyingV rfl (Tryd.infoVl v)) S0 ?_
          refine held_take (i := 8) (v := .bool true) (some 24) rfl rfl (by kernel_rfl) (by kernel_rfl) (by kernel_rfl) (fun _ _ _ h => h) (yieldsIf_bin (by kernel_rfl) rfl (by kernel_rfl) (by kernel_rfl) (fun _ => rfl) (hneq_no HUW.out HVW.out huv.out)) S0 ?_
          refine wpAnyH_done (by kernel_rfl) ?_ _
          simp only [Act.put, List.setIfInBounds_toArray, List.set_cons_zero, List.set_cons_succ]
          have HBD := Lib.hid (HB.out.trans (S0.mono HB.out.size))
          clear S0
          go_wp2
          go_ret
          exact bb_false HBD.out (fun e => huv.out (by rw [HU.out, HV.out]; subst e; rfl))
      · have hlk : ¬ (k : Int) < (n : Int) := by omega
        have HK : Hid (k = n) := Lib.hid (by omega)
        go_wp2
        go_ret
        exact ⟨true, rfl, HB.out, fun _ => by have h0 := HE.out; rwa [List.take_of_length_le (by rw [← HN.out, HK.out]; exact Nat.le_refl _), List.take_of_length_le (by rw [← HM.out, HK.out]; exact Nat.le_refl _)] at h0, fun _ => rfl⟩
  · have hq : ((n : Int) != (m : Int)) = true := by simp; omega
    have HNE := Lib.hid hnm
    clear hnm
    go_wp2
    go_ret
    exact bb_false (Below.refl _ _) (fun e => HNE.out (by rw [HN.out, HM.out, e]))
end Go.Proofs.YtckkbojankfdfaaDoor


namespace Go.Proofs.YtckkbojankfdfaaDoor
open Go.RowKit

/-- The dimension of the space of a table's rows. -/
def RkT (p : Int) (t : List (List Int)) (x : Int) : Prop := ∃ R, Lin.Red p R ∧ Lin.Eqv p R (t.map ofL) ∧ x = (R.length : Int)
theorem RkT.unique {p : Int} (hp : 1 < p) {t : List (List Int)} {x y : Int} (h : RkT p t x) (k : RkT p t y) : x = y := by
  obtain ⟨R, r1, r2, rfl⟩ := h
  obtain ⟨S, s1, s2, rfl⟩ := k
  rw [Lin.Red.unique hp r1 s1 (fun v => (r2 v).trans (s2 v).symm)]
theorem Gb.nil (base : Nat) (w : World) : Gb base w (.slice none 0 0) [] := ⟨rfl, Or.inl ⟨rfl, rfl⟩⟩
/-- A row that the call gathered, as a result. -/
theorem Gb.rw1 {lo : Nat} {W : World} {u : Value} {xs : List Int} (h : Gb lo W u xs) (hl : xs.length ≤ 1048576) : Rw1 lo W.heap.size W u xs := by
  have h1 := h.g1.l1
  obtain ⟨_, h2 | ⟨g, cap, cur, rfl, hg, hh, hc, hm, hs, ht⟩⟩ := h
  · obtain ⟨rfl, h0⟩ := h2
    rw [List.eq_nil_of_length_eq_zero h0]
    exact Rw1.nil _ _ _
  · have hlt : g < W.heap.size := (Array.getElem?_eq_some_iff.1 hh).1
    refine w1_rw1 ?_ hl
    by_cases h0 : xs.length = 0
    · exact Or.inl ⟨List.eq_nil_of_length_eq_zero h0, _, _, by rw [h0]⟩
    · refine Or.inr ⟨g, 0, cap, rfl, hg, hlt, by omega, fun k hk => ?_, fun k hk => ?_⟩
      · rcases h1 with ⟨hx, _⟩ | ⟨b, o, c2, hv, _, _, hcl⟩
        · rw [hx] at h0; exact absurd rfl h0
        · injection hv with e1 e2 e3
          injection e1 with e1
          injection e1 with e1 e4
          subst e1 e4
          exact hcl k hk
      · simp [World.frozen?, hh]
set_option maxHeartbeats 1600000 in
set_option maxRecDepth 100000 in
theorem images_any (p a b : Int) (v : Value) (t : List (List Int)) (c : Int) (w : World) (hp : IsP p) (h : L2 0 w v t) (hc : c ≤ 40) (ht : ∀ r ∈ t, RowOk p c r) (hl : t.length ≤ 1048575) :
    Calls Tryd.prog 55 #[.agg #[.int .i64 p, .int .i64 a, .int .i64 b, v]] w (VsR (fun R => RedOf p R (t.map ofL) ∧ R.length ≤ (t.map ofL).length) w) := by
  obtain ⟨av, cv, rfl⟩ := Sl.shape h
  obtain ⟨w1, hw1⟩ : ∃ w1, w1 = w.alloc (.cells #[.int .i64 p, .int .i64 a, .int .i64 b, .slice av t.length cv] 53) := ⟨_, rfl⟩
  have hb1 : Below w.heap.size w w1 := by rw [hw1]; exact below_alloc1 _ _
  have k0 : w1.cell? ⟨w.heap.size, 0, none⟩ = some (.int .i64 p) := by rw [hw1]; simp
  have k3 : w1.cell? ⟨w.heap.size, 3, none⟩ = some (.slice av t.length cv) := by rw [hw1]; simp
  have HC : Hid (∀ W, Below w1.heap.size w1 W → W.cell? ⟨w.heap.size, 0, none⟩ = some (.int .i64 p) ∧ W.cell? ⟨w.heap.size, 3, none⟩ = some (.slice av t.length cv)) := Lib.hid (fun W hb => ⟨later hb (Nat.le_refl _) k0, later hb (Nat.le_refl _) k3⟩)
  have HB1 := Lib.hid hb1
  have HL := Lib.hid (h.below hb1)
  have HR40 : Hid (∀ r ∈ t, r.length ≤ 40) := Lib.hid (fun r hr => by have := (ht r hr).1; omega)
  have HMD : Hid (∀ u ∈ t.map ofL, Lin.Md p u) := Lib.hid (vecs_md (by have := hp.lo; omega) ht)
  have HWD : Hid (∀ u ∈ t.map ofL, Lin.Wd 40 u) := Lib.hid (fun u hu => by
    obtain ⟨r, hr, rfl⟩ := List.mem_map.1 hu
    exact ofL_wd (HR40.out r hr))
  have HD : Hid (Below w1.heap.size w1 w1.drew) := Lib.hid (Below.refl _ _).drew
  have HP := Lib.hid hp
  have HSZ : Hid (w.heap.size ≤ w1.heap.size) := Lib.hid hb1.size
  clear h hb1 k0 k3 ht hp
  go_enter Tryd.func55, Tryd.ntmps55
  go_upto_region 1 with fail
  rw [← hw1]
  clear hw1
  have c0 := (HC.out _ (Below.refl _ _)).1
  have c3 := (HC.out _ (Below.refl _ _)).2
  go_wp2
  go_region_held3 (fun w' => w'.cell? ⟨w.heap.size, 0, none⟩ = some (.int .i64 p) ∧ w'.cell? ⟨w.heap.size, 3, none⟩ = some (.slice av t.length cv))
    (first | exact HC.out _ (Below.refl _ _) | exact HC.out _ HD.out | exact HC.out _ HB4.out | exact HC.out _ HB5.out | go_keep)
    (first
      | (go_at_call 75; (with_reducible refine (vectorsOf_any _ t _ (HL.out.below HD.out) (by omega) HR40.out).mono ?_); rintro ee w4 ⟨s4, M, rfl, hb4, ho4, rfl⟩; have HB4 : Hid (Below w1.heap.size w1 w4) := Lib.hid (HD.out.trans hb4); have HO4 := Lib.hid (ho4.vs.lower (Nat.zero_le _)); clear ho4 hb4)
      | (go_at_call 74; (with_reducible refine (reducedList_any p s4 _ _ HP.out HO4.out HMD.out HWD.out (by rw [List.length_map]; omega)).mono ?_); rintro ee w5 ⟨s5, R, rfl, hb5, ho5, hr5, hl5⟩; have HB5 : Hid (Below w1.heap.size w1 w5) := Lib.hid (HB4.out.trans (hb5.mono HB4.out.size)); have HO5 := Lib.hid (And.intro ho5 (HB4.out.size)); have HR5 := Lib.hid (And.intro hr5 hl5); clear hb5 ho5 hr5 hl5))
  clear c0 c3
  go_wp2
  go_ret
  refine ⟨s5, R, rfl, HB1.out.trans (HB5.out.mono HSZ.out), ⟨HO5.out.1.1, HO5.out.1.2.imp id (fun ⟨g, cap, cur, h1, h2, h3⟩ => ⟨g, cap, cur, h1, Nat.le_trans HSZ.out (Nat.le_trans HO5.out.2 h2), h3⟩)⟩, HR5.out⟩

/-- The ranks of the maps of a couple. -/
def RksOf (p : Int) (il jl kl : List (List Int)) (out : List Int) : Prop := ∃ a b c, out = [a, b, c] ∧ RkT p il a ∧ RkT p jl b ∧ RkT p kl c
theorem RksOf.unique {p : Int} (hp : 1 < p) {il jl kl : List (List Int)} {x y : List Int} (h : RksOf p il jl kl x) (k : RksOf p il jl kl y) : x = y := by
  obtain ⟨a, b, c, rfl, h1, h2, h3⟩ := h
  obtain ⟨a', b', c', rfl, k1, k2, k3⟩ := k
  rw [h1.unique hp k1, h2.unique hp k2, h3.unique hp k3]
theorem RksOf.len {p : Int} {il jl kl : List (List Int)} {x : List Int} (h : RksOf p il jl kl x) : x.length ≤ 1048576 := by
  obtain ⟨a, b, c, rfl, _⟩ := h
  simp


end Go.Proofs.YtckkbojankfdfaaDoor


namespace Go.Proofs.YtckkbojankfdfaaDoor
open Go.RowKit

section
variable {P : Program} {ops : Array Oper} {Q : Exit → Act → World → Prop} {md : Region.Mode} {S : World → Prop}
theorem held_one {i : Nat} {fuel : Nat} {listed : Array Bool} {a : Act} {w : World} (hr : Region.ready md ops listed = [i])
    (h1 : wpOp P ops Q i (fun a' w' => S w' ∧ wpAnyH P md ops Q S fuel (listed.setIfInBounds i true) a' w') a w) : wpAnyH P md ops Q S (fuel + 1) listed a w :=
  wpAnyH_all hr (by simp) (fun k hk => by obtain rfl := List.mem_singleton.1 hk; exact h1)
theorem held_two {i j : Nat} {fuel : Nat} {listed : Array Bool} {a : Act} {w : World} (hr : Region.ready md ops listed = [i, j])
    (h1 : wpOp P ops Q i (fun a' w' => S w' ∧ wpAnyH P md ops Q S fuel (listed.setIfInBounds i true) a' w') a w)
    (h2 : wpOp P ops Q j (fun a' w' => S w' ∧ wpAnyH P md ops Q S fuel (listed.setIfInBounds j true) a' w') a w) : wpAnyH P md ops Q S (fuel + 1) listed a w :=
  wpAnyH_all hr (by simp) (fun k hk => by
    rcases List.mem_cons.1 hk with rfl | hk
    · exact h1
    · obtain rfl := List.mem_singleton.1 hk; exact h2)
theorem held_three {i j l : Nat} {fuel : Nat} {listed : Array Bool} {a : Act} {w : World} (hr : Region.ready md ops listed = [i, j, l])
    (h1 : wpOp P ops Q i (fun a' w' => S w' ∧ wpAnyH P md ops Q S fuel (listed.setIfInBounds i true) a' w') a w)
    (h2 : wpOp P ops Q j (fun a' w' => S w' ∧ wpAnyH P md ops Q S fuel (listed.setIfInBounds j true) a' w') a w)
    (h3 : wpOp P ops Q l (fun a' w' => S w' ∧ wpAnyH P md ops Q S fuel (listed.setIfInBounds l true) a' w') a w) : wpAnyH P md ops Q S (fuel + 1) listed a w :=
  wpAnyH_all hr (by simp) (fun k hk => by
    rcases List.mem_cons.1 hk with rfl | hk
    · exact h1
    · rcases List.mem_cons.1 hk with rfl | hk
      · exact h2
      · obtain rfl := List.mem_singleton.1 hk; exact h3)
theorem op_plain {i : Nat} {oi : Oper} {K : Act → World → Prop} {a : Act} {w : World} (hi : ops[i]? = some oi) (hg : oi.guard = none) (h : oi.wp P a w K Q) : wpOp P ops Q i K a w := by
  unfold wpOp
  rw [hi]
  have hw : Region.wanted oi (yielded ops a.tmps) = true := by unfold Region.wanted; rw [hg]
  simp only [hw, if_true]
  exact Or.inl h
theorem op_enter {i : Nat} {oi : Oper} {K : Act → World → Prop} {a : Act} {w : World} (d : Option Tmp) {f : FuncId} {args : Array Value} (hi : ops[i]? = some oi) (hg : oi.guard = none) (hd : oi.dst = d)
    (h : (execOp a.eval oi).run P w = .ok (.enter f args) w) {R : Ending → World → Prop} (hc : Calls P f args w R) (hR : ∀ v w', R (.returned v) w' → K (a.put d v) w') (h2 : ∀ c w', ¬ R (.panicked c) w') (h3 : ∀ w', ¬ R .outgrown w') : wpOp P ops Q i K a w :=
  op_plain hi hg (wp_enter h hc (fun v w' hv => by rw [hd]; exact hR v w' hv) h2 h3)
theorem op_mem {i : Nat} {oi : Oper} {K : Act → World → Prop} {a : Act} {w w' : World} {v : Value} (d : Option Tmp) (hi : ops[i]? = some oi) (hg : oi.guard = none) (hd : oi.dst = d)
    (h : (execOp a.eval oi).run P w = .ok (.value v) w') (hK : K (a.put d v) w') : wpOp P ops Q i K a w := by
  subst hd
  refine op_plain hi hg ?_
  unfold Oper.wp
  rw [h]
  exact hK
theorem op_row {i : Nat} {oi : Oper} {K : Act → World → Prop} {a : Act} {w : World} (hi : ops[i]? = some oi) (hgd : oi.guard = none) (hd : oi.dst = none) (ty : TypeId) (x y : Operand) (ho : oi.op = .store ty x y)
    (g : Nat) (cells : Array Value) (hx : a.eval x = .pointer (some ⟨g, 0, none⟩)) (hy : a.eval y = .agg cells) (t : TypeId) (old : Array Value) (hg : w.heap[g]? = some (.cells old t (0, 0))) (hs : (P.info? ty).map (·.size) = some cells.size)
    (hold : old.size = cells.size) (h1 : cells.all (·.oneCell') = true) (hK : K a (w.setRow g cells)) : wpOp P ops Q i K a w :=
  op_plain hi hgd (wp_store_row ty x y ho g cells hx hy t old hg hs hold h1 (by rw [hd]; exact hK))
end
/-- A block of cells that may be written. -/
def Rz (W : World) (g : Nat) (t : TypeId) (cs : Array Value) : Prop := W.heap[g]? = some (.cells cs t (0, 0))
theorem Rz.lt {W : World} {g : Nat} {t : TypeId} {cs : Array Value} (h : Rz W g t cs) : g < W.heap.size := (Array.getElem?_eq_some_iff.1 h).1
theorem Rz.next {W W' : World} {g : Nat} {t : TypeId} {cs : Array Value} (h : Rz W g t cs) (hb : Below W.heap.size W W') : Rz W' g t cs := (hb.block g h.lt).trans h
theorem Rz.new (W : World) (t : TypeId) (cs : Array Value) : Rz (W.alloc (.cells cs t)) W.heap.size t cs := by simpa [Rz] using heap_alloc_new W (.cells cs t)
theorem Rz.set {W : World} {g : Nat} {t : TypeId} {cs : Array Value} (h : Rz W g t cs) (x : Array Value) : Rz (W.setRow g x) g t x := setRow_heap W g cs x t _ h
theorem Rz.off {W : World} {g g' : Nat} {t : TypeId} {cs : Array Value} (h : Rz W g t cs) (hne : g ≠ g') (x : Array Value) : Rz (W.setRow g' x) g t cs := (setRow_other W g' g x hne).trans h
theorem Rz.cell {W : World} {g : Nat} {t : TypeId} {cs : Array Value} (h : Rz W g t cs) {i : Nat} {v : Value} (hv : cs[i]? = some v) : W.cell? ⟨g, i, none⟩ = some v := by
  have h' : W.heap[g]? = some (.cells cs t (0, 0)) := h
  simp [World.cell?, h', hv]
end Go.Proofs.YtckkbojankfdfaaDoor


namespace Go.Proofs.YtckkbojankfdfaaDoor
open Go.RowKit

theorem rzx_frozen {w : World} {g : Nat} {t : TypeId} {cs : Array Value} (h : Rz w g t cs) (k : Nat) : w.frozen? ⟨g, k, none⟩ = false := by
  have h' : w.heap[g]? = some (.cells cs t (0, 0)) := h
  simp [World.frozen?, h']
theorem wds_le {n m : Nat} {L : List Lin.V} (h : ∀ u ∈ L, Lin.Wd n u) (hl : n ≤ m) : ∀ u ∈ L, Lin.Wd m u := fun u hu i hi => h u hu i (Nat.le_trans hl hi)

set_option maxHeartbeats 1600000 in
set_option maxRecDepth 100000 in
theorem kernel_any (p a : Int) (d c : Nat) (v : Value) (t : List (List Int)) (w : World) (hp : IsP p) (h : L2 0 w v t) (htl : t.length = d) (hrow : ∀ r ∈ t, RowOk p (c : Int) r) (hd : d ≤ 40) (hc : c ≤ 40) :
    Calls Tryd.prog 68 #[.agg #[.int .i64 p, .int .i64 a, .int .i64 (c : Int), v]] w (VsR (SpF p d (CycS p d c t)) w) := by
  obtain ⟨av, cv, rfl⟩ := Sl.shape h
  obtain ⟨w1, hw1⟩ : ∃ w1, w1 = w.alloc (.cells #[.int .i64 p, .int .i64 a, .int .i64 (c : Int), .slice av t.length cv] 53) := ⟨_, rfl⟩
  have hb1 : Below w.heap.size w w1 := by rw [hw1]; exact below_alloc1 _ _
  have k0 : w1.cell? ⟨w.heap.size, 0, none⟩ = some (.int .i64 p) := by rw [hw1]; simp
  have k2 : w1.cell? ⟨w.heap.size, 2, none⟩ = some (.int .i64 (c : Int)) := by rw [hw1]; simp
  have k3 : w1.cell? ⟨w.heap.size, 3, none⟩ = some (.slice av t.length cv) := by rw [hw1]; simp
  have HB1 := Lib.hid hb1
  have HK := Lib.hid (kernelSpace_any p d c _ t w1 hp (h.below hb1) htl hrow hd (by omega))
  clear h hb1 hrow htl hp
  go_enter Tryd.func68, Tryd.ntmps68
  go_upto_region 1 with fail
  rw [← hw1]
  clear hw1
  go_wp2_with fail
  refine HK.out.mono ?_
  rintro ee w5 ⟨s5, R, rfl, hb5, ho5, hr5⟩
  have HB5 := Lib.hid (HB1.out.trans (hb5.mono HB1.out.size))
  have HO5 := Lib.hid ho5
  have HR5 := Lib.hid hr5
  clear hb5 ho5 hr5 k0 k2 k3 HK
  go_wp2
  go_ret
  exact ⟨s5, R, rfl, HB5.out, ⟨HO5.out.1, HO5.out.2.imp id (fun ⟨g, cap, cur, h1, h2, h3⟩ => ⟨g, cap, cur, h1, Nat.le_trans HB1.out.size h2, h3⟩)⟩, HR5.out⟩

/-- It returns for an exact couple, and panics for another one. -/
def ReqX (p : Int) (dn en : Nat) (il jl kl : List (List Int)) (u : TypeId) (pv : Value) (w : World) (e : Ending) (w' : World) : Prop :=
  Below w.heap.size w w' ∧ ((ExOk p dn en il jl kl ∧ e = .returned (.tuple #[])) ∨ (¬ ExOk p dn en il jl kl ∧ e = .panicked [{ v := .iface u pv, recovered := false }]))

set_option maxHeartbeats 12800000 in
set_option maxRecDepth 100000 in
theorem requireExact_any (ut : TypeId) (pv : Value) (p : Int) (dn en : Nat) (iv jv kv : Value) (il jl kl : List (List Int)) (w : World) (h : Cp 0 w iv jv kv il jl kl) (hm : CpB 1048576 il jl kl) (hc : IsCp p dn en il jl kl) (hgl : w.cell? ⟨0, 0, none⟩ = some (.iface ut pv)) :
    Calls Tryd.prog 53 #[.agg #[.int .i64 p, .int .i64 (dn : Int), .int .i64 (en : Int), iv, jv, kv]] w (ReqX p dn en il jl kl ut pv w) := by
  obtain ⟨w0, hw0⟩ : ∃ w0, w0 = w.alloc (.cells #[.int .i64 p, .int .i64 (dn : Int), .int .i64 (en : Int), iv, jv, kv] 26) := ⟨_, rfl⟩
  have HX0 : Hid (BxCp w w0 w.heap.size p dn en iv jv kv il jl kl) := Lib.hid (by rw [hw0]; exact BxCp.start 26 h)
  have HGL := Lib.hid hgl
  have HC := Lib.hid hc
  have HM := Lib.hid hm
  have hd24 := hc.d24
  have HP := Lib.hid hc.1
  have HTi := Lib.hid hc.2.2.2.1.2
  have HTj := Lib.hid hc.2.2.2.2.1.2
  have HTk := Lib.hid hc.2.2.2.2.2.2
  have HLi := Lib.hid hc.li
  have HLj := Lib.hid hc.lj
  have HLk := Lib.hid hc.lk
  obtain ⟨⟨ai, ci, rfl⟩, ⟨aj, cj, rfl⟩, ⟨ak, ck, rfl⟩⟩ := HX0.out.cx.shapes
  clear h hm hc hgl
  have hq0 := idxM0
  have hq1 := idxM1
  have hq2 := idxM2
  have c0 := HX0.out.c0
  go_enter Tryd.func53, Tryd.ntmps53
  go_upto_region 1 with fail
  rw [← hw0]
  clear hw0
  go_wp2_with fail
  refine (mapsOfCouples_any _).mono ?_
  rintro ee wm ⟨rfl, hbm⟩
  have HXm := Lib.hid (HX0.out.next hbm)
  obtain ⟨w1, hw1⟩ : ∃ w1, w1 = wm.alloc (.cells #[.func (.func 36) #[] #[], .func (.func 64) #[] #[], .func (.func 65) #[] #[]] 66) := ⟨_, rfl⟩
  have HB1m : Hid (Below wm.heap.size wm w1) := Lib.hid (by rw [hw1]; exact below_alloc1 _ _)
  have HX1 := Lib.hid (HXm.out.next HB1m.out)
  have m0 : w1.cell? ⟨wm.heap.size, 0, none⟩ = some (.func (.func 36) #[] #[]) := by rw [hw1]; simp
  have m1 : w1.cell? ⟨wm.heap.size, 1, none⟩ = some (.func (.func 64) #[] #[]) := by rw [hw1]; simp
  have m2 : w1.cell? ⟨wm.heap.size, 2, none⟩ = some (.func (.func 65) #[] #[]) := by rw [hw1]; simp
  have HMS : Hid (∀ W, Below w1.heap.size w1 W → W.cell? ⟨wm.heap.size, 0, none⟩ = some (.func (.func 36) #[] #[]) ∧ W.cell? ⟨wm.heap.size, 1, none⟩ = some (.func (.func 64) #[] #[]) ∧ W.cell? ⟨wm.heap.size, 2, none⟩ = some (.func (.func 65) #[] #[])) := Lib.hid (fun W hb => ⟨later hb (Nat.le_refl _) m0, later hb (Nat.le_refl _) m1, later hb (Nat.le_refl _) m2⟩)
  have HNX : Hid (∀ W, Below w1.heap.size w1 W → BxCp w W w.heap.size p dn en (.slice ai il.length ci) (.slice aj jl.length cj) (.slice ak kl.length ck) il jl kl) := Lib.hid (fun W hb => HX1.out.next hb)
  have hlm : wm.heap.size < w1.heap.size := by rw [hw1]; simp
  have HLM : Hid (∀ W : World, W.cell? ⟨wm.heap.size, 0, none⟩ = some (.func (.func 36) #[] #[]) → W.cell? ⟨wm.heap.size, 1, none⟩ = some (.func (.func 64) #[] #[]) → W.cell? ⟨wm.heap.size, 2, none⟩ = some (.func (.func 65) #[] #[]) → (Instr.loadAt 66 (.pointer (some ⟨wm.heap.size, 0, none⟩))).run Tryd.prog W = .ok (.agg #[.func (.func 36) #[] #[], .func (.func 64) #[] #[], .func (.func 65) #[] #[]]) W) := Lib.hid (fun W h0 h1 h2 => by go_simp)
  clear hbm c0
  go_upto_region 2 with fail
  rw [← hw1]
  clear hw1
  have hlm0 := HLM.out w1 m0 m1 m2
  have HB0 : Hid (Below w1.heap.size w1 w1) := Lib.hid (Below.refl _ _)
  go_wp2
  refine wp_loop_rounds 4 ?_
  clear m0 m1 m2
  have m0 := (HMS.out _ HB0.out).1
  have m1 := (HMS.out _ HB0.out).2.1
  have m2 := (HMS.out _ HB0.out).2.2
  rw [rounds_succ]
  have HSP : Hid (∀ w', Below w1.heap.size w1 w' → (w'.cell? ⟨w.heap.size, 0, none⟩ = some (.int .i64 p) ∧ w'.cell? ⟨w.heap.size, 1, none⟩ = some (.int .i64 (dn : Int)) ∧ w'.cell? ⟨w.heap.size, 2, none⟩ = some (.int .i64 (en : Int)) ∧ w'.cell? ⟨w.heap.size, 3, none⟩ = some (.slice ai il.length ci) ∧ w'.cell? ⟨w.heap.size, 4, none⟩ = some (.slice aj jl.length cj) ∧ w'.cell? ⟨w.heap.size, 5, none⟩ = some (.slice ak kl.length ck) ∧ Hid (Below w1.heap.size w1 w'))) := Lib.hid (fun w' hb => ⟨(HNX.out _ hb).c0, (HNX.out _ hb).c1, (HNX.out _ hb).c2, (HNX.out _ hb).c3, (HNX.out _ hb).c4, (HNX.out _ hb).c5, Lib.hid hb⟩)
  have HD : Hid (Below w1.heap.size w1 w1.drew) := Lib.hid HB0.out.drew
  have c0 := (HNX.out _ HB0.out).c0
  have c1 := (HNX.out _ HB0.out).c1
  have c2 := (HNX.out _ HB0.out).c2
  have c3 := (HNX.out _ HB0.out).c3
  have c4 := (HNX.out _ HB0.out).c4
  have c5 := (HNX.out _ HB0.out).c5
  go_wp2
  go_region_held3 (fun w' => w'.cell? ⟨w.heap.size, 0, none⟩ = some (.int .i64 p) ∧ w'.cell? ⟨w.heap.size, 1, none⟩ = some (.int .i64 (dn : Int)) ∧ w'.cell? ⟨w.heap.size, 2, none⟩ = some (.int .i64 (en : Int)) ∧ w'.cell? ⟨w.heap.size, 3, none⟩ = some (.slice ai il.length ci) ∧ w'.cell? ⟨w.heap.size, 4, none⟩ = some (.slice aj jl.length cj) ∧ w'.cell? ⟨w.heap.size, 5, none⟩ = some (.slice ak kl.length ck) ∧ Hid (Below w1.heap.size w1 w'))
    (first | exact HSP.out _ HB0.out | exact HSP.out _ HD.out | exact HSP.out _ HBa.out | exact HSP.out _ HBb.out | exact HSP.out _ HBc.out | exact HSP.out _ HBd.out | exact HSP.out _ HBe.out | go_keep)
    (first
      | (go_at_call 36; (with_reducible refine (mapI_any p dn en _ _ _ il jl kl _ (HNX.out _ HD.out).cx).mono ?_); rintro ee wa ⟨rfl, hb⟩; have HBa := Lib.hid (HD.out.trans (hb.mono HD.out.size)); clear hb)
      | (go_at_call 55; (with_reducible refine (images_any p dn dn _ il dn _ HP.out (HNX.out _ HBa.out).cx.fi (by omega) HTi.out (by have := HLi.out; omega)).mono ?_); rintro ee wb ⟨s1, R1, rfl, hb, ho, hr, hl⟩; have HBb := Lib.hid (HBa.out.trans (hb.mono HBa.out.size)); have HO1 := Lib.hid (ho.vs.lower (Nat.zero_le _)); have HR1 := Lib.hid (And.intro hr hl); clear hb ho hr hl)
      | (go_at_call 64; (with_reducible refine (mapJ_any p dn en _ _ _ il jl kl _ (HNX.out _ HBb.out).cx).mono ?_); rintro ee wc ⟨rfl, hb⟩; have HBc := Lib.hid (HBb.out.trans (hb.mono HBb.out.size)); have HO2 := Lib.hid (HO1.out.below hb); clear hb)
      | (go_at_call 68; (with_reducible refine (kernel_any p dn dn en _ jl _ HP.out (HNX.out _ HBc.out).cx.fj HLj.out HTj.out (by omega) (by omega)).mono ?_); rintro ee wd ⟨s2, K1, rfl, hb, ho, hr⟩; have HBd := Lib.hid (HBc.out.trans (hb.mono HBc.out.size)); have HO3 := Lib.hid (And.intro (HO2.out.below hb) (ho.vs.lower (Nat.zero_le _))); have HK1 := Lib.hid hr; have HW1 := Lib.hid (wds_le hr.2.1 (show dn ≤ 40 by omega)); clear hb ho hr)
      | (go_at_call 67; (with_reducible refine (equalV_any _ _ R1 K1 _ HO3.out.1 HO3.out.2 HR1.out.1.wd HW1.out (by have := HR1.out.2; rw [List.length_map] at this; have := HLi.out; omega)).mono ?_); rintro ee we ⟨bb, rfl, hb, hbb⟩; have HBe := Lib.hid (HBd.out.trans (hb.mono HBd.out.size)); have HBB := Lib.hid hbb; clear hb hbb))
  have HEX0 := Lib.hid (HBB.out.trans (exAt_eq (by have := HP.out.lo; omega) HR1.out.1.red HR1.out.1.eqv HK1.out))
  clear c0 c1 c2 c3 c4 c5 HSP HD
  obtain ⟨wz0, hwz⟩ : ∃ wz : World, wz = we := ⟨_, rfl⟩
  subst hwz
  have HZ0 := Lib.hid HBe.out
  clear HBa HBb HBc HBd HBe HO1 HO2 HO3 HR1 HK1 HW1 HBB
  cases bb with
  | false =>
    have HN := Lib.hid (fun hh => absurd (HEX0.out.2 hh) (by simp) : ¬ _)
    have g0 := later (HNX.out _ HZ0.out).below (Nat.le_refl _) HGL.out
    go_wp2
    exact ⟨rfl, (HNX.out _ HZ0.out).below, Or.inr ⟨fun hh => HN.out hh.1, rfl⟩⟩
  | true =>
    have HY0 := Lib.hid (HEX0.out.1 rfl)
    clear HEX0
    clear m0 m1 m2
    have m0 := (HMS.out _ HZ0.out).1
    have m1 := (HMS.out _ HZ0.out).2.1
    have m2 := (HMS.out _ HZ0.out).2.2
    go_wp2
    rw [rounds_succ]
    have HSP : Hid (∀ w', Below w1.heap.size w1 w' → (w'.cell? ⟨w.heap.size, 0, none⟩ = some (.int .i64 p) ∧ w'.cell? ⟨w.heap.size, 1, none⟩ = some (.int .i64 (dn : Int)) ∧ w'.cell? ⟨w.heap.size, 2, none⟩ = some (.int .i64 (en : Int)) ∧ w'.cell? ⟨w.heap.size, 3, none⟩ = some (.slice ai il.length ci) ∧ w'.cell? ⟨w.heap.size, 4, none⟩ = some (.slice aj jl.length cj) ∧ w'.cell? ⟨w.heap.size, 5, none⟩ = some (.slice ak kl.length ck) ∧ Hid (Below w1.heap.size w1 w'))) := Lib.hid (fun w' hb => ⟨(HNX.out _ hb).c0, (HNX.out _ hb).c1, (HNX.out _ hb).c2, (HNX.out _ hb).c3, (HNX.out _ hb).c4, (HNX.out _ hb).c5, Lib.hid hb⟩)
    have HD : Hid (Below w1.heap.size w1 wz0.drew) := Lib.hid HZ0.out.drew
    have c0 := (HNX.out _ HZ0.out).c0
    have c1 := (HNX.out _ HZ0.out).c1
    have c2 := (HNX.out _ HZ0.out).c2
    have c3 := (HNX.out _ HZ0.out).c3
    have c4 := (HNX.out _ HZ0.out).c4
    have c5 := (HNX.out _ HZ0.out).c5
    go_wp2
    go_region_held3 (fun w' => w'.cell? ⟨w.heap.size, 0, none⟩ = some (.int .i64 p) ∧ w'.cell? ⟨w.heap.size, 1, none⟩ = some (.int .i64 (dn : Int)) ∧ w'.cell? ⟨w.heap.size, 2, none⟩ = some (.int .i64 (en : Int)) ∧ w'.cell? ⟨w.heap.size, 3, none⟩ = some (.slice ai il.length ci) ∧ w'.cell? ⟨w.heap.size, 4, none⟩ = some (.slice aj jl.length cj) ∧ w'.cell? ⟨w.heap.size, 5, none⟩ = some (.slice ak kl.length ck) ∧ Hid (Below w1.heap.size w1 w'))
      (first | exact HSP.out _ HZ0.out | exact HSP.out _ HD.out | exact HSP.out _ HBa.out | exact HSP.out _ HBb.out | exact HSP.out _ HBc.out | exact HSP.out _ HBd.out | exact HSP.out _ HBe.out | go_keep)
      (first
        | (go_at_call 64; (with_reducible refine (mapJ_any p dn en _ _ _ il jl kl _ (HNX.out _ HD.out).cx).mono ?_); rintro ee wa ⟨rfl, hb⟩; have HBa := Lib.hid (HD.out.trans (hb.mono HD.out.size)); clear hb)
        | (go_at_call 55; (with_reducible refine (images_any p dn en _ jl en _ HP.out (HNX.out _ HBa.out).cx.fj (by omega) HTj.out (by have := HLj.out; omega)).mono ?_); rintro ee wb ⟨s1, R1, rfl, hb, ho, hr, hl⟩; have HBb := Lib.hid (HBa.out.trans (hb.mono HBa.out.size)); have HO1 := Lib.hid (ho.vs.lower (Nat.zero_le _)); have HR1 := Lib.hid (And.intro hr hl); clear hb ho hr hl)
        | (go_at_call 65; (with_reducible refine (mapK_any p dn en _ _ _ il jl kl _ (HNX.out _ HBb.out).cx).mono ?_); rintro ee wc ⟨rfl, hb⟩; have HBc := Lib.hid (HBb.out.trans (hb.mono HBb.out.size)); have HO2 := Lib.hid (HO1.out.below hb); clear hb)
        | (go_at_call 68; (with_reducible refine (kernel_any p en en dn _ kl _ HP.out (HNX.out _ HBc.out).cx.fk HLk.out HTk.out (by omega) (by omega)).mono ?_); rintro ee wd ⟨s2, K1, rfl, hb, ho, hr⟩; have HBd := Lib.hid (HBc.out.trans (hb.mono HBc.out.size)); have HO3 := Lib.hid (And.intro (HO2.out.below hb) (ho.vs.lower (Nat.zero_le _))); have HK1 := Lib.hid hr; have HW1 := Lib.hid (wds_le hr.2.1 (show en ≤ 40 by omega)); clear hb ho hr)
        | (go_at_call 67; (with_reducible refine (equalV_any _ _ R1 K1 _ HO3.out.1 HO3.out.2 HR1.out.1.wd HW1.out (by have := HR1.out.2; rw [List.length_map] at this; have := HLj.out; omega)).mono ?_); rintro ee we ⟨bb, rfl, hb, hbb⟩; have HBe := Lib.hid (HBd.out.trans (hb.mono HBd.out.size)); have HBB := Lib.hid hbb; clear hb hbb))
    have HEX1 := Lib.hid (HBB.out.trans (exAt_eq (by have := HP.out.lo; omega) HR1.out.1.red HR1.out.1.eqv HK1.out))
    clear c0 c1 c2 c3 c4 c5 HSP HD
    obtain ⟨wz1, hwz⟩ : ∃ wz : World, wz = we := ⟨_, rfl⟩
    subst hwz
    have HZ1 := Lib.hid HBe.out
    clear HBa HBb HBc HBd HBe HO1 HO2 HO3 HR1 HK1 HW1 HBB
    cases bb with
    | false =>
      have HN := Lib.hid (fun hh => absurd (HEX1.out.2 hh) (by simp) : ¬ _)
      have g0 := later (HNX.out _ HZ1.out).below (Nat.le_refl _) HGL.out
      go_wp2
      exact ⟨rfl, (HNX.out _ HZ1.out).below, Or.inr ⟨fun hh => HN.out hh.2.1, rfl⟩⟩
    | true =>
      have HY1 := Lib.hid (HEX1.out.1 rfl)
      clear HEX1
      clear m0 m1 m2
      have m0 := (HMS.out _ HZ1.out).1
      have m1 := (HMS.out _ HZ1.out).2.1
      have m2 := (HMS.out _ HZ1.out).2.2
      go_wp2
      rw [rounds_succ]
      have HSP : Hid (∀ w', Below w1.heap.size w1 w' → (w'.cell? ⟨w.heap.size, 0, none⟩ = some (.int .i64 p) ∧ w'.cell? ⟨w.heap.size, 1, none⟩ = some (.int .i64 (dn : Int)) ∧ w'.cell? ⟨w.heap.size, 2, none⟩ = some (.int .i64 (en : Int)) ∧ w'.cell? ⟨w.heap.size, 3, none⟩ = some (.slice ai il.length ci) ∧ w'.cell? ⟨w.heap.size, 4, none⟩ = some (.slice aj jl.length cj) ∧ w'.cell? ⟨w.heap.size, 5, none⟩ = some (.slice ak kl.length ck) ∧ Hid (Below w1.heap.size w1 w'))) := Lib.hid (fun w' hb => ⟨(HNX.out _ hb).c0, (HNX.out _ hb).c1, (HNX.out _ hb).c2, (HNX.out _ hb).c3, (HNX.out _ hb).c4, (HNX.out _ hb).c5, Lib.hid hb⟩)
      have HD : Hid (Below w1.heap.size w1 wz1.drew) := Lib.hid HZ1.out.drew
      have c0 := (HNX.out _ HZ1.out).c0
      have c1 := (HNX.out _ HZ1.out).c1
      have c2 := (HNX.out _ HZ1.out).c2
      have c3 := (HNX.out _ HZ1.out).c3
      have c4 := (HNX.out _ HZ1.out).c4
      have c5 := (HNX.out _ HZ1.out).c5
      go_wp2
      go_region_held3 (fun w' => w'.cell? ⟨w.heap.size, 0, none⟩ = some (.int .i64 p) ∧ w'.cell? ⟨w.heap.size, 1, none⟩ = some (.int .i64 (dn : Int)) ∧ w'.cell? ⟨w.heap.size, 2, none⟩ = some (.int .i64 (en : Int)) ∧ w'.cell? ⟨w.heap.size, 3, none⟩ = some (.slice ai il.length ci) ∧ w'.cell? ⟨w.heap.size, 4, none⟩ = some (.slice aj jl.length cj) ∧ w'.cell? ⟨w.heap.size, 5, none⟩ = some (.slice ak kl.length ck) ∧ Hid (Below w1.heap.size w1 w'))
        (first | exact HSP.out _ HZ1.out | exact HSP.out _ HD.out | exact HSP.out _ HBa.out | exact HSP.out _ HBb.out | exact HSP.out _ HBc.out | exact HSP.out _ HBd.out | exact HSP.out _ HBe.out | go_keep)
        (first
          | (go_at_call 65; (with_reducible refine (mapK_any p dn en _ _ _ il jl kl _ (HNX.out _ HD.out).cx).mono ?_); rintro ee wa ⟨rfl, hb⟩; have HBa := Lib.hid (HD.out.trans (hb.mono HD.out.size)); clear hb)
          | (go_at_call 55; (with_reducible refine (images_any p en dn _ kl dn _ HP.out (HNX.out _ HBa.out).cx.fk (by omega) HTk.out (by have := HLk.out; omega)).mono ?_); rintro ee wb ⟨s1, R1, rfl, hb, ho, hr, hl⟩; have HBb := Lib.hid (HBa.out.trans (hb.mono HBa.out.size)); have HO1 := Lib.hid (ho.vs.lower (Nat.zero_le _)); have HR1 := Lib.hid (And.intro hr hl); clear hb ho hr hl)
          | (go_at_call 36; (with_reducible refine (mapI_any p dn en _ _ _ il jl kl _ (HNX.out _ HBb.out).cx).mono ?_); rintro ee wc ⟨rfl, hb⟩; have HBc := Lib.hid (HBb.out.trans (hb.mono HBb.out.size)); have HO2 := Lib.hid (HO1.out.below hb); clear hb)
          | (go_at_call 68; (with_reducible refine (kernel_any p dn dn dn _ il _ HP.out (HNX.out _ HBc.out).cx.fi HLi.out HTi.out (by omega) (by omega)).mono ?_); rintro ee wd ⟨s2, K1, rfl, hb, ho, hr⟩; have HBd := Lib.hid (HBc.out.trans (hb.mono HBc.out.size)); have HO3 := Lib.hid (And.intro (HO2.out.below hb) (ho.vs.lower (Nat.zero_le _))); have HK1 := Lib.hid hr; have HW1 := Lib.hid (wds_le hr.2.1 (show dn ≤ 40 by omega)); clear hb ho hr)
          | (go_at_call 67; (with_reducible refine (equalV_any _ _ R1 K1 _ HO3.out.1 HO3.out.2 HR1.out.1.wd HW1.out (by have := HR1.out.2; rw [List.length_map] at this; have := HLk.out; omega)).mono ?_); rintro ee we ⟨bb, rfl, hb, hbb⟩; have HBe := Lib.hid (HBd.out.trans (hb.mono HBd.out.size)); have HBB := Lib.hid hbb; clear hb hbb))
      have HEX2 := Lib.hid (HBB.out.trans (exAt_eq (by have := HP.out.lo; omega) HR1.out.1.red HR1.out.1.eqv HK1.out))
      clear c0 c1 c2 c3 c4 c5 HSP HD
      obtain ⟨wz2, hwz⟩ : ∃ wz : World, wz = we := ⟨_, rfl⟩
      subst hwz
      have HZ2 := Lib.hid HBe.out
      clear HBa HBb HBc HBd HBe HO1 HO2 HO3 HR1 HK1 HW1 HBB
      cases bb with
      | false =>
        have HN := Lib.hid (fun hh => absurd (HEX2.out.2 hh) (by simp) : ¬ _)
        have g0 := later (HNX.out _ HZ2.out).below (Nat.le_refl _) HGL.out
        go_wp2
        exact ⟨rfl, (HNX.out _ HZ2.out).below, Or.inr ⟨fun hh => HN.out hh.2.2, rfl⟩⟩
      | true =>
        have HY2 := Lib.hid (HEX2.out.1 rfl)
        clear HEX2
        go_wp2
        rw [rounds_succ]
        go_wp2
        go_end0
        exact ⟨(HNX.out _ HZ2.out).below, Or.inl ⟨⟨HY0.out, HY1.out, HY2.out⟩, rfl⟩⟩

theorem hassertsX (pv : Value) (W : World) : (Instr.typeAssert (.iface 109 pv) 20 70 true).run Tryd.prog W = .ok (.tuple #[.iface 109 pv, .bool true]) W := by kernel_rfl
theorem hassertnX (W : World) : (Instr.typeAssert .nilIface 20 70 true).run Tryd.prog W = .ok (.tuple #[.nilIface, .bool false]) W := by kernel_rfl

set_option maxRecDepth 100000 in
theorem catchX_yes (a : Addr) (x : Int) (pv : Value) (older : List PanicEntry) (w : World) (hc : w.cell? a = some (.int .i64 x)) (hz : w.frozen? a = false) :
    CallsD Tryd.prog 52 #[.pointer (some a)] (.panicking ({ v := .iface 109 pv, recovered := false } :: older)) w fun e u' w' =>
      e = .returned (.tuple #[]) ∧ u' = .panicking ({ v := .iface 109 pv, recovered := true } :: older) ∧ w' = w.setCell a (.int .i64 5) := by
  refine callsD_of_wpS Tryd.func52 rfl fun c₀ cs hu => ?_
  apply wpS_seq
  apply wpS_region
  simp [wpOpsS, go_sem, recoverD, hu, Tryd.ntmps52, Exit.thenS, hassertsX]
  apply wpS_seq
  apply wpS_region
  simp [wpOpsS, go_sem, Exit.thenS, Array.replicate]
  refine wpS_cond (t := true) (by simp [Act.eval]) ?_
  simp only [if_true]
  apply wpS_region
  simp [wpOpsS, go_sem, hc, hz, bodyPostS, results, Tryd.results52]
theorem catchX_no (a : Addr) (w : World) :
    CallsD Tryd.prog 52 #[.pointer (some a)] .returning w fun e u' w' => e = .returned (.tuple #[]) ∧ u' = .returning ∧ w' = w := by
  refine callsD_of_wpS Tryd.func52 rfl fun c₀ cs hu => ?_
  apply wpS_seq
  apply wpS_region
  simp [wpOpsS, go_sem, recoverD, hu, Tryd.ntmps52, Exit.thenS, hassertnX]
  apply wpS_seq
  apply wpS_region
  simp [wpOpsS, go_sem, Exit.thenS, Array.replicate]
  refine wpS_cond (t := false) (by simp [Act.eval]) ?_
  simp only [Bool.false_eq_true, if_false]
  refine wpS_of_wp (wp_skip ?_)
  cases c₀
  simp_all [bodyPostS, results, Tryd.results52]

/-- The code of the door. -/
def StX (p : Int) (dn en : Nat) (il jl kl : List (List Int)) (w : World) (e : Ending) (w' : World) : Prop :=
  ∃ c : Int, e = .returned (.int .i64 c) ∧ Below w.heap.size w w' ∧ ((c = 0 ∧ ExOk p dn en il jl kl) ∨ (c = 5 ∧ ¬ ExOk p dn en il jl kl))

set_option maxHeartbeats 6400000 in
set_option maxRecDepth 100000 in
theorem checkExact_any (pv : Value) (p : Int) (dn en : Nat) (iv jv kv : Value) (il jl kl : List (List Int)) (w : World) (h : Cp 0 w iv jv kv il jl kl) (hm : CpB 1048576 il jl kl) (hc : IsCp p dn en il jl kl) (hgl : w.cell? ⟨0, 0, none⟩ = some (.iface 109 pv)) :
    Calls Tryd.prog 25 #[.agg #[.int .i64 p, .int .i64 (dn : Int), .int .i64 (en : Int), iv, jv, kv]] w (StX p dn en il jl kl w) := by
  have hmf : ∀ (fn : Fn) (first cap : Array Value) (w : World), (Instr.makeFunc fn first cap).run Tryd.prog w = .ok (.func fn first cap) w := fun _ _ _ _ => rfl
  obtain ⟨wb, hwb⟩ : ∃ wb, wb = w.alloc (.cells #[.int .i64 p, .int .i64 (dn : Int), .int .i64 (en : Int), iv, jv, kv] 26) := ⟨_, rfl⟩
  have k1 : BxCp w wb w.heap.size p dn en iv jv kv il jl kl := by rw [hwb]; exact BxCp.start 26 h
  have hsb : wb.heap.size = w.heap.size + 1 := by rw [hwb]; simp
  obtain ⟨w1, hw1⟩ : ∃ w1, w1 = wb.alloc (.cells #[.int .i64 0] 2) := ⟨_, rfl⟩
  have hb1 : Below wb.heap.size wb w1 := by rw [hw1]; exact below_alloc1 _ _
  have HX0 := Lib.hid (k1.next hb1)
  have HZ0 : Hid (Rz w1 (w.heap.size + 1) 2 #[.int .i64 0]) := Lib.hid (by rw [hw1, ← hsb]; exact Rz.new _ _ _)
  have HB01 := Lib.hid HX0.out.below
  have HRQ := Lib.hid (requireExact_any 109 pv p dn en iv jv kv il jl kl w1 HX0.out.cx hm hc (later HB01.out (Nat.le_refl _) hgl))
  have HRES : Hid (Tryd.f25.results = #[.cell 2 2]) := Lib.hid (by kernel_rfl)
  obtain ⟨⟨ai, ci, rfl⟩, ⟨aj, cj, rfl⟩, ⟨ak, ck, rfl⟩⟩ := HX0.out.cx.shapes
  have HNX : Hid (∀ W, Below w1.heap.size w1 W → Rz W (w.heap.size + 1) 2 #[.int .i64 0] ∧ Below w.heap.size w W) := Lib.hid (fun W hb => ⟨HZ0.out.next hb, HB01.out.trans (hb.mono HB01.out.size)⟩)
  rw [hwb] at hw1
  have c0 := HX0.out.c0
  have c1 := HX0.out.c1
  have c2 := HX0.out.c2
  have c3 := HX0.out.c3
  have c4 := HX0.out.c4
  have c5 := HX0.out.c5
  clear h hm hc hgl k1 hb1 hwb hsb
  go_enter_defers Tryd.func25, Tryd.ntmps25
  go_upto_region 1 with fail
  rw [← hw1]
  clear hw1
  go_wp2_with fail
  refine HRQ.out.mono ?_
  rintro e w2 ⟨hb2, hh⟩
  have HN2 := Lib.hid (HNX.out w2 hb2)
  clear HRQ hb2 c0 c1 c2 c3 c4 c5
  have q0 : w2.cell? ⟨w.heap.size + 1, 0, none⟩ = some (.int .i64 0) := HN2.out.1.cell (i := 0) rfl
  have z0 := rzx_frozen HN2.out.1 0
  rcases hh with ⟨hc, rfl⟩ | ⟨hc, rfl⟩
  · have HC2 := Lib.hid hc
    clear hc
    have q5 : (w2.setCell ⟨w.heap.size + 1, 0, none⟩ (.int .i64 0)).cell? ⟨w.heap.size + 1, 0, none⟩ = some (.int .i64 0) := World.cell?_setCell_same _ _ _ q0
    go_wp2
    refine leaves_cons (f := 52) (args := #[.pointer (some ⟨w.heap.size + 1, 0, none⟩)]) (by simp) (by simp [go_sem]) ?_
    refine (catchX_no ⟨w.heap.size + 1, 0, none⟩ _).mono ?_
    rintro e u' w'' ⟨rfl, rfl, rfl⟩
    refine ⟨.int .i64 0, ?_, 0, rfl, HN2.out.2.setCell (by show w.heap.size ≤ w.heap.size + 1; omega) _, Or.inl ⟨rfl, HC2.out⟩⟩
    simp only [results, HRES.out]
    go_simp
  · have HC2 := Lib.hid hc
    clear hc
    go_wp2
    refine leaves_cons (f := 52) (args := #[.pointer (some ⟨w.heap.size + 1, 0, none⟩)]) (by simp) (by simp [go_sem]) ?_
    refine (catchX_yes ⟨w.heap.size + 1, 0, none⟩ 0 pv [] w2 q0 z0).mono ?_
    rintro e u' w'' ⟨rfl, rfl, rfl⟩
    have q5 : (w2.setCell ⟨w.heap.size + 1, 0, none⟩ (.int .i64 5)).cell? ⟨w.heap.size + 1, 0, none⟩ = some (.int .i64 5) := World.cell?_setCell_same _ _ _ q0
    refine ⟨.int .i64 5, ?_, 5, rfl, HN2.out.2.setCell (by show w.heap.size ≤ w.heap.size + 1; omega) _, Or.inr ⟨rfl, HC2.out⟩⟩
    simp only [results, HRES.out]
    go_simp

/-- What IsExact answers. -/
def ExS (p d e : Int) (il jl kl : List (List Int)) (b : Bool) (c : Int) : Prop := c = cpCode p d e il jl kl ∧ (b = true ↔ IsCp p d e il jl kl ∧ ExOk p d.toNat e.toNat il jl kl)
theorem ExS.unique {p d e : Int} {il jl kl : List (List Int)} {b b2 : Bool} {c c2 : Int} (h : ExS p d e il jl kl b c) (k : ExS p d e il jl kl b2 c2) : b = b2 ∧ c = c2 := ⟨Bool.eq_iff_iff.2 (h.2.trans k.2.symm), h.1.trans k.1.symm⟩

end Go.Proofs.YtckkbojankfdfaaDoor


namespace Go.Proofs.YtckkbojankfdfaaDoor
open Go.RowKit

set_option maxHeartbeats 1600000 in
set_option maxRecDepth 100000 in
theorem l01Inside_any (p : Int) (n : Nat) (vl vr : Value) (A : List Lin.V) (v : Lin.V) (w : World) (hp : IsP p) (hL : L2 0 w vl (A.map (toL n))) (hv : L1 0 w vr (toL n v)) (hA : Lin.Red p A) (hw : ∀ u ∈ A, Lin.Wd n u) (hm : Lin.Md p v) (hvw : Lin.Wd n v) (hn : n ≤ 1048576) (hl : A.length ≤ 1048576) :
    Calls Tryd.prog 76 #[.int .i64 p, vl, vr] w (BB (Lin.Sp p A v) w) := by
  have HR := Lib.hid (l01Rest_any p n vl vr A v w hp hL hv hA hw hm hvw hn hl)
  have HP := Lib.hid hp
  have HA := Lib.hid hA
  clear hL hv hA hw hm hvw hp
  go_enter Tryd.func76, Tryd.ntmps76
  go_wp2_with fail
  refine HR.out.mono ?_
  rintro ee w1 ⟨u, r, rfl, hg, hb, hr, hrw⟩
  have HB := Lib.hid hb
  have HRS := Lib.hid hr
  have HRW := Lib.hid hrw
  have HK := Lib.hid (l01Lead_any u (toL n r) w1 hg.l1 (by rw [toL_length]; exact hn))
  obtain ⟨x, hx⟩ : ∃ x, x = leadOf (toL n r) := ⟨_, rfl⟩
  rw [← hx] at HK
  have HX := Lib.hid hx
  clear hb hr hrw hg hx HR
  go_wp2_with fail
  refine HK.out.mono ?_
  rintro ee w2 ⟨rfl, rfl⟩
  by_cases h0 : x < 0
  · have hz : r = Lin.zv := leadOf_of_toL HRW.out (by rw [← HX.out]; exact h0)
    have HZ : Hid (Lin.Sp p A v) := Lib.hid (by have h1 := HRS.out; rw [hz] at h1; exact h1.inside (by have := HP.out.lo; omega) HA.out)
    clear hz
    go_wp2
    go_ret
    exact ⟨true, rfl, HB.out, fun _ => HZ.out, fun _ => rfl⟩
  · have HZ : Hid (¬ Lin.Sp p A v) := Lib.hid (fun hs => h0 (by
      have hp0 : 0 < p := by have := HP.out.lo; omega
      have hz : r = Lin.zv := HA.out.zero_of hp0 (Lin.Sp.trans hp0 (fun y hy => by
        rcases List.mem_cons.1 hy with rfl | hy
        · exact hs
        · exact Lin.Sp.mem hy (HA.out.md y hy)) HRS.out.to) (fun y hy => HRS.out.off y (by rw [List.take_length]; exact hy))
      rw [HX.out, hz, leadOf_zv]
      decide))
    go_wp2
    go_ret
    exact ⟨decide (x < 0), rfl, HB.out, by rw [decide_eq_false (show ¬ x < 0 by omega)]; simp [HZ.out]⟩

set_option maxHeartbeats 3200000 in
set_option maxRecDepth 100000 in
theorem l05Meet_any (p : Int) (n m : Nat) (va vb : Value) (t u : List (List Int)) (w : World) (hp : IsP p) (ha : L2 0 w va t) (hb : L2 0 w vb u) (ht : ∀ r ∈ t, RowOk p (n : Int) r) (hu : ∀ r ∈ u, RowOk p (m : Int) r) (hul : u.length = n) (hn : n ≤ 40) (hm : m ≤ 40) (htl : t.length ≤ 40) :
    Calls Tryd.prog 58 #[.int .i64 p, va, .int .i64 (n : Int), vb] w (BB (ExAt p n m t u) w) := by
  have hlen : ∀ r ∈ t, r.length = n := fun r hr => by have := (ht r hr).1; omega
  have HE := Lib.hid (l01Echelon_any p n va (t.map ofL) w hp (by rw [rows_toL' hlen]; exact ha) (vecs_md (by have := hp.lo; omega) ht) (vecs_wd hlen) (by omega) (by rw [List.length_map]; omega))
  have HK : Hid (∀ W, Below w.heap.size w W → Calls Tryd.prog 43 #[.int .i64 p, .int .i64 (n : Int), vb] W (KerR p n m u W)) := Lib.hid (fun W h => l01Kernel_any p n m vb u W hp (hb.below h) hul hu (by omega) (by omega))
  have HP := Lib.hid hp
  clear ha hb ht hu hlen hp
  go_enter Tryd.func58, Tryd.ntmps58
  go_wp2_with fail
  refine HE.out.mono ?_
  rintro ee w1 ⟨v1, R, rfl, hg1, hb1, hr1, hl1⟩
  have HB1 := Lib.hid hb1
  have HR1 := Lib.hid hr1
  rw [List.length_map] at hl1
  have HG1 := Lib.hid (hg1.l2.lower (Nat.zero_le _))
  obtain ⟨a1, c1, e1⟩ := Sl.shape HG1.out
  obtain ⟨rl, hrl⟩ : ∃ x, x = R.length := ⟨_, rfl⟩
  rw [List.length_map, ← hrl] at e1
  rw [← hrl] at hl1
  have HRL := Lib.hid hrl
  clear hb1 hr1 hg1 HE hrl
  subst e1
  go_wp2_with fail
  refine (HK.out w1 HB1.out).mono ?_
  rintro ee w2 ⟨v2, K, rfl, hg2, hb2, hk⟩
  have HB2 := Lib.hid (HB1.out.trans (hb2.mono HB1.out.size))
  have HG1b := Lib.hid (HG1.out.below hb2)
  have HG2 := Lib.hid (hg2.l2.lower (Nat.zero_le _))
  have HKS := Lib.hid hk
  have hkl : K.length ≤ n := hk.short
  obtain ⟨a2, c2, e2⟩ := Sl.shape HG2.out
  obtain ⟨kl, hkk⟩ : ∃ x, x = K.length := ⟨_, rfl⟩
  rw [List.length_map, ← hkk] at e2
  rw [← hkk] at hkl
  have HKL := Lib.hid hkk
  clear hb2 hg2 hk HK HG1 hkk
  subst e2
  have HIFF := Lib.hid (exAt_len (by have := HP.out.lo; omega) HR1.out.red HR1.out.eqv HKS.out : _ ↔ ExAt p n m t u)
  by_cases hq : rl = kl
  · have HQ := Lib.hid hq
    have hne : ((rl : Int) != (kl : Int)) = false := by simp; omega
    clear hq
    go_wp2
    clear hne
    go_loopw [11] (fun i wr => ∃ k : Nat, k ≤ rl ∧ i = .int .i64 k ∧ Hid (Below w2.heap.size w2 wr) ∧ Hid (∀ j (hj : j < R.length), j < k → Lin.Sp p K R[j])) (fun i _ => rl - (intOf i).toNat)
    case atStart => exact ⟨0, Nat.zero_le _, rfl, Lib.hid (Below.refl _ _), Lib.hid (fun _ _ h => absurd h (Nat.not_lt_zero _))⟩
    case round =>
      obtain ⟨k, hk, rfl, HB, HS⟩ := hrel
      obtain ⟨wx, hwx⟩ : ∃ wx : World, wx = wr := ⟨_, rfl⟩
      subst hwx
      by_cases hlt : k < rl
      · have hkR : k < R.length := by rw [← HRL.out]; exact hlt
        have hlk : (k : Int) < (rl : Int) := by omega
        have hk0 : (0 : Int) ≤ (k : Int) := by omega
        refine Sl.cases (HG1b.out.below HB.out) (fun _ _ hx _ => absurd hkR (by have := congrArg List.length hx; simp at this; simp [this])) (fun bd od capd hvd _ _ hcl => ?_)
        injection hvd with e1 e2 e3
        clear e2
        subst e1 e3
        obtain ⟨ux, hux, hrx⟩ := hcl k (by rw [List.length_map]; exact hkR)
        rw [List.getElem_map] at hrx
        obtain ⟨r, hr⟩ : ∃ r, r = R[k] := ⟨_, rfl⟩
        rw [← hr] at hrx
        have HRM : Hid (Lin.Md p r ∧ Lin.Wd n r) := Lib.hid ⟨by rw [hr]; exact HR1.out.red.md _ (List.getElem_mem hkR), by rw [hr]; exact HR1.out.wd _ (List.getElem_mem hkR)⟩
        have HIN := Lib.hid (l01Inside_any p n _ ux K r wx HP.out (HG2.out.below HB.out) hrx HKS.out.1 HKS.out.2.1 HRM.out.1 HRM.out.2 (by omega) (by have := HKL.out; omega))
        have HRE := Lib.hid hr
        clear hcl hrx hr
        go_wp2_with fail
        refine HIN.out.mono ?_
        rintro ee w3 ⟨bb, rfl, hb3, hbb⟩
        have HB3 := Lib.hid (HB.out.trans (hb3.mono HB.out.size))
        have HBB := Lib.hid hbb
        clear hb3 hbb HIN hux
        cases bb with
        | true =>
          go_wp2
          go_roundw
          case rel => exact ⟨k + 1, by omega, by go_num, HB3, Lib.hid (fun j hj hjk => by
            by_cases e : j = k
            · subst e; rw [← HRE.out]; exact HBB.out.1 (by simp)
            · exact HS.out j hj (by omega))⟩
          case measure => simp [intOf]; omega
        | false =>
          go_wp2
          go_ret
          exact bb_false (HB2.out.trans (HB3.out.mono HB2.out.size)) (fun h => absurd (HBB.out.2 (by rw [HRE.out]; exact (HIFF.out.2 h).2 _ (List.getElem_mem hkR))) (by simp))
      · have hlk : ¬ (k : Int) < (rl : Int) := by omega
        have HKE : Hid (k = rl) := Lib.hid (by omega)
        go_wp2
        go_ret
        exact ⟨true, rfl, HB2.out.trans (HB.out.mono HB2.out.size), fun _ => HIFF.out.1 ⟨by rw [← HRL.out, ← HKL.out]; exact HQ.out, fun y hy => by
          obtain ⟨j, hj, rfl⟩ := List.getElem_of_mem hy
          exact HS.out j hj (by rw [HKE.out, HRL.out]; exact hj)⟩, fun _ => rfl⟩
  · have hne : ((rl : Int) != (kl : Int)) = true := by simp; omega
    have HQ := Lib.hid hq
    clear hq
    go_wp2
    go_ret
    exact bb_false HB2.out (fun h => HQ.out (by rw [HRL.out, HKL.out]; exact (HIFF.out.2 h).1))

set_option maxHeartbeats 3200000 in
set_option maxRecDepth 100000 in
theorem l05Exact_any (p : Int) (dn en : Nat) (iv jv kv : Value) (il jl kl : List (List Int)) (w : World) (h : Cp 0 w iv jv kv il jl kl) (hc : IsCp p dn en il jl kl) :
    Calls Tryd.prog 40 #[.agg #[.int .i64 p, .int .i64 (dn : Int), .int .i64 (en : Int), iv, jv, kv]] w (BB (ExOk p dn en il jl kl) w) := by
  obtain ⟨w1, hw1⟩ : ∃ w1, w1 = w.alloc (.cells #[.int .i64 p, .int .i64 (dn : Int), .int .i64 (en : Int), iv, jv, kv] 26) := ⟨_, rfl⟩
  have HX : Hid (BxCp w w1 w.heap.size p dn en iv jv kv il jl kl) := Lib.hid (by rw [hw1]; exact BxCp.start 26 h)
  have HNX : Hid (∀ W, Below w1.heap.size w1 W → BxCp w W w.heap.size p dn en iv jv kv il jl kl) := Lib.hid (fun W hb => HX.out.next hb)
  have hd24 := hc.d24
  have HI : Hid (∀ W, Below w1.heap.size w1 W → Calls Tryd.prog 58 #[.int .i64 p, iv, .int .i64 (dn : Int), jv] W (BB (ExAt p dn en il jl) W)) := Lib.hid (fun W hb => l05Meet_any p dn en iv jv il jl W hc.1 (HNX.out W hb).cx.fi (HNX.out W hb).cx.fj hc.2.2.2.1.2 hc.2.2.2.2.1.2 hc.lj (by omega) (by omega) (by have := hc.li; omega))
  have HJ : Hid (∀ W, Below w1.heap.size w1 W → Calls Tryd.prog 58 #[.int .i64 p, jv, .int .i64 (en : Int), kv] W (BB (ExAt p en dn jl kl) W)) := Lib.hid (fun W hb => l05Meet_any p en dn jv kv jl kl W hc.1 (HNX.out W hb).cx.fj (HNX.out W hb).cx.fk hc.2.2.2.2.1.2 hc.2.2.2.2.2.2 hc.lk (by omega) (by omega) (by have := hc.lj; omega))
  have HK : Hid (∀ W, Below w1.heap.size w1 W → Calls Tryd.prog 58 #[.int .i64 p, kv, .int .i64 (dn : Int), iv] W (BB (ExAt p dn dn kl il) W)) := Lib.hid (fun W hb => l05Meet_any p dn dn kv iv kl il W hc.1 (HNX.out W hb).cx.fk (HNX.out W hb).cx.fi hc.2.2.2.2.2.2 hc.2.2.2.1.2 hc.li (by omega) (by omega) (by have := hc.lk; omega))
  obtain ⟨⟨ai, ci, rfl⟩, ⟨aj, cj, rfl⟩, ⟨ak, ck, rfl⟩⟩ := HX.out.cx.shapes
  clear h hc
  have c0 := HX.out.c0
  have c1 := HX.out.c1
  have c2 := HX.out.c2
  have c3 := HX.out.c3
  have c4 := HX.out.c4
  have c5 := HX.out.c5
  go_enter Tryd.func40, Tryd.ntmps40
  go_upto_region 1 with fail
  rw [← hw1]
  clear hw1
  go_wp2_with fail
  refine (HI.out w1 (Below.refl _ _)).mono ?_
  rintro ee w2 ⟨b0, rfl, hb, hbb⟩
  have HB2 := Lib.hid hb
  have H0 := Lib.hid hbb
  clear hb hbb c0 c1 c2 c3 c4 c5
  have c0 := (HNX.out _ HB2.out).c0
  have c1 := (HNX.out _ HB2.out).c1
  have c2 := (HNX.out _ HB2.out).c2
  have c3 := (HNX.out _ HB2.out).c3
  have c4 := (HNX.out _ HB2.out).c4
  have c5 := (HNX.out _ HB2.out).c5
  cases b0 with
  | false =>
    go_wp2
    go_ret
    exact bb_false (HNX.out _ HB2.out).below (fun h => absurd (H0.out.2 h.1) (by simp))
  | true =>
    go_wp2_with fail
    refine (HJ.out w2 HB2.out).mono ?_
    rintro ee w3 ⟨b1, rfl, hb, hbb⟩
    have HB3 := Lib.hid (HB2.out.trans (hb.mono HB2.out.size))
    have H1 := Lib.hid hbb
    clear hb hbb c0 c1 c2 c3 c4 c5
    have c0 := (HNX.out _ HB3.out).c0
    have c1 := (HNX.out _ HB3.out).c1
    have c2 := (HNX.out _ HB3.out).c2
    have c3 := (HNX.out _ HB3.out).c3
    have c4 := (HNX.out _ HB3.out).c4
    have c5 := (HNX.out _ HB3.out).c5
    cases b1 with
    | false =>
      go_wp2
      go_ret
      exact bb_false (HNX.out _ HB3.out).below (fun h => absurd (H1.out.2 h.2.1) (by simp))
    | true =>
      go_wp2_with fail
      refine (HK.out w3 HB3.out).mono ?_
      rintro ee w4 ⟨b2, rfl, hb, hbb⟩
      have HB4 := Lib.hid (HB3.out.trans (hb.mono HB3.out.size))
      have H2 := Lib.hid hbb
      clear hb hbb c0 c1 c2 c3 c4 c5
      go_wp2
      go_ret
      exact ⟨b2, rfl, (HNX.out _ HB4.out).below, fun h => ⟨H0.out.1 (by simp), H1.out.1 (by simp), H2.out.1 h⟩, fun h => H2.out.2 h.2.2⟩

open Classical in
/-- The code of a couple that has to be exact. -/
noncomputable def xcCode (p d e : Int) (il jl kl : List (List Int)) : Int := if IsCp p d e il jl kl then (if ExOk p d.toNat e.toNat il jl kl then 0 else 5) else 1
theorem xc_no {p d e : Int} {il jl kl : List (List Int)} (h : ¬ IsCp p d e il jl kl) : xcCode p d e il jl kl = 1 := if_neg h
theorem xc_st {p d e : Int} {il jl kl : List (List Int)} (h : IsCp p d e il jl kl) (k : ¬ ExOk p d.toNat e.toNat il jl kl) : xcCode p d e il jl kl = 5 := by unfold xcCode; rw [if_pos h, if_neg k]
theorem xc_ok {p d e : Int} {il jl kl : List (List Int)} (h : IsCp p d e il jl kl) (k : ExOk p d.toNat e.toNat il jl kl) : xcCode p d e il jl kl = 0 := by unfold xcCode; rw [if_pos h, if_pos k]
theorem xc_zero {p d e : Int} {il jl kl : List (List Int)} (h : xcCode p d e il jl kl = 0) : IsCp p d e il jl kl ∧ ExOk p d.toNat e.toNat il jl kl := by
  by_cases a : IsCp p d e il jl kl
  · by_cases b : ExOk p d.toNat e.toNat il jl kl
    · exact ⟨a, b⟩
    · rw [xc_st a b] at h; exact absurd h (by decide)
  · rw [xc_no a] at h; exact absurd h (by decide)

set_option maxHeartbeats 3200000 in
set_option maxRecDepth 100000 in
theorem l05Code_any (p d e : Int) (iv jv kv : Value) (il jl kl : List (List Int)) (w : World) (h : Cp 0 w iv jv kv il jl kl) (hm : CpB 1048576 il jl kl) :
    Calls Tryd.prog 21 #[.agg #[.int .i64 p, .int .i64 d, .int .i64 e, iv, jv, kv]] w (BR (.int .i64 (xcCode p d e il jl kl)) w) := by
  obtain ⟨w1, hw1⟩ : ∃ w1, w1 = w.alloc (.cells #[.int .i64 p, .int .i64 d, .int .i64 e, iv, jv, kv] 26) := ⟨_, rfl⟩
  have HX : Hid (BxCp w w1 w.heap.size p d e iv jv kv il jl kl) := Lib.hid (by rw [hw1]; exact BxCp.start 26 h)
  have HM := Lib.hid hm
  obtain ⟨⟨ai, ci, rfl⟩, ⟨aj, cj, rfl⟩, ⟨ak, ck, rfl⟩⟩ := HX.out.cx.shapes
  clear h hm
  have c0 := HX.out.c0
  have c1 := HX.out.c1
  have c2 := HX.out.c2
  have c3 := HX.out.c3
  have c4 := HX.out.c4
  have c5 := HX.out.c5
  go_enter Tryd.func21, Tryd.ntmps21
  go_upto_region 1 with fail
  rw [← hw1]
  clear hw1
  go_wp2_with fail
  refine (l05Is_any p d e _ _ _ il jl kl w1 HX.out.cx HM.out).mono ?_
  rintro ee w2 ⟨b, rfl, hb, hbb⟩
  have HX2 := Lib.hid (HX.out.next hb)
  clear hb c0 c1 c2 c3 c4 c5
  by_cases hc : IsCp p d e il jl kl
  · obtain rfl : b = true := hbb.2 hc
    have HC := Lib.hid hc
    obtain ⟨dn, hdn⟩ := Int.eq_ofNat_of_zero_le hc.2.1.1
    obtain ⟨en, hen⟩ := Int.eq_ofNat_of_zero_le hc.2.2.1.1
    clear hbb hc
    subst hdn hen
    have HK := Lib.hid (l05Exact_any p dn en _ _ _ il jl kl w2 HX2.out.cx HC.out)
    have c0 := HX2.out.c0
    have c1 := HX2.out.c1
    have c2 := HX2.out.c2
    have c3 := HX2.out.c3
    have c4 := HX2.out.c4
    have c5 := HX2.out.c5
    go_wp2_with fail
    refine HK.out.mono ?_
    rintro ee w3 ⟨bb, rfl, hb3, hbb⟩
    have HX3 := Lib.hid (HX2.out.next hb3)
    have HBB := Lib.hid hbb
    clear HK hb3 hbb c0 c1 c2 c3 c4 c5
    cases bb with
    | true =>
      go_wp2
      go_ret
      exact ⟨by rw [xc_ok HC.out (HBB.out.1 (by simp))]; rfl, HX3.out.below⟩
    | false =>
      go_wp2
      go_ret
      exact ⟨by rw [xc_st HC.out (fun h => absurd (HBB.out.2 h) (by simp))]; rfl, HX3.out.below⟩
  · obtain rfl : b = false := bb_no hbb hc
    have HC := Lib.hid hc
    clear hbb hc
    go_wp2
    go_ret
    exact ⟨by rw [xc_no HC.out]; rfl, HX2.out.below⟩
end Go.Proofs.YtckkbojankfdfaaDoor


namespace Go.Proofs.YtckkbojankfdfaaDoor
open Go.RowKit

def dcOut (p d e : Int) (il jl kl : List (List Int)) (o : CpO) : Prop := ∃ (d1 e1 : Nat) (i1 j1 k1 : List (List Int)), o = (p, (d1 : Int), (e1 : Int), i1, j1, k1) ∧ DcIs p d.toNat e.toNat il jl kl d1 e1 i1 j1 k1

end Go.Proofs.YtckkbojankfdfaaDoor


namespace Go.Proofs.YtckkbojankfdfaaDoor
open Go.RowKit

theorem dcOut.nat {p d e : Int} {il jl kl : List (List Int)} {o : CpO} (hc : IsCp p d e il jl kl) (hx : ExOk p d.toNat e.toNat il jl kl) (h : dcOut p d e il jl kl o) :
    ∃ dn en : Nat, d = dn ∧ e = en ∧ IsCp p dn en il jl kl ∧ ExOk p dn en il jl kl ∧ ∃ (d1 e1 : Nat) (i1 j1 k1 : List (List Int)), o = (p, (d1 : Int), (e1 : Int), i1, j1, k1) ∧ DcIs p dn en il jl kl d1 e1 i1 j1 k1 := by
  have hd : d = (d.toNat : Int) := by have := hc.2.1; omega
  have he : e = (e.toNat : Int) := by have := hc.2.2.1; omega
  exact ⟨d.toNat, e.toNat, hd, he, by rw [← hd, ← he]; exact hc, hx, h⟩
theorem dcOut.unique {p d e : Int} {il jl kl : List (List Int)} {a b : CpO} (hc : IsCp p d e il jl kl) (hx : ExOk p d.toNat e.toNat il jl kl) (h : dcOut p d e il jl kl a) (h' : dcOut p d e il jl kl b) : a = b := by
  obtain ⟨dn, en, rfl, rfl, hc1, hx1, d1, e1, i1, j1, k1, rfl, h1⟩ := h.nat hc hx
  obtain ⟨d2, e2, i2, j2, k2, rfl, h2⟩ := h'
  rw [Int.toNat_natCast, Int.toNat_natCast] at h2
  obtain ⟨rfl, rfl, rfl, rfl, rfl⟩ := DcIs.unique hc1 hx1 h1 h2
  rfl
theorem dcOut.ok {p d e : Int} {il jl kl : List (List Int)} {o : CpO} (hc : IsCp p d e il jl kl) (hx : ExOk p d.toNat e.toNat il jl kl) (h : dcOut p d e il jl kl o) :
    IsCp p o.2.1 o.2.2.1 o.2.2.2.1 o.2.2.2.2.1 o.2.2.2.2.2 ∧ ExOk p o.2.1.toNat o.2.2.1.toNat o.2.2.2.1 o.2.2.2.2.1 o.2.2.2.2.2 ∧ o.1 = p ∧ o.2.1 ≤ d ∧ o.2.2.1 ≤ e := by
  obtain ⟨dn, en, rfl, rfl, hc1, hx1, d1, e1, i1, j1, k1, rfl, h1⟩ := h.nat hc hx
  obtain ⟨a1, a2, a3, a4⟩ := DcIs.ok hc1 hx1 h1
  exact ⟨a1, by simpa using a2, rfl, by simp; omega, by simp; omega⟩
end Go.Proofs.YtckkbojankfdfaaDoor


namespace Go.Proofs.YtckkbojankfdfaaDoor
open Go.RowKit

/-- An exact couple. -/
structure CpG (o : CpO) : Prop where
  cp : IsCp o.1 o.2.1 o.2.2.1 o.2.2.2.1 o.2.2.2.2.1 o.2.2.2.2.2
  ex : ExOk o.1 o.2.1.toNat o.2.2.1.toNat o.2.2.2.1 o.2.2.2.2.1 o.2.2.2.2.2
/-- o1 is derived from o. -/
def DcO (o o1 : CpO) : Prop := dcOut o.1 o.2.1 o.2.2.1 o.2.2.2.1 o.2.2.2.2.1 o.2.2.2.2.2 o1
theorem DcO.unique {o a b : CpO} (g : CpG o) (h : DcO o a) (h' : DcO o b) : a = b := dcOut.unique g.cp g.ex h h'
theorem DcO.good {o a : CpO} (g : CpG o) (h : DcO o a) : CpG a := by
  obtain ⟨h1, h2, h3, _, _⟩ := dcOut.ok g.cp g.ex h
  refine ⟨?_, ?_⟩
  · rw [h3]; exact h1
  · rw [h3]; exact h2
theorem tabOk_bd {p d e : Int} {t : List (List Int)} (h : TabOk p d e t) (hd : d ≤ 24) (he : e ≤ 24) : Bd2 1048576 t := by
  refine ⟨?_, fun r hr => ?_⟩
  · have := h.1; omega
  · have := (h.2 r hr).1
    show r.length ≤ _
    omega
theorem CpG.bd {o : CpO} (g : CpG o) : CpBo o := by
  have h1 := g.cp.2.1.2
  have h2 := g.cp.2.2.1.2
  exact ⟨tabOk_bd g.cp.2.2.2.1 h1 h1, tabOk_bd g.cp.2.2.2.2.1 h1 h2, tabOk_bd g.cp.2.2.2.2.2 h2 h1⟩
/-- The first wanted page from the page r on. -/
inductive Fp (want : Int → CpO → Prop) : Int → CpO → Int → CpO → Prop
  | here {r : Int} {o : CpO} (h : want r o) : Fp want r o r o
  | next {r r2 : Int} {o o1 o2 : CpO} (h : ¬ want r o) (hd : DcO o o1) (k : Fp want (r + 1) o1 r2 o2) : Fp want r o r2 o2
theorem Fp.unique {want : Int → CpO → Prop} {r r1 : Int} {o a : CpO} (h : Fp want r o r1 a) : ∀ {r2 : Int} {b : CpO}, CpG o → Fp want r o r2 b → r1 = r2 ∧ a = b := by
  induction h with
  | here h =>
    intro r2 b _ h'
    cases h' with
    | here _ => exact ⟨rfl, rfl⟩
    | next hn _ _ => exact absurd h hn
  | next hn hd k ih =>
    intro r2 b g h'
    cases h' with
    | here h => exact absurd h hn
    | next _ hd' k' =>
      obtain rfl := DcO.unique g hd hd'
      exact ih (DcO.good g hd) k'
theorem Fp.good {want : Int → CpO → Prop} {r r1 : Int} {o a : CpO} (h : Fp want r o r1 a) : CpG o → CpG a ∧ want r1 a := by
  induction h with
  | here h => exact fun g => ⟨g, h⟩
  | next _ hd _ ih => exact fun g => ih (DcO.good g hd)
/-- The sizes E of n pages. -/
inductive Psz : Nat → CpO → List Int → Prop
  | nil {o : CpO} : Psz 0 o []
  | cons {n : Nat} {o o1 : CpO} {xs : List Int} (hd : DcO o o1) (k : Psz n o1 xs) : Psz (n + 1) o (o.2.2.1 :: xs)
  | last {o : CpO} : Psz 1 o [o.2.2.1]
theorem Psz.unique {n : Nat} {o : CpO} {xs : List Int} (h : Psz n o xs) : ∀ {ys : List Int}, CpG o → Psz n o ys → xs = ys := by
  induction h with
  | nil => intro ys _ h'; cases h'; rfl
  | cons hd k ih =>
    intro ys g h'
    cases h' with
    | cons hd' k' =>
      obtain rfl := DcO.unique g hd hd'
      rw [ih (DcO.good g hd) k']
    | last => cases k; rfl
  | last =>
    intro ys g h'
    cases h' with
    | cons hd' k' => cases k'; rfl
    | last => rfl
theorem Psz.len {n : Nat} {o : CpO} {xs : List Int} (h : Psz n o xs) : xs.length = n := by
  induction h with
  | nil => rfl
  | cons _ _ ih => simp [ih]
  | last => rfl
end Go.Proofs.YtckkbojankfdfaaDoor


namespace Go.Proofs.YtckkbojankfdfaaDoor
open Go.RowKit

theorem hslice1 (b o : Nat) (w : World) : (Instr.sliceAt 82 (.pointer (some ⟨b, o, none⟩)) (some (.int .i64 1)) none none).run Tryd.prog w = .ok (.slice (some ⟨b, o + 1, none⟩) 39 39) w := by
  have hu : Tryd.prog.underlying 82 = some (.array (Tryd.prog.arrayLen 82) (Tryd.prog.elem 82)) := by kernel_rfl
  have hal : Tryd.prog.arrayLen 82 = 40 := by kernel_rfl
  have hel : Tryd.prog.elem 82 = 2 := by kernel_rfl
  obtain ⟨i, hi, _, hs, _⟩ := info_parts Tryd.infoI
  rw [run_sliceAt_array_l w 82 ⟨b, o, none⟩ hu .i64 1 (by omega) (by rw [hal]; omega), hal, hel]
  simp [sizeOf, typeInfo, hi, hs, slicedAt, Result.andThen, Addr.add]
theorem at_tail {w : World} {b o : Nat} {a : Lin.V} (h : At w b o a) : L1 0 w (.slice (some ⟨b, o + 1, none⟩) 39 39) (toL 39 (fun i => a (i + 1))) := by
  refine Or.inr ⟨b, o + 1, 39, by rw [toL_length], Nat.zero_le _, by rw [toL_length]; omega, fun k hk => ?_⟩
  have hk' : k < 39 := by rw [toL_length] at hk; exact hk
  refine ⟨.int .i64 (a (k + 1)), ?_, by rw [toL_get]; rfl⟩
  have := h.cell (k := k + 1) (by omega)
  rw [show o + 1 + k = o + (k + 1) by omega]
  exact this
theorem hidx0V (b o n cap : Nat) (w : World) : (Instr.indexAt 73 (.slice (some ⟨b, o, none⟩) (n + 1) cap) (.int .i64 0)).run Tryd.prog w = .ok (.pointer (some ⟨b, o, none⟩)) w := by
  have h3 : (0 : Int) < ((n + 1 : Nat) : Int) := by omega
  go_simp
theorem l2_one {w : World} {b ab n c : Nat} {xs : List Int} (_hn : xs.length = n) (h : w.cell? ⟨b, 0, none⟩ = some (.slice (some ⟨ab, 0, none⟩) n c)) (hx : L1 0 w (.slice (some ⟨ab, 0, none⟩) n c) xs) : L2 0 w (.slice (some ⟨b, 0, none⟩) 1 1) [xs] := by
  refine Or.inr ⟨b, 0, 1, rfl, Nat.zero_le _, by simp, fun k hk => ?_⟩
  match k, hk with
  | 0, _ => exact ⟨_, h, hx⟩
section
variable {ops : Array Oper} {Q : Exit → Act → World → Prop} {md : Region.Mode} {S : World → Prop}
/-- A slice of two tables. -/
theorem held_buildT2 {i : Nat} {oi : Oper} {fuel : Nat} {listed : Array Bool} {a : Act} {w : World} (d : Option Tmp) (hr : Region.ready md ops listed = [i]) (hi : ops[i]? = some oi) (hg : oi.guard = none) (hd : oi.dst = d)
    (x y : Operand) (ad ad2 : Option Addr) (n c n2 c2 : Nat) (ho : oi.op = .buildSlice 101 2 #[(0, x), (1, y)]) (hx : a.eval x = .slice ad n c) (hy : a.eval y = .slice ad2 n2 c2)
    (h : S (w.alloc (.cells #[.slice ad n c, .slice ad2 n2 c2] 22)) ∧ wpAnyH Tryd.prog md ops Q S fuel (listed.setIfInBounds i true) (a.put d (.slice (some ⟨w.heap.size, 0, none⟩) 2 2)) (w.alloc (.cells #[.slice ad n c, .slice ad2 n2 c2] 22))) : wpAnyH Tryd.prog md ops Q S (fuel + 1) listed a w := by
  obtain ⟨ie, hie, hz, h1, _⟩ := info_parts Tryd.infoSS
  subst hd
  refine held_call hr hi hg (wp_buildSlice 101 22 2 #[(0, x), (1, y)] ho #[.slice ad n c, .slice ad2 n2 c2] ie _ Tryd.underlying101 hie hz (by rw [h1]; decide) (by rw [h1]; decide) ?_ h)
  simp only [h1, List.map_toArray, List.map_cons, List.map_nil, hx, hy]
  first | kernel_rfl | simp [Instr.fill]
end

set_option maxHeartbeats 3200000 in
set_option maxRecDepth 100000 in
theorem sourceOf_any (p : Int) (d c : Nat) (v u0 : Lin.V) (tv : Value) (t : List (List Int)) (w : World) (hp : IsP p) (h : L2 0 w tv t) (htl : t.length = d) (hrow : ∀ r ∈ t, RowOk p (c : Int) r) (hd : d ≤ 39) (hc : c ≤ 40) (hm : Lin.Md p v) (hv : Lin.Wd c v) (hw0 : Lin.Wd d u0) (hu0 : dimg p d t u0 = v) :
    Calls Tryd.prog 73 #[.agg #[.int .i64 p, .int .i64 (d : Int), .int .i64 (c : Int), tv], vv v] w (VR (fun u => Lin.Md p u ∧ Lin.Wd d u ∧ dimg p d t u = v) w) := by
  have hres : Tryd.f73.results = #[.cell 4 82] := by kernel_rfl
  have HRES := Lib.hid hres
  have HP := Lib.hid hp
  obtain ⟨av, cv, rfl⟩ := Sl.shape h
  have HT := Lib.hid h
  have hrows2 : ∀ r ∈ toL c v :: t, RowOk p (c : Int) r := fun r hr => by
    rcases List.mem_cons.1 hr with rfl | hr
    · exact ⟨by rw [toL_length], fun x hx => by
        obtain ⟨i, _, rfl⟩ := List.mem_map.1 hx
        have := hm i
        omega⟩
    · exact hrow r hr
  have HROW := Lib.hid hrows2
  have HSRC : Hid (∀ R, SpF p (d + 1) (CycS p (d + 1) c (toL c v :: t)) R → ∃ a L, R = a :: L ∧ Lin.Md p a ∧ Lin.Wd (d + 1) a ∧ Lin.Wd d (Lin.add p Lin.zv (-1) (fun i => a (i + 1))) ∧ dimg p d t (Lin.add p Lin.zv (-1) (fun i => a (i + 1))) = v) :=
    Lib.hid (fun R hR => src_of hp.lo1 htl hrow hm hv hR hw0 hu0)
  have htl40 : t.length ≤ 40 := by omega
  have HTL : Hid ((toL c v :: t).length = d + 1) := Lib.hid (by simp [htl])
  clear hres hp htl hrow hm h hv hw0 hu0 hrows2
  unfold vv
  go_enter Tryd.func73, Tryd.ntmps73
  go_upto_region 1 with fail
  refine forget_wp (fun W => LdB w W p d c (.slice av t.length cv) t v) (LdB.start w p d c _ t v HT.out _ (by exact Nat.le_refl 40) _ _ _) ?_
  intro W hx
  have HX := Lib.hid hx
  clear hx HT
  have HNX : Hid (∀ W', Below W.heap.size W W' → LdB w W' p d c (.slice av t.length cv) t v) := Lib.hid (fun W' h => HX.out.next h)
  have hsl := hsliceV (w.heap.size + 1) c (by omega)
  refine wp_region_held (S := fun W' => Below W.heap.size W W') (by kernel_rfl) ?_
  have S0 : Below W.heap.size W W.drew := (Below.refl _ _).drew
  change wpAnyH _ _ _ _ _ _ _ _ W.drew
  generalize W.drew = wd at *
  refine held_take (i := 0) (v := .pointer (some ⟨w.heap.size, 2, none⟩)) (some 7) rfl rfl (by kernel_rfl) (by kernel_rfl) (by kernel_rfl) (fun _ _ _ h => h) (yieldsIf_run (by kernel_rfl) (fun W _ => by kernel_rfl)) S0 ?_
  refine held_take (i := 1) (v := .int .i64 (c : Int)) (some 8) rfl rfl (by kernel_rfl) (by kernel_rfl) (by kernel_rfl) (fun _ _ _ h => h) (yieldsIf_cell (by kernel_rfl) rfl (by kernel_rfl) (fun W h => hload W ((HNX.out W h).c2))) S0 ?_
  refine held_take (i := 2) (v := .slice (some ⟨w.heap.size + 1, 0, none⟩) c 40) (some 9) rfl rfl (by kernel_rfl) (by kernel_rfl) (by kernel_rfl) (fun _ _ _ h => h) (yieldsIf_slice (by kernel_rfl) rfl (by kernel_rfl) (by kernel_rfl) hsl) S0 ?_
  refine held_take (i := 4) (v := .pointer (some ⟨w.heap.size, 3, none⟩)) (some 11) rfl rfl (by kernel_rfl) (by kernel_rfl) (by kernel_rfl) (fun _ _ _ h => h) (yieldsIf_run (by kernel_rfl) (fun W _ => by kernel_rfl)) S0 ?_
  refine held_take (i := 5) (v := .slice av t.length cv) (some 12) rfl rfl (by kernel_rfl) (by kernel_rfl) (by kernel_rfl) (fun _ _ _ h => h) (yieldsIf_cell (by kernel_rfl) rfl (by kernel_rfl) (fun W h => hloadT W ((HNX.out W h).c3))) S0 ?_
  have SA : Below W.heap.size W (wd.alloc (.cells #[.slice (some ⟨w.heap.size + 1, 0, none⟩) c 40] 33)) := S0.trans ((below_alloc1 wd _).mono S0.size)
  refine held_buildS (i := 3) (some 10) (by kernel_rfl) rfl rfl rfl (.tmp 9) _ c 40 rfl (by kernel_rfl) ⟨SA, ?_⟩
  obtain ⟨wa, hwa⟩ : ∃ wa, wa = wd.alloc (.cells #[.slice (some ⟨w.heap.size + 1, 0, none⟩) c 40] 33) := ⟨_, rfl⟩
  rw [← hwa] at SA ⊢
  have HCA : Hid (wa.cell? ⟨wd.heap.size, 0, none⟩ = some (.slice (some ⟨w.heap.size + 1, 0, none⟩) c 40)) := Lib.hid (by rw [hwa]; exact cell_alloc1 wd _ _)
  clear hwa
  have SB : Below W.heap.size W (wa.alloc (.cells #[.slice (some ⟨wd.heap.size, 0, none⟩) 1 1, .slice av t.length cv] 22)) := SA.trans ((below_alloc1 wa _).mono SA.size)
  refine held_buildT2 (i := 6) (some 13) (by kernel_rfl) rfl rfl rfl (.tmp 10) (.tmp 12) _ _ 1 1 t.length cv rfl (by kernel_rfl) (by kernel_rfl) ⟨SB, ?_⟩
  obtain ⟨wb, hwb⟩ : ∃ wb, wb = wa.alloc (.cells #[.slice (some ⟨wd.heap.size, 0, none⟩) 1 1, .slice av t.length cv] 22) := ⟨_, rfl⟩
  rw [← hwb] at SB ⊢
  have hab : Below wa.heap.size wa wb := by rw [hwb]; exact below_alloc1 _ _
  have g0 : wb.cell? ⟨wa.heap.size, 0, none⟩ = some (.slice (some ⟨wd.heap.size, 0, none⟩) 1 1) := by rw [hwb]; simp
  have g1 : wb.cell? ⟨wa.heap.size, 1, none⟩ = some (.slice av t.length cv) := by rw [hwb]; simp
  have HA1 : Hid (L2 0 wb (.slice (some ⟨wd.heap.size, 0, none⟩) 1 1) [toL c v]) := Lib.hid (l2_one (toL_length _ _) (later hab (Nat.le_refl _) HCA.out) (at_l1 (HNX.out _ SB).vec hc))
  clear hwb hab HCA
  refine held_enter (i := 7) (some 14) (f := 83) (args := #[.slice (some ⟨wa.heap.size, 0, none⟩) 2 2]) (by kernel_rfl) rfl rfl rfl (by kernel_rfl) (concatT_any wa.heap.size _ _ [toL c v] t wb g0 g1 HA1.out (HNX.out _ SB).tab (by simp; omega)) ?_ (fun c w' h => by obtain ⟨_, h, _⟩ := h; cases h) (fun w' h => by obtain ⟨_, h, _⟩ := h; cases h)
  rintro e4 W4 ⟨u4, he4, hb4, hl4⟩
  injection he4 with he4
  subst he4
  have S1 : Below W.heap.size W W4 := SB.trans (hb4.mono SB.size)
  have hl5 : L2 0 W4 e4 (toL c v :: t) := hl4
  have hsh := Sl.shape hl5
  rw [HTL.out] at hsh
  obtain ⟨a4, k4, rfl⟩ := hsh
  have HL4 := Lib.hid hl5
  refine ⟨S1, ?_⟩
  refine held_take (i := 8) (v := .slice a4 (d + 1) k4) (some 5) rfl rfl (by kernel_rfl) (by kernel_rfl) (by kernel_rfl) (fun _ _ _ h => h) (yieldsIf_assign (by kernel_rfl) rfl (by kernel_rfl)) S1 ?_
  refine wpAnyH_done (by kernel_rfl) ?_ _
  simp only [Act.put, List.setIfInBounds_toArray, List.set_cons_zero, List.set_cons_succ]
  have HX4 := Lib.hid (HNX.out _ S1)
  clear S0 SA SB S1 hb4 hl4 hl5 g0 g1 HA1 HX HNX hsl
  have c0 := HX4.out.c0
  have c2 := HX4.out.c2
  go_wp2_with fail
  refine (kernelSpace_any p (d + 1) c _ (toL c v :: t) W4 HP.out HL4.out HTL.out HROW.out (by omega) (by omega)).mono ?_
  rintro e W5 ⟨s5, R, rfl, hb5, ho5, hR⟩
  obtain ⟨a, L, rfl, ham, haw, huw, hui⟩ := HSRC.out R hR
  have HX5 := Lib.hid (HX4.out.next hb5)
  have HUW := Lib.hid huw
  have HUI := Lib.hid hui
  have HAM : Hid (Lin.Md p (fun i => a (i + 1))) := Lib.hid (fun i => ham (i + 1))
  have HAW : Hid (Lin.Wd 39 (fun i => a (i + 1))) := Lib.hid (fun i hi => haw (i + 1) (by omega))
  refine Vs.cases ho5.vs (fun _ _ hx _ => absurd hx (by simp)) (fun b o cap hv _ _ hcl => ?_)
  have hAt := hcl 0 (by simp)
  rw [Nat.zero_mul, Nat.add_zero, List.getElem_cons_zero] at hAt
  subst hv
  obtain ⟨n, hn⟩ : ∃ n, n = L.length := ⟨_, rfl⟩
  rw [List.length_cons, ← hn]
  have hix := hidx0V b o n cap
  have hsl1 := hslice1 b o
  have HTL5 := Lib.hid (at_tail hAt)
  obtain ⟨m, hm⟩ : ∃ m : Lin.V, m = fun i => a (i + 1) := ⟨_, rfl⟩
  rw [← hm] at HTL5 HUW HUI HAM HAW
  have HVO := Lib.hid (vectorOf_any _ _ W5 HTL5.out (by rw [toL_length]; omega))
  rw [ints_ofL (by rw [toL_length]; omega), ofL_toL HAW.out] at HVO
  clear hb5 ho5 hR ham haw huw hui HX4 HL4 HTL HROW HSRC c0 c2 hcl hAt hn hm HTL5
  go_wp2_with fail
  refine HVO.out.mono ?_
  rintro e W6 ⟨rfl, hb6⟩
  have HX6 := Lib.hid (HX5.out.next hb6)
  have HIM := Lib.hid (Tryd.infoVl m)
  have HIM2 : Hid ((Tryd.prog.info? 82).map (·.size) = some (vl m).toArray.size) := Lib.hid (by have := HIM.out; simpa using this)
  clear hb6 HX5 HVO hix hsl1
  go_upto_region 3 with (first | (with_reducible refine wpList_allocV rfl (some 6) rfl rfl ?_; intro W7 hn7; have HN7 := Lib.hid hn7; have HT7 : Hid (W7.there W6.heap.size 0 (vl m).toArray.size) := (Lib.hid (by have := hn7.there; simpa [vl_length] using this)); clear hn7) | (with_reducible refine wpList_store_mid rfl 82 (.tmp 6) (.tmp 23) rfl W6.heap.size 0 (vl m).toArray rfl rfl HT7.out HIM2.out (vl_all _) ?_))
  refine forget_wp (fun W => Hid (At W W6.heap.size 0 m ∧ Below W6.heap.size W6 W)) (Lib.hid ?_) ?_
  · have hp2 := HN7.out.put m
    exact ⟨hp2.2.1, hp2.1⟩
  intro W8 HS8
  clear HN7 HT7 HIM2
  have HX8 := Lib.hid (HX6.out.next HS8.out.2)
  have HA8 : Hid (At W8 W6.heap.size 0 m) := Lib.hid HS8.out.1
  have hs68 : W6.heap.size < W8.heap.size := HS8.out.1.lt
  clear HX6 HS8
  have c0 := HX8.out.c0
  have hp1 := HP.out.lo1
  have HMM := Lib.hid (minusMultiple_any p 1 Lin.zv m W8 HP.out (by omega) hp1 (Lin.zv_md (by omega)) (Lin.zv_wd 40) HAM.out (fun i hi => HAW.out i (by omega)))
  obtain ⟨r, hr⟩ : ∃ r, r = Lin.add p Lin.zv (-1) m := ⟨_, rfl⟩
  rw [← hr] at HMM HUW HUI
  have HRM : Hid (Lin.Md p r) := Lib.hid (by rw [hr]; exact Lin.add_md (by omega) _ _ _)
  clear hr
  unfold vv at HMM
  go_wp2_with (first | (with_reducible refine wpList_buildZ rfl (some 26) rfl rfl ?_) | (with_reducible refine wpList_load_mid rfl 82 (.tmp 6) rfl W6.heap.size 0 rfl (vl m) _ HA8.out.range Tryd.underlyingV rfl HIM.out ?_))
  refine HMM.out.mono ?_
  rintro e W9 ⟨rfl, hb9⟩
  have HX9 := Lib.hid (HX8.out.next hb9)
  have HIr := Lib.hid (Tryd.infoVl r)
  have HI2 : Hid ((Tryd.prog.info? 82).map (·.size) = some (vl r).toArray.size) := Lib.hid (by have := HIr.out; simpa using this)
  have HTH : Hid (W9.there (w.heap.size + 2) 0 (vl r).toArray.size) := Lib.hid (by have := HX9.out.res; simpa [vl_length] using this)
  have HA6 : Hid (At (W9.setCells (w.heap.size + 2) 0 (vl r)) (w.heap.size + 2) 0 r) := Lib.hid (at_setCells _ _ _ _ HX9.out.res)
  have HB6 : Hid (Below w.heap.size w (W9.setCells (w.heap.size + 2) 0 (vl r))) := Lib.hid (below_setCells _ (by omega) _ _ _ HX9.out.below)
  clear hb9 HX8 HA8 c0 HMM HX9
  go_wp2_with (with_reducible refine wpList_store_mid rfl 82 (.tmp 4) (.tmp 28) rfl (w.heap.size + 2) 0 (vl r).toArray rfl rfl HTH.out HI2.out (vl_all r) ?_)
  exact bodyPost_ret (v := vv r) (results_cell_at HRES.out _ _ (w.heap.size + 2) r _ rfl HA6.out Tryd.underlyingV rfl HIr.out) rfl ⟨r, rfl, HB6.out, HRM.out, HUW.out, HUI.out⟩
end Go.Proofs.YtckkbojankfdfaaDoor


namespace Go.Proofs.YtckkbojankfdfaaDoor
open Go.RowKit
theorem Same.setRow {lo hi g : Nat} {w : World} (x : Array Value) (h : g < lo ∨ hi ≤ g) : Same lo hi w (w.setRow g x) := fun b hl hb => setRow_other w g b x (by omega)
end Go.Proofs.YtckkbojankfdfaaDoor


namespace Go.Proofs.YtckkbojankfdfaaDoor
open Go.RowKit

/-- A row of numbers, the interval of its cells. -/
def Rr (lo hi : Nat) (W : World) (u : Value) (y : List Int) (K : List Iv) : Prop :=
  (y = [] ∧ K = [] ∧ ∃ ad cap, u = .slice ad 0 cap) ∨
  ∃ b o cap, K = [(b, o, y.length)] ∧ 0 < y.length ∧ y.length ≤ 1048576 ∧ lo ≤ b ∧ b < hi ∧ u = .slice (some ⟨b, o, none⟩) y.length cap ∧ ∀ k (h : k < y.length), W.cell? ⟨b, o + k, none⟩ = some (.int .i64 y[k]) ∧ W.frozen? ⟨b, o + k, none⟩ = false
theorem Rr.of {lo hi : Nat} {W : World} {u : Value} {y : List Int} (h : Rw1 lo hi W u y) : ∃ K, Rr lo hi W u y K := by
  obtain ⟨hw, I, hs, _, _, _⟩ := h
  rcases hw with ⟨hy, ad, cap, hv⟩ | ⟨b, o, cap, hv, hlo, hhi, hpos, hc, hf⟩
  · exact ⟨[], Or.inl ⟨hy, rfl, ad, cap, hv⟩⟩
  · refine ⟨_, Or.inr ⟨b, o, cap, rfl, hpos, ?_, hlo, hhi, hv, fun k hk => ⟨?_, hf k hk⟩⟩⟩
    · rcases hs with ⟨_, ad, cap', h2⟩ | ⟨b', o', n', cap', _, _, hn, _, _, h2⟩
      · rw [hv] at h2
        injection h2 with _ e
        omega
      · rw [hv] at h2
        injection h2 with _ e
        omega
    · obtain ⟨x, hx, hi⟩ := hc k hk
      rw [hx]
      exact congrArg some hi
theorem Rr.inn {lo hi : Nat} {W : World} {u : Value} {y : List Int} {K : List Iv} (h : Rr lo hi W u y K) : ∀ x ∈ K, lo ≤ x.1 ∧ x.1 < hi := fun x hx => by
  rcases h with ⟨_, rfl, _⟩ | ⟨b, o, cap, rfl, _, _, h1, h2, _⟩
  · exact absurd hx (by simp)
  · rw [List.mem_singleton] at hx
    subst hx
    exact ⟨h1, h2⟩
theorem Rr.keep {lo hi lo' hi' : Nat} {W W' : World} {u : Value} {y : List Int} {K : List Iv} (h : Rr lo hi W u y K) (hb : ∀ x ∈ K, W'.heap[x.1]? = W.heap[x.1]?) (h1 : lo' ≤ lo) (h2 : hi ≤ hi') : Rr lo' hi' W' u y K := by
  rcases h with h | ⟨b, o, cap, rfl, hp, hm, a1, a2, hv, hc⟩
  · exact Or.inl h
  · refine Or.inr ⟨b, o, cap, rfl, hp, hm, by omega, by omega, hv, fun k hk => ?_⟩
    have e := hb (b, o, y.length) (by simp)
    exact ⟨(World.cell?_of_block (w := W) (a := ⟨b, o + k, none⟩) e).trans (hc k hk).1, (World.frozen?_of_block (w := W) (a := ⟨b, o + k, none⟩) e).trans (hc k hk).2⟩
theorem Rr.s1 {lo hi : Nat} {W : World} {u : Value} {y : List Int} {K : List Iv} (h : Rr lo hi W u y K) : S1 lo hi W u K := by
  rcases h with ⟨_, rfl, h⟩ | ⟨b, o, cap, rfl, hp, hm, h1, h2, hv, _⟩
  · exact Or.inl ⟨rfl, h⟩
  · exact Or.inr ⟨b, o, y.length, cap, rfl, hp, hm, h1, h2, hv⟩
theorem Rr.w1 {lo hi : Nat} {W : World} {u : Value} {y : List Int} {K : List Iv} (h : Rr lo hi W u y K) : W1 lo hi W u y := by
  rcases h with ⟨hy, _, h⟩ | ⟨b, o, cap, _, hp, _, h1, h2, hv, hc⟩
  · exact Or.inl ⟨hy, h⟩
  · exact Or.inr ⟨b, o, cap, hv, h1, h2, hp, fun k hk => ⟨_, (hc k hk).1, rfl⟩, fun k hk => (hc k hk).2⟩
theorem Rr.nums {lo hi : Nat} {W : World} {u : Value} {y : List Int} {K : List Iv} (h : Rr lo hi W u y K) : Nums lo hi W K := fun x hx => by
  refine ⟨(h.inn x hx).1, (h.inn x hx).2, fun i hi => ?_⟩
  rcases h with ⟨_, rfl, _⟩ | ⟨b, o, cap, rfl, hp, _, h1, h2, hv, hc⟩
  · exact absurd hx (by simp)
  · rw [List.mem_singleton] at hx
    subst hx
    exact ⟨⟨_, (hc i hi).1⟩, (hc i hi).2⟩
theorem Rr.disj {lo hi : Nat} {W : World} {u : Value} {y : List Int} {K : List Iv} (h : Rr lo hi W u y K) : Disj K := by
  rcases h with ⟨_, rfl, _⟩ | ⟨b, o, cap, rfl, _⟩
  · exact List.Pairwise.nil
  · exact List.pairwise_singleton _ _
theorem Rr.size {lo hi : Nat} {W : World} {u : Value} {y : List Int} {K : List Iv} (h : Rr lo hi W u y K) : ivSize K ≤ 1048576 := by
  rcases h with ⟨_, rfl, _⟩ | ⟨b, o, cap, rfl, _, hm, _⟩
  · simp [ivSize]
  · simpa [ivSize] using hm

/-- A table that the call gathers, the intervals of its rows apart. -/
structure Ga (base : Nat) (W : World) (v : Value) (t : List (List Int)) (I : List Iv) (vs : List Value) (J : Nat → List Iv) : Prop where
  own : W.ownsRow base 33 1 v t.length vs
  rows : ∀ k (h1 : k < vs.length) (h2 : k < t.length), Rr base W.heap.size W vs[k] t[k] (J k)
  fl : I = flat J t.length
  dj : Disj I
  off : ∀ x ∈ I, v.ownBlock ≠ some x.1
theorem Ga.len {base : Nat} {W : World} {v : Value} {t : List (List Int)} {I : List Iv} {vs : List Value} {J : Nat → List Iv} (h : Ga base W v t I vs J) : vs.length = t.length := by rw [h.own.1]; omega
theorem Ga.row {base : Nat} {W : World} {v : Value} {t : List (List Int)} {I : List Iv} {vs : List Value} {J : Nat → List Iv} (h : Ga base W v t I vs J) {k : Nat} (h2 : k < t.length) : Rr base W.heap.size W (vs[k]'(by rw [h.len]; exact h2)) t[k] (J k) := h.rows k _ h2
theorem Ga.inn {base : Nat} {W : World} {v : Value} {t : List (List Int)} {I : List Iv} {vs : List Value} {J : Nat → List Iv} (h : Ga base W v t I vs J) : ∀ x ∈ I, base ≤ x.1 ∧ x.1 < W.heap.size := fun x hx => by
  rw [h.fl] at hx
  obtain ⟨k, hk, hx⟩ := List.mem_flatMap.1 hx
  exact (h.row (List.mem_range.1 hk)).inn x hx
theorem Ga.keep {base : Nat} {W W' : World} {v : Value} {t : List (List Int)} {I : List Iv} {vs : List Value} {J : Nat → List Iv} (h : Ga base W v t I vs J) (ho : W'.ownsRow base 33 1 v t.length vs) (hs : W.heap.size ≤ W'.heap.size) (hb : ∀ x ∈ I, W'.heap[x.1]? = W.heap[x.1]?) : Ga base W' v t I vs J :=
  ⟨ho, fun k h1 h2 => (h.rows k h1 h2).keep (fun x hx => hb x (by rw [h.fl]; exact flat_mem h2 x hx)) (Nat.le_refl _) hs, h.fl, h.dj, h.off⟩
theorem Ga.next {base : Nat} {W W' : World} {v : Value} {t : List (List Int)} {I : List Iv} {vs : List Value} {J : Nat → List Iv} (h : Ga base W v t I vs J) (hb : Below W.heap.size W W') : Ga base W' v t I vs J :=
  h.keep (owns_below h.own hb) hb.size (fun x hx => hb.block _ (h.inn x hx).2)
theorem flat_congr {J K : Nat → List Iv} {m : Nat} (h : ∀ j, j < m → J j = K j) : flat J m = flat K m := by
  induction m with
  | zero => rfl
  | succ m ih => rw [flat_succ, flat_succ, ih (fun j hj => h j (by omega)), h m (by omega)]
/-- One row more. -/
theorem Ga.push {base : Nat} {W W' : World} {v v' row : Value} {t : List (List Int)} {y : List Int} {I K : List Iv} {vs : List Value} {J : Nat → List Iv} (h : Ga base W v t I vs J) (hr : Rr base W.heap.size W row y K) (hap : ∀ x ∈ I, ∀ z ∈ K, Apart x z) (hof : ∀ x ∈ K, v.ownBlock ≠ some x.1)
    (hn : W'.ownsRow base 33 1 v' (t.length + 1) (vs ++ [row])) (hg : W.grownBy W' v.ownBlock) (hat : v'.ownBlock = v.ownBlock ∨ v'.ownBlock = some W.heap.size) :
    Ga base W' v' (t ++ [y]) (I ++ K) (vs ++ [row]) (fun j => if j = t.length then K else J j) := by
  have hl := h.len
  have hbI : ∀ x ∈ I, W'.heap[x.1]? = W.heap[x.1]? := fun x hx => hg.block _ (h.inn x hx).2 (fun e => h.off x hx e.symm)
  have hbK : ∀ x ∈ K, W'.heap[x.1]? = W.heap[x.1]? := fun x hx => hg.block _ (hr.inn x hx).2 (fun e => hof x hx e.symm)
  refine ⟨by simpa using hn, fun k h1 h2 => ?_, ?_, ?_, ?_⟩
  · by_cases e : k < t.length
    · rw [List.getElem_append_left (by omega), List.getElem_append_left e, if_neg (by omega)]
      exact (h.rows k (by omega) e).keep (fun x hx => hbI x (by rw [h.fl]; exact flat_mem e x hx)) (Nat.le_refl _) hg.size
    · have e2 : k = t.length := by simp at h2; omega
      subst e2
      rw [List.getElem_append_right (by omega), List.getElem_append_right (by omega), if_pos rfl]
      simp only [hl, Nat.sub_self, List.getElem_singleton]
      exact hr.keep hbK (Nat.le_refl _) hg.size
  · rw [List.length_append, List.length_singleton, flat_succ, if_pos rfl, h.fl]
    congr 1
    exact flat_congr (fun j hj => by rw [if_neg (by omega)])
  · exact List.pairwise_append.2 ⟨h.dj, hr.disj, hap⟩
  · intro x hx
    have hx2 : x.1 < W.heap.size := (List.mem_append.1 hx).elim (fun h1 => (h.inn x h1).2) (fun h1 => (hr.inn x h1).2)
    rcases hat with e | e
    · rw [e]
      exact (List.mem_append.1 hx).elim (h.off x) (hof x)
    · rw [e]
      intro e2
      injection e2 with e2
      omega
theorem Ga.l2 {base : Nat} {W : World} {v : Value} {t : List (List Int)} {I : List Iv} {vs : List Value} {J : Nat → List Iv} (h : Ga base W v t I vs J) : L2 0 W v t :=
  sl_of_owns h.own (Nat.zero_le _) rfl (fun k h1 h2 => ((h.rows k h2 h1).w1.l1).lower (Nat.zero_le _))
theorem Ga.shape {base : Nat} {W : World} {v : Value} {t : List (List Int)} {I : List Iv} {vs : List Value} {J : Nat → List Iv} (h : Ga base W v t I vs J) : ∃ ad cap, v = .slice ad t.length cap := by
  rcases h.own.2 with ⟨hv, h0⟩ | ⟨g, cap, cur, hv, _⟩
  · exact ⟨none, 0, by rw [h0]; exact hv⟩
  · exact ⟨_, cap, hv⟩
theorem flat_size_le {J : Nat → List Iv} {m c : Nat} (h : ∀ j, j < m → ivSize (J j) ≤ c) : ivSize (flat J m) ≤ m * c := by
  induction m with
  | zero => simp [flat, ivSize]
  | succ m ih =>
    rw [flat_succ, ivSize_append, Nat.succ_mul]
    have := ih (fun j hj => h j (by omega))
    have := h m (by omega)
    omega
/-- The table as a result. -/
theorem Ga.rw2 {base : Nat} {W : World} {v : Value} {t : List (List Int)} {I : List Iv} {vs : List Value} {J : Nat → List Iv} (h : Ga base W v t I vs J) (hm : t.length ≤ 1048576) : W2 base W.heap.size W v t ∧ S2 base W.heap.size W v I ∧ Nums base W.heap.size W I ∧ Disj I ∧ ivSize I ≤ 1099511627776 := by
  have hl := h.len
  refine ⟨?_, ?_, ?_, h.dj, ?_⟩
  · rcases h.own.2 with ⟨hv, h0⟩ | ⟨g, cap, cur, hv, hg, hh, hc, _, hs, ht⟩
    · exact Or.inl ⟨List.eq_nil_of_length_eq_zero h0, none, 0, hv⟩
    · by_cases h0 : t.length = 0
      · exact Or.inl ⟨List.eq_nil_of_length_eq_zero h0, _, _, by rw [hv, h0]⟩
      · refine Or.inr ⟨g, 0, cap, hv, hg, (Array.getElem?_eq_some_iff.1 hh).1, by omega, fun k hk => ⟨vs[k]'(by omega), ?_, (h.row hk).w1⟩, fun k hk => by simp [World.frozen?, hh]⟩
        have e := congrArg (fun l => l[k]?) ht
        simp only [List.getElem?_take, Nat.mul_one, hk, if_true] at e
        rw [List.getElem?_eq_getElem (show k < vs.length by omega)] at e
        simpa [World.cell?, hh] using e
  · obtain ⟨ad, cap, hv⟩ := h.shape
    refine ⟨ad, t.length, cap, fun k => vs.getD k undef, J, hv, hm, h.fl, fun j hj => ?_, fun hp => ?_⟩
    · have hj2 : j < vs.length := by omega
      simp only [List.getD_eq_getElem?_getD, List.getElem?_eq_getElem hj2, Option.getD_some]
      exact (h.row hj).s1
    · rcases h.own.2 with ⟨_, h0⟩ | ⟨g, cap, cur, hv2, hg, hh, hc, _, hs, ht⟩
      · omega
      · refine ⟨g, 0, ?_, hg, (Array.getElem?_eq_some_iff.1 hh).1, fun j hj => ?_⟩
        · rw [hv] at hv2
          injection hv2
        · have e := congrArg (fun l => l[j]?) ht
          simp only [List.getElem?_take, Nat.mul_one, hj, if_true] at e
          rw [List.getElem?_eq_getElem (show j < vs.length by omega)] at e
          have hj2 : j < vs.length := by omega
          simp only [List.getD_eq_getElem?_getD, List.getElem?_eq_getElem hj2, Option.getD_some]
          simpa [World.cell?, hh] using e
  · intro x hx
    have hx' := hx
    rw [h.fl] at hx
    obtain ⟨k, hk, hx⟩ := List.mem_flatMap.1 hx
    exact (h.row (List.mem_range.1 hk)).nums x hx
  · rw [h.fl]
    have := flat_size_le (J := J) (m := t.length) (c := 1048576) (fun j hj => (h.row hj).size)
    have h2 : t.length * 1048576 ≤ 1048576 * 1048576 := Nat.mul_le_mul_right _ hm
    omega

/-- Three of a kind by their place. -/
def tq3 {α : Type} [Inhabited α] (a b c : α) : Nat → α
  | 0 => a
  | 1 => b
  | 2 => c
  | _ => default
def tqu {α : Type} (f : Nat → α) (a : Nat) (x : α) : Nat → α := fun k => if k = a then x else f k
/-- A couple in a box, its tables gathered beside each other. -/
structure Tq (base : Nat) (W : World) (g : Nat) (p d e : Int) (v : Nat → Value) (t : Nat → List (List Int)) (I : Nat → List Iv) : Prop where
  cs : W.heap[g]? = some (.cells #[.int .i64 p, .int .i64 d, .int .i64 e, v 0, v 1, v 2] 26 (0, 0))
  lo : base ≤ g
  ga : ∀ a, a < 3 → ∃ vs J, Ga base W (v a) (t a) (I a) vs J
  ap : ∀ a b, a < 3 → b < 3 → a ≠ b → ∀ x ∈ I a, ∀ y ∈ I b, Apart x y
  ofs : ∀ a b, a < 3 → b < 3 → ∀ x ∈ I b, (v a).ownBlock ≠ some x.1
  ob : ∀ a b, a < 3 → b < 3 → a ≠ b → OffB (v a).ownBlock (v b)
  bg : ∀ a, a < 3 → ∀ x ∈ I a, x.1 ≠ g
theorem Tq.lt {base : Nat} {W : World} {g : Nat} {p d e : Int} {v : Nat → Value} {t : Nat → List (List Int)} {I : Nat → List Iv} (h : Tq base W g p d e v t I) : g < W.heap.size := (Array.getElem?_eq_some_iff.1 h.cs).1
theorem Tq.next {base : Nat} {W W' : World} {g : Nat} {p d e : Int} {v : Nat → Value} {t : Nat → List (List Int)} {I : Nat → List Iv} (h : Tq base W g p d e v t I) (hb : Below W.heap.size W W') : Tq base W' g p d e v t I :=
  ⟨(hb.block g h.lt).trans h.cs, h.lo, fun a ha => by obtain ⟨vs, J, hg⟩ := h.ga a ha; exact ⟨vs, J, hg.next hb⟩, h.ap, h.ofs, h.ob, h.bg⟩
theorem Tq.inn {base : Nat} {W : World} {g : Nat} {p d e : Int} {v : Nat → Value} {t : Nat → List (List Int)} {I : Nat → List Iv} (h : Tq base W g p d e v t I) {a : Nat} (ha : a < 3) : ∀ x ∈ I a, base ≤ x.1 ∧ x.1 < W.heap.size := by
  obtain ⟨vs, J, hg⟩ := h.ga a ha
  exact hg.inn
theorem Tq.own {base : Nat} {W : World} {g : Nat} {p d e : Int} {v : Nat → Value} {t : Nat → List (List Int)} {I : Nat → List Iv} (h : Tq base W g p d e v t I) {a : Nat} (ha : a < 3) : ∃ vs, W.ownsRow base 33 1 (v a) (t a).length vs := by
  obtain ⟨vs, J, hg⟩ := h.ga a ha
  exact ⟨vs, hg.own⟩
theorem Tq.cell {base : Nat} {W : World} {g : Nat} {p d e : Int} {v : Nat → Value} {t : Nat → List (List Int)} {I : Nat → List Iv} (h : Tq base W g p d e v t I) {i : Nat} {x : Value} (hv : #[.int .i64 p, .int .i64 d, .int .i64 e, v 0, v 1, v 2][i]? = some x) : W.cell? ⟨g, i, none⟩ = some x := by
  have h' := h.cs
  simp [World.cell?, h', hv]
theorem Tq.frozen {base : Nat} {W : World} {g : Nat} {p d e : Int} {v : Nat → Value} {t : Nat → List (List Int)} {I : Nat → List Iv} (h : Tq base W g p d e v t I) (i : Nat) : W.frozen? ⟨g, i, none⟩ = false := by
  have h' := h.cs
  simp [World.frozen?, h']
/-- A row behind one of the tables: the box holds the new table. -/
theorem Tq.push {base : Nat} {W W' : World} {g : Nat} {p d e : Int} {v : Nat → Value} {t : Nat → List (List Int)} {I : Nat → List Iv} {a : Nat} (ha : a < 3) {v' : Value} {y : List Int} {K : List Iv} {us : List Value} {L : Nat → List Iv} (h : Tq base W g p d e v t I)
    (hK : ∀ x ∈ K, x.1 < W.heap.size ∧ x.1 ≠ g) (hka : ∀ b, b < 3 → ∀ x ∈ I b, ∀ z ∈ K, Apart x z) (hko : ∀ b, b < 3 → ∀ x ∈ K, (v b).ownBlock ≠ some x.1)
    (hn : Ga base W' v' (t a ++ [y]) (I a ++ K) us L) (hg : W.grownBy W' (v a).ownBlock) (hat : v'.ownBlock = (v a).ownBlock ∨ v'.ownBlock = some W.heap.size) :
    Tq base (W'.setCell ⟨g, 3 + a, none⟩ v') g p d e (tqu v a v') (tqu t a (t a ++ [y])) (tqu I a (I a ++ K)) := by
  obtain ⟨va, hva⟩ := h.own ha
  have hne : (v a).ownBlock ≠ some g := own_ne hva h.cs (by decide)
  have hb : W'.heap[g]? = some (.cells #[.int .i64 p, .int .i64 d, .int .i64 e, v 0, v 1, v 2] 26 (0, 0)) := (hg.block g h.lt (fun e => hne e.symm)).trans h.cs
  have hs := set_block (i := 3 + a) hb v'
  have hsz : (W'.setCell ⟨g, 3 + a, none⟩ v').heap.size = W'.heap.size := by simp
  have hoth : ∀ k, k ≠ g → (W'.setCell ⟨g, 3 + a, none⟩ v').heap[k]? = W'.heap[k]? := fun k hk => Below.heap_setCell W' ⟨g, 3 + a, none⟩ v' k hk
  have hall : ∀ b, b < 3 → ∀ x ∈ tqu I a (I a ++ K) b, x.1 < W.heap.size ∧ x.1 ≠ g := fun b hb3 x hx => by
    unfold tqu at hx
    by_cases e : b = a
    · rw [if_pos e] at hx
      exact (List.mem_append.1 hx).elim (fun h1 => ⟨(h.inn ha x h1).2, h.bg a ha x h1⟩) (hK x)
    · rw [if_neg e] at hx
      exact ⟨(h.inn hb3 x hx).2, h.bg b hb3 x hx⟩
  refine ⟨?_, h.lo, fun b hb3 => ?_, fun b c hb3 hc3 hbc x hx z hz => ?_, fun b c hb3 hc3 x hx => ?_, fun b c hb3 hc3 hbc => ?_, fun b hb3 x hx => (hall b hb3 x hx).2⟩
  · rw [hs]
    match a, ha with
    | 0, _ => rfl
    | 1, _ => rfl
    | 2, _ => rfl
  · by_cases e : b = a
    · subst e
      simp only [tqu, if_true]
      refine ⟨us, L, hn.keep (ownsRow_setCell_other hn.own (fun e2 => own_ne hn.own hb (by decide) e2) _) (by rw [hsz]; exact Nat.le_refl _) (fun x hx => hoth _ ?_)⟩
      have := (hall b hb3 x (by simpa [tqu] using hx)).2
      exact this
    · simp only [tqu, if_neg e]
      obtain ⟨vs, J, hgb⟩ := h.ga b hb3
      have ho1 : W'.ownsRow base 33 1 (v b) (t b).length vs := owns_grown_off hgb.own (h.ob a b ha hb3 (fun h => e h.symm)) hg
      refine ⟨vs, J, hgb.keep (ownsRow_setCell_other ho1 (fun e2 => own_ne ho1 hb (by decide) e2) _) (by rw [hsz]; exact hg.size) (fun x hx => ?_)⟩
      rw [hoth _ (h.bg b hb3 x hx)]
      exact hg.block _ (h.inn hb3 x hx).2 (fun e2 => h.ofs a b ha hb3 x hx e2.symm)
  · unfold tqu at hx hz
    by_cases e : b = a
    · rw [if_pos e] at hx
      rw [if_neg (by omega)] at hz
      rcases List.mem_append.1 hx with h1 | h1
      · exact h.ap a c ha hc3 (by omega) x h1 z hz
      · have := hka c hc3 z hz x h1
        unfold Apart at this ⊢
        omega
    · rw [if_neg e] at hx
      by_cases e2 : c = a
      · rw [if_pos e2] at hz
        rcases List.mem_append.1 hz with h1 | h1
        · exact h.ap b a hb3 ha e x hx z h1
        · exact hka b hb3 x hx z h1
      · rw [if_neg e2] at hz
        exact h.ap b c hb3 hc3 hbc x hx z hz
  · have hx2 := hall c hc3 x hx
    have hcase : ∀ q, q < 3 → (v q).ownBlock ≠ some x.1 := fun q hq => by
      unfold tqu at hx
      by_cases e : c = a
      · rw [if_pos e] at hx
        exact (List.mem_append.1 hx).elim (h.ofs q a hq ha x) (hko q hq x)
      · rw [if_neg e] at hx
        exact h.ofs q c hq hc3 x hx
    unfold tqu
    by_cases e : b = a
    · rw [if_pos e]
      rcases hat with e2 | e2
      · rw [e2]; exact hcase a ha
      · rw [e2]
        intro e3
        injection e3 with e3
        omega
    · rw [if_neg e]
      exact hcase b hb3
  · unfold tqu
    by_cases e : b = a
    · rw [if_pos e, if_neg (by omega)]
      obtain ⟨vc, hvc⟩ := h.own hc3
      exact offB_of (h.ob a c ha hc3 (by omega)) hvc hat
    · rw [if_neg e]
      by_cases e2 : c = a
      · rw [if_pos e2]
        obtain ⟨vb, hvb⟩ := h.own hb3
        exact (offB_of (h.ob a b ha hb3 (fun h => e h.symm)) hvb hat).symm'
      · rw [if_neg e2]
        exact h.ob b c hb3 hc3 hbc
theorem tqu0 {α : Type} [Inhabited α] (a b c x : α) : tqu (tq3 a b c) 0 x = tq3 x b c := funext fun k => by
  match k with
  | 0 => rfl
  | 1 => rfl
  | 2 => rfl
  | _ + 3 => rfl
theorem tqu1 {α : Type} [Inhabited α] (a b c x : α) : tqu (tq3 a b c) 1 x = tq3 a x c := funext fun k => by
  match k with
  | 0 => rfl
  | 1 => rfl
  | 2 => rfl
  | _ + 3 => rfl
theorem tqu2 {α : Type} [Inhabited α] (a b c x : α) : tqu (tq3 a b c) 2 x = tq3 a b x := funext fun k => by
  match k with
  | 0 => rfl
  | 1 => rfl
  | 2 => rfl
  | _ + 3 => rfl
/-- The couple as a result. -/
theorem Tq.rc {base : Nat} {W : World} {g : Nat} {p d e : Int} {v : Nat → Value} {t : Nat → List (List Int)} {I : Nat → List Iv} (h : Tq base W g p d e v t I) (hm : ∀ a, a < 3 → (t a).length ≤ 1048576) : RcCp base W.heap.size W (v 0) (v 1) (v 2) (t 0) (t 1) (t 2) := by
  obtain ⟨v0, J0, g0⟩ := h.ga 0 (by omega)
  obtain ⟨v1, J1, g1⟩ := h.ga 1 (by omega)
  obtain ⟨v2, J2, g2⟩ := h.ga 2 (by omega)
  obtain ⟨a1, a2, a3, a4, a5⟩ := g0.rw2 (hm 0 (by omega))
  obtain ⟨b1, b2, b3, b4, b5⟩ := g1.rw2 (hm 1 (by omega))
  obtain ⟨c1, c2, c3, c4, c5⟩ := g2.rw2 (hm 2 (by omega))
  exact ⟨⟨a1, b1, c1⟩, I 0, I 1, I 2, ⟨a2, a3, a4, a5, b2, b3, b4, b5, c2, c3, c4, c5, h.ap 0 1 (by omega) (by omega) (by omega), h.ap 0 2 (by omega) (by omega) (by omega), h.ap 1 2 (by omega) (by omega) (by omega)⟩⟩
/-- No tables yet. -/
theorem Tq.start {base : Nat} {W : World} {g : Nat} {p d e : Int} (hc : W.heap[g]? = some (.cells #[.int .i64 p, .int .i64 d, .int .i64 e, .slice none 0 0, .slice none 0 0, .slice none 0 0] 26 (0, 0))) (hl : base ≤ g) : Tq base W g p d e (tq3 (.slice none 0 0) (.slice none 0 0) (.slice none 0 0)) (tq3 [] [] []) (tq3 [] [] []) := by
  have e1 : ∀ a, a < 3 → tq3 (α := Value) (.slice none 0 0) (.slice none 0 0) (.slice none 0 0) a = .slice none 0 0 := fun a ha => by
    match a, ha with
    | 0, _ => rfl
    | 1, _ => rfl
    | 2, _ => rfl
  have e2 : ∀ (α : Type) a, a < 3 → tq3 (α := List α) [] [] [] a = [] := fun α a ha => by
    match a, ha with
    | 0, _ => rfl
    | 1, _ => rfl
    | 2, _ => rfl
  refine ⟨hc, hl, fun a ha => ?_, fun a b ha _ _ x hx => ?_, fun a b _ hb x hx => ?_, fun a b ha hb _ => ?_, fun a ha x hx => ?_⟩
  · rw [e1 a ha, e2 _ a ha, e2 _ a ha]
    exact ⟨[], fun _ => [], ⟨⟨rfl, Or.inl ⟨rfl, rfl⟩⟩, fun k h1 => absurd h1 (Nat.not_lt_zero _), rfl, List.Pairwise.nil, fun x hx => absurd hx (by simp)⟩⟩
  · rw [e2 _ a ha] at hx
    exact absurd hx (by simp)
  · rw [e2 _ b hb] at hx
    exact absurd hx (by simp)
  · rw [e1 a ha, e1 b hb]
    intro k hk
    exact absurd hk (by simp [Value.ownBlock])
  · rw [e2 _ a ha] at hx
    exact absurd hx (by simp)
section
variable {md : Region.Mode} {ops : Array Oper} {Q : Exit → Act → World → Prop} {S : World → Prop}
/-- append of one row of a callee to a table in the box, in a drawn region; the box once the new table is stored. -/
theorem held_appendTq {i : Nat} {oi : Oper} {fuel : Nat} {listed : Array Bool} {act : Act} {w0 w : World} (dt : Option Tmp) (hr : Region.ready md ops listed = [i]) (hi : ops[i]? = some oi) (hg : oi.guard = none) (hd : oi.dst = dt)
    (s x : Operand) (ho : oi.op = .call { callee := .builtin .append, args := #[s, x], argTypes := #[22, 22] }) (base g : Nat) (p d e : Int) (v : Nat → Value) (t : Nat → List (List Int)) (I : Nat → List Iv) (a : Nat) (ha : a < 3) (u : Value) (hu : v a = u) (hs : act.eval s = u)
    (hst : Tq base w0 g p d e v t I) (hb0 : Below w0.heap.size w0 w) (hlo : base ≤ w0.heap.size)
    (b : Nat) (ad : Option Addr) (m c : Nat) (hx : act.eval x = .slice (some ⟨b, 0, none⟩) 1 1) (hc : w.cell? ⟨b, 0, none⟩ = some (.slice ad m c)) (y : List Int) (hy : Rw1 w0.heap.size w.heap.size w (.slice ad m c) y) (hn : (t a).length ≤ 1048575)
    (h : ∀ a1 n1 c1 w' I', Tq base (w'.setCell ⟨g, 3 + a, none⟩ (.slice a1 n1 c1)) g p d e (tqu v a (.slice a1 n1 c1)) (tqu t a (t a ++ [y])) I' → w.grownBy w' u.ownBlock → w'.heap[g]? = some (.cells #[.int .i64 p, .int .i64 d, .int .i64 e, v 0, v 1, v 2] 26 (0, 0)) → (∀ k, u.ownBlock = some k → base ≤ k) → ((Value.slice a1 n1 c1).ownBlock = u.ownBlock ∨ (Value.slice a1 n1 c1).ownBlock = some w.heap.size) →
      S w' ∧ wpAnyH Tryd.prog md ops Q S fuel (listed.setIfInBounds i true) (act.put dt (.slice a1 n1 c1)) w') : wpAnyH Tryd.prog md ops Q S (fuel + 1) listed act w := by
  subst hu
  have hst1 := hst.next hb0
  obtain ⟨vs, J, hga⟩ := hst1.ga a ha
  obtain ⟨K, hK⟩ := Rr.of hy
  obtain ⟨ie, hie, hz, hs1, hb1⟩ := info_parts Tryd.infoS
  subst hd
  refine held_call hr hi hg ?_
  have hbw : base ≤ w.heap.size := Nat.le_trans hlo hb0.size
  obtain ⟨v', w', hrun, h2, h3, _, h5⟩ := run_append_own_at (P := Tryd.prog) w base 22 oi.type 33 ie _ 1 24 Tryd.underlying22 hie hz hs1 hb1 rfl (by decide) (v a) (t a).length vs hga.own ⟨b, 0, none⟩ 1 1 [.slice ad m c] rfl
    (fun j u hj => by
      match j, hj with
      | 0, hj => simp at hj; subst hj; exact hc)
    (fun u hu => by simp at hu; subst hu; rfl) (by unfold maxLen; omega) (by omega) hbw
  have hlt : ∀ q, q < 3 → ∀ k, (v q).ownBlock = some k → k < w0.heap.size := fun q hq k hk => by
    obtain ⟨vq, hvq⟩ := hst.own hq
    exact owns_lt hvq hk
  have hka : ∀ q, q < 3 → ∀ x ∈ I q, ∀ z ∈ K, Apart x z := fun q hq x hx z hz => Or.inl (by
    have := (hst.inn hq x hx).2
    have := (hK.inn z hz).1
    omega)
  have hko : ∀ q, q < 3 → ∀ x ∈ K, (v q).ownBlock ≠ some x.1 := fun q hq x hx e => by
    have := hlt q hq _ e
    have := (hK.inn x hx).1
    omega
  have hKg : ∀ x ∈ K, x.1 < w.heap.size ∧ x.1 ≠ g := fun x hx => by
    have := hK.inn x hx
    have := hst.lt
    exact ⟨by omega, by omega⟩
  have hgn := hga.push (hK.keep (fun _ _ => rfl) hlo (Nat.le_refl _)) (hka a ha) (hko a ha) h2 h3 h5
  have hT := hst1.push ha hKg hka hko hgn h3 h5
  obtain ⟨va, hva⟩ := hst1.own ha
  have hne : (v a).ownBlock ≠ some g := own_ne hva hst1.cs (by decide)
  have hcs := (h3.block g hst1.lt (fun e => hne e.symm)).trans hst1.cs
  obtain ⟨a1, c1, hv⟩ := hgn.shape
  subst hv
  unfold Oper.wp execOp
  simp only [ho, resolve, invoke, builtin, Sem.run_bind, Sem.run_pure, Result.andThen_ok, List.map_toArray, List.map_cons, List.map_nil, hs, hx, hrun]
  exact h a1 _ c1 w' _ hT h3 hcs (fun k hk => ((World.ownsRow.lt hva) k hk).1) h5
end
end Go.Proofs.YtckkbojankfdfaaDoor

