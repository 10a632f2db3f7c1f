/-
  Couples in the program: the maps, IsCouple, CoupleDifferential by their contracts.
-/
import Derived.Test.YtpdkfidmmjlmnabCps
import Derived.Test.YtpdkfidmmjlmnabFi2
import Derived.Laws.EntriesVeiled
namespace Go.Proofs.Ytpdkfidmmjlmnab
open Go.RowKit

def fn0 (f : FuncId) : Value := .func (.func f) #[] #[]
theorem Try.underlyingM : Try.prog.underlying 135 = some (.array 3 134) := by kernel_rfl
theorem Try.infoM : (Try.prog.info? 135).map (·.size) = some 3 := by kernel_rfl
set_option maxRecDepth 100000 in
theorem mapsOfCouples_any (w : World) : Calls Try.prog 134 #[] w (BR (.agg #[.func (.func 188) #[] #[], .func (.func 189) #[] #[], .func (.func 190) #[] #[]]) w) := by
  have hres : Try.f134.results = #[.cell 0 135] := by kernel_rfl
  have HRES := Lib.hid hres
  have HH : Hid ((w.alloc (.cells #[.nilFunc, .nilFunc, .nilFunc] 135)).heap[w.heap.size]? = some (.cells #[.nilFunc, .nilFunc, .nilFunc] 135 (0, 0))) := Lib.hid (by simpa using heap_alloc_new w (.cells #[.nilFunc, .nilFunc, .nilFunc] 135))
  have HB : Hid (Below w.heap.size w (w.alloc (.cells #[.nilFunc, .nilFunc, .nilFunc] 135))) := Lib.hid (below_alloc1 _ _)
  clear hres
  go_enter Try.func134, Try.ntmps134
  go_wp2
  refine bodyPost_ret (v := .agg #[.func (.func 188) #[] #[], .func (.func 189) #[] #[], .func (.func 190) #[] #[]]) ?_ rfl ?_
  · simp only [results, HRES.out]
    go_simp
  · exact ⟨rfl, below_alloc1 _ _⟩


set_option maxHeartbeats 400000 in
theorem mapI_any (p d e : Int) (iv jv kv : Value) (il jl kl : List (List Int)) (w : World) (h : Cp 0 w iv jv kv il jl kl) : Calls Try.prog 188 #[.agg #[.int .i64 p, .int .i64 d, .int .i64 e, iv, jv, kv]] w (BR (.agg #[.int .i64 p, .int .i64 d, .int .i64 d, iv]) w) := by
  have hres : Try.f188.results = #[.cell 2 138] := by kernel_rfl
  have HRES := Lib.hid hres
  obtain ⟨⟨ai, ci, rfl⟩, ⟨aj, cj, rfl⟩, ⟨ak, ck, rfl⟩⟩ := h.shapes
  clear hres h
  go_enter Try.func188, Try.ntmps188
  go_wp2
  refine bodyPost_ret (v := .agg #[.int .i64 p, .int .i64 d, .int .i64 d, .slice ai il.length ci]) ?_ rfl ?_
  · simp only [results, HRES.out]
    go_simp
  · exact ⟨rfl, (((Below.refl _ _).alloc (Nat.le_refl _) _).alloc (by simp) _)⟩


set_option maxHeartbeats 400000 in
theorem mapJ_any (p d e : Int) (iv jv kv : Value) (il jl kl : List (List Int)) (w : World) (h : Cp 0 w iv jv kv il jl kl) : Calls Try.prog 189 #[.agg #[.int .i64 p, .int .i64 d, .int .i64 e, iv, jv, kv]] w (BR (.agg #[.int .i64 p, .int .i64 d, .int .i64 e, jv]) w) := by
  have hres : Try.f189.results = #[.cell 2 138] := by kernel_rfl
  have HRES := Lib.hid hres
  obtain ⟨⟨ai, ci, rfl⟩, ⟨aj, cj, rfl⟩, ⟨ak, ck, rfl⟩⟩ := h.shapes
  clear hres h
  go_enter Try.func189, Try.ntmps189
  go_wp2
  refine bodyPost_ret (v := .agg #[.int .i64 p, .int .i64 d, .int .i64 e, .slice aj jl.length cj]) ?_ rfl ?_
  · simp only [results, HRES.out]
    go_simp
  · exact ⟨rfl, (((Below.refl _ _).alloc (Nat.le_refl _) _).alloc (by simp) _)⟩


set_option maxHeartbeats 400000 in
theorem mapK_any (p d e : Int) (iv jv kv : Value) (il jl kl : List (List Int)) (w : World) (h : Cp 0 w iv jv kv il jl kl) : Calls Try.prog 190 #[.agg #[.int .i64 p, .int .i64 d, .int .i64 e, iv, jv, kv]] w (BR (.agg #[.int .i64 p, .int .i64 e, .int .i64 d, kv]) w) := by
  have hres : Try.f190.results = #[.cell 2 138] := by kernel_rfl
  have HRES := Lib.hid hres
  obtain ⟨⟨ai, ci, rfl⟩, ⟨aj, cj, rfl⟩, ⟨ak, ck, rfl⟩⟩ := h.shapes
  clear hres h
  go_enter Try.func190, Try.ntmps190
  go_wp2
  refine bodyPost_ret (v := .agg #[.int .i64 p, .int .i64 e, .int .i64 d, .slice ak kl.length ck]) ?_ rfl ?_
  · simp only [results, HRES.out]
    go_simp
  · exact ⟨rfl, (((Below.refl _ _).alloc (Nat.le_refl _) _).alloc (by simp) _)⟩


theorem idxM0 (W : World) : (Instr.index 135 (.agg #[.func (.func 188) #[] #[], .func (.func 189) #[] #[], .func (.func 190) #[] #[]]) (.int .i64 0)).run Try.prog W = .ok (.func (.func 188) #[] #[]) W := by kernel_rfl
theorem idxM1 (W : World) : (Instr.index 135 (.agg #[.func (.func 188) #[] #[], .func (.func 189) #[] #[], .func (.func 190) #[] #[]]) (.int .i64 1)).run Try.prog W = .ok (.func (.func 189) #[] #[]) W := by kernel_rfl
theorem idxM2 (W : World) : (Instr.index 135 (.agg #[.func (.func 188) #[] #[], .func (.func 189) #[] #[], .func (.func 190) #[] #[]]) (.int .i64 2)).run Try.prog W = .ok (.func (.func 190) #[] #[]) W := by kernel_rfl
set_option maxHeartbeats 6400000 in
set_option maxRecDepth 100000 in
theorem isCouple_any (p d e : Int) (iv jv kv : Value) (il jl kl : List (List Int)) (w : World) (h : Cp 0 w iv jv kv il jl kl) (hm : CpB 1048576 il jl kl) :
    Calls Try.prog 68 #[.agg #[.int .i64 p, .int .i64 d, .int .i64 e, iv, jv, kv]] w (VrB (fun b => b = true ↔ IsCp p d e il jl kl) w) := by
  have HM := Lib.hid hm
  obtain ⟨w1, hw1⟩ : ∃ w1, w1 = w.alloc (.cells #[.int .i64 p, .int .i64 d, .int .i64 e, iv, jv, kv] 71) := ⟨_, rfl⟩
  have hs1 : w1.heap.size = w.heap.size + 1 := by rw [hw1]; simp
  have HX : Hid (BxCp w w1 w.heap.size p d e iv jv kv il jl kl) := Lib.hid (by rw [hw1]; exact BxCp.start 71 h)
  clear h hm
  obtain ⟨⟨ai, ci, rfl⟩, ⟨aj, cj, rfl⟩, ⟨ak, ck, rfl⟩⟩ := HX.out.cx.shapes
  have hq0 := idxM0
  have hq1 := idxM1
  have hq2 := idxM2
  have c0 := HX.out.c0
  have c1 := HX.out.c1
  have c2 := HX.out.c2
  have c3 := HX.out.c3
  have c4 := HX.out.c4
  have c5 := HX.out.c5
  go_enter Try.func68, Try.ntmps68
  go_upto_region 1 with fail
  rw [← hw1]
  clear hw1
  by_cases hp : IsP p
  · have HP := Lib.hid hp
    clear hp
    go_wp2_with fail
    refine (prime_yes HP.out _).mono ?_
    rintro ee w' ⟨rfl, rfl⟩
    by_cases hd : 0 ≤ d ∧ d ≤ 24
    · have HD := Lib.hid hd
      clear hd
      go_wp2_with fail
      refine (in_yes HD.out _).mono ?_
      rintro ee w' ⟨rfl, rfl⟩
      by_cases he : 0 ≤ e ∧ e ≤ 24
      · have HE := Lib.hid he
        clear he
        go_wp2_with fail
        refine (in_yes HE.out _).mono ?_
        rintro ee w' ⟨rfl, rfl⟩
        go_wp2_with fail
        refine (mapsOfCouples_any _).mono ?_
        rintro ee w2 ⟨rfl, hb⟩
        have HX2 := Lib.hid (HX.out.next hb)
        clear hb c0 c1 c2 c3 c4 c5
        have c0 := HX2.out.c0
        have c1 := HX2.out.c1
        have c2 := HX2.out.c2
        have c3 := HX2.out.c3
        have c4 := HX2.out.c4
        have c5 := HX2.out.c5
        go_wp2
        refine wp_loop_rounds 4 ?_
        rw [rounds_succ]
        go_wp2_with fail
        refine (mapI_any p d e _ _ _ il jl kl _ HX2.out.cx).mono ?_
        rintro ee w3 ⟨rfl, hb⟩
        have HY := Lib.hid (HX2.out.next hb)
        have HZ := Lib.hid (HY.out.next (below_alloc1 w3 (.cells #[.int .i64 p, .int .i64 d, .int .i64 d, .slice ai il.length ci] 138)))
        clear hb c0 c1 c2 c3 c4 c5
        go_wp2_with fail
        refine (isTable_any p d d (.slice ai il.length ci) il _ HP.out HZ.out.cx.fi HM.out.bi).mono ?_
        rintro ee w' ⟨b0, rfl, rfl, hbb⟩
        by_cases ht : TabOk p d d il
        · obtain rfl : b0 = true := hbb.2 ht
          have HT0 := Lib.hid ht
          have HX3 := HZ
          clear hbb ht HY HZ HX2
          have c0 := HX3.out.c0
          have c1 := HX3.out.c1
          have c2 := HX3.out.c2
          have c3 := HX3.out.c3
          have c4 := HX3.out.c4
          have c5 := HX3.out.c5
          go_wp2
          rw [rounds_succ]
          go_wp2_with fail
          refine (mapJ_any p d e _ _ _ il jl kl _ HX3.out.cx).mono ?_
          rintro ee w4 ⟨rfl, hb⟩
          have HY := Lib.hid (HX3.out.next hb)
          have HZ := Lib.hid (HY.out.next (below_alloc1 w4 (.cells #[.int .i64 p, .int .i64 d, .int .i64 e, .slice aj jl.length cj] 138)))
          clear hb c0 c1 c2 c3 c4 c5
          go_wp2_with fail
          refine (isTable_any p d e (.slice aj jl.length cj) jl _ HP.out HZ.out.cx.fj HM.out.bj).mono ?_
          rintro ee w' ⟨b1, rfl, rfl, hbb⟩
          by_cases ht : TabOk p d e jl
          · obtain rfl : b1 = true := hbb.2 ht
            have HT1 := Lib.hid ht
            have HX4 := HZ
            clear hbb ht HY HZ HX3
            have c0 := HX4.out.c0
            have c1 := HX4.out.c1
            have c2 := HX4.out.c2
            have c3 := HX4.out.c3
            have c4 := HX4.out.c4
            have c5 := HX4.out.c5
            go_wp2
            rw [rounds_succ]
            go_wp2_with fail
            refine (mapK_any p d e _ _ _ il jl kl _ HX4.out.cx).mono ?_
            rintro ee w5 ⟨rfl, hb⟩
            have HY := Lib.hid (HX4.out.next hb)
            have HZ := Lib.hid (HY.out.next (below_alloc1 w5 (.cells #[.int .i64 p, .int .i64 e, .int .i64 d, .slice ak kl.length ck] 138)))
            clear hb c0 c1 c2 c3 c4 c5
            go_wp2_with fail
            refine (isTable_any p e d (.slice ak kl.length ck) kl _ HP.out HZ.out.cx.fk HM.out.bk).mono ?_
            rintro ee w' ⟨b2, rfl, rfl, hbb⟩
            by_cases ht : TabOk p e d kl
            · obtain rfl : b2 = true := hbb.2 ht
              have HT2 := Lib.hid ht
              have HX5 := HZ
              clear hbb ht HY HZ HX4
              have c0 := HX5.out.c0
              have c1 := HX5.out.c1
              have c2 := HX5.out.c2
              have c3 := HX5.out.c3
              have c4 := HX5.out.c4
              have c5 := HX5.out.c5
              go_wp2
              rw [rounds_succ]
              go_wp2
              go_ret
              exact ⟨true, rfl, HX5.out.below, yes_iff ⟨HP.out, HD.out, HE.out, HT0.out, HT1.out, HT2.out⟩⟩
            · obtain rfl : b2 = false := bb_no hbb ht
              have HT := Lib.hid ht
              clear hbb ht
              go_wp2
              go_ret
              exact ⟨false, rfl, HZ.out.below, no_iff fun h => HT.out h.2.2.2.2.2⟩
          · obtain rfl : b1 = false := bb_no hbb ht
            have HT := Lib.hid ht
            clear hbb ht
            go_wp2
            go_ret
            exact ⟨false, rfl, HZ.out.below, no_iff fun h => HT.out h.2.2.2.2.1⟩
        · obtain rfl : b0 = false := bb_no hbb ht
          have HT := Lib.hid ht
          clear hbb ht
          go_wp2
          go_ret
          exact ⟨false, rfl, HZ.out.below, no_iff fun h => HT.out h.2.2.2.1⟩
      · have HE := Lib.hid he
        clear he
        go_wp2_with fail
        refine (in_no HE.out _).mono ?_
        rintro ee w' ⟨rfl, rfl⟩
        go_wp2
        go_ret
        exact ⟨false, rfl, HX.out.below, no_iff fun h => HE.out h.2.2.1⟩
    · have HD := Lib.hid hd
      clear hd
      go_wp2_with fail
      refine (in_no HD.out _).mono ?_
      rintro ee w' ⟨rfl, rfl⟩
      go_wp2
      go_ret
      exact ⟨false, rfl, HX.out.below, no_iff fun h => HD.out h.2.1⟩
  · have HP := Lib.hid hp
    clear hp
    go_wp2_with fail
    refine (prime_no HP.out _).mono ?_
    rintro ee w' ⟨rfl, rfl⟩
    go_wp2
    go_ret
    exact ⟨false, rfl, HX.out.below, no_iff fun h => HP.out h.1⟩

end Go.Proofs.Ytpdkfidmmjlmnab
