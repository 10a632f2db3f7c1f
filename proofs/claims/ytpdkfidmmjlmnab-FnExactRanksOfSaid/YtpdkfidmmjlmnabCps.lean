/-
  Couples in the model: spec.l05Is, IsCouple, l05Differential, CoupleDifferential by their contracts.
-/
import Derived.Test.YtpdkfidmmjlmnabCp
import Derived.Test.YtpdkfidmmjlmnabVal
import Derived.Test.YtpdkfidmmjlmnabMeet
import Derived.Test.YtpdkfidmmjlmnabBim
import Derived.Test.YtpdkfidmmjlmnabApw
import Derived.Test.YtpdkfidmmjlmnabEnd
import Derived.Test.YtpdkfidmmjlmnabGt
namespace Go.Proofs.Ytpdkfidmmjlmnab
open Go.RowKit

/-- A couple. -/
def IsCp (p d e : Int) (il jl kl : List (List Int)) : Prop := IsP p ∧ (0 ≤ d ∧ d ≤ 24) ∧ (0 ≤ e ∧ e ≤ 24) ∧ TabOk p d d il ∧ TabOk p d e jl ∧ TabOk p e d kl
open Classical in
noncomputable def cpCode (p d e : Int) (il jl kl : List (List Int)) : Int := if IsCp p d e il jl kl then 0 else 1
theorem cpCode_yes {p d e : Int} {il jl kl : List (List Int)} (h : IsCp p d e il jl kl) : cpCode p d e il jl kl = 0 := if_pos h
theorem cpCode_no {p d e : Int} {il jl kl : List (List Int)} (h : ¬ IsCp p d e il jl kl) : cpCode p d e il jl kl = 1 := if_neg h
theorem cpCode_zero {p d e : Int} {il jl kl : List (List Int)} (h : cpCode p d e il jl kl = 0) : IsCp p d e il jl kl := by
  by_cases hc : IsCp p d e il jl kl
  · exact hc
  · rw [cpCode_no hc] at h
    cases h
theorem no_iff {P : Prop} (h : ¬ P) : (false = true ↔ P) := ⟨fun k => (by cases k), fun k => absurd k h⟩
theorem yes_iff {P : Prop} (h : P) : (true = true ↔ P) := ⟨fun _ => h, fun _ => rfl⟩
theorem bb_uniq {P : Prop} {a b : Bool} (h : a = true ↔ P) (k : b = true ↔ P) : a = b := by
  by_cases hp : P
  · rw [h.2 hp, k.2 hp]
  · cases a with
    | true => exact absurd (h.1 rfl) hp
    | false => cases b with
      | true => exact absurd (k.1 rfl) hp
      | false => rfl
theorem bb_vr {P : Prop} {f : FuncId} {args : Array Value} {w : World} (h : Calls Try.prog f args w (BB P w)) : Calls Try.prog f args w (VrB (fun b => b = true ↔ P) w) := h
/-- The table of the differential. -/
def cdT (p e : Int) (jl kl : List (List Int)) : List (List Int) := kl.map fun v => apT p e.toNat v jl
theorem IsCp.ap {p d e : Int} {il jl kl : List (List Int)} (h : IsCp p d e il jl kl) {v : List Int} (hv : v ∈ kl) : ApOk p e.toNat v jl := by
  obtain ⟨hp, hd, he, hi, hj, hk⟩ := h
  have h1 := (hk.2 v hv)
  have h2 := hj.1
  refine ⟨hp, by have := h1.1; omega, h1.2, fun r hr => ?_⟩
  have := hj.2 r hr
  rw [Int.toNat_of_nonneg he.1]
  exact this
theorem cdT_bd {p d e : Int} {il jl kl : List (List Int)} (h : IsCp p d e il jl kl) : Bd2 1048576 (cdT p e jl kl) := by
  have hk := h.2.2.2.2.2.1
  have he := h.2.2.1
  refine ⟨by unfold cdT; rw [List.length_map]; omega, fun x hx => ?_⟩
  obtain ⟨v, hv, rfl⟩ := List.mem_map.1 hx
  unfold Bd1
  rw [apT_length' (h.ap hv)]
  omega


set_option maxHeartbeats 3200000 in
set_option maxRecDepth 100000 in
theorem l05Is_any (p d e : Int) (iv jv kv : Value) (il jl kl : List (List Int)) (w : World) (h : Cp 0 w iv jv kv il jl kl) (hm : CpB 1048576 il jl kl) :
    Calls Try.prog 132 #[.agg #[.int .i64 p, .int .i64 d, .int .i64 e, iv, jv, kv]] w (BB (IsCp p d e il jl kl) w) := by
  have HM := Lib.hid hm
  obtain ⟨w1, hw1⟩ : ∃ w1, w1 = w.alloc (.cells #[.int .i64 p, .int .i64 d, .int .i64 e, iv, jv, kv] 71) := ⟨_, rfl⟩
  have hs1 : w1.heap.size = w.heap.size + 1 := by rw [hw1]; simp
  have HX : Hid (BxCp w w1 w.heap.size p d e iv jv kv il jl kl) := Lib.hid (by rw [hw1]; exact BxCp.start 71 h)
  clear h hm
  have c0 := HX.out.c0
  have c1 := HX.out.c1
  have c2 := HX.out.c2
  have c3 := HX.out.c3
  have c4 := HX.out.c4
  have c5 := HX.out.c5
  go_enter Try.func132, Try.ntmps132
  go_upto_region 1 with fail
  rw [← hw1]
  clear hw1
  by_cases hp : IsP p
  · have HP := Lib.hid hp
    clear hp
    go_wp2_with fail
    refine (spprime_yes HP.out _).mono ?_
    rintro ee w' ⟨rfl, rfl⟩
    by_cases hd : 0 ≤ d ∧ d ≤ 24
    · have HD := Lib.hid hd
      clear hd
      go_wp2_with fail
      refine (spin_yes HD.out _).mono ?_
      rintro ee w' ⟨rfl, rfl⟩
      by_cases he : 0 ≤ e ∧ e ≤ 24
      · have HE := Lib.hid he
        clear he
        go_wp2_with fail
        refine (spin_yes HE.out _).mono ?_
        rintro ee w' ⟨rfl, rfl⟩
        go_wp2_with fail
        refine (l01Table_any p d d iv il _ HP.out HX.out.cx.fi HM.out.bi).mono ?_
        rintro ee w' ⟨b1, rfl, rfl, hb1⟩
        by_cases hi : TabOk p d d il
        · obtain rfl : b1 = true := hb1.2 hi
          have HI := Lib.hid hi
          clear hb1 hi
          go_wp2_with fail
          refine (l01Table_any p d e jv jl _ HP.out HX.out.cx.fj HM.out.bj).mono ?_
          rintro ee w' ⟨b2, rfl, rfl, hb2⟩
          by_cases hj : TabOk p d e jl
          · obtain rfl : b2 = true := hb2.2 hj
            have HJ := Lib.hid hj
            clear hb2 hj
            go_wp2_with fail
            refine (l01Table_any p e d kv kl _ HP.out HX.out.cx.fk HM.out.bk).mono ?_
            rintro ee w' ⟨b3, rfl, rfl, hb3⟩
            have HB3 := Lib.hid hb3
            clear hb3
            go_wp2
            go_ret
            exact ⟨b3, rfl, HX.out.below, HB3.out.trans ⟨fun h => ⟨HP.out, HD.out, HE.out, HI.out, HJ.out, h⟩, fun h => h.2.2.2.2.2⟩⟩
          · obtain rfl : b2 = false := bb_no hb2 hj
            have HJ := Lib.hid hj
            clear hb2 hj
            go_wp2
            go_ret
            exact ⟨false, rfl, HX.out.below, no_iff fun h => HJ.out h.2.2.2.2.1⟩
        · obtain rfl : b1 = false := bb_no hb1 hi
          have HI := Lib.hid hi
          clear hb1 hi
          go_wp2
          go_ret
          exact ⟨false, rfl, HX.out.below, no_iff fun h => HI.out h.2.2.2.1⟩
      · have HE := Lib.hid he
        clear he
        go_wp2_with fail
        refine (spin_no HE.out _).mono ?_
        rintro ee w' ⟨rfl, rfl⟩
        go_wp2
        go_ret
        exact ⟨false, rfl, HX.out.below, no_iff fun h => HE.out h.2.2.1⟩
    · have HD := Lib.hid hd
      clear hd
      go_wp2_with fail
      refine (spin_no HD.out _).mono ?_
      rintro ee w' ⟨rfl, rfl⟩
      go_wp2
      go_ret
      exact ⟨false, rfl, HX.out.below, no_iff fun h => HD.out h.2.1⟩
  · have HP := Lib.hid hp
    clear hp
    go_wp2_with fail
    refine (spprime_no HP.out _).mono ?_
    rintro ee w' ⟨rfl, rfl⟩
    go_wp2
    go_ret
    exact ⟨false, rfl, HX.out.below, no_iff fun h => HP.out h.1⟩

set_option maxHeartbeats 800000 in
theorem spIsCouple_any (p d e : Int) (iv jv kv : Value) (il jl kl : List (List Int)) (w : World) (h : Cp 0 w iv jv kv il jl kl) (hm : CpB 1048576 il jl kl) :
    Calls Try.prog 66 #[.agg #[.int .i64 p, .int .i64 d, .int .i64 e, iv, jv, kv]] w (VrB (fun b => b = true ↔ IsCp p d e il jl kl) w) := by
  have HM := Lib.hid hm
  obtain ⟨w1, hw1⟩ : ∃ w1, w1 = w.alloc (.cells #[.int .i64 p, .int .i64 d, .int .i64 e, iv, jv, kv] 71) := ⟨_, rfl⟩
  have hs1 : w1.heap.size = w.heap.size + 1 := by rw [hw1]; simp
  have HX : Hid (BxCp w w1 w.heap.size p d e iv jv kv il jl kl) := Lib.hid (by rw [hw1]; exact BxCp.start 71 h)
  clear h hm
  have c0 := HX.out.c0
  have c1 := HX.out.c1
  have c2 := HX.out.c2
  have c3 := HX.out.c3
  have c4 := HX.out.c4
  have c5 := HX.out.c5
  go_enter Try.func66, Try.ntmps66
  go_upto_region 1 with fail
  rw [← hw1]
  clear hw1
  go_wp2_with fail
  refine (l05Is_any p d e iv jv kv il jl kl _ HX.out.cx HM.out).mono ?_
  rintro ee w2 ⟨b, rfl, hb, hbb⟩
  have HB := Lib.hid (HX.out.below.trans (hb.mono (by omega)))
  have HBB := Lib.hid hbb
  clear hb hbb
  go_wp2
  go_ret
  exact ⟨b, rfl, HB.out, HBB.out⟩


theorem hload6 (w : World) {b : Nat} {p d e : Int} {iv jv kv : Value} (c0 : w.cell? ⟨b, 0, none⟩ = some (.int .i64 p)) (c1 : w.cell? ⟨b, 1, none⟩ = some (.int .i64 d)) (c2 : w.cell? ⟨b, 2, none⟩ = some (.int .i64 e)) (c3 : w.cell? ⟨b, 3, none⟩ = some iv) (c4 : w.cell? ⟨b, 4, none⟩ = some jv) (c5 : w.cell? ⟨b, 5, none⟩ = some kv) :
    (Instr.loadAt 71 (.pointer (some ⟨b, 0, none⟩))).run Try.prog w = .ok (.agg #[.int .i64 p, .int .i64 d, .int .i64 e, iv, jv, kv]) w := by go_simp
theorem hloadSSc (w : World) {b o : Nat} {x : Value} (h : w.cell? ⟨b, o, none⟩ = some x) : (Instr.loadAt 26 (.pointer (some ⟨b, o, none⟩))).run Try.prog w = .ok x w := by go_simp

set_option maxHeartbeats 3200000 in
set_option maxRecDepth 100000 in
theorem l05Differential_any (p d e : Int) (iv jv kv : Value) (il jl kl : List (List Int)) (w : World) (h : Cp 0 w iv jv kv il jl kl) (hm : CpB 1048576 il jl kl) (hc : IsCp p d e il jl kl) :
    Calls Try.prog 136 #[.agg #[.int .i64 p, .int .i64 d, .int .i64 e, iv, jv, kv]] w (GsR (cdT p e jl kl) w) := by
  have HM := Lib.hid hm
  obtain ⟨w1, hw1⟩ : ∃ w1, w1 = w.alloc (.cells #[.int .i64 p, .int .i64 d, .int .i64 e, iv, jv, kv] 71) := ⟨_, rfl⟩
  have hs1 : w1.heap.size = w.heap.size + 1 := by rw [hw1]; simp
  have HX : Hid (BxCp w w1 w.heap.size p d e iv jv kv il jl kl) := Lib.hid (by rw [hw1]; exact BxCp.start 71 h)
  clear h hm
  have HC := Lib.hid hc
  obtain ⟨c, hce⟩ : ∃ c, c = e.toNat := ⟨_, rfl⟩
  have hec : e = (c : Int) := by have := hc.2.2.1; omega
  have hc24 : c ≤ 24 := by have := hc.2.2.1; omega
  have hkl : kl.length ≤ 24 := by have := hc.2.2.1; have := hc.2.2.2.2.2.1; omega
  have HNX : Hid (∀ W, Below w1.heap.size w1 W → BxCp w W w.heap.size p d e iv jv kv il jl kl) := Lib.hid (fun W h => HX.out.next h)
  obtain ⟨⟨ai, ci, rfl⟩, ⟨aj, cj, rfl⟩, ⟨ak, ck, rfl⟩⟩ := HX.out.cx.shapes
  have HT0 := Lib.hid (Gs.new (base := w1.heap.size) w1 (Nat.le_refl _))
  have HCD : Hid (∀ k (hk : k < kl.length), (cdT p e jl kl).take (k + 1) = (cdT p e jl kl).take k ++ [apT p c kl[k] jl]) := Lib.hid (fun k hk => by
    rw [List.take_succ_eq_append_getElem (by unfold cdT; rw [List.length_map]; exact hk)]
    simp [cdT, hce])
  have HCL : Hid ((cdT p e jl kl).length = kl.length) := Lib.hid (by simp [cdT])
  have HAP : Hid (∀ k (hk : k < kl.length), ApOk p c kl[k] jl) := Lib.hid (fun k hk => by rw [hce]; exact hc.ap (List.getElem_mem hk))
  clear hc hce
  subst hec
  have c5 := HX.out.c5
  go_enter Try.func136, Try.ntmps136
  go_upto_region 1 with fail
  rw [← hw1]
  clear hw1
  go_wp2
  go_loopw [3, 4] (fun ov i wr => ∃ (k : Nat), k ≤ kl.length ∧ i = .int .i64 k ∧ Hid (Below w1.heap.size w1 wr) ∧ Hid (Gs w1.heap.size wr ov ((cdT p (c : Int) jl kl).take k))) (fun _ i _ => kl.length - (intOf i).toNat)
  case atStart => exact ⟨0, Nat.zero_le _, rfl, Lib.hid (below_alloc1 _ _), Lib.hid (by rw [List.take_zero]; have := HT0.out; simpa [hs1] using this)⟩
  case round =>
    clear HT0 c5
    obtain ⟨k, hk, rfl, HB, HG⟩ := hrel
    obtain ⟨wx, hwx⟩ : ∃ wx : World, wx = wr := ⟨_, rfl⟩
    subst hwx
    have hsx : w1.heap.size ≤ wx.heap.size := HB.out.size
    have hgl : ((cdT p (c : Int) jl kl).take k).length = k := by rw [List.length_take, HCL.out]; omega
    obtain ⟨ao, co, hov⟩ := Sl.shape HG.out.l2
    rw [hgl] at hov
    subst hov
    have HGN := Lib.hid hgl
    clear hgl
    have c5 := (HNX.out wx HB.out).c5
    by_cases hlt : k < kl.length
    · refine Sl.cases HX.out.cx.fk (fun _ _ hx _ => absurd hlt (by simp [hx])) (fun b o c2 hvv _ _ hcl => ?_)
      injection hvv with e1 e2 e3
      clear e2
      subst e1 e3
      obtain ⟨ur, hur, hrr⟩ := hcl k hlt
      obtain ⟨y, hy⟩ : ∃ y, y = kl[k] := ⟨_, rfl⟩
      rw [← hy] at hrr
      have HTK : Hid ((cdT p (c : Int) jl kl).take (k + 1) = (cdT p (c : Int) jl kl).take k ++ [apT p c y jl]) := Lib.hid (by rw [hy]; exact HCD.out k hlt)
      have hok := HAP.out k hlt
      rw [← hy] at hok
      have HOK := Lib.hid hok
      have HYL : Hid (y.length ≤ 1048576) := Lib.hid (by have := HM.out.bk.2 y (by rw [hy]; exact List.getElem_mem hlt); exact this)
      have HRR := Lib.hid hrr
      have HUR : Hid (∀ W, Below w1.heap.size w1 W → W.cell? ⟨b, o + k, none⟩ = some ur) := Lib.hid (fun W h => later h (Nat.le_refl _) hur)
      have hlk : (k : Int) < (kl.length : Int) := by omega
      clear hcl hur hrr hy hok
      go_wp2
      clear c5
      refine wp_region_held (S := fun W => Below w1.heap.size w1 W) (by kernel_rfl) ?_
      have S0 : Below w1.heap.size w1 wx.drew := HB.out.drew
      have HGD := Lib.hid (HG.out.below (Below.refl wx.heap.size wx).drew)
      have hsd : w1.heap.size ≤ wx.drew.heap.size := hsx
      change wpAnyH _ _ _ _ _ _ _ _ wx.drew
      clear HG HB
      generalize wx.drew = wd at *
      refine held_take (i := 0) (v := .slice ao k co) (some 13) rfl rfl (by kernel_rfl) (by kernel_rfl) (by kernel_rfl) (fun _ _ _ h => h) (yieldsIf_move (by kernel_rfl) rfl (by kernel_rfl)) S0 ?_
      refine held_take (i := 1) (v := .pointer (some ⟨w.heap.size, 0, none⟩)) (some 14) rfl rfl (by kernel_rfl) (by kernel_rfl) (by kernel_rfl) (fun _ _ _ h => h) (yieldsIf_run (by kernel_rfl) (fun W _ => by kernel_rfl)) S0 ?_
      refine held_take (i := 2) (v := .int .i64 p) (some 15) rfl rfl (by kernel_rfl) (by kernel_rfl) (by kernel_rfl) (fun _ _ _ h => h) (yieldsIf_cell (by kernel_rfl) rfl (by kernel_rfl) (fun W h => hload W ((HNX.out W h).c0))) S0 ?_
      refine held_take (i := 3) (v := .pointer (some ⟨w.heap.size, 4, none⟩)) (some 16) rfl rfl (by kernel_rfl) (by kernel_rfl) (by kernel_rfl) (fun _ _ _ h => h) (yieldsIf_run (by kernel_rfl) (fun W _ => by kernel_rfl)) S0 ?_
      refine held_take (i := 4) (v := .slice aj jl.length cj) (some 17) rfl rfl (by kernel_rfl) (by kernel_rfl) (by kernel_rfl) (fun _ _ _ h => h) (yieldsIf_cell (by kernel_rfl) rfl (by kernel_rfl) (fun W h => hloadSSc W ((HNX.out W h).c4))) S0 ?_
      refine held_take (i := 5) (v := .pointer (some ⟨w.heap.size, 5, none⟩)) (some 18) rfl rfl (by kernel_rfl) (by kernel_rfl) (by kernel_rfl) (fun _ _ _ h => h) (yieldsIf_run (by kernel_rfl) (fun W _ => by kernel_rfl)) S0 ?_
      refine held_take (i := 6) (v := .slice (some ⟨b, o, none⟩) kl.length ck) (some 19) rfl rfl (by kernel_rfl) (by kernel_rfl) (by kernel_rfl) (fun _ _ _ h => h) (yieldsIf_cell (by kernel_rfl) rfl (by kernel_rfl) (fun W h => hloadSSc W ((HNX.out W h).c5))) S0 ?_
      refine held_take (i := 7) (v := .int .i64 (k : Int)) (some 20) rfl rfl (by kernel_rfl) (by kernel_rfl) (by kernel_rfl) (fun _ _ _ h => h) (yieldsIf_move (by kernel_rfl) rfl (by kernel_rfl)) S0 ?_
      refine held_take (i := 8) (v := .pointer (some ⟨b, o + k, none⟩)) (some 21) rfl rfl (by kernel_rfl) (by kernel_rfl) (by kernel_rfl) (fun _ _ _ h => h) (yieldsIf_index (by kernel_rfl) rfl (by kernel_rfl) (by kernel_rfl) (hidxS b o ck hlt)) S0 ?_
      refine held_take (i := 9) (v := ur) (some 22) rfl rfl (by kernel_rfl) (by kernel_rfl) (by kernel_rfl) (fun _ _ _ h => h) (yieldsIf_cell (by kernel_rfl) rfl (by kernel_rfl) (fun W h => hloadS W (HUR.out W h))) S0 ?_
      refine held_take (i := 10) (v := .pointer (some ⟨w.heap.size, 2, none⟩)) (some 23) rfl rfl (by kernel_rfl) (by kernel_rfl) (by kernel_rfl) (fun _ _ _ h => h) (yieldsIf_run (by kernel_rfl) (fun W _ => by kernel_rfl)) S0 ?_
      refine held_take (i := 11) (v := .int .i64 (c : Int)) (some 24) rfl rfl (by kernel_rfl) (by kernel_rfl) (by kernel_rfl) (fun _ _ _ h => h) (yieldsIf_cell (by kernel_rfl) rfl (by kernel_rfl) (fun W h => hload W ((HNX.out W h).c2))) S0 ?_
      refine held_enter (i := 12) (some 25) (f := 167) (args := #[.int .i64 p, .slice aj jl.length cj, ur, .int .i64 (c : Int)]) (by kernel_rfl) rfl rfl rfl (by kernel_rfl) (l01ApplyG_any p c ur (.slice aj jl.length cj) y jl wd HOK.out (HRR.out.below S0) (HNX.out wd S0).cx.fj HYL.out (by omega)) ?_ (fun c w' h => by obtain ⟨_, h, _⟩ := h; cases h) (fun w' h => by obtain ⟨_, h, _⟩ := h; cases h)
      rintro e6 W6 ⟨u6, he6, hg6, hb6⟩
      injection he6 with he6
      subst he6
      have S3 : Below w1.heap.size w1 W6 := S0.trans (hb6.mono hsd)
      have HG6 := Lib.hid (HGD.out.below hb6)
      obtain ⟨a6, n6, c6, hv6⟩ : ∃ a n c, e6 = .slice a n c := by obtain ⟨a, cc, ee⟩ := Sl.shape hg6.l1; exact ⟨a, _, cc, ee⟩
      subst hv6
      have HR6 := Lib.hid hg6
      refine ⟨S3, ?_⟩
      have hba : Below W6.heap.size W6 (W6.alloc (.cells #[.slice a6 n6 c6] 22)) := below_alloc1 _ _
      have S4 : Below w1.heap.size w1 (W6.alloc (.cells #[.slice a6 n6 c6] 22)) := S3.trans (hba.mono S3.size)
      refine held_buildS (i := 13) (some 26) (by kernel_rfl) rfl rfl rfl (.tmp 25) a6 n6 c6 rfl (by kernel_rfl) ⟨S4, ?_⟩
      refine held_appendG (i := 14) (some 27) (by kernel_rfl) rfl rfl rfl (.tmp 13) (.tmp 26) rfl w1.heap.size (.slice ao k co) _ (by kernel_rfl) (HG6.out.below hba) W6.heap.size a6 n6 c6 (by kernel_rfl) (cell_alloc1 W6 _ _) (apT p c y jl) (HR6.out.below hba) (by rw [HGN.out]; omega) S4.size ?_
      intro v7 W7 hg7 hb7
      have S5 : Below w1.heap.size w1 W7 := S4.trans hb7
      have HG7 : Hid (Gs w1.heap.size W7 v7 ((cdT p (c : Int) jl kl).take (k + 1))) := Lib.hid (by rw [HTK.out]; exact hg7)
      have HB7 := Lib.hid S5
      refine ⟨S5, ?_⟩
      refine held_take (i := 15) (v := v7) (some 3) rfl rfl (by kernel_rfl) (by kernel_rfl) (by kernel_rfl) (fun _ _ _ h => h) (yieldsIf_assign (by kernel_rfl) rfl (by kernel_rfl)) S5 ?_
      refine wpAnyH_done (by kernel_rfl) ?_ _
      simp only [Act.put, List.setIfInBounds_toArray, List.set_cons_zero, List.set_cons_succ]
      clear S0 S3 S4 S5 hb6 hg6 hba hg7 hb7 hsd
      go_wp2
      go_roundw
      case rel => exact ⟨k + 1, by omega, by go_num, HB7, HG7⟩
      case measure => simp [intOf]; omega
    · have HKK : Hid ((cdT p (c : Int) jl kl).take k = cdT p (c : Int) jl kl) := Lib.hid (List.take_of_length_le (by rw [HCL.out]; omega))
      have hlk : ¬ (k : Int) < (kl.length : Int) := by omega
      go_wp2
      go_ret
      exact ⟨_, rfl, by have h := HG.out; rw [HKK.out] at h; exact h.mono (by omega), (HNX.out _ HB.out).below⟩

set_option maxHeartbeats 800000 in
theorem spCoupleDifferential_any (p d e : Int) (iv jv kv : Value) (il jl kl : List (List Int)) (w : World) (h : Cp 0 w iv jv kv il jl kl) (hm : CpB 1048576 il jl kl) :
    Calls Try.prog 70 #[.agg #[.int .i64 p, .int .i64 d, .int .i64 e, iv, jv, kv]] w (AnsS (L2 0) (fun o => o = cdT p e jl kl) [] (cpCode p d e il jl kl) w) := by
  have HM := Lib.hid hm
  obtain ⟨w1, hw1⟩ : ∃ w1, w1 = w.alloc (.cells #[.int .i64 p, .int .i64 d, .int .i64 e, iv, jv, kv] 71) := ⟨_, rfl⟩
  have hs1 : w1.heap.size = w.heap.size + 1 := by rw [hw1]; simp
  have HX : Hid (BxCp w w1 w.heap.size p d e iv jv kv il jl kl) := Lib.hid (by rw [hw1]; exact BxCp.start 71 h)
  clear h hm
  have c0 := HX.out.c0
  have c1 := HX.out.c1
  have c2 := HX.out.c2
  have c3 := HX.out.c3
  have c4 := HX.out.c4
  have c5 := HX.out.c5
  by_cases hc : IsCp p d e il jl kl
  · have HC := Lib.hid hc
    have HCODE := Lib.hid (cpCode_yes hc)
    clear hc
    go_enter Try.func70, Try.ntmps70
    go_upto_region 1 with fail
    rw [← hw1]
    clear hw1
    go_wp2_with fail
    refine (l05Is_any p d e iv jv kv il jl kl _ HX.out.cx HM.out).mono ?_
    rintro ee w2 ⟨b, rfl, hb, hbb⟩
    obtain rfl : b = true := hbb.2 HC.out
    have HX2 := Lib.hid (HX.out.next hb)
    clear hb hbb c0 c1 c2 c3 c4 c5
    have c0 := HX2.out.c0
    have c1 := HX2.out.c1
    have c2 := HX2.out.c2
    have c3 := HX2.out.c3
    have c4 := HX2.out.c4
    have c5 := HX2.out.c5
    go_wp2_with fail
    refine (l05Differential_any p d e iv jv kv il jl kl _ HX2.out.cx HM.out HC.out).mono ?_
    rintro ee w3 ⟨u, rfl, hg, hb⟩
    have HX3 := Lib.hid (HX2.out.next hb)
    have HG := Lib.hid hg.l2
    clear hb hg c0 c1 c2 c3 c4 c5
    go_wp2
    go_ret2
    exact ⟨_, _, 0, rfl, HG.out, HX3.out.below, RsOut.of_yes HCODE.out rfl⟩
  · have HC := Lib.hid hc
    have HCODE := Lib.hid (cpCode_no hc)
    clear hc
    go_enter Try.func70, Try.ntmps70
    go_upto_region 1 with fail
    rw [← hw1]
    clear hw1
    go_wp2_with fail
    refine (l05Is_any p d e iv jv kv il jl kl _ HX.out.cx HM.out).mono ?_
    rintro ee w2 ⟨b, rfl, hb, hbb⟩
    obtain rfl : b = false := bb_no hbb HC.out
    have HX2 := Lib.hid (HX.out.next hb)
    clear hb hbb c0 c1 c2 c3 c4 c5
    go_wp2
    go_ret2
    exact ⟨_, [], 1, rfl, Or.inl ⟨rfl, _, _, rfl⟩, HX2.out.below, by rw [HCODE.out]; exact RsOut.of_no (by decide)⟩
end Go.Proofs.Ytpdkfidmmjlmnab
