/-
  impl.reducedList by its contract.
-/
import Derived.Test.YtlbalcckjokeiaaInr
import Derived.Deep.LoopGhost
import Derived.WalkMore
namespace Go.Proofs.Ytlbalcckjokeiaa
open Go.RowKit

/-- A reduced list that a call is gathering, a vector in a box of its own. -/
structure Inn (w1 W : World) (sv : Value) (R : List Lin.V) (vb : Nat) (r : Lin.V) : Prop where
  below : Below w1.heap.size w1 W
  own : Ow w1.heap.size W sv R
  lo : w1.heap.size ≤ vb
  at' : At W vb 0 r
  there : W.there vb 0 40
  ne : some vb ≠ sv.ownBlock
theorem Inn.next {w1 W W' : World} {sv : Value} {R : List Lin.V} {vb : Nat} {r : Lin.V} (h : Inn w1 W sv R vb r) (hb : Below W.heap.size W W') : Inn w1 W' sv R vb r :=
  ⟨h.below.trans (hb.mono h.below.size), h.own.below hb, h.lo, h.at'.later hb, there_below h.there hb h.at'.lt, h.ne⟩
theorem Inn.put {w1 W : World} {sv : Value} {R : List Lin.V} {vb : Nat} {r : Lin.V} (h : Inn w1 W sv R vb r) (x : Lin.V) : Inn w1 (W.setCells vb 0 (vl x)) sv R vb x :=
  ⟨below_setCells _ h.lo _ _ _ h.below, h.own.grown (grown_setCells W vb 0 (vl x)) (Or.inr h.ne.symm), h.lo, at_setCells _ _ _ _ h.there, World.there_setCells h.there _ _ _, h.ne⟩
theorem Ow.apart {base : Nat} {w : World} {s : Value} {L : List Lin.V} (h : Ow base w s L) {b : Nat} (hb : w.heap.size ≤ b) : some b ≠ s.ownBlock := fun e => by
  have := ((World.ownsRow.lt h) b e.symm).1
  have := ((World.ownsRow.lt h) b e.symm).2
  omega

/-- What a reduced list has to do with a list. -/
structure RedOf (p : Int) (R T : List Lin.V) : Prop where
  red : Lin.Red p R
  wd : ∀ u ∈ R, Lin.Wd 40 u
  eqv : Lin.Eqv p R T
theorem RedOf.nil (p : Int) : RedOf p [] [] := ⟨Lin.Red.nil p, by simp, Lin.Eqv.refl _ _⟩
theorem RedOf.skip {p : Int} (hp : 0 < p) {R T : List Lin.V} (h : RedOf p R T) {v : Lin.V} (hT : ∀ w ∈ T, Lin.Md p w) (hv : Lin.Md p v) (hr : Lin.Rest p R v R.length Lin.zv) : RedOf p R (T ++ [v]) :=
  ⟨h.red, h.wd, Lin.skip_eqv hp h.red hT hv h.eqv hr⟩
theorem RedOf.put {p : Int} (hp : 1 < p) {R T : List Lin.V} (h : RedOf p R T) {v r u : Lin.V} {k : Nat} (hT : ∀ w ∈ T, Lin.Md p w) (hv : Lin.Md p v) (hr : Lin.Rest p R v R.length r) (hne : r ≠ Lin.zv) (hu : Lin.Unit p r u) (huw : Lin.Wd 40 u) (hk : k ≤ R.length)
    (hlo : ∀ w ∈ R.take k, Lin.ld w < Lin.ld u) (hhi : ∀ w ∈ R.drop k, ¬ Lin.ld w < Lin.ld u) : RedOf p (Lin.put p R k u) (T ++ [v]) := by
  have hf := Lin.fits_of hr hne hu hk hlo hhi
  refine ⟨hf.red hp h.red, fun x hx => ?_, Lin.put_eqv hp h.red hT hv h.eqv hr hu hf⟩
  rcases Lin.put_mem.1 hx with rfl | ⟨y, hy, rfl⟩
  · exact huw
  · exact Lin.add_wd _ (h.wd y hy) huw
theorem put_length (p : Int) (R : List Lin.V) (k : Nat) (u : Lin.V) (hk : k ≤ R.length) : (Lin.put p R k u).length = R.length + 1 := by simp [Lin.put]; omega

set_option maxHeartbeats 6400000 in
set_option maxRecDepth 100000 in
theorem reducedList_any (p : Int) (s : Value) (L : List Lin.V) (w : World) (hp : IsP p) (hs : Vs 0 w s L) (hLm : ∀ u ∈ L, Lin.Md p u) (hLw : ∀ u ∈ L, Lin.Wd 40 u) (hl : L.length ≤ 1048575) :
    Calls Try.prog 63 #[.int .i64 p, s] w (VsR (fun R => RedOf p R L ∧ R.length ≤ L.length) w) := by
  have HP := Lib.hid hp
  have hul := unitLines_any p s L w hp hs hLm hLw (by omega)
  have HUL := Lib.hid hul
  have hp7 := hp.hi7
  have hp1 := hp.lo1
  obtain ⟨ads, caps, hsv⟩ := Vs.shape hs
  subst hsv
  clear hp hs hLm hLw hul
  go_enter Try.func63, Try.ntmps63
  go_wp2
  go_step3
  go_wp2
  go_step3
  go_wp2_with fail
  refine HUL.out.mono ?_
  rintro e w1 ⟨sl, M, rfl, hb1, ho1, hli, hml⟩
  have HB1 := Lib.hid hb1
  have HLI := Lib.hid hli
  have HVS := Lib.hid ho1.vs
  obtain ⟨adl, capl, rfl⟩ := ho1.shape
  have hs1 : w.heap.size ≤ w1.heap.size := hb1.size
  clear hb1 ho1 hli HUL
  go_wp2
  go_loopg [5, 7, 9, 14, 20] M.length (fun g s5 _ _ s14 _ wx => ∃ (k : Nat) (R : List Lin.V), k + g = M.length ∧ s14 = .int .i64 k ∧ Hid (Below w1.heap.size w1 wx) ∧ Hid (Ow w1.heap.size wx s5 R) ∧ Hid (RedOf p R (M.take k)) ∧ R.length ≤ k)
  case atStart => exact ⟨0, [], by omega, rfl, Lib.hid (Below.refl _ _), Lib.hid (Ow.nil _ _), Lib.hid (by rw [List.take_zero]; exact RedOf.nil p), Nat.le_refl _⟩
  case round =>
    obtain ⟨k, R, hkg, rfl, HB, HO, HR, hRk⟩ := hrel
    cases gk with
    | zero =>
      have HTK : Hid (M.take k = M) := Lib.hid (List.take_of_length_le (by omega))
      have hkz : ¬ ((k : Int) < (M.length : Int)) := by omega
      obtain ⟨adr, capr, rfl⟩ := HO.out.shape
      go_wp2
      try rw [Exit.noGoto_ret]
      go_ret
      refine ⟨_, R, rfl, HB1.out.trans (HB.out.mono hs1), ?_, ?_, by omega⟩
      · exact ⟨HO.out.1, HO.out.2.imp id (fun ⟨g, cap, cur, h1, h2, h3⟩ => ⟨g, cap, cur, h1, by omega, h3⟩)⟩
      · have := HR.out
        rw [HTK.out] at this
        exact ⟨this.red, this.wd, this.eqv.trans HLI.out.eqv⟩
    | succ g =>
      have hlt : k < M.length := by omega
      refine Vs.cases HVS.out (fun _ _ hx _ => absurd hlt (by simp [hx])) (fun b o cap2 hv _ _ hc => ?_)
      obtain ⟨rfl, rfl⟩ : adl = some ⟨b, o, none⟩ ∧ capl = cap2 := by simpa using hv
      obtain ⟨v, hve⟩ : ∃ v, v = M[k] := ⟨_, rfl⟩
      have HV : Hid (At wr b (o + k * 40) v) := Lib.hid (by rw [hve]; exact (hc k hlt).below HB.out (hc k hlt).lt)
      have HI := Lib.hid (Try.infoVl v)
      have HI2 : Hid ((Try.prog.info? 107).map (·.size) = some (vl v).toArray.size) := Lib.hid (by have := HI.out; simpa using this)
      have HVM : Hid (Lin.Md p v) := Lib.hid (by rw [hve]; exact HLI.out.md _ (List.getElem_mem hlt))
      have HVW : Hid (Lin.Wd 40 v) := Lib.hid (by rw [hve]; exact HLI.out.wd _ (List.getElem_mem hlt))
      have HVN : Hid (v ≠ Lin.zv) := Lib.hid (by rw [hve]; exact HLI.out.ne _ (List.getElem_mem hlt))
      have HTK : Hid (M.take (k + 1) = M.take k ++ [v]) := Lib.hid (by rw [hve]; exact List.take_succ_eq_append_getElem hlt)
      have HTM : Hid (∀ x ∈ M.take k, Lin.Md p x) := Lib.hid (fun x hx => HLI.out.md x (List.mem_of_mem_take hx))
      obtain ⟨adr, capr, rfl⟩ := HO.out.shape
      have hapart := HO.out.apart (Nat.le_refl _)
      have HAP := Lib.hid hapart
      have hsz : w1.heap.size ≤ wr.heap.size := HB.out.size
      have hR5 : R.length ≤ 1048575 := by omega
      clear hv hc hve hapart
      go_upto_region 5 with (first | (with_reducible refine wpList_load_mid rfl 107 (.tmp 16) rfl b (o + k * 40) rfl (vl v) _ HV.out.range Try.underlyingV rfl HI.out ?_) | (with_reducible refine wpList_allocV rfl (some 7) rfl rfl ?_; intro W2 hn2; have HN2 := Lib.hid hn2; have HT2 : Hid (W2.there wr.heap.size 0 (vl v).toArray.size) := (Lib.hid (by have := hn2.there; simpa [vl_length] using this)); clear hn2) | (with_reducible refine wpList_store_mid rfl 107 (.tmp 7) (.tmp 17) rfl wr.heap.size 0 (vl v).toArray rfl rfl HT2.out HI2.out (vl_all v) ?_))
      refine forget_wp (fun W => Hid (Inn w1 W (.slice adr R.length capr) R wr.heap.size v)) (Lib.hid ?_) ?_
      · have hp2 := HN2.out.put v
        exact ⟨HB.out.trans (hp2.1.mono hsz), HO.out.below hp2.1, hsz, hp2.2.1, World.there_setCells HN2.out.there _ _ _, HAP.out⟩
      intro W3 HN3
      clear HN2 HT2 HI2 HAP HO HB HV HI
      generalize wr.heap.size = vb at *
      simp only [Act.put]
      go_wp2
      go_loopg [9, 20] R.length (fun g2 _ s20 wx => ∃ (j : Nat) (r : Lin.V), j + g2 = R.length ∧ s20 = .int .i64 j ∧ Hid (Inn w1 wx (.slice adr R.length capr) R vb r) ∧ Hid (Lin.Rest p R v j r) ∧ Hid (Lin.Wd 40 r) ∧ Hid (r ≠ Lin.zv))
      case atStart => exact ⟨0, v, by omega, rfl, HN3, Lib.hid (Lin.Rest.start HVM.out), HVW, HVN⟩
      case round =>
        clear HN3
        obtain ⟨j, r, hjg, rfl, HN, HRE, HRW, HRN⟩ := hrel
        cases gk with
        | zero =>
          have hjR : ¬ ((j : Int) < (R.length : Int)) := by omega
          have HRR : Hid (Lin.Rest p R v R.length r) := Lib.hid (by have := HRE.out; rwa [show j = R.length by omega] at this)
          have HIR := Lib.hid (Try.infoVl r)
          go_wp2_with (with_reducible refine wpList_load_mid rfl 107 (.tmp 7) rfl vb 0 rfl (vl r) _ HN.out.at'.range Try.underlyingV rfl HIR.out ?_)
          refine (unitLead_any p r _ HP.out HRR.out.md HRW.out HRN.out).mono ?_
          rintro e W5 ⟨u, rfl, hb5, hUU, hUW⟩
          have HN5 := Lib.hid (HN.out.next hb5)
          have HUU := Lib.hid hUU
          have HUW := Lib.hid hUW
          clear hb5 hUU hUW
          go_wp2_with fail
          refine (insertRow_any p w1.heap.size _ R u _ HP.out HN5.out.below.size HN5.out.own HR.out.red HR.out.wd hR5 HUU.out.md HUW.out HUU.out.ne).mono ?_
          rintro e W6 ⟨s6, P, rfl, ho6, hg6, hP, hlo, hhi⟩
          have HO6 := Lib.hid ho6
          have HB6 : Hid (Below w1.heap.size w1 W6) := Lib.hid (HN5.out.below.grown hg6 HN5.out.below.size (fun gg hgg => ((HN5.out.own.lt) gg hgg).1))
          have HR6 : Hid (RedOf p (Lin.put p R P u) (M.take (k + 1))) := Lib.hid (by
            rw [HTK.out]
            exact HR.out.put hp1 HTM.out HVM.out HRR.out HRN.out HUU.out HUW.out hP hlo hhi)
          have hlen : (Lin.put p R P u).length ≤ k + 1 := by rw [put_length p R P u hP]; omega
          clear ho6 hg6 hlo hhi
          go_wp2
          go_roundg g
          case rel => exact ⟨k + 1, Lin.put p R P u, by omega, by go_num, HB6, HO6, HR6, hlen⟩
          case measure => omega
        | succ g2 =>
          have hjl : j < R.length := by omega
          refine Vs.cases HN.out.own.vs (fun _ _ hx _ => absurd hjl (by simp [hx])) (fun b2 o2 cap3 hv _ _ hc => ?_)
          obtain ⟨rfl, rfl⟩ : adr = some ⟨b2, o2, none⟩ ∧ capr = cap3 := by simpa using hv
          obtain ⟨u, hu⟩ : ∃ u, u = R[j] := ⟨_, rfl⟩
          have HUA : Hid (At wr b2 (o2 + j * 40) u) := Lib.hid (by rw [hu]; exact hc j hjl)
          have HUE := Lib.hid hu
          have HUM : Hid (Lin.Md p u) := Lib.hid (by rw [hu]; exact HR.out.red.md _ (List.getElem_mem hjl))
          have HUW : Hid (Lin.Wd 40 u) := Lib.hid (by rw [hu]; exact HR.out.wd _ (List.getElem_mem hjl))
          have HUN : Hid (u ≠ Lin.zv) := Lib.hid (by rw [hu]; exact HR.out.red.ne (List.getElem_mem hjl))
          have HI := Lib.hid (Try.infoVl u)
          have HI2 : Hid ((Try.prog.info? 107).map (·.size) = some (vl u).toArray.size) := Lib.hid (by have := HI.out; simpa using this)
          have HRM : Hid (Lin.Md p r) := Lib.hid HRE.out.md
          have HIR := Lib.hid (Try.infoVl r)
          have HAP : Hid (wr.heap.size ≠ vb) := Lib.hid (by have := HN.out.at'.lt; omega)
          obtain ⟨hd40, _, _⟩ := ld_lt HUW.out HUN.out
          obtain ⟨d, hd⟩ : ∃ d, d = Lin.ld u := ⟨_, rfl⟩
          have HD := Lib.hid hd
          rw [← hd] at hd40
          obtain ⟨f, hf⟩ : ∃ f, f = r d := ⟨_, rfl⟩
          have HF := Lib.hid hf
          have hfb := HRM.out d
          rw [← hf] at hfb
          clear hv hc hu hd hf
          go_upto_region 8 with (first | (with_reducible refine wpList_load_mid rfl 107 (.tmp 22) rfl b2 (o2 + j * 40) rfl (vl u) _ HUA.out.range Try.underlyingV rfl HI.out ?_) | (with_reducible refine wpList_allocV rfl (some 9) rfl rfl ?_; intro W2 hn2; have HN2 := Lib.hid hn2; have HT2 : Hid (W2.there wr.heap.size 0 (vl u).toArray.size) := (Lib.hid (by have := hn2.there; simpa [vl_length] using this)); clear hn2) | (with_reducible refine wpList_store_mid rfl 107 (.tmp 9) (.tmp 23) rfl wr.heap.size 0 (vl u).toArray rfl rfl HT2.out HI2.out (vl_all u) ?_))
          refine forget_wp (fun W => Hid (At W vb 0 r ∧ At W wr.heap.size 0 u ∧ Hid (Inn w1 W (.slice (some ⟨b2, o2, none⟩) R.length capr) R vb r))) (Lib.hid ?_) ?_
          · have hp2 := HN2.out.put u
            have h1 := HN.out.next hp2.1
            exact ⟨h1.at', hp2.2.1, Lib.hid h1⟩
          intro W3 HS3
          clear HN2 HT2 HN HUA
          simp only [Act.put, List.setIfInBounds_toArray, List.set_cons_zero, List.set_cons_succ]
          have HSN : Hid (∀ W W', (At W vb 0 r ∧ At W wr.heap.size 0 u ∧ Hid (Inn w1 W (.slice (some ⟨b2, o2, none⟩) R.length capr) R vb r)) → Below W.heap.size W W' → (At W' vb 0 r ∧ At W' wr.heap.size 0 u ∧ Hid (Inn w1 W' (.slice (some ⟨b2, o2, none⟩) R.length capr) R vb r))) := Lib.hid (fun W W' h hb => ⟨h.1.later hb, h.2.1.later hb, Lib.hid (h.2.2.out.next hb)⟩)
          have hcellS : ∀ W, (At W vb 0 r ∧ At W wr.heap.size 0 u ∧ Hid (Inn w1 W (.slice (some ⟨b2, o2, none⟩) R.length capr) R vb r)) → W.cell? ⟨vb, d, none⟩ = some (.int .i64 f) := fun W h => by rw [HF.out]; have := h.1.cell hd40; rwa [Nat.zero_add] at this
          obtain ⟨y, hy⟩ : ∃ y, y = Lin.add p r (-f) u := ⟨_, rfl⟩
          have HMM := Lib.hid (minusMultiple_any p f r u · HP.out hfb.1 hfb.2 HRM.out HRW.out HUM.out HUW.out)
          rw [← hy] at HMM
          have HRE2 : Hid (Lin.Rest p R v (j + 1) y) := Lib.hid (by rw [hy, HF.out, HD.out, HUE.out]; exact HRE.out.step (by omega) HR.out.red hjl)
          have HYW : Hid (Lin.Wd 40 y) := Lib.hid (by rw [hy]; exact Lin.add_wd _ HRW.out HUW.out)
          have HIY := Lib.hid (Try.infoVl y)
          have HI5 : Hid ((Try.prog.info? 107).map (·.size) = some (vl y).toArray.size) := Lib.hid (by have := HIY.out; simpa using this)
          have HLD := Lib.hid (leadOf_any u · HUW.out HUN.out)
          rw [← HD.out] at HLD
          clear hy HI2
          refine wp_region_last (fun W => At W vb 0 r ∧ At W wr.heap.size 0 u ∧ Hid (Inn w1 W (.slice (some ⟨b2, o2, none⟩) R.length capr) R vb r)) 8 (by kernel_rfl) rfl (by kernel_rfl) ?_
          have S1 := HSN.out _ _ HS3.out (Below.refl _ _).drew
          refine held_take (i := 0) (v := .int .i64 p) (some 24) rfl rfl (by kernel_rfl) (by kernel_rfl) (by kernel_rfl) (fun _ _ _ h => h) (yieldsIf_move (by kernel_rfl) rfl (by kernel_rfl)) S1 ?_
          refine held_take (i := 1) (v := .agg (vl r).toArray) (some 25) rfl rfl (by kernel_rfl) (by kernel_rfl) (by kernel_rfl) (fun _ _ _ h => h) (yieldsIf_load_mid (by kernel_rfl) 107 (.tmp 7) (by kernel_rfl) vb 0 (by kernel_rfl) (vl r) _ (fun W h => h.1) Try.underlyingV rfl HIR.out) S1 ?_
          refine held_take (i := 2) (v := .agg (vl u).toArray) (some 26) rfl rfl (by kernel_rfl) (by kernel_rfl) (by kernel_rfl) (fun _ _ _ h => h) (yieldsIf_load_mid (by kernel_rfl) 107 (.tmp 9) (by kernel_rfl) wr.heap.size 0 (by kernel_rfl) (vl u) _ (fun W h => h.2.1) Try.underlyingV rfl HI.out) S1 ?_
          refine held_take (i := 6) (v := .agg (vl u).toArray) (some 30) rfl rfl (by kernel_rfl) (by kernel_rfl) (by kernel_rfl) (fun _ _ _ h => h) (yieldsIf_load_mid (by kernel_rfl) 107 (.tmp 9) (by kernel_rfl) wr.heap.size 0 (by kernel_rfl) (vl u) _ (fun W h => h.2.1) Try.underlyingV rfl HI.out) S1 ?_
          refine held_enter (i := 3) (some 27) (f := 118) (args := #[vv u]) (by kernel_rfl) rfl rfl rfl (by kernel_rfl) (HLD.out _) ?_ (fun c w' h => by cases h.1) (fun w' h => by cases h.1)
          rintro e4 W4 ⟨he4, hb4⟩
          injection he4 with he4
          subst he4
          have S4 := HSN.out _ _ S1 hb4
          refine ⟨S4, ?_⟩
          clear hb4 S1 HS3
          refine held_take (i := 4) (v := .pointer (some ⟨vb, d, none⟩)) (some 28) rfl rfl (by kernel_rfl) (by kernel_rfl) (by kernel_rfl) (fun _ _ _ h => h) (yieldsIf_index (by kernel_rfl) rfl (by kernel_rfl) (by kernel_rfl) (hindexV vb hd40)) S4 ?_
          refine held_take (i := 5) (v := .int .i64 f) (some 29) rfl rfl (by kernel_rfl) (by kernel_rfl) (by kernel_rfl) (fun _ _ _ h => h) (yieldsIf_cell (by kernel_rfl) rfl (by kernel_rfl) (fun W h => hload W (hcellS W h))) S4 ?_
          refine held_enter (i := 7) (some 31) (f := 117) (args := #[.int .i64 p, vv r, .int .i64 f, vv u]) (by kernel_rfl) rfl rfl rfl (by kernel_rfl) (HMM.out _) ?_ (fun c w' h => by cases h.1) (fun w' h => by cases h.1)
          rintro e5 W5 ⟨he5, hb5⟩
          injection he5 with he5
          subst he5
          have S5 := HSN.out _ _ S4 hb5
          refine ⟨S5, ?_⟩
          clear hb5 S4
          refine held_none (i := 8) (v := .bool false) rfl rfl (by kernel_rfl) (by kernel_rfl) (by kernel_rfl) (fun _ _ _ h => h) (yieldsIf_move (by kernel_rfl) rfl (by kernel_rfl)) S5 ?_
          have HN6 := Lib.hid (S5.2.2.out.put y)
          refine wpAnyH_done (by kernel_rfl) (lastQ_store rfl (by kernel_rfl) (by kernel_rfl) 107 (.tmp 7) (.tmp 31) (by kernel_rfl) vb 0 (vl y).toArray (by kernel_rfl) (by kernel_rfl) (by have := S5.2.2.out.there; simpa [vl_length] using this) HI5.out (vl_all _) ?_) _
          simp only [Act.put, List.setIfInBounds_toArray, List.set_cons_zero, List.set_cons_succ]
          obtain ⟨W6, hW6⟩ : ∃ W6, W6 = W5.setCells vb 0 (vl y) := ⟨_, rfl⟩
          rw [show W5.setCells vb 0 (vl y).toArray.toList = W6 by rw [hW6]]
          rw [← hW6] at HN6
          clear hW6 S5 hcellS HSN HLD HMM HI5
          by_cases hy0 : y = Lin.zv
          · subst hy0
            have heq := heq_yes
            go_wp2_with (first | (with_reducible refine wpList_load_mid rfl 107 (.tmp 7) rfl vb 0 rfl (vl Lin.zv) _ HN6.out.at'.range Try.underlyingV rfl HIY.out ?_) | (with_reducible refine wpList_buildZ rfl (some 33) rfl rfl ?_))
            go_roundg g
            case rel => exact ⟨k + 1, R, by omega, by go_num, Lib.hid HN6.out.below, Lib.hid HN6.out.own, Lib.hid (by rw [HTK.out]; exact HR.out.skip (by omega) HTM.out HVM.out (HRE2.out.zero (by omega) rfl _)), by omega⟩
            case measure => omega
          · have heq := heq_no HYW.out hy0
            have HY0 := Lib.hid hy0
            clear hy0
            go_wp2_with (first | (with_reducible refine wpList_load_mid rfl 107 (.tmp 7) rfl vb 0 rfl (vl y) _ HN6.out.at'.range Try.underlyingV rfl HIY.out ?_) | (with_reducible refine wpList_buildZ rfl (some 33) rfl rfl ?_))
            go_roundg g2
            case rel => exact ⟨j + 1, y, by omega, by go_num, HN6, HRE2, HYW, HY0⟩
            case measure => omega
end Go.Proofs.Ytlbalcckjokeiaa
