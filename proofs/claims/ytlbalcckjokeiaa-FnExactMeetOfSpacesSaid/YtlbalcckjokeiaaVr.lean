/-
  Slices of vectors; impl.restModulo by its contract.
-/
import Derived.Test.YtlbalcckjokeiaaVt
import Derived.Test.YtlbalcckjokeiaaReg
import Derived.Great.Walk
namespace Go.Proofs.Ytlbalcckjokeiaa
open Go.RowKit

/-- The slice s reads as the vectors L, its cells in blocks from lo on. -/
def Vs (lo : Nat) (w : World) (s : Value) (L : List Lin.V) : Prop :=
  (L = [] ∧ ∃ ad cap, s = .slice ad 0 cap) ∨
  ∃ b o cap, s = .slice (some ⟨b, o, none⟩) L.length cap ∧ lo ≤ b ∧ 0 < L.length ∧ ∀ k (h : k < L.length), At w b (o + k * 40) L[k]
theorem Vs.keep {lo : Nat} {w w' : World} {s : Value} {L : List Lin.V} (h : Vs lo w s L) (hk : Keep lo w w') : Vs lo w' s L := by
  rcases h with h | ⟨b, o, cap, hs, hlo, hpos, hc⟩
  · exact Or.inl h
  · refine Or.inr ⟨b, o, cap, hs, hlo, hpos, fun k h j u hu => ?_⟩
    have h1 := hc k h j u hu
    rw [hk.2 b _ hlo (cell_lt h1)]
    exact h1
theorem Vs.below {lo : Nat} {w w' : World} {s : Value} {L : List Lin.V} (h : Vs lo w s L) (hb : Below w.heap.size w w') : Vs lo w' s L := h.keep (Keep.of_below hb)
theorem Vs.lower {lo lo' : Nat} (hl : lo' ≤ lo) {w : World} {s : Value} {L : List Lin.V} (h : Vs lo w s L) : Vs lo' w s L := by
  rcases h with h | ⟨b, o, cap, hs, hlo, hpos, hc⟩
  · exact Or.inl h
  · exact Or.inr ⟨b, o, cap, hs, by omega, hpos, hc⟩
theorem Vs.shape {lo : Nat} {w : World} {s : Value} {L : List Lin.V} (h : Vs lo w s L) : ∃ ad cap, s = .slice ad L.length cap := by
  rcases h with ⟨h, ad, cap, hs⟩ | ⟨b, o, cap, hs, _⟩
  · exact ⟨ad, cap, by rw [hs, h]; rfl⟩
  · exact ⟨_, cap, hs⟩
theorem Vs.cases {lo : Nat} {w : World} {s : Value} {L : List Lin.V} (h : Vs lo w s L) {C : Prop} (h0 : ∀ ad cap, L = [] → s = .slice ad 0 cap → C)
    (h1 : ∀ b o cap, s = .slice (some ⟨b, o, none⟩) L.length cap → lo ≤ b → 0 < L.length → (∀ k (h : k < L.length), At w b (o + k * 40) L[k]) → C) : C := by
  rcases h with ⟨h, ad, cap, hs⟩ | ⟨b, o, cap, hs, hlo, hpos, hc⟩
  · exact h0 ad cap h hs
  · exact h1 b o cap hs hlo hpos hc

/-- The making of a vector's box. -/
structure NewV (w W : World) : Prop where
  below : Below w.heap.size w W
  size : W.heap.size = w.heap.size + 1
  there : W.there w.heap.size 0 40
set_option maxRecDepth 100000 in
theorem alloc_run (ρ : Operand → Value) (o : Oper) (w : World) : (execOp ρ { o with op := .alloc 107 }).run Try.prog w = .ok (.value (.pointer (some ⟨w.heap.size, 0, none⟩))) (w.alloc (.cells zl.toArray 107)) := by kernel_rfl
theorem wpList_allocV {ops : Array Oper} {rest : List Oper} {o : Oper} {a : Act} {w : World} {Q : Exit → Act → World → Prop} (hg : o.guard = none) (dst : Option Tmp) (hdst : o.dst = dst) (ho : o.op = .alloc 107)
    (h : ∀ W, NewV w W → wpList Try.prog ops Q rest (a.put dst (.pointer (some ⟨w.heap.size, 0, none⟩))) W) : wpList Try.prog ops Q (o :: rest) a w := by
  refine Great.wpList_runTo hg dst hdst (.pointer (some ⟨w.heap.size, 0, none⟩)) (w.alloc (.cells zl.toArray 107)) ?_ (h _ ⟨below_alloc1 _ _, by simp, there_new w zl.toArray _ (by simp [zl_length])⟩)
  have := alloc_run a.eval o w
  rw [← ho] at this
  exact this

theorem Boxed.put {w W : World} {b g : Nat} {v : Lin.V} (h : Boxed w W b g v) (u : Lin.V) : Boxed w (W.setCells b 0 (vl u)) b g u :=
  ⟨below_setCells _ h.lo.1 _ _ _ h.below, h.lo, h.ne, at_setCells _ _ _ _ h.there, World.there_setCells h.there _ _ _, World.there_setCells h.res _ _ _⟩
theorem hload (w : World) {b o : Nat} {x : Int} (h : w.cell? ⟨b, o, none⟩ = some (.int .i64 x)) : (Instr.loadAt 2 (.pointer (some ⟨b, o, none⟩))).run Try.prog w = .ok (.int .i64 x) w := by go_simp
theorem hindexV (b : Nat) {k : Nat} (hk : k < 40) (w : World) : (Instr.indexAt 107 (.pointer (some ⟨b, 0, none⟩)) (.int .i64 k)).run Try.prog w = .ok (.pointer (some ⟨b, k, none⟩)) w := by
  have h2 : (0 : Int) ≤ (k : Int) := by omega
  have h3 : (k : Int) < 40 := by omega
  have h4 : ¬ (40 : Int) ≤ (k : Int) := by omega
  go_simp

set_option maxHeartbeats 3200000 in
set_option maxRecDepth 100000 in
theorem restModulo_any (p : Int) (v : Lin.V) (s : Value) (L : List Lin.V) (w : World) (hp : IsP p) (hm : Lin.Md p v) (hw : Lin.Wd 40 v) (hs : Vs 0 w s L) (hL : Lin.Red p L) (hLw : ∀ u ∈ L, Lin.Wd 40 u) (hl : L.length ≤ 1048576) :
    Calls Try.prog 136 #[.int .i64 p, vv v, s] w (VR (fun r => Lin.Rest p L v L.length r ∧ Lin.Wd 40 r) w) := by
  have hres : Try.f136.results = #[.cell 6 107] := by kernel_rfl
  have HRES := Lib.hid hres
  have HP := Lib.hid hp
  have HM := Lib.hid hm
  have HW := Lib.hid hw
  have HS := Lib.hid hs
  have HL := Lib.hid hL
  have HLW := Lib.hid hLw
  obtain ⟨ad, cap, rfl⟩ := Vs.shape hs
  have hp7 := hp.hi7
  have hp1 := hp.lo1
  clear hres hp hm hw hs hL hLw
  unfold vv
  go_enter Try.func136, Try.ntmps136
  go_upto_region 1 with fail
  refine forget_wp (fun W => Boxed w W w.heap.size (w.heap.size + 1) v) (boxed_new w v _ (by exact Nat.le_refl 40) _ _) ?_
  intro W HB0
  have HB := Lib.hid HB0
  clear HB0
  go_wp2
  go_loopw [11] (fun i wr => ∃ (k : Nat) (r : Lin.V), k ≤ L.length ∧ i = .int .i64 k ∧ Hid (Boxed w wr w.heap.size (w.heap.size + 1) r) ∧ Hid (Lin.Rest p L v k r) ∧ Hid (Lin.Wd 40 r)) (fun i _ => L.length - (intOf i).toNat)
  case atStart => exact ⟨0, v, Nat.zero_le _, rfl, HB, Lib.hid (Lin.Rest.start HM.out), HW⟩
  case round =>
    obtain ⟨k, r, hk, rfl, HR, HRE, HRW⟩ := hrel
    by_cases hlt : k < L.length
    · refine Vs.cases HS.out (fun _ _ hx _ => absurd hlt (by simp [hx])) (fun b o cap2 hv _ _ hc => ?_)
      obtain ⟨rfl, rfl⟩ : ad = some ⟨b, o, none⟩ ∧ cap = cap2 := by simpa using hv
      have HU : Hid (At wr b (o + k * 40) L[k]) := Lib.hid ((hc k hlt).below HR.out.below (hc k hlt).lt)
      have HI := Lib.hid (Try.infoVl L[k])
      clear hv hc
      have HG : Hid (wr.heap.size ≠ w.heap.size ∧ wr.heap.size ≠ w.heap.size + 1) := Lib.hid (by
        have h1 := HR.out.at'.lt
        obtain ⟨x, hx⟩ := Option.isSome_iff_exists.1 (HR.out.res 0 (by omega)).1
        have h2 := cell_lt hx
        omega)
      obtain ⟨u, hu⟩ : ∃ u, u = L[k] := ⟨_, rfl⟩
      have HUE := Lib.hid hu
      have HUM : Hid (Lin.Md p u) := Lib.hid (by rw [hu]; exact HL.out.md _ (List.getElem_mem hlt))
      have HUW : Hid (Lin.Wd 40 u) := Lib.hid (by rw [hu]; exact HLW.out _ (List.getElem_mem hlt))
      have HU1 : Hid (u (Lin.ld u) = 1) := Lib.hid (by rw [hu]; exact HL.out.one _ (List.getElem_mem hlt))
      rw [← hu] at HU HI
      clear hu
      have hso := HR.out.below.size
      have HI2 : Hid ((Try.prog.info? 107).map (·.size) = some (vl u).toArray.size) := Lib.hid (by have := HI.out; simpa using this)
      go_upto_region 4 with (first | (with_reducible refine wpList_load_mid rfl 107 (.tmp 13) rfl b (o + k * 40) rfl (vl u) _ HU.out.range Try.underlyingV rfl HI.out ?_) | (with_reducible refine wpList_allocV rfl (some 8) rfl rfl ?_; intro W2 hn2; have HN2 := Lib.hid hn2; have HT2 : Hid (W2.there wr.heap.size 0 (vl u).toArray.size) := (Lib.hid (by have := hn2.there; simpa [vl_length] using this)); clear hn2) | (with_reducible refine wpList_store_mid rfl 107 (.tmp 8) (.tmp 14) rfl wr.heap.size 0 (vl u).toArray rfl rfl HT2.out HI2.out (vl_all u) ?_))
      refine forget_wp (fun W => Hid (Boxed w W w.heap.size (w.heap.size + 1) r) ∧ Hid (At W wr.heap.size 0 u)) ⟨Lib.hid ?_, Lib.hid (at_setCells _ _ _ _ HN2.out.there)⟩ ?_
      · have h1 := HR.out.next HN2.out.below
        exact ⟨below_setCells _ hso _ _ _ h1.below, h1.lo, h1.ne, h1.at'.apart _ (Or.inl (fun e => HG.out.1 e.symm)), World.there_setCells h1.there _ _ _, World.there_setCells h1.res _ _ _⟩
      rintro W3 ⟨HR3, HU3⟩
      clear HN2 HT2 HR
      have HRM : Hid (Lin.Md p r) := Lib.hid HRE.out.md
      have HIR := Lib.hid (Try.infoVl r)
      obtain ⟨hd40, _, _⟩ := ld_lt HUW.out (by rw [HUE.out]; exact HL.out.ne (List.getElem_mem hlt))
      have HNE : Hid (u ≠ Lin.zv) := Lib.hid (by rw [HUE.out]; exact HL.out.ne (List.getElem_mem hlt))
      simp only [Act.put, List.setIfInBounds_toArray, List.set_cons_zero, List.set_cons_succ]
      obtain ⟨d, hd⟩ : ∃ d, d = Lin.ld u := ⟨_, rfl⟩
      have HD := Lib.hid hd
      rw [← hd] at hd40
      clear hd
      obtain ⟨f, hf⟩ : ∃ f, f = r d := ⟨_, rfl⟩
      have HF := Lib.hid hf
      have hfb := HRM.out d
      rw [← hf] at hfb
      clear hf
      have HRE2 : Hid (Lin.Rest p L v (k + 1) (Lin.add p r (-f) u)) := Lib.hid (by rw [HF.out, HD.out, HUE.out]; exact HRE.out.step (by omega) HL.out hlt)
      have HRW2 : Hid (Lin.Wd 40 (Lin.add p r (-f) u)) := Lib.hid (Lin.add_wd _ HRW.out HUW.out)
      have S0 : At W3 w.heap.size 0 r ∧ At W3 wr.heap.size 0 u ∧ Hid (Boxed w W3 w.heap.size (w.heap.size + 1) r) := ⟨HR3.out.at', HU3.out, HR3⟩
      have hcellS : ∀ W, (At W w.heap.size 0 r ∧ At W wr.heap.size 0 u ∧ Hid (Boxed w W w.heap.size (w.heap.size + 1) r)) → W.cell? ⟨w.heap.size, d, none⟩ = some (.int .i64 f) := fun W h => by rw [HF.out]; have := h.1.cell hd40; rwa [Nat.zero_add] at this
      have HT5 : Hid (∀ W, Boxed w W w.heap.size (w.heap.size + 1) r → W.there w.heap.size 0 (vl (Lin.add p r (-f) u)).toArray.size) := Lib.hid (fun W h => by have := h.there; simpa [vl_length] using this)
      have HI5 : Hid ((Try.prog.info? 107).map (·.size) = some (vl (Lin.add p r (-f) u)).toArray.size) := Lib.hid (by have := Try.infoVl (Lin.add p r (-f) u); simpa using this)
      refine wp_region_last (fun W => At W w.heap.size 0 r ∧ At W wr.heap.size 0 u ∧ Hid (Boxed w W w.heap.size (w.heap.size + 1) r)) 8 (by kernel_rfl) rfl (by kernel_rfl) ?_
      have S1 : At W3.drew w.heap.size 0 r ∧ At W3.drew wr.heap.size 0 u ∧ Hid (Boxed w W3.drew w.heap.size (w.heap.size + 1) r) := ⟨S0.1.later (Below.refl _ _).drew, S0.2.1.later (Below.refl _ _).drew, Lib.hid (S0.2.2.out.next (Below.refl _ _).drew)⟩
      refine held_take (i := 0) (v := .int .i64 p) (some 15) rfl rfl (by kernel_rfl) (by kernel_rfl) (by kernel_rfl) (fun _ _ _ h => h) (yieldsIf_move (by kernel_rfl) rfl (by kernel_rfl)) S1 ?_
      refine held_take (i := 1) (v := .agg (vl r).toArray) (some 16) rfl rfl (by kernel_rfl) (by kernel_rfl) (by kernel_rfl) (fun _ _ _ h => h) (yieldsIf_load_mid (by kernel_rfl) 107 (.tmp 4) (by kernel_rfl) w.heap.size 0 (by kernel_rfl) (vl r) _ (fun W h => h.1) Try.underlyingV rfl HIR.out) S1 ?_
      refine held_take (i := 2) (v := .agg (vl u).toArray) (some 17) rfl rfl (by kernel_rfl) (by kernel_rfl) (by kernel_rfl) (fun _ _ _ h => h) (yieldsIf_load_mid (by kernel_rfl) 107 (.tmp 8) (by kernel_rfl) wr.heap.size 0 (by kernel_rfl) (vl u) _ (fun W h => h.2.1) Try.underlyingV rfl HI.out) S1 ?_
      refine held_take (i := 6) (v := .agg (vl u).toArray) (some 21) rfl rfl (by kernel_rfl) (by kernel_rfl) (by kernel_rfl) (fun _ _ _ h => h) (yieldsIf_load_mid (by kernel_rfl) 107 (.tmp 8) (by kernel_rfl) wr.heap.size 0 (by kernel_rfl) (vl u) _ (fun W h => h.2.1) Try.underlyingV rfl HI.out) S1 ?_
      refine held_enter (i := 3) (some 18) (f := 118) (args := #[vv u]) (by kernel_rfl) rfl rfl rfl (by kernel_rfl) (leadOf_any u _ HUW.out HNE.out) ?_ (fun c w' h => by cases h.1) (fun w' h => by cases h.1)
      rw [← HD.out]
      rintro e4 W4 ⟨he4, hb4⟩
      injection he4 with he4
      subst he4
      have S4 : At W4 w.heap.size 0 r ∧ At W4 wr.heap.size 0 u ∧ Hid (Boxed w W4 w.heap.size (w.heap.size + 1) r) := ⟨S1.1.later hb4, S1.2.1.later hb4, Lib.hid (S1.2.2.out.next hb4)⟩
      refine ⟨S4, ?_⟩
      clear hb4 S0 S1
      refine held_take (i := 4) (v := .pointer (some ⟨w.heap.size, d, none⟩)) (some 19) rfl rfl (by kernel_rfl) (by kernel_rfl) (by kernel_rfl) (fun _ _ _ h => h) (yieldsIf_index (by kernel_rfl) rfl (by kernel_rfl) (by kernel_rfl) (hindexV w.heap.size hd40)) S4 ?_
      refine held_take (i := 5) (v := .int .i64 f) (some 20) rfl rfl (by kernel_rfl) (by kernel_rfl) (by kernel_rfl) (fun _ _ _ h => h) (yieldsIf_cell (by kernel_rfl) rfl (by kernel_rfl) (fun W h => hload W (hcellS W h))) S4 ?_
      refine held_enter (i := 7) (some 22) (f := 117) (args := #[.int .i64 p, vv r, .int .i64 f, vv u]) (by kernel_rfl) rfl rfl rfl (by kernel_rfl) (minusMultiple_any p f r u _ HP.out hfb.1 hfb.2 HRM.out HRW.out HUM.out HUW.out) ?_ (fun c w' h => by cases h.1) (fun w' h => by cases h.1)
      rintro e5 W5 ⟨he5, hb5⟩
      injection he5 with he5
      subst he5
      have S5 : At W5 w.heap.size 0 r ∧ At W5 wr.heap.size 0 u ∧ Hid (Boxed w W5 w.heap.size (w.heap.size + 1) r) := ⟨S4.1.later hb5, S4.2.1.later hb5, Lib.hid (S4.2.2.out.next hb5)⟩
      refine ⟨S5, ?_⟩
      clear hb5 S4
      refine held_none (i := 8) (v := .bool false) rfl rfl (by kernel_rfl) (by kernel_rfl) (by kernel_rfl) (fun _ _ _ h => h) (yieldsIf_move (by kernel_rfl) rfl (by kernel_rfl)) S5 ?_
      have HR6 := Lib.hid (S5.2.2.out.put (Lin.add p r (-f) u))
      refine wpAnyH_done (by kernel_rfl) (lastQ_store rfl (by kernel_rfl) (by kernel_rfl) 107 (.tmp 4) (.tmp 22) (by kernel_rfl) w.heap.size 0 (vl (Lin.add p r (-f) u)).toArray (by kernel_rfl) (by kernel_rfl) (HT5.out _ S5.2.2.out) HI5.out (vl_all _) ?_) _
      simp only [Act.put, List.setIfInBounds_toArray, List.set_cons_zero, List.set_cons_succ]
      obtain ⟨W6, hW6⟩ : ∃ W6, W6 = W5.setCells w.heap.size 0 (vl (Lin.add p r (-f) u)) := ⟨_, rfl⟩
      rw [← hW6] at HR6 ⊢
      clear hW6 S5 hcellS
      go_wp2
      go_roundw
      case rel => exact ⟨k + 1, _, by omega, by go_num, HR6, HRE2, HRW2⟩
      case measure => simp [intOf]; omega
    · have hkk : Hid (k = L.length) := Lib.hid (by omega)
      have HI2 := Lib.hid (Try.infoVl r)
      have HSC : Hid (At (wr.setCells (w.heap.size + 1) 0 (vl r)) (w.heap.size + 1) 0 r) := Lib.hid (at_setCells _ _ _ _ HR.out.res)
      have HSB : Hid (Below w.heap.size w (wr.setCells (w.heap.size + 1) 0 (vl r))) := Lib.hid (below_setCells _ (by omega) _ _ _ HR.out.below)
      have HT : Hid (wr.there (w.heap.size + 1) 0 (vl r).toArray.size) := Lib.hid (by have := HR.out.res; simpa [vl_length] using this)
      have HI3 : Hid ((Try.prog.info? 107).map (·.size) = some (vl r).toArray.size) := Lib.hid (by have := HI2.out; simpa using this)
      go_wp2_with (first | (with_reducible refine wpList_load_mid rfl 107 (.tmp 4) rfl w.heap.size 0 rfl (vl r) _ HR.out.at'.range Try.underlyingV rfl HI2.out ?_) | (with_reducible refine wpList_store_mid rfl 107 (.tmp 6) (.tmp 24) rfl (w.heap.size + 1) 0 (vl r).toArray rfl rfl HT.out HI3.out (vl_all r) ?_))
      exact bodyPost_ret (v := vv r) (results_cell_at HRES.out _ _ (w.heap.size + 1) r _ rfl HSC.out Try.underlyingV rfl HI2.out) rfl ⟨r, rfl, HSB.out, by rw [← hkk.out]; exact HRE.out, HRW.out⟩
end Go.Proofs.Ytlbalcckjokeiaa
