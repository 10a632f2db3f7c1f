/-
  impl.unitLines by its contract.
-/
import Derived.Test.YtlbalcckjokeiaaVn
namespace Go.Proofs.Ytlbalcckjokeiaa
open Go.RowKit

def VsR (P : List Lin.V → Prop) (w : World) (e : Ending) (w' : World) : Prop := ∃ s L, e = .returned s ∧ Below w.heap.size w w' ∧ Ow w.heap.size w' s L ∧ P L

theorem NewV.put {w W : World} (h : NewV w W) (v : Lin.V) : Below w.heap.size w (W.setCells w.heap.size 0 (vl v)) ∧ At (W.setCells w.heap.size 0 (vl v)) w.heap.size 0 v ∧ (W.setCells w.heap.size 0 (vl v)).heap.size = w.heap.size + 1 := by
  refine ⟨below_setCells _ (Nat.le_refl _) _ _ _ h.below, at_setCells _ _ _ _ h.there, ?_⟩
  have key : ∀ (vs : List Value) (o : Nat) (W : World), (W.setCells w.heap.size o vs).heap.size = W.heap.size := by
    intro vs
    induction vs with
    | nil => intro o W; rfl
    | cons x vs ih => intro o W; rw [World.setCells, ih]; simp
  rw [key, h.size]
theorem At.grown {w w' : World} {b o : Nat} {v : Lin.V} {row : Option Nat} (h : At w b o v) (hg : w.grownBy w' row) (hne : some b ≠ row) : At w' b o v := fun j u hu => by
  rw [World.cell?_of_block (w := w) (a := ⟨b, o + j, none⟩) (hg.block b h.lt hne)]
  exact h j u hu
theorem Ow.grown {base : Nat} {w w' : World} {s : Value} {L : List Lin.V} {row : Option Nat} (h : Ow base w s L) (hg : w.grownBy w' row) (hne : s.ownBlock = none ∨ s.ownBlock ≠ row) : Ow base w' s L := by
  refine ⟨h.1, ?_⟩
  rcases h.2 with h2 | ⟨g, cap, cur, hv, hgb, hh, r⟩
  · exact Or.inl h2
  · refine Or.inr ⟨g, cap, cur, hv, hgb, ?_, r⟩
    rw [hg.block g (Array.getElem?_eq_some_iff.1 hh).1 (by
      rw [hv] at hne
      simpa [Value.ownBlock] using hne)]
    exact hh
/-- The map's block is no row of vectors. -/
theorem seen_apart {w : World} {b n base : Nat} {M L : List Lin.V} {s : Value} (h : Seen w b n M) (ho : Ow base w s L) : some b ≠ s.ownBlock := by
  obtain ⟨D, ⟨es, clock, h1, _⟩, _⟩ := h
  rcases ho.2 with ⟨rfl, _⟩ | ⟨g, cap, cur, rfl, _, hh, _⟩
  · simp [Value.ownBlock]
  · intro e
    simp [Value.ownBlock] at e
    subst e
    rw [h1] at hh
    cases hh

set_option maxHeartbeats 3200000 in
set_option maxRecDepth 100000 in
theorem unitLines_any (p : Int) (s : Value) (L : List Lin.V) (w : World) (hp : IsP p) (hs : Vs 0 w s L) (hLm : ∀ u ∈ L, Lin.Md p u) (hLw : ∀ u ∈ L, Lin.Wd 40 u) (hl : L.length ≤ 1048576) :
    Calls Try.prog 116 #[.int .i64 p, s] w (VsR (fun M => Lin.Lines p L M ∧ M.length ≤ L.length) w) := by
  have HP := Lib.hid hp
  have HS := Lib.hid hs
  have HLM := Lib.hid hLm
  have HLW := Lib.hid hLw
  obtain ⟨ad, cap, rfl⟩ := Vs.shape hs
  have hp7 := hp.hi7
  have hp1 := hp.lo1
  have hmm := @run_makeMap Try.prog
  clear hp hs hLm hLw
  go_enter Try.func116, Try.ntmps116
  go_wp2
  clear hmm
  have HSE0 := Lib.hid (Seen.made w)
  have HB0 := Lib.hid (below_alloc1 w (.map #[] 0))
  go_loopw [5, 13] (fun sv i wr => ∃ (k : Nat) (M : List Lin.V), k ≤ L.length ∧ i = .int .i64 k ∧ Hid (Below w.heap.size w wr) ∧ Hid (Ow w.heap.size wr sv M) ∧ Hid (Seen wr w.heap.size k M) ∧ Hid (Lin.Lines p (L.take k) M ∧ M.length ≤ k)) (fun _ i _ => L.length - (intOf i).toNat)
  case atStart => exact ⟨0, [], Nat.zero_le _, rfl, HB0, Lib.hid (Ow.nil _ _), HSE0, Lib.hid ⟨Lin.Lines.nil p, by simp⟩⟩
  case round =>
    obtain ⟨k, M, hk, rfl, HB, HO, HSE, HL⟩ := hrel
    by_cases hlt : k < L.length
    · refine Vs.cases HS.out (fun _ _ hx _ => absurd hlt (by simp [hx])) (fun b o cap2 hv _ _ hc => ?_)
      obtain ⟨rfl, rfl⟩ : ad = some ⟨b, o, none⟩ ∧ cap = cap2 := by simpa using hv
      obtain ⟨v, hve⟩ : ∃ v, v = L[k] := ⟨_, rfl⟩
      have HV : Hid (At wr b (o + k * 40) v) := Lib.hid (by rw [hve]; exact (hc k hlt).below HB.out (hc k hlt).lt)
      have HI := Lib.hid (Try.infoVl v)
      have HI2 : Hid ((Try.prog.info? 107).map (·.size) = some (vl v).toArray.size) := Lib.hid (by have := HI.out; simpa using this)
      have HVM : Hid (Lin.Md p v) := Lib.hid (by rw [hve]; exact HLM.out _ (List.getElem_mem hlt))
      have HVW : Hid (Lin.Wd 40 v) := Lib.hid (by rw [hve]; exact HLW.out _ (List.getElem_mem hlt))
      have HTK : Hid (L.take (k + 1) = L.take k ++ [v]) := Lib.hid (by rw [hve]; exact List.take_succ_eq_append_getElem hlt)
      have HTM : Hid (∀ u ∈ L.take k, Lin.Md p u) := Lib.hid (fun u hu => HLM.out u (List.mem_of_mem_take hu))
      obtain ⟨ado, capo, rfl⟩ := HO.out.shape
      have hsz : w.heap.size ≤ wr.heap.size := HB.out.size
      have hlt2 : w.heap.size < wr.heap.size := HSE.out.lt
      clear hv hc hve
      by_cases hz : v = Lin.zv
      · subst hz
        have heq := heq_yes
        go_wp2_with (first | (with_reducible refine wpList_load_mid rfl 107 (.tmp 15) rfl b (o + k * 40) rfl (vl Lin.zv) _ HV.out.range Try.underlyingV rfl HI.out ?_) | (with_reducible refine wpList_allocV rfl (some 8) rfl rfl ?_; intro W2 hn2; have HN2 := Lib.hid hn2; have HT2 : Hid (W2.there wr.heap.size 0 (vl Lin.zv).toArray.size) := (Lib.hid (by have := hn2.there; simpa [vl_length] using this)); clear hn2) | (with_reducible refine wpList_store_mid rfl 107 (.tmp 8) (.tmp 16) rfl wr.heap.size 0 (vl Lin.zv).toArray rfl rfl HT2.out HI2.out (vl_all _) ?_) | (with_reducible refine wpList_load_mid rfl 107 (.tmp 8) rfl wr.heap.size 0 rfl (vl Lin.zv) _ (at_setCells _ _ _ _ HN2.out.there).range Try.underlyingV rfl HI.out ?_) | (with_reducible refine wpList_buildZ rfl (some 18) rfl rfl ?_))
        have HP2 := Lib.hid (HN2.out.put Lin.zv)
        go_roundw
        case rel => exact ⟨k + 1, M, by omega, by go_num, Lib.hid (HB.out.trans (HP2.out.1.mono hsz)), Lib.hid (HO.out.below HP2.out.1), Lib.hid ((HSE.out.below HP2.out.1).more (Nat.le_succ _) (fun _ h => h)), Lib.hid ⟨by rw [HTK.out]; exact HL.out.1.skip (by omega) HTM.out .zero, by have := HL.out.2; omega⟩⟩
        case measure => simp [intOf]; omega
      · have heq := heq_no HVW.out hz
        have HZ := Lib.hid hz
        clear hz
        go_wp2_with (first | (with_reducible refine wpList_load_mid rfl 107 (.tmp 15) rfl b (o + k * 40) rfl (vl v) _ HV.out.range Try.underlyingV rfl HI.out ?_) | (with_reducible refine wpList_allocV rfl (some 8) rfl rfl ?_; intro W2 hn2; have HN2 := Lib.hid hn2; have HT2 : Hid (W2.there wr.heap.size 0 (vl v).toArray.size) := (Lib.hid (by have := hn2.there; simpa [vl_length] using this)); clear hn2) | (with_reducible refine wpList_store_mid rfl 107 (.tmp 8) (.tmp 16) rfl wr.heap.size 0 (vl v).toArray rfl rfl HT2.out HI2.out (vl_all _) ?_) | (with_reducible refine wpList_load_mid rfl 107 (.tmp 8) rfl wr.heap.size 0 rfl (vl v) _ (at_setCells _ _ _ _ HN2.out.there).range Try.underlyingV rfl HI.out ?_) | (with_reducible refine wpList_buildZ rfl (some 18) rfl rfl ?_))
        have HP2 := Lib.hid (HN2.out.put v)
        clear heq
        refine (unitLead_any p v _ HP.out HVM.out HVW.out HZ.out).mono ?_
        rintro e W3 ⟨u, rfl, hb3, hUU, hUW⟩
        have HB3 := Lib.hid (HP2.out.1.trans (hb3.mono (by rw [HP2.out.2.2]; omega)))
        have HUU := Lib.hid hUU
        have HUW := Lib.hid hUW
        have HI3 := Lib.hid (Try.infoVl u)
        have HI4 : Hid ((Try.prog.info? 107).map (·.size) = some (vl u).toArray.size) := Lib.hid (by have := HI3.out; simpa using this)
        have hu7 : Hid (∀ i, 0 ≤ u i ∧ u i ≤ 7) := Lib.hid (fun i => by have := hUU.md i; omega)
        have hs3 : wr.heap.size ≤ W3.heap.size := HB3.out.size
        clear hb3 hUU hUW
        unfold vv
        go_upto_region 8 with (first | (with_reducible refine wpList_allocV rfl (some 9) rfl rfl ?_; intro W4 hn4; have HN4 := Lib.hid hn4; have HT4 : Hid (W4.there W3.heap.size 0 (vl u).toArray.size) := (Lib.hid (by have := hn4.there; simpa [vl_length] using this)); clear hn4) | (with_reducible refine wpList_store_mid rfl 107 (.tmp 9) (.tmp 22) rfl W3.heap.size 0 (vl u).toArray rfl rfl HT4.out HI4.out (vl_all _) ?_))
        have HP4 := Lib.hid (HN4.out.put u)
        refine forget_wp (fun W => Hid (Below wr.heap.size wr W ∧ At W W3.heap.size 0 u ∧ W.heap.size = W3.heap.size + 1)) (Lib.hid ⟨HB3.out.trans (HP4.out.1.mono hs3), HP4.out.2.1, HP4.out.2.2⟩) ?_
        intro W5 HB5
        clear HP4 HN4 HT4 HN2 HT2 HP2
        have HS5 := Lib.hid (HSE.out.below HB5.out.1)
        have HO5 := Lib.hid (HO.out.below HB5.out.1)
        have hne : Hid (some W3.heap.size ≠ some w.heap.size) := Lib.hid (fun e => by injection e with e; omega)
        have hmax : Hid (k < maxLen) := Lib.hid (by unfold maxLen; omega)
        have hapart := Lib.hid (seen_apart HS5.out HO5.out)
        have hml : Hid (M.length ≤ 1048576) := Lib.hid (by have := HL.out.2; omega)
        have hs5 : w.heap.size ≤ W5.heap.size := by have := HB5.out.1.size; omega
        go_wp2_with (first | (with_reducible refine wpList_load_mid rfl 107 (.tmp 9) rfl W3.heap.size 0 rfl (vl u) _ HB5.out.2.1.range Try.underlyingV rfl HI3.out ?_) | (with_reducible refine wpList_lookup_seen rfl (.tmp 23) (.tmp 24) rfl w.heap.size k M rfl HS5.out u rfl hu7.out ?_; intro rr hrr; have HRR := Lib.hid hrr; clear hrr; cases rr) | (with_reducible refine wpList_update_seen rfl rfl (.tmp 27) (.tmp 28) rfl w.heap.size k M rfl HS5.out hmax.out u rfl hu7.out ?_; intro W6 hs6 hg6; have HS6 := Lib.hid hs6; have HG6 := Lib.hid hg6; have HA6 := Lib.hid (HB5.out.2.1.grown hg6 hne.out); have HO6 := Lib.hid (HO5.out.grown hg6 (Or.inr hapart.out.symm)); clear hs6 hg6) | (with_reducible refine wpList_load_mid rfl 107 (.tmp 9) rfl W3.heap.size 0 rfl (vl u) _ HA6.out.range Try.underlyingV rfl HI3.out ?_) | (with_reducible refine wpList_oneV rfl (some 31) rfl (.tmp 30) rfl u rfl ?_; intro W7 hn7; have HN7 := Lib.hid hn7; have HZ7 : Hid (w.heap.size ≤ W7.heap.size) := (Lib.hid (by have := HG6.out.size; have := hn7.size; omega)); have HO7 := Lib.hid (HO6.out.below hn7.below); clear hn7) | (at_builtin; with_reducible refine wpList_appendV rfl (some 32) rfl (.tmp 29) (.tmp 31) rfl w.heap.size (.slice ado M.length capo) M rfl HO7.out W6.heap.size 1 u rfl HN7.out.at' hml.out HZ7.out ?_; intro s8 W8 ho8 hg8; have HO8 := Lib.hid ho8; have HG8 := Lib.hid hg8; clear ho8 hg8))
        · have HS7 := Lib.hid (HS6.out.below HN7.out.below)
          have hap8 := Lib.hid (seen_apart HS7.out HO7.out)
          have HS8 : Hid (Seen W8 w.heap.size (k + 1) (M ++ [u])) := Lib.hid (HS7.out.block (HG8.out.block _ HS7.out.lt hap8.out))
          have HB7 : Hid (Below w.heap.size w W7) := Lib.hid (((HB.out.trans (HB5.out.1.mono hsz)).grown HG6.out (by omega) (fun g hg => by injection hg with hg; omega)).trans (HN7.out.below.mono (by have := HG6.out.size; omega)))
          have HB8 : Hid (Below w.heap.size w W8) := Lib.hid (HB7.out.grown HG8.out (by have := HB7.out.size; omega) (fun g hg => ((HO7.out.lt) g hg).1))
          go_roundw
          case rel => exact ⟨k + 1, M ++ [u], by omega, by go_num, HB8, HO8, HS8, Lib.hid ⟨by rw [HTK.out]; exact HL.out.1.add (by omega) HTM.out HVM.out HUU.out HUW.out, by have := HL.out.2; simp; omega⟩⟩
          case measure => simp [intOf]; omega
        · have HIN : Hid (u ∈ M) := Lib.hid (by
            obtain ⟨x, hx, e⟩ := HRR.out rfl
            rw [← vv_inj (HL.out.1.wd x hx) HUW.out e]
            exact hx)
          go_roundw
          case rel => exact ⟨k + 1, M, by omega, by go_num, Lib.hid (HB.out.trans (HB5.out.1.mono hsz)), HO5, Lib.hid (HS5.out.more (Nat.le_succ _) (fun _ h => h)), Lib.hid ⟨by rw [HTK.out]; exact HL.out.1.skip (by omega) HTM.out (HUU.out.inside (by omega) HIN.out), by have := HL.out.2; omega⟩⟩
          case measure => simp [intOf]; omega
    · have hkk : Hid (L.take k = L) := Lib.hid (List.take_of_length_le (by omega))
      obtain ⟨ado, capo, rfl⟩ := HO.out.shape
      go_wp2
      go_ret
      exact ⟨_, M, rfl, HB.out, HO.out, by rw [← hkk.out]; simpa [hkk.out] using HL.out.1, by have := HL.out.2; omega⟩
end Go.Proofs.Ytlbalcckjokeiaa
