/-
  What annihilates a list of vectors: impl.annihilator by its contract.
-/
import Derived.Test.YtlbalcckjokeiaaSpAt
import Derived.Test.YtlbalcckjokeiaaReg2
namespace Go.Proofs.Ytlbalcckjokeiaa
open Go.RowKit

def bl : List Value := List.replicate 40 (.bool false)
theorem bl_length : bl.length = 40 := by simp [bl]
set_option maxRecDepth 100000 in
theorem allocB_run (ρ : Operand → Value) (o : Oper) (w : World) : (execOp ρ { o with op := .alloc 121 }).run Try.prog w = .ok (.value (.pointer (some ⟨w.heap.size, 0, none⟩))) (w.alloc (.cells bl.toArray 121)) := by kernel_rfl
theorem rowIs_bl (w : World) : (w.alloc (.cells bl.toArray 121)).rowIs w.heap.size 121 40 (fun _ => .bool false) := by
  have h := World.rowIs_alloc w bl.toArray 121 (fun _ => .bool false) (fun i hi => by
    have hi' : i < 40 := by simpa [bl] using hi
    rw [List.getElem?_toArray, bl, List.getElem?_replicate, if_pos hi'])
  simpa [bl] using h
theorem wpList_allocB {ops : Array Oper} {rest : List Oper} {o : Oper} {a : Act} {w : World} {Q : Exit → Act → World → Prop} (hg : o.guard = none) (dst : Option Tmp) (hdst : o.dst = dst) (ho : o.op = .alloc 121)
    (h : ∀ W, Below w.heap.size w W → W.heap.size = w.heap.size + 1 → W.rowIs w.heap.size 121 40 (fun _ => .bool false) → wpList Try.prog ops Q rest (a.put dst (.pointer (some ⟨w.heap.size, 0, none⟩))) W) : wpList Try.prog ops Q (o :: rest) a w := by
  refine Great.wpList_runTo hg dst hdst (.pointer (some ⟨w.heap.size, 0, none⟩)) (w.alloc (.cells bl.toArray 121)) ?_ (h _ (below_alloc1 _ _) (by simp) (rowIs_bl w))
  have := allocB_run a.eval o w
  rw [← ho] at this
  exact this
theorem hindexB (b : Nat) {k : Nat} (hk : k < 40) (w : World) : (Instr.indexAt 121 (.pointer (some ⟨b, 0, none⟩)) (.int .i64 k)).run Try.prog w = .ok (.pointer (some ⟨b, k, none⟩)) w := by
  have h2 : (0 : Int) ≤ (k : Int) := by omega
  have h3 : (k : Int) < 40 := by omega
  have h4 : ¬ (40 : Int) ≤ (k : Int) := by omega
  go_simp
theorem hremI {a b : Int} (h0 : 0 ≤ a) (h1 : 0 < b) (h2 : b ≤ 1000) (w : World) : (binOp .rem 2 (.int .i64 a) (.int .i64 b)).run Try.prog w = .ok (.int .i64 (a % b)) w := by
  have hb : ¬ b = 0 := by omega
  have hb1 : ¬ b = -1 := by omega
  go_simp
  rw [Int.tmod_eq_emod_of_nonneg h0]
theorem hstoreI (w : World) {b o : Nat} {u : Value} (x : Int) (hc : w.cell? ⟨b, o, none⟩ = some u) (hf : w.frozen? ⟨b, o, none⟩ = false) : (Instr.storeAt 2 (.pointer (some ⟨b, o, none⟩)) (.int .i64 x)).run Try.prog w = .ok () (w.setCell ⟨b, o, none⟩ (.int .i64 x)) := by go_simp
section
variable {md : Region.Mode} {ops : Array Oper} {Q : Exit → Act → World → Prop} {S : World → Prop}
/-- A store of one number. -/
theorem held_storeI {i : Nat} {oi : Oper} {fuel : Nat} {listed : Array Bool} {a : Act} {w : World} (hr : Region.ready md ops listed = [i]) (hi : ops[i]? = some oi) (hg : oi.guard = none) (hd : oi.dst = none)
    (x y : Operand) (ho : oi.op = .store 2 x y) (b o : Nat) (z : Int) (u : Value) (hx : a.eval x = .pointer (some ⟨b, o, none⟩)) (hy : a.eval y = .int .i64 z) (hc : w.cell? ⟨b, o, none⟩ = some u) (hf : w.frozen? ⟨b, o, none⟩ = false)
    (h : S (w.setCell ⟨b, o, none⟩ (.int .i64 z)) ∧ wpAnyH Try.prog md ops Q S fuel (listed.setIfInBounds i true) a (w.setCell ⟨b, o, none⟩ (.int .i64 z))) : wpAnyH Try.prog md ops Q S (fuel + 1) listed a w :=
  held_call hr hi hg (by
    have e : a.put oi.dst undef = a := by rw [hd]; rfl
    rw [← e] at h
    unfold Oper.wp execOp
    simp only [ho, hx, hy, Sem.run_bind, Sem.run_pure, hstoreI w z hc hf, Result.andThen_ok]
    exact h)
end

open Classical in
/-- Whether a place is a lead of the first k rows. -/
noncomputable def isLd (R : List Lin.V) (k i : Nat) : Bool := decide (∃ w ∈ R.take k, Lin.ld w = i)
theorem isLd_true {R : List Lin.V} {i : Nat} (h : isLd R R.length i = true) : ¬ Lin.Free R i := fun hf => by
  obtain ⟨w, hw, e⟩ := of_decide_eq_true h
  rw [List.take_of_length_le (Nat.le_refl _)] at hw
  exact hf w hw e
theorem isLd_false {R : List Lin.V} {i : Nat} (h : isLd R R.length i = false) : Lin.Free R i := fun w hw e => by
  have := of_decide_eq_false h
  exact this ⟨w, by rw [List.take_of_length_le (Nat.le_refl _)]; exact hw, e⟩
theorem isLd_succ {R : List Lin.V} {k : Nat} (hk : k < R.length) (i : Nat) : isLd R (k + 1) i = if i = Lin.ld R[k] then true else isLd R k i := by
  unfold isLd
  rw [List.take_succ_eq_append_getElem hk]
  by_cases e : i = Lin.ld R[k]
  · rw [if_pos e]
    exact decide_eq_true ⟨R[k], List.mem_append_right _ (List.mem_singleton.2 rfl), e.symm⟩
  · rw [if_neg e]
    refine decide_eq_decide.2 ⟨fun ⟨w, hw, h⟩ => ?_, fun ⟨w, hw, h⟩ => ⟨w, List.mem_append_left _ hw, h⟩⟩
    rcases List.mem_append.1 hw with h1 | h1
    · exact ⟨w, h1, h⟩
    · rw [List.mem_singleton.1 h1] at h
      exact absurd h.symm e

/-- The solutions gathered from the places before f. -/
structure Sols (p : Int) (R : List Lin.V) (f : Nat) (L : List Lin.V) : Prop where
  all : ∀ g, g < f → Lin.Free R g → ∃ s ∈ L, Lin.Sol p R g s
  only : ∀ s ∈ L, ∃ g, g < f ∧ Lin.Free R g ∧ Lin.Sol p R g s
  len : L.length ≤ f
theorem Sols.nil (p : Int) (R : List Lin.V) : Sols p R 0 [] := ⟨fun g h => absurd h (Nat.not_lt_zero _), by simp, by simp⟩
theorem Sols.skip {p : Int} {R : List Lin.V} {f : Nat} {L : List Lin.V} (h : Sols p R f L) (hf : ¬ Lin.Free R f) : Sols p R (f + 1) L :=
  ⟨fun g hg hfr => by
    by_cases e : g = f
    · subst e; exact absurd hfr hf
    · exact h.all g (by omega) hfr, fun s hs => by obtain ⟨g, h1, h2⟩ := h.only s hs; exact ⟨g, by omega, h2⟩, by have := h.len; omega⟩
theorem Sols.add {p : Int} {R : List Lin.V} {f : Nat} {L : List Lin.V} (h : Sols p R f L) (hf : Lin.Free R f) {s : Lin.V} (hs : Lin.Sol p R f s) : Sols p R (f + 1) (L ++ [s]) :=
  ⟨fun g hg hfr => by
    by_cases e : g = f
    · subst e; exact ⟨s, by simp, hs⟩
    · obtain ⟨t, ht, h2⟩ := h.all g (by omega) hfr
      exact ⟨t, by simp [ht], h2⟩, fun t ht => by
    rcases List.mem_append.1 ht with h1 | h1
    · obtain ⟨g, h2, h3⟩ := h.only t h1; exact ⟨g, by omega, h3⟩
    · rw [List.mem_singleton.1 h1]; exact ⟨f, by omega, hf, hs⟩, by have := h.len; simp; omega⟩
theorem sol_wd {p : Int} {R : List Lin.V} {n f : Nat} {s : Lin.V} (hR : Lin.Red p R) (hw : ∀ u ∈ R, Lin.Wd n u) (hf : f < n) (h : Lin.Sol p R f s) : Lin.Wd n s := fun i hi => h.rest i (by omega) (fun w hww e => by
  have := (ld_ltn (hw w hww) (hR.ne hww)).1
  omega)
/-- A solution while it is made: k rows have been seen. -/
structure SolTo (p : Int) (R : List Lin.V) (f k : Nat) (s : Lin.V) : Prop where
  at1 : s f = 1
  lead : ∀ w ∈ R.take k, s (Lin.ld w) = (p - w f) % p
  rest : ∀ i, i ≠ f → (∀ w ∈ R.take k, Lin.ld w ≠ i) → s i = 0
theorem SolTo.start (p : Int) (R : List Lin.V) (f : Nat) : SolTo p R f 0 (fun i => if i = f then 1 else Lin.zv i) := ⟨by simp, by simp, fun i h _ => by simp [h, Lin.zv]⟩
theorem SolTo.step {p : Int} {R : List Lin.V} {f k : Nat} {s : Lin.V} (hR : Lin.Red p R) (hf : Lin.Free R f) (h : SolTo p R f k s) (hk : k < R.length) : SolTo p R f (k + 1) (fun i => if i = Lin.ld R[k] then (p - R[k] f) % p else s i) := by
  have hne : ∀ w ∈ R.take k, Lin.ld w ≠ Lin.ld R[k] := fun w hw e => by
    obtain ⟨j, hj, rfl⟩ := List.getElem_of_mem hw
    have hjk : j < k := by simp at hj; omega
    have := List.pairwise_iff_getElem.1 hR.inc j k (by omega) hk hjk
    rw [List.getElem_take] at e
    omega
  refine ⟨?_, fun w hw => ?_, fun i hi hn => ?_⟩
  · rw [if_neg (fun e => hf _ (List.getElem_mem hk) e.symm)]
    exact h.at1
  · rw [List.take_succ_eq_append_getElem hk] at hw
    rcases List.mem_append.1 hw with h1 | h1
    · rw [if_neg (hne w h1)]
      exact h.lead w h1
    · rw [List.mem_singleton.1 h1, if_pos rfl]
  · have hn2 := hn R[k] (by rw [List.take_succ_eq_append_getElem hk]; exact List.mem_append_right _ (List.mem_singleton.2 rfl))
    rw [if_neg (fun e => hn2 e.symm)]
    exact h.rest i hi (fun w hw => hn w (by rw [List.take_succ_eq_append_getElem hk]; exact List.mem_append_left _ hw))
theorem SolTo.done {p : Int} {R : List Lin.V} {f : Nat} {s : Lin.V} (h : SolTo p R f R.length s) : Lin.Sol p R f s := by
  have e : R.take R.length = R := List.take_of_length_le (Nat.le_refl _)
  exact ⟨h.at1, fun w hw => h.lead w (by rw [e]; exact hw), fun i hi hn => h.rest i hi (fun w hw => hn w (by rw [e] at hw; exact hw))⟩

set_option maxHeartbeats 12800000 in
set_option maxRecDepth 100000 in
theorem annihilator_any (p : Int) (n : Nat) (s : Value) (L : List Lin.V) (w : World) (hp : IsP p) (hs : Vs 0 w s L) (hLm : ∀ u ∈ L, Lin.Md p u) (hLw : ∀ u ∈ L, Lin.Wd n u) (hn : n ≤ 40) (hl : L.length ≤ 1048575) :
    Calls Try.prog 125 #[.int .i64 p, .int .i64 n, s] w (VsR (SpF p n (Lin.Ker p n L)) w) := by
  have HP := Lib.hid hp
  have hp7 := hp.hi7
  have hp1 := hp.lo1
  have HLM := Lib.hid hLm
  have HLW := Lib.hid hLw
  have HRED := Lib.hid (reducedList_any p s L w hp hs hLm (fun u hu => wd_wider (hLw u hu) hn) hl)
  clear hp hs hLm hLw
  go_enter Try.func125, Try.ntmps125
  go_wp2_with fail
  refine HRED.out.mono ?_
  rintro e w1 ⟨s1, R, rfl, hb1, ho1, hr1, hlr⟩
  have HB1 := Lib.hid hb1
  have HR := Lib.hid hr1
  have HVS := Lib.hid (ho1.vs.lower (Nat.zero_le _))
  have HRW : Hid (∀ u ∈ R, Lin.Wd n u) := Lib.hid (fun u hu => Lin.Sp.wd HLW.out ((hr1.eqv u).1 (Lin.Sp.mem hu (hr1.red.md u hu))))
  have hRn : R.length ≤ n := red_length hr1.red HRW.out
  obtain ⟨ads, caps, rfl⟩ := ho1.shape
  clear hb1 ho1 hr1 hlr HRED
  go_wp2_with (with_reducible refine wpList_allocB rfl (some 8) rfl rfl ?_; intro w2 hb2 hs2 hrow2; have HB2 := Lib.hid hb2; have HROW2 := Lib.hid hrow2; clear hb2 hrow2)
  go_wp2
  go_loopw [10, 21] (fun _ i wr => ∃ (k : Nat), k ≤ R.length ∧ i = .int .i64 k ∧ Hid (Below w1.heap.size w1 wr) ∧ Hid (wr.rowIs w1.heap.size 121 40 (fun i => .bool (isLd R k i)))) (fun _ i _ => R.length - (intOf i).toNat)
  case atStart => exact ⟨0, Nat.zero_le _, rfl, HB2, Lib.hid (HROW2.out.congr (fun i _ => by simp [isLd]))⟩
  case round =>
    clear HB2 HROW2
    obtain ⟨k, hk, rfl, HB, HROW⟩ := hrel
    obtain ⟨wx, hwx⟩ : ∃ wx : World, wx = wr := ⟨_, rfl⟩
    subst hwx
    by_cases hlt : k < R.length
    · refine Vs.cases (HVS.out.below HB.out) (fun _ _ hx _ => absurd hlt (by simp [hx])) (fun b o cap2 hv _ _ hc => ?_)
      obtain ⟨rfl, rfl⟩ : ads = some ⟨b, o, none⟩ ∧ caps = cap2 := by simpa using hv
      obtain ⟨u, hu⟩ : ∃ u, u = R[k] := ⟨_, rfl⟩
      have HVA : Hid (At wx b (o + k * 40) u) := Lib.hid (by rw [hu]; exact hc k hlt)
      have HI2V := Lib.hid (Try.infoVl u)
      have HIS : Hid ((Try.prog.info? 107).map (·.size) = some (vl u).toArray.size) := Lib.hid (by have := HI2V.out; simpa using this)
      have HUW : Hid (Lin.Wd 40 u) := Lib.hid (by rw [hu]; exact wd_wider (HRW.out _ (List.getElem_mem hlt)) hn)
      have HUN : Hid (u ≠ Lin.zv) := Lib.hid (by rw [hu]; exact HR.out.red.ne (List.getElem_mem hlt))
      obtain ⟨hd40, _, _⟩ := ld_lt HUW.out HUN.out
      obtain ⟨d, hd⟩ : ∃ d, d = Lin.ld u := ⟨_, rfl⟩
      have HD := Lib.hid hd
      have HUE := Lib.hid hu
      rw [← hd] at hd40
      have hsz : w1.heap.size ≤ wx.heap.size := HB.out.size
      clear hv hc hu hd
      go_upto_region 6 with (first | (with_reducible refine wpList_load_mid rfl 107 (.tmp 23) rfl b (o + k * 40) rfl (vl u) _ HVA.out.range Try.underlyingV rfl HI2V.out ?_) | (with_reducible refine wpList_allocV rfl (some 10) rfl rfl ?_; intro W2 hn2; have HN2 := Lib.hid hn2; have HT2 : Hid (W2.there wx.heap.size 0 (vl u).toArray.size) := (Lib.hid (by have := hn2.there; simpa [vl_length] using this)); clear hn2) | (with_reducible refine wpList_store_mid rfl 107 (.tmp 10) (.tmp 24) rfl wx.heap.size 0 (vl u).toArray rfl rfl HT2.out HIS.out (vl_all _) ?_))
      refine forget_wp (fun W => Hid (At W wx.heap.size 0 u ∧ Below wx.heap.size wx W)) (Lib.hid ?_) ?_
      · have hp2 := HN2.out.put u
        exact ⟨hp2.2.1, hp2.1⟩
      intro W3 HS3
      clear HN2 HT2 HVA HIS
      simp only [Act.put]
      go_wp2_with (with_reducible refine wpList_load_mid rfl 107 (.tmp 10) rfl wx.heap.size 0 rfl (vl u) _ HS3.out.1.range Try.underlyingV rfl HI2V.out ?_)
      refine (leadOf_any u _ HUW.out HUN.out).mono ?_
      rw [← HD.out]
      rintro e W4 ⟨rfl, hb4⟩
      have HB4 := Lib.hid ((HB.out.trans (HS3.out.2.mono hsz)).trans (hb4.mono (by have := HS3.out.2.size; omega)))
      have HROW4 := Lib.hid (rowIs_below (rowIs_below HROW.out HS3.out.2) hb4)
      have hcell := HROW4.out.cell hd40
      have hfz := HROW4.out.frozen d
      have hib := hindexB w1.heap.size hd40
      have HROW5 := Lib.hid ((HROW4.out.set d (.bool true)).congr (g := fun i => .bool (isLd R (k + 1) i)) (fun i _ => by
        rw [isLd_succ hlt, ← HUE.out, ← HD.out]
        by_cases e : i = d
        · simp [e]
        · simp [e]))
      have HB5 : Hid (Below w1.heap.size w1 (W4.setCell ⟨w1.heap.size, d, none⟩ (.bool true))) := Lib.hid (HB4.out.setCell (Nat.le_refl _) _)
      clear hb4 HS3 HROW4 HB4 HROW HB
      go_wp2
      go_roundw
      case rel => exact ⟨k + 1, by omega, by go_num, HB5, HROW5⟩
      case measure => simp [intOf]; omega
    · have hkk : Hid (k = R.length) := Lib.hid (by omega)
      have HROWL : Hid (wx.rowIs w1.heap.size 121 40 (fun i => .bool (isLd R R.length i))) := Lib.hid (by have := HROW.out; rwa [hkk.out] at this)
      have HVSL := Lib.hid (HVS.out.below HB.out)
      have hsL : w.heap.size ≤ wx.heap.size := by have := HB1.out.size; have := HB.out.size; omega
      have HBL := Lib.hid (HB1.out.trans (HB.out.mono HB1.out.size))
      obtain ⟨wl, hwl⟩ : ∃ wl : World, wl = wx := ⟨_, rfl⟩
      subst hwl
      clear HROW HB HVS HB1 hkk
      go_wp2
      go_loopw [11, 30] (fun sv i wr => ∃ (f : Nat) (SL : List Lin.V), f ≤ n ∧ i = .int .i64 f ∧ Hid (Below wl.heap.size wl wr) ∧ Hid (Ow wl.heap.size wr sv SL) ∧ Hid (Sols p R f SL)) (fun _ i _ => n - (intOf i).toNat)
      case atStart => exact ⟨0, [], Nat.zero_le _, rfl, Lib.hid (Below.refl _ _), Lib.hid (Ow.nil _ _), Lib.hid (Sols.nil p R)⟩
      case round =>
        obtain ⟨f, SL, hf, rfl, HB, HO, HSL⟩ := hrel
        obtain ⟨wx, hwx⟩ : ∃ wx : World, wx = wr := ⟨_, rfl⟩
        subst hwx
        obtain ⟨ado, capo, rfl⟩ := HO.out.shape
        have hsx : wl.heap.size ≤ wx.heap.size := HB.out.size
        by_cases hfn : f < n
        · have hf40 : f < 40 := by omega
          have hib := hindexB w1.heap.size hf40
          have hcell := (rowIs_below HROWL.out HB.out).cell hf40
          cases hfree : isLd R R.length f with
          | true =>
            rw [hfree] at hcell
            have HS2 := Lib.hid (HSL.out.skip (isLd_true hfree))
            clear hfree
            go_wp2
            go_roundw
            case rel => exact ⟨f + 1, SL, by omega, by go_num, HB, HO, HS2⟩
            case measure => simp [intOf]; omega
          | false =>
            rw [hfree] at hcell
            have HFR := Lib.hid (isLd_false hfree)
            have HI2V := Lib.hid (Try.infoVl Lin.zv)
            have HIS : Hid ((Try.prog.info? 107).map (·.size) = some (vl Lin.zv).toArray.size) := Lib.hid (by have := HI2V.out; simpa using this)
            clear hfree
            go_upto_region 14 with (first | (with_reducible refine wpList_buildZ rfl (some 36) rfl rfl ?_) | (with_reducible refine wpList_allocV rfl (some 13) rfl rfl ?_; intro W2 hn2; have HN2 := Lib.hid hn2; have HT2 : Hid (W2.there wx.heap.size 0 (vl Lin.zv).toArray.size) := (Lib.hid (by have := hn2.there; simpa [vl_length] using this)); clear hn2) | (with_reducible refine wpList_store_mid rfl 107 (.tmp 13) (.tmp 36) rfl wx.heap.size 0 (vl Lin.zv).toArray rfl rfl HT2.out HIS.out (vl_all _) ?_))
            refine forget_wp (fun W => Hid (At W wx.heap.size 0 Lin.zv ∧ W.there wx.heap.size 0 40 ∧ Below wx.heap.size wx W)) (Lib.hid ?_) ?_
            · have hp2 := HN2.out.put Lin.zv
              exact ⟨hp2.2.1, World.there_setCells HN2.out.there _ _ _, hp2.1⟩
            intro W3 HS3
            clear HN2 HT2 HI2V HIS hcell hib
            simp only [Act.put]
            have hc3 := HS3.out.1.cell hf40
            rw [Nat.zero_add] at hc3
            have hf3 := (HS3.out.2.1 f hf40).2
            rw [Nat.zero_add] at hf3
            have hiv := hindexV wx.heap.size hf40
            have hat4 := HS3.out.1.set hf40 1
            rw [Nat.zero_add] at hat4
            obtain ⟨v1, hv1⟩ : ∃ v1 : Lin.V, v1 = (fun i => if i = f then 1 else Lin.zv i) := ⟨_, rfl⟩
            rw [← hv1] at hat4
            have HST : Hid (SolTo p R f 0 v1) := Lib.hid (by rw [hv1]; exact SolTo.start p R f)
            have HN4 : Hid (Below wx.heap.size wx (W3.setCell ⟨wx.heap.size, f, none⟩ (.int .i64 1)) ∧ At (W3.setCell ⟨wx.heap.size, f, none⟩ (.int .i64 1)) wx.heap.size 0 v1 ∧ (W3.setCell ⟨wx.heap.size, f, none⟩ (.int .i64 1)).there wx.heap.size 0 40) := Lib.hid ⟨HS3.out.2.2.setCell (Nat.le_refl _) _, hat4, there_set HS3.out.2.1 _ _⟩
            clear hat4 hv1 HS3
            go_wp2
            clear hc3 hf3 hiv
            have HBW := Lib.hid (HB.out)
            obtain ⟨wo, hwo⟩ : ∃ wo : World, wo = wx := ⟨_, rfl⟩
            subst hwo
            go_loopw [15, 41] (fun _ i wr => ∃ (j : Nat) (v : Lin.V), j ≤ R.length ∧ i = .int .i64 j ∧ Hid (Below wo.heap.size wo wr) ∧ Hid (At wr wo.heap.size 0 v) ∧ Hid (wr.there wo.heap.size 0 40) ∧ Hid (SolTo p R f j v)) (fun _ i _ => R.length - (intOf i).toNat)
            case atStart => exact ⟨0, v1, Nat.zero_le _, rfl, Lib.hid HN4.out.1, Lib.hid HN4.out.2.1, Lib.hid HN4.out.2.2, HST⟩
            case round =>
              clear HN4 HST
              obtain ⟨j, v, hj, rfl, HBX, HAT, HTH, HSO⟩ := hrel
              obtain ⟨wx, hwx⟩ : ∃ wx : World, wx = wr := ⟨_, rfl⟩
              subst hwx
              have hsw : wo.heap.size ≤ wx.heap.size := HBX.out.size
              have hvlt : wo.heap.size < wx.heap.size := HAT.out.lt
              by_cases hltj : j < R.length
              · refine Vs.cases (HVSL.out.below (HB.out.trans (HBX.out.mono hsx))) (fun _ _ hx _ => absurd hltj (by simp [hx])) (fun b o cap2 hv _ _ hc => ?_)
                obtain ⟨rfl, rfl⟩ : ads = some ⟨b, o, none⟩ ∧ caps = cap2 := by simpa using hv
                obtain ⟨u, hu⟩ : ∃ u, u = R[j] := ⟨_, rfl⟩
                have HVA : Hid (At wx b (o + j * 40) u) := Lib.hid (by rw [hu]; exact hc j hltj)
                have HI2V := Lib.hid (Try.infoVl u)
                have HIS : Hid ((Try.prog.info? 107).map (·.size) = some (vl u).toArray.size) := Lib.hid (by have := HI2V.out; simpa using this)
                have HUW : Hid (Lin.Wd 40 u) := Lib.hid (by rw [hu]; exact wd_wider (HRW.out _ (List.getElem_mem hltj)) hn)
                have HUN : Hid (u ≠ Lin.zv) := Lib.hid (by rw [hu]; exact HR.out.red.ne (List.getElem_mem hltj))
                have HUM : Hid (Lin.Md p u) := Lib.hid (by rw [hu]; exact HR.out.red.md _ (List.getElem_mem hltj))
                obtain ⟨hd40, _, _⟩ := ld_lt HUW.out HUN.out
                obtain ⟨d, hd⟩ : ∃ d, d = Lin.ld u := ⟨_, rfl⟩
                have HD := Lib.hid hd
                have HUE := Lib.hid hu
                rw [← hd] at hd40
                obtain ⟨x, hx⟩ : ∃ x, x = u f := ⟨_, rfl⟩
                have hxb := HUM.out f
                rw [← hx] at hxb
                have HXE := Lib.hid hx
                obtain ⟨y, hy⟩ : ∃ y, y = (p - x) % p := ⟨_, rfl⟩
                have HYE := Lib.hid hy
                have hrem : ∀ w, (binOp .rem 2 (.int .i64 (p - x)) (.int .i64 p)).run Try.prog w = .ok (.int .i64 y) w := fun w => by rw [hy]; exact hremI (by omega) (by omega) (by omega) w
                have HLD := Lib.hid (leadOf_any u · HUW.out HUN.out)
                rw [← HD.out] at HLD
                have HSO2 : Hid (SolTo p R f (j + 1) (fun i => if i = d then y else v i)) := Lib.hid (by
                  have := HSO.out.step HR.out.red HFR.out hltj
                  rwa [← HUE.out, ← HD.out, ← HXE.out, ← HYE.out] at this)
                clear hv hc hu hd hx hy
                go_upto_region 18 with (first | (with_reducible refine wpList_load_mid rfl 107 (.tmp 43) rfl b (o + j * 40) rfl (vl u) _ HVA.out.range Try.underlyingV rfl HI2V.out ?_) | (with_reducible refine wpList_allocV rfl (some 15) rfl rfl ?_; intro W2 hn2; have HN2 := Lib.hid hn2; have HT2 : Hid (W2.there wx.heap.size 0 (vl u).toArray.size) := (Lib.hid (by have := hn2.there; simpa [vl_length] using this)); clear hn2) | (with_reducible refine wpList_store_mid rfl 107 (.tmp 15) (.tmp 44) rfl wx.heap.size 0 (vl u).toArray rfl rfl HT2.out HIS.out (vl_all _) ?_))
                refine forget_wp (fun W => Hid (At W wx.heap.size 0 u ∧ Below wx.heap.size wx W)) (Lib.hid ?_) ?_
                · have hp2 := HN2.out.put u
                  exact ⟨hp2.2.1, hp2.1⟩
                intro W3 HS3
                clear HN2 HT2 HVA HIS
                simp only [Act.put, List.setIfInBounds_toArray, List.set_cons_zero, List.set_cons_succ]
                have hcx : ∀ W, (At W wx.heap.size 0 u ∧ Below wo.heap.size wo W) → W.cell? ⟨wx.heap.size, f, none⟩ = some (.int .i64 x) := fun W h => by
                  have := h.1.cell hf40
                  rwa [Nat.zero_add, ← HXE.out] at this
                refine wp_region_held (S := fun W => At W wx.heap.size 0 u ∧ Below wo.heap.size wo W) (by kernel_rfl) ?_
                have hb3 : Below wx.heap.size wx W3.drew := HS3.out.2.drew
                have S0 : At W3.drew wx.heap.size 0 u ∧ Below wo.heap.size wo W3.drew := ⟨HS3.out.1, HBX.out.trans (hb3.mono hsw)⟩
                refine held_take (i := 0) (v := .agg (vl u).toArray) (some 45) rfl rfl (by kernel_rfl) (by kernel_rfl) (by kernel_rfl) (fun _ _ _ h => h) (yieldsIf_load_mid (by kernel_rfl) 107 (.tmp 15) (by kernel_rfl) wx.heap.size 0 (by kernel_rfl) (vl u) _ (fun W h => h.1) Try.underlyingV rfl HI2V.out) S0 ?_
                refine held_take (i := 2) (v := .int .i64 p) (some 47) rfl rfl (by kernel_rfl) (by kernel_rfl) (by kernel_rfl) (fun _ _ _ h => h) (yieldsIf_move (by kernel_rfl) rfl (by kernel_rfl)) S0 ?_
                refine held_take (i := 3) (v := .int .i64 (f : Int)) (some 48) rfl rfl (by kernel_rfl) (by kernel_rfl) (by kernel_rfl) (fun _ _ _ h => h) (yieldsIf_move (by kernel_rfl) rfl (by kernel_rfl)) S0 ?_
                refine held_take (i := 4) (v := .pointer (some ⟨wx.heap.size, f, none⟩)) (some 49) rfl rfl (by kernel_rfl) (by kernel_rfl) (by kernel_rfl) (fun _ _ _ h => h) (yieldsIf_index (by kernel_rfl) rfl (by kernel_rfl) (by kernel_rfl) (hindexV wx.heap.size hf40)) S0 ?_
                refine held_take (i := 5) (v := .int .i64 x) (some 50) rfl rfl (by kernel_rfl) (by kernel_rfl) (by kernel_rfl) (fun _ _ _ h => h) (yieldsIf_cell (by kernel_rfl) rfl (by kernel_rfl) (fun W h => hload W (hcx W h))) S0 ?_
                refine held_take (i := 6) (v := .int .i64 (p - x)) (some 51) rfl rfl (by kernel_rfl) (by kernel_rfl) (by kernel_rfl) (fun _ _ _ h => h) (yieldsIf_bin (by kernel_rfl) rfl (by kernel_rfl) (by kernel_rfl) (fun _ => rfl) (hsubI (by omega) (by omega))) S0 ?_
                refine held_take (i := 7) (v := .int .i64 p) (some 52) rfl rfl (by kernel_rfl) (by kernel_rfl) (by kernel_rfl) (fun _ _ _ h => h) (yieldsIf_move (by kernel_rfl) rfl (by kernel_rfl)) S0 ?_
                refine held_take (i := 8) (v := .int .i64 y) (some 53) rfl rfl (by kernel_rfl) (by kernel_rfl) (by kernel_rfl) (fun _ _ _ h => h) (yieldsIf_bin (by kernel_rfl) rfl (by kernel_rfl) (by kernel_rfl) (fun _ => rfl) hrem) S0 ?_
                refine held_enter (i := 1) (some 46) (f := 118) (args := #[vv u]) (by kernel_rfl) rfl rfl rfl (by kernel_rfl) (HLD.out _) ?_ (fun c w' h => by cases h.1) (fun w' h => by cases h.1)
                rintro e4 W4 ⟨he4, hb4⟩
                injection he4 with he4
                subst he4
                have hb34 : Below wx.heap.size wx W4 := hb3.trans (hb4.mono hb3.size)
                have S1 : At W4 wx.heap.size 0 u ∧ Below wo.heap.size wo W4 := ⟨S0.1.later hb4, HBX.out.trans (hb34.mono hsw)⟩
                refine ⟨S1, ?_⟩
                refine held_take (i := 9) (v := .pointer (some ⟨wo.heap.size, d, none⟩)) (some 54) rfl rfl (by kernel_rfl) (by kernel_rfl) (by kernel_rfl) (fun _ _ _ h => h) (yieldsIf_index (by kernel_rfl) rfl (by kernel_rfl) (by kernel_rfl) (hindexV wo.heap.size hd40)) S1 ?_
                have HAT4 := HAT.out.later hb34
                have HTH4 := there_below HTH.out hb34 hvlt
                have hc4 := HAT4.cell hd40
                rw [Nat.zero_add] at hc4
                have hf4 := (HTH4 d hd40).2
                rw [Nat.zero_add] at hf4
                have hat5 := HAT4.set hd40 y
                rw [Nat.zero_add] at hat5
                have S2 : At (W4.setCell ⟨wo.heap.size, d, none⟩ (.int .i64 y)) wx.heap.size 0 u ∧ Below wo.heap.size wo (W4.setCell ⟨wo.heap.size, d, none⟩ (.int .i64 y)) := ⟨S1.1.setOther (by show wo.heap.size ≠ wx.heap.size; omega) _, S1.2.setCell (Nat.le_refl _) _⟩
                have HN5 : Hid (Below wo.heap.size wo (W4.setCell ⟨wo.heap.size, d, none⟩ (.int .i64 y)) ∧ At (W4.setCell ⟨wo.heap.size, d, none⟩ (.int .i64 y)) wo.heap.size 0 (fun i => if i = d then y else v i) ∧ (W4.setCell ⟨wo.heap.size, d, none⟩ (.int .i64 y)).there wo.heap.size 0 40) := Lib.hid ⟨S2.2, hat5, there_set HTH4 _ _⟩
                refine held_storeI (i := 10) (by kernel_rfl) rfl rfl rfl (.tmp 54) (.tmp 53) rfl wo.heap.size d y _ (by kernel_rfl) (by kernel_rfl) hc4 hf4 ⟨S2, ?_⟩
                refine wpAnyH_done (by kernel_rfl) ?_ _
                simp only [Act.put, List.setIfInBounds_toArray, List.set_cons_zero, List.set_cons_succ]
                clear S0 S1 S2 hat5 hc4 hf4 HAT4 HTH4 hcx hrem hb3 hb34 hb4 HS3 HLD HAT HTH HBX HSO
                go_wp2
                go_roundw
                case rel => exact ⟨j + 1, _, by omega, by go_num, Lib.hid HN5.out.1, Lib.hid HN5.out.2.1, Lib.hid HN5.out.2.2, HSO2⟩
                case measure => simp [intOf]; omega
              · have hjj : Hid (j = R.length) := Lib.hid (by omega)
                have HSOL : Hid (Lin.Sol p R f v) := Lib.hid (SolTo.done (by have := HSO.out; rwa [hjj.out] at this))
                have HO5 := Lib.hid (HO.out.below HBX.out)
                have HB5 := Lib.hid (HB.out.trans (HBX.out.mono hsx))
                have hs5 : wl.heap.size ≤ wx.heap.size := by omega
                have hSl : SL.length ≤ 1048576 := by have := HSL.out.len; omega
                have HSL2 := Lib.hid (HSL.out.add HFR.out HSOL.out)
                have HI2V := Lib.hid (Try.infoVl v)
                go_wp2_with (first | (with_reducible refine wpList_load_mid rfl 107 (.tmp 13) rfl wo.heap.size 0 rfl (vl v) _ HAT.out.range Try.underlyingV rfl HI2V.out ?_) | (with_reducible refine wpList_oneV rfl (some 58) rfl (.tmp 57) rfl v rfl ?_; intro W7 hn7; have HN7 := Lib.hid hn7; have HZ7 : Hid (wl.heap.size ≤ W7.heap.size) := (Lib.hid (by have := hn7.size; omega)); have HO7 := Lib.hid (HO5.out.below hn7.below); clear hn7) | (at_builtin; with_reducible refine wpList_appendV rfl (some 59) rfl (.tmp 56) (.tmp 58) rfl wl.heap.size (.slice ado SL.length capo) SL rfl HO7.out wx.heap.size 1 v rfl HN7.out.at' hSl HZ7.out ?_; intro s8 W8 ho8 hg8; have HO8 := Lib.hid ho8; have HG8 := Lib.hid hg8; clear ho8 hg8))
                have HB7 := Lib.hid (HB5.out.trans (HN7.out.below.mono hs5))
                have HB8 : Hid (Below wl.heap.size wl W8) := Lib.hid (HB7.out.grown HG8.out (by have := HB7.out.size; omega) (fun g hg => ((HO7.out.lt) g hg).1))
                go_roundw
                case rel => exact ⟨f + 1, SL ++ [v], by omega, by go_num, HB8, HO8, HSL2⟩
                case measure => simp [intOf]; omega
        · have hff : Hid (f = n) := Lib.hid (by omega)
          have HSN : Hid (Sols p R n SL) := Lib.hid (by have := HSL.out; rwa [hff.out] at this)
          have HSM : Hid (∀ t ∈ SL, Lin.Md p t) := Lib.hid (fun t ht => by obtain ⟨g, _, _, h⟩ := HSN.out.only t ht; exact h.md hp1)
          have HSW : Hid (∀ t ∈ SL, Lin.Wd n t) := Lib.hid (fun t ht => by obtain ⟨g, h1, _, h⟩ := HSN.out.only t ht; exact sol_wd HR.out.red HRW.out h1 h)
          have hSl : SL.length ≤ 1048575 := by have := HSL.out.len; omega
          have HOV := Lib.hid (HO.out.vs.lower (Nat.zero_le _))
          go_wp2_with fail
          refine (reducedList_any p _ SL _ HP.out HOV.out HSM.out (fun t ht => wd_wider (HSW.out t ht) hn) hSl).mono ?_
          rintro e W9 ⟨s9, R9, rfl, hb9, ho9, hr9, _⟩
          have hsw : w.heap.size ≤ wx.heap.size := by omega
          have HB9 := Lib.hid (HBL.out.trans ((HB.out.trans (hb9.mono hsx)).mono hsL))
          have HO9 : Hid (Ow w.heap.size W9 s9 R9) := Lib.hid ⟨ho9.1, ho9.2.imp id (fun ⟨g, cap, cur, h1, h2, h3⟩ => ⟨g, cap, cur, h1, Nat.le_trans hsw h2, h3⟩)⟩
          have HR9 := Lib.hid hr9
          clear hb9 ho9 hr9
          go_wp2
          go_ret
          refine ⟨_, R9, rfl, HB9.out, HO9.out, HR9.out.red, fun t ht => Lin.Sp.wd HSW.out ((HR9.out.eqv t).1 (Lin.Sp.mem ht (HR9.out.red.md t ht))), fun x => ?_⟩
          rw [HR9.out.eqv x, Lin.sols_eqv hp1 HR.out.red HRW.out (fun g hg hfr => HSN.out.all g hg hfr) (fun t ht => HSN.out.only t ht) x]
          exact ⟨fun h => h.eqv HLM.out HR.out.eqv, fun h => h.eqv HR.out.red.md HR.out.eqv.symm⟩
end Go.Proofs.Ytlbalcckjokeiaa
