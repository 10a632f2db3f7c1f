/-
  PageDifferential of the model by its contract.
-/
import Derived.Test.YtpdkfidmmjlmnabPbs
import Derived.Test.YtpdkfidmmjlmnabPdm
namespace Go.Proofs.Ytpdkfidmmjlmnab
open Go.RowKit

theorem leadRow_take {Wl : List Lin.V} {y : Lin.V} {k : Nat} (h : k < Wl.length) : leadRow (Wl.take (k + 1)) y = leadRow (Wl.take k) y ++ [y (Lin.ld Wl[k])] := by
  unfold leadRow
  rw [List.take_succ_eq_append_getElem h, List.map_append]
  rfl
theorem leadRow_length (Wl : List Lin.V) (y : Lin.V) : (leadRow Wl y).length = Wl.length := by simp [leadRow]
theorem rep_succ (k : Nat) : List.replicate (k + 1) ([] : List Int) = List.replicate k [] ++ [[]] := by
  rw [← List.replicate_append_replicate]
  rfl

theorem gb_at {base n cap : Nat} {w : World} {ad : Option Addr} {y : Lin.V} (h : Gb base w (.slice ad n cap) (toL n y)) (hn : 0 < n) : ∀ b o, ad = some ⟨b, o, none⟩ → base ≤ b ∧ b < w.heap.size := by
  obtain ⟨g, hg, hb⟩ := h.block (by rw [toL_length]; exact hn)
  subst hg
  intro b o e
  injection e with e
  injection e with e1 e2
  subst e1
  exact ⟨hb, cell_lt (h.cell hn)⟩
theorem l1_grown {w w' : World} {ad : Option Addr} {n cap : Nat} {xs : List Int} {row : Option Nat} (h : L1 0 w (.slice ad n cap) xs) (hg : w.grownBy w' row) (hne : ∀ b o, ad = some ⟨b, o, none⟩ → some b ≠ row) : L1 0 w' (.slice ad n cap) xs := by
  rcases h with h | ⟨b, o, c, hv, hlo, hpos, hc⟩
  · exact Or.inl h
  · refine Or.inr ⟨b, o, c, hv, hlo, hpos, fun k hk => ?_⟩
    obtain ⟨u, hu, hr⟩ := hc k hk
    injection hv with e1
    exact ⟨u, (World.cell?_of_block (w := w) (a := ⟨b, o + k, none⟩) (hg.block b (cell_lt hu) (hne b o e1))).trans hu, hr⟩
section
variable {ops : Array Oper} {rest : List Oper} {Q : Exit → Act → World → Prop}
/-- append of one number to a row that the call gathers; where the row lies then. -/
theorem wpList_appendB {o : Oper} {a : Act} {w : World} (hgd : o.guard = none) (dst : Option Tmp) (hdst : o.dst = dst) (s x : Operand)
    (ho : o.op = .call { callee := .builtin .append, args := #[s, x], argTypes := #[22, 22] }) (base : Nat) (v : Value) (xs : List Int) (hs : a.eval s = v) (b cap : Nat) (z : Int) (hx : a.eval x = .slice (some ⟨b, 0, none⟩) 1 cap) (hown : Gb base w v xs) (hc : w.cell? ⟨b, 0, none⟩ = some (.int .i64 z))
    (hl : xs.length ≤ 2097152) (hb : base ≤ w.heap.size)
    (h : ∀ v' w', Gb base w' v' (xs ++ [z]) → w.grownBy w' v.ownBlock → (v'.ownBlock = v.ownBlock ∨ v'.ownBlock = some w.heap.size) → wpList Try.prog ops Q rest (a.put dst v') w') : wpList Try.prog ops Q (o :: rest) a w := by
  obtain ⟨i, hi, hz, hs1, hb1⟩ := info_parts Try.infoI
  subst hdst
  refine wpList_append_own_at w hgd s x 22 ho base 2 i _ 1 8 Try.underlying22 hi hz hs1 hb1 rfl (by decide) v xs.length (xs.map (Value.int .i64)) hs hown ⟨b, 0, none⟩ 1 cap [.int .i64 z] hx (by simp) ?_ ?_ (by unfold maxLen; omega) (by omega) hb (fun v' w' h1 h2 _ h4 => h v' w' ?_ h2 h4)
  · intro j y hj
    have hj' : j = 0 := by have := (List.getElem?_eq_some_iff.1 hj).1; simpa using this
    subst hj'
    simp only [List.getElem?_cons_zero, Option.some.injEq] at hj
    rw [← hj]
    exact hc
  · intro u hu
    simp only [List.mem_singleton] at hu
    rw [hu]
    rfl
  · unfold Gb
    simpa using h1
/-- append of one row to a table that the call gathers, or has not begun to gather. -/
theorem wpList_appendE {o : Oper} {a : Act} {w : World} (hgd : o.guard = none) (dst : Option Tmp) (hdst : o.dst = dst) (s x : Operand)
    (ho : o.op = .call { callee := .builtin .append, args := #[s, x], argTypes := #[26, 26] }) (base g : Nat) (v : Value) (tb : List (List Int)) (hs : a.eval s = v) (hst : GsE base g w v tb)
    (b : Nat) (hx : a.eval x = .slice (some ⟨b, 0, none⟩) 1 1) (ad : Option Addr) (m c : Nat) (hc : w.cell? ⟨b, 0, none⟩ = some (.slice ad m c)) (y : List Int) (hy : G1 w (.slice ad m c) y) (hn : tb.length ≤ 1048576) (hb : base ≤ w.heap.size)
    (h : ∀ v' w', Gs base w' v' (tb ++ [y]) → Below base w w' → wpList Try.prog ops Q rest (a.put dst v') w') : wpList Try.prog ops Q (o :: rest) a w := by
  rcases hst with ⟨rfl, rfl⟩ | hG
  · obtain ⟨ie, hie, hz, h1, h2⟩ := info_parts Try.infoS
    subst hdst
    have hrun := fun ty => run_append_grow (P := Try.prog) w 26 ty 22 ie _ Try.underlying26 hie hz ⟨g, 0, none⟩ 0 0 [] (by simp) (by simp) ⟨b, 0, none⟩ 1 1 [.slice ad m c] (by rw [h1]; rfl) (fun j u hj => by
      match j, hj with
      | 0, hj =>
        simp at hj
        subst hj
        exact hc) (by omega) (by omega) (by rw [h2]; exact growslice_fits (by omega) (by omega))
    obtain ⟨G, hG⟩ : ∃ G, G = grownCap w (0 + 1) 0 22 := ⟨_, rfl⟩
    rw [← hG] at hrun
    have hGn : 1 ≤ G := by rw [hG]; exact grownCap_ge w _ _ _
    have hGm : G ≤ maxLen := by rw [hG]; exact grownCap_le_maxLen w 1 0 _ (by unfold maxLen; omega)
    obtain ⟨ROW, hROW⟩ : ∃ ROW : Array Value, ROW = ([] : List Value).toArray ++ [Value.slice ad m c].toArray ++ Builtin.zeroCells (Value.slice none 0 0).cells (G - (0 + 1)) := ⟨_, rfl⟩
    rw [← hROW] at hrun
    have hsz : ROW.size = G := by
      rw [hROW]
      simp [Builtin.zeroCells, Value.cells]
      omega
    have hown : (w.drew.alloc (.cells ROW 22)).ownsRow base 22 1 (.slice (some ⟨w.heap.size, 0, none⟩) 1 G) 1 [.slice ad m c] :=
      ⟨rfl, Or.inr ⟨w.heap.size, G, ROW, rfl, hb, heap_alloc_new w.drew _, hGn, hGm, by rw [hsz]; omega, by rw [hROW]; simp⟩⟩
    have hbel : Below w.heap.size w (w.drew.alloc (.cells ROW 22)) := (Below.refl _ _).drew.alloc (Nat.le_refl _) _
    have hgs : Gs base (w.drew.alloc (.cells ROW 22)) (.slice (some ⟨w.heap.size, 0, none⟩) 1 G) ([] ++ [y]) := ⟨[.slice ad m c], hown, fun k h1 h2 => by
      have hk : k = 0 := by simpa using h1
      subst hk
      exact hy.below hbel⟩
    exact Lib.wpList_append_run w hgd s x 26 26 ho _ _ hs hx _ _ (hrun _) (h _ _ hgs (hbel.mono hb))
  · exact wpList_appendG hgd dst hdst s x ho base v tb hs hG b hx ad m c hc y hy (by omega) hb (fun v' w' h1 h2 => h v' w' h1 ((Below.refl _ _).grown h2 hb (fun g hg => (hG.lt g hg).1)))
end

set_option maxHeartbeats 12800000 in
set_option maxRecDepth 100000 in
theorem spPageDifferential_any (p r n q : Int) (dv mv lv : Value) (ds : List Int) (ms : List (List (List Int))) (ls : List (List Int)) (w : World) (h : Fi 0 w dv mv lv ds ms ls) (hd : ds.length ≤ 1048576) (hm : Bd3 1048576 ms) (hl : Bd2 1048576 ls) :
    Calls Try.prog 40 #[.agg #[.int .i64 p, dv, mv, lv], .int .i64 r, .int .i64 n, .int .i64 q] w (TbS (PdT p ds ms ls n.toNat r q) (celCode p ds ms ls r n q) w) := by
  have HX0 := Lib.hid (Fx.start (p := p) 33 h)
  have HCK := Lib.hid (l02Code_any p r n q dv mv lv ds ms ls _ HX0.out.fi hd hm hl)
  have c0 := HX0.out.c0
  have c1 := HX0.out.c1
  have c2 := HX0.out.c2
  have c3 := HX0.out.c3
  obtain ⟨cd, hcd⟩ : ∃ cd, cd = celCode p ds ms ls r n q := ⟨_, rfl⟩
  rw [← hcd] at HCK ⊢
  have HKE := Lib.hid hcd
  clear h hm hl hcd
  go_enter Try.func40, Try.ntmps40
  go_wp2_with fail
  refine HCK.out.mono ?_
  rintro e w1 ⟨rfl, hb1⟩
  have HX1 := Lib.hid (HX0.out.next hb1)
  clear hb1 c0 c1 c2 c3 HCK
  have c0 := HX1.out.c0
  have c1 := HX1.out.c1
  have c2 := HX1.out.c2
  have c3 := HX1.out.c3
  by_cases hk : cd = 0
  · subst hk
    obtain ⟨hfil, hcr, hr, hcq⟩ := celCode_zero HKE.out.symm
    obtain ⟨k, rfl⟩ : ∃ k : Nat, n = (k : Int) := ⟨n.toNat, by have := hr.1; omega⟩
    have hkd : k < ds.length := by have := hr.2; omega
    have HF := Lib.hid hfil
    have hd8 := (dimN_le8 hfil.1 k).1
    have hp1 := hfil.1.1.prime.lo1
    have hl6 := hfil.1.1.len1
    obtain ⟨hr0, hr1⟩ : 0 ≤ r ∧ r ≤ 8 := by omega
    obtain ⟨hq0, hq1⟩ : 0 ≤ q ∧ q ≤ 5 := by omega
    have HBA := Lib.hid (l02Basis_any p k r q dv mv lv ds ms ls _ HX1.out.fi hfil hkd (by omega) (by omega))
    have HNT : Hid ((k : Int).toNat = k) := Lib.hid (Int.toNat_natCast k)
    clear hfil hcr hr hcq
    go_wp2_with fail
    refine HBA.out.mono ?_
    rintro e w2 ⟨u2, P, rfl, hg2, hb2, hr2⟩
    obtain ⟨ab, cb, hv2⟩ := Sl.shape hg2.l2
    rw [List.length_map] at hv2
    subst hv2
    have HG2 := Lib.hid hg2.l2
    have HX2 := Lib.hid (HX1.out.next hb2)
    have HR2 := Lib.hid hr2
    have hp8 : P.length ≤ 8 := by have := hr2.short; omega
    clear hg2 hb2 hr2 HBA HX1 HX0 c0 c1 c2 c3
    have HOWN0 := Lib.hid (World.ownsRow_made (base := w2.heap.size) (e := 22) (size := 1) w2 #[] 0 (Nat.le_refl _) (by unfold maxLen; omega) (by simp))
    have HGS0 : Hid (Gs w2.heap.size (w2.alloc (.cells #[] 22)) (.slice (some ⟨w2.heap.size, 0, none⟩) 0 0) []) := Lib.hid ⟨[], by simpa using HOWN0.out, fun k h1 _ => absurd h1 (Nat.not_lt_zero _)⟩
    have HBX0 : Hid (Below w2.heap.size w2 (w2.alloc (.cells #[] 22))) := Lib.hid (below_alloc1 _ _)
    by_cases h0 : k = 0 ∨ q < r
    · have HH0 := Lib.hid h0
      obtain hk0 | ⟨hk0, hqr⟩ : k = 0 ∨ (¬ k = 0 ∧ q < r) := by omega
      · have ht : ((k : Int) == 0) = true := by simp [hk0]
        clear h0 hk0 HOWN0
        go_wp2
        go_loopw [12, 13] (fun ov i wr => ∃ (j : Nat), j ≤ P.length ∧ i = .int .i64 j ∧ Hid (Below w2.heap.size w2 wr) ∧ Hid (Gs w2.heap.size wr ov (List.replicate j []))) (fun _ i _ => P.length - (intOf i).toNat)
        case atStart => exact ⟨0, Nat.zero_le _, rfl, HBX0, HGS0⟩
        case round =>
          clear HGS0 HBX0
          obtain ⟨j, hj, rfl, HB, HG⟩ := hrel
          obtain ⟨wx, hwx⟩ : ∃ wx : World, wx = wr := ⟨_, rfl⟩
          subst hwx
          obtain ⟨ao, co, hov⟩ := Sl.shape HG.out.l2
          rw [List.length_replicate] at hov
          subst hov
          by_cases hlt : j < P.length
          · have hsz : w2.heap.size ≤ wx.heap.size := HB.out.size
            have HOWN1 := Lib.hid (World.ownsRow_made (base := wx.heap.size) (e := 2) (size := 1) wx #[] 0 (Nat.le_refl _) (by unfold maxLen; omega) (by simp))
            have HE1 : Hid (Gb wx.heap.size (wx.alloc (.cells #[] 2)) (.slice (some ⟨wx.heap.size, 0, none⟩) 0 0) []) := Lib.hid (by simpa [Gb] using HOWN1.out)
            have hba : Below wx.heap.size wx (wx.alloc (.cells #[] 2)) := below_alloc1 _ _
            have hbb : Below (wx.alloc (.cells #[] 2)).heap.size (wx.alloc (.cells #[] 2)) ((wx.alloc (.cells #[] 2)).alloc (.cells #[.slice (some ⟨wx.heap.size, 0, none⟩) 0 0] 22)) := below_alloc1 _ _
            have HGL := Lib.hid ((HG.out.below hba).below hbb)
            have HGE := Lib.hid ((HE1.out.below hbb).g1)
            have hcell : ((wx.alloc (.cells #[] 2)).alloc (.cells #[.slice (some ⟨wx.heap.size, 0, none⟩) 0 0] 22)).cell? ⟨wx.heap.size + 1, 0, none⟩ = some (.slice (some ⟨wx.heap.size, 0, none⟩) 0 0) := by simp
            have HBB := Lib.hid ((HB.out.trans (hba.mono hsz)).trans (hbb.mono (by simp; omega)))
            clear hba hbb HOWN1 HE1
            go_wp2_with (at_builtin; refine wpList_appendG rfl (some 51) rfl (.tmp 48) (.tmp 50) rfl w2.heap.size _ (List.replicate j []) rfl HGL.out (wx.heap.size + 1) rfl (some ⟨wx.heap.size, 0, none⟩) 0 0 hcell [] HGE.out ?c1 ?c2 ?_)
            case c1 => simp; omega
            case c2 => first | (simp; omega) | omega
            intro v7 W7 hg7 hgr7
            have HG7 : Hid (Gs w2.heap.size W7 v7 (List.replicate (j + 1) [])) := Lib.hid (by rw [rep_succ]; exact hg7)
            have HB7 : Hid (Below w2.heap.size w2 W7) := Lib.hid (HBB.out.grown hgr7 (by simp; omega) (fun g hg => (HGL.out.lt g hg).1))
            clear hg7 hgr7 hcell
            go_wp2
            go_roundw
            case rel => first | exact ⟨j + 1, by omega, by go_num, HB7, HG7⟩ | ((repeat apply Exists.intro); exact ⟨⟨j + 1, by omega, by go_num, HB7, HG7⟩, rfl⟩)
            case measure => simp [intOf]; omega
          · have HJE : Hid (j = P.length) := Lib.hid (by omega)
            have HXX := Lib.hid (HX2.out.next HB.out)
            go_wp2
            go_ret2
            refine ⟨_, List.replicate j [], 0, rfl, HG.out.l2, HXX.out.below, TbOut.of_yes rfl ?_⟩
            rw [HNT.out]
            exact ⟨P, HR2.out, Or.inl ⟨HH0.out, by rw [HJE.out, List.map_const']⟩⟩
      · have ht : ((k : Int) == 0) = false := by simp [hk0]
        have hqd : decide (q < r) = true := by simpa using hqr
        clear h0 hk0 hqr HOWN0
        go_wp2
        go_loopw [12, 13] (fun ov i wr => ∃ (j : Nat), j ≤ P.length ∧ i = .int .i64 j ∧ Hid (Below w2.heap.size w2 wr) ∧ Hid (Gs w2.heap.size wr ov (List.replicate j []))) (fun _ i _ => P.length - (intOf i).toNat)
        case atStart => exact ⟨0, Nat.zero_le _, rfl, HBX0, HGS0⟩
        case round =>
          clear HGS0 HBX0
          obtain ⟨j, hj, rfl, HB, HG⟩ := hrel
          obtain ⟨wx, hwx⟩ : ∃ wx : World, wx = wr := ⟨_, rfl⟩
          subst hwx
          obtain ⟨ao, co, hov⟩ := Sl.shape HG.out.l2
          rw [List.length_replicate] at hov
          subst hov
          by_cases hlt : j < P.length
          · have hsz : w2.heap.size ≤ wx.heap.size := HB.out.size
            have HOWN1 := Lib.hid (World.ownsRow_made (base := wx.heap.size) (e := 2) (size := 1) wx #[] 0 (Nat.le_refl _) (by unfold maxLen; omega) (by simp))
            have HE1 : Hid (Gb wx.heap.size (wx.alloc (.cells #[] 2)) (.slice (some ⟨wx.heap.size, 0, none⟩) 0 0) []) := Lib.hid (by simpa [Gb] using HOWN1.out)
            have hba : Below wx.heap.size wx (wx.alloc (.cells #[] 2)) := below_alloc1 _ _
            have hbb : Below (wx.alloc (.cells #[] 2)).heap.size (wx.alloc (.cells #[] 2)) ((wx.alloc (.cells #[] 2)).alloc (.cells #[.slice (some ⟨wx.heap.size, 0, none⟩) 0 0] 22)) := below_alloc1 _ _
            have HGL := Lib.hid ((HG.out.below hba).below hbb)
            have HGE := Lib.hid ((HE1.out.below hbb).g1)
            have hcell : ((wx.alloc (.cells #[] 2)).alloc (.cells #[.slice (some ⟨wx.heap.size, 0, none⟩) 0 0] 22)).cell? ⟨wx.heap.size + 1, 0, none⟩ = some (.slice (some ⟨wx.heap.size, 0, none⟩) 0 0) := by simp
            have HBB := Lib.hid ((HB.out.trans (hba.mono hsz)).trans (hbb.mono (by simp; omega)))
            clear hba hbb HOWN1 HE1
            go_wp2_with (at_builtin; refine wpList_appendG rfl (some 51) rfl (.tmp 48) (.tmp 50) rfl w2.heap.size _ (List.replicate j []) rfl HGL.out (wx.heap.size + 1) rfl (some ⟨wx.heap.size, 0, none⟩) 0 0 hcell [] HGE.out ?c1 ?c2 ?_)
            case c1 => simp; omega
            case c2 => first | (simp; omega) | omega
            intro v7 W7 hg7 hgr7
            have HG7 : Hid (Gs w2.heap.size W7 v7 (List.replicate (j + 1) [])) := Lib.hid (by rw [rep_succ]; exact hg7)
            have HB7 : Hid (Below w2.heap.size w2 W7) := Lib.hid (HBB.out.grown hgr7 (by simp; omega) (fun g hg => (HGL.out.lt g hg).1))
            clear hg7 hgr7 hcell
            go_wp2
            go_roundw
            case rel => first | exact ⟨j + 1, by omega, by go_num, HB7, HG7⟩ | ((repeat apply Exists.intro); exact ⟨⟨j + 1, by omega, by go_num, HB7, HG7⟩, rfl⟩)
            case measure => simp [intOf]; omega
          · have HJE : Hid (j = P.length) := Lib.hid (by omega)
            have HXX := Lib.hid (HX2.out.next HB.out)
            go_wp2
            go_ret2
            refine ⟨_, List.replicate j [], 0, rfl, HG.out.l2, HXX.out.below, TbOut.of_yes rfl ?_⟩
            rw [HNT.out]
            exact ⟨P, HR2.out, Or.inl ⟨HH0.out, by rw [HJE.out, List.map_const']⟩⟩
    · have HH0 := Lib.hid h0
      obtain ⟨k1, hk1⟩ : ∃ k1, k1 + 1 = k := ⟨k - 1, by omega⟩
      have ht : ((k : Int) == 0) = false := by
        have : ¬ ((k : Int) = 0) := by omega
        simpa using this
      have hqd : decide (q < r) = false := by
        have : ¬ q < r := by omega
        simpa using this
      obtain ⟨q1, hq1'⟩ : ∃ q1, q1 = q - r := ⟨_, rfl⟩
      have hw1 : IntKind.i64.wrap ((k : Int) - 1) = (k1 : Int) := by rw [show (k : Int) - 1 = (k1 : Int) by omega]; exact IntWalk.i64_in _ (by omega)
      have hw2 : IntKind.i64.wrap (q - r) = q1 := by rw [hq1']; exact IntWalk.i64_in _ (by omega)
      have HIM : Hid (∀ W, Hid (Fx w W w.heap.size p dv mv lv ds ms ls) → L2 0 W (.slice ab P.length cb) (P.map (toL (dimN ds (k : Int)))) → Calls Try.prog 106 #[.agg #[.int .i64 p, dv, mv, lv], .int .i64 (k : Int), .slice ab P.length cb] W (GsR ((dimgs p ds ms k P).map (toL (cycM ds k))) W)) := Lib.hid (fun W hW hL => l02Images_any p k _ P dv mv lv ds ms ls W hW.out.fi HF.out hkd (by omega) hL HR2.out.1.md hp8)
      have HBA : Hid (∀ W, Hid (Fx w W w.heap.size p dv mv lv ds ms ls) → Calls Try.prog 104 #[.agg #[.int .i64 p, dv, mv, lv], .int .i64 r, .int .i64 (k1 : Int), .int .i64 q1] W (SpG p (dimN ds (k1 : Int)) (PgS p ds ms ls k1 r q1) W)) := Lib.hid (fun W hW => l02Basis_any p k1 r q1 dv mv lv ds ms ls W hW.out.fi HF.out (by omega) (by omega) (by omega))
      have HBO : Hid (∀ W, Hid (Fx w W w.heap.size p dv mv lv ds ms ls) → Calls Try.prog 96 #[.agg #[.int .i64 p, dv, mv, lv], .int .i64 r, .int .i64 (k1 : Int), .int .i64 q1] W (SpG p (dimN ds (k1 : Int)) (BotS p ds ms ls k1 r q1) W)) := Lib.hid (fun W hW => l02Bottom_any p k1 r q1 dv mv lv ds ms ls W hW.out.fi HF.out (by omega) (by omega) (by omega))
      have HK1 := Lib.hid hk1
      have HQ1 := Lib.hid hq1'
      have hd81 := (dimN_le8 HF.out.1 k1).1
      have HXD := Lib.hid (HX2.out.next (HBX0.out.drew))
      have HGD := Lib.hid (HG2.out.below HBX0.out.drew)
      have HSD := Lib.hid (HGS0.out.below (Below.refl _ _).drew)
      have c0 := HX2.out.c0
      have c1 := HX2.out.c1
      have c2 := HX2.out.c2
      have c3 := HX2.out.c3
      clear h0 hk1 hq1' HOWN0
      go_wp2
      go_region_held3 (fun w' => w'.cell? ⟨w.heap.size, 0, none⟩ = some (.int .i64 p) ∧ w'.cell? ⟨w.heap.size, 1, none⟩ = some dv ∧ w'.cell? ⟨w.heap.size, 2, none⟩ = some mv ∧ w'.cell? ⟨w.heap.size, 3, none⟩ = some lv ∧ Hid (Fx w w' w.heap.size p dv mv lv ds ms ls))
        (first | exact Fx.all (Lib.hid (HX2.out.next HBX0.out)) | exact Fx.all HXD | exact Fx.all HX4 | exact Fx.all HX5 | exact Fx.all HX6 | go_keep)
        (first
          | (go_at_call 106; refine (HIM.out _ HXD HGD.out).mono ?_; rintro e w4 ⟨u4, rfl, hg4, hb4⟩; have HX4 := Lib.hid (HXD.out.next hb4); have HO4 := Lib.hid (HSD.out.below hb4); obtain ⟨ai, ci, hv4⟩ := Sl.shape hg4.l2; rw [List.length_map] at hv4; subst hv4; have HI4 := Lib.hid hg4.l2; clear hg4 hb4)
          | (go_at_call 104; refine (HBA.out _ HX4).mono ?_; rintro e w5 ⟨u5, Wl, rfl, hg5, hb5, hr5⟩; have HX5 := Lib.hid (HX4.out.next hb5); have HO5 := Lib.hid (HO4.out.below hb5); have HI5 := Lib.hid (HI4.out.below hb5); have HR5 := Lib.hid hr5; obtain ⟨aw, cw, hv5⟩ := Sl.shape hg5.l2; rw [List.length_map] at hv5; subst hv5; have HW5 := Lib.hid hg5.l2; clear hg5 hb5 hr5)
          | (go_at_call 96; refine (HBO.out _ HX5).mono ?_; rintro e w6 ⟨u6, B, rfl, hg6, hb6, hr6⟩; have HX6 := Lib.hid (HX5.out.next hb6); have HO6 := Lib.hid (HO5.out.below hb6); have HI6 := Lib.hid (HI5.out.below hb6); have HW6 := Lib.hid (HW5.out.below hb6); have HR6 := Lib.hid hr6; obtain ⟨abt, cbt, hv6⟩ := Sl.shape hg6.l2; rw [List.length_map] at hv6; subst hv6; have HB6 := Lib.hid hg6.l2; clear hg6 hb6 hr6))
      have HDM : Hid (cycM ds k = dimN ds (k1 : Int)) := Lib.hid (by rw [← HK1.out]; simp [cycM])
      rw [HDM.out] at HI6
      obtain ⟨c, hc⟩ : ∃ c, c = dimN ds (k1 : Int) := ⟨_, rfl⟩
      rw [← hc] at HI6 HW6 HB6 hd81
      have HCD := Lib.hid hc
      obtain ⟨M, hM⟩ : ∃ M, M = dimgs p ds ms k P := ⟨_, rfl⟩
      have HMD := Lib.hid hM
      have hml : (dimgs p ds ms k P).length = M.length := by rw [hM]
      rw [← hM] at HI6
      rw [hml]
      have hm8 : M.length ≤ 8 := by rw [hM]; simp [dimgs]; exact hp8
      have hw8 : Wl.length ≤ 8 := by have := HR5.out.short; omega
      have hb8 : B.length ≤ 8 := by have := HR6.out.short; omega
      have HMM : Hid (∀ u ∈ M, Lin.Md p u) := Lib.hid (by rw [hM]; exact dimgs_md (by omega) ds ms k P)
      have HMW : Hid (∀ u ∈ M, Lin.Wd c u) := Lib.hid (by
        rw [hM, hc]
        intro u hu
        obtain ⟨y, _, rfl⟩ := List.mem_map.1 hu
        have hok := cyc_ok HF.out.1 hkd
        rw [HDM.out] at hok
        exact dimg_wd hok.1 hok.2.1 y)
      have HWW : Hid (∀ u ∈ Wl, Lin.Wd c u) := Lib.hid (by rw [hc]; exact HR5.out.2.1)
      have HBW : Hid (∀ u ∈ B, Lin.Wd c u) := Lib.hid (by rw [hc]; exact HR6.out.2.1)
      clear hc hM hml HIM HBA HBO HX4 HX5 HO4 HO5 HI4 HI5 HW5 HXD HGD HSD HGS0 HBX0 c0 c1 c2 c3 hw1 hw2
      go_wp2
      clear HO6
      go_loopw [12, 17, 18, 19, 20] (fun ov i _ _ _ wr => ∃ (j : Nat) (rs : List Lin.V), j ≤ M.length ∧ i = .int .i64 j ∧ rs.length = j ∧ Hid (Below w6.heap.size w6 wr) ∧ Hid (GsE w6.heap.size w2.heap.size wr ov (rs.map (leadRow Wl))) ∧ Hid (∀ i (h : i < M.length) (h' : i < rs.length), Lin.RestE p B M[i] B.length rs[i])) (fun _ i _ _ _ _ => M.length - (intOf i).toNat)
      case atStart => exact ⟨0, [], Nat.zero_le _, rfl, rfl, Lib.hid (Below.refl _ _), Lib.hid (Or.inl ⟨rfl, rfl⟩), Lib.hid (fun i _ h' => absurd h' (by simp))⟩
      case round =>
        obtain ⟨j, rs, hj, rfl, hrl, HB, HG, HRE⟩ := hrel
        obtain ⟨wx, hwx⟩ : ∃ wx : World, wx = wr := ⟨_, rfl⟩
        subst hwx
        have HRL := Lib.hid hrl
        have hgl : (rs.map (leadRow Wl)).length = j := by rw [List.length_map, hrl]
        obtain ⟨ao, co, hov⟩ := Sl.shape HG.out.l2
        rw [hgl] at hov
        subst hov
        have HGN := Lib.hid hgl
        clear hrl hgl
        have hsx : w6.heap.size ≤ wx.heap.size := HB.out.size
        have hX := HX6.out.next HB.out
        have c0 := hX.c0
        clear hX
        by_cases hlt : j < M.length
        · have hkl : j < (M.map (toL c)).length := by rw [List.length_map]; exact hlt
          refine Sl.cases HI6.out (fun _ _ hx _ => absurd hkl (by simp [hx])) (fun bi oi c2 hvv _ _ hcl => ?_)
          injection hvv with e1 e2 e3
          clear e2
          subst e1 e3
          obtain ⟨ur, hur, hrr0⟩ := hcl j hkl
          obtain ⟨u, hu⟩ : ∃ u, u = M[j] := ⟨_, rfl⟩
          rw [List.getElem_map] at hrr0
          have hrr : L1 0 w6 ur (toL c u) := by rw [hu]; exact hrr0
          clear hrr0
          obtain ⟨ar, cr, hus⟩ := l1_slice hrr
          subst hus
          have HRR := Lib.hid hrr
          have HUE : Hid (M[j] = u) := Lib.hid hu.symm
          have HUM : Hid (Lin.Md p u) := Lib.hid (by rw [hu]; exact HMM.out _ (List.getElem_mem hlt))
          have HUW : Hid (Lin.Wd c u) := Lib.hid (by rw [hu]; exact HMW.out _ (List.getElem_mem hlt))
          have HROWC : Hid (∀ W, Below w6.heap.size w6 W → W.cell? ⟨bi, oi + j, none⟩ = some (.slice ar c cr)) := Lib.hid (fun W h => later h (Nat.le_refl _) hur)
          have HREST : Hid (∀ W, Below w6.heap.size w6 W → Calls Try.prog 107 #[.int .i64 p, .slice ar c cr, .slice abt B.length cbt] W (RestRE p c B u W)) := Lib.hid (fun W h =>
            l02LessE_any p c _ _ B u W HF.out.1.1.prime (HB6.out.below h) (HRR.out.below h) HR6.out.1 HBW.out HUM.out HUW.out (by omega) (by omega))
          have hrow := HROWC.out _ HB.out
          clear hcl hur hrr hu hkl
          have HBD : Hid (Below w6.heap.size w6 wx.drew) := Lib.hid HB.out.drew
          have HSALL : Hid (∀ W, Below wx.heap.size wx W → W.cell? ⟨w.heap.size, 0, none⟩ = some (.int .i64 p) ∧ W.cell? ⟨bi, oi + j, none⟩ = some (.slice ar c cr) ∧ Hid (Below w6.heap.size w6 W)) := Lib.hid (fun W h => ⟨later h (Nat.le_refl _) c0, later h (Nat.le_refl _) hrow, Lib.hid (HB.out.trans (h.mono hsx))⟩)
          have HGbN : Hid (∀ W : World, wx.heap.size ≤ W.heap.size → Gb wx.heap.size (W.alloc (.cells #[] 2)) (.slice (some ⟨W.heap.size, 0, none⟩) 0 0) []) := Lib.hid (fun W hW => by
            have := World.ownsRow_made (base := wx.heap.size) (e := 2) (size := 1) W #[] 0 hW (by unfold maxLen; omega) (by simp)
            simpa [Gb] using this)
          go_upto_region 15 with fail
          go_cut [18, 19] from 79 to 88 (fun s18 s19 wc => ∃ (y : Lin.V) (ay : Option Addr) (cy g : Nat), s18 = .slice ay c cy ∧ s19 = .slice (some ⟨g, 0, none⟩) 0 0 ∧ Hid (Below wx.heap.size wx wc) ∧ Hid (L1 0 wc (.slice ay c cy) (toL c y)) ∧ Hid (Gb wx.heap.size wc (.slice (some ⟨g, 0, none⟩) 0 0) []) ∧ Hid (Lin.RestE p B u B.length y) ∧ Hid (Lin.Wd c y) ∧ Hid (0 < c → ∀ b o, ay = some ⟨b, o, none⟩ → g ≠ b ∧ b < wc.heap.size))
          case first =>
            go_region_held3 (fun w' => w'.cell? ⟨w.heap.size, 0, none⟩ = some (.int .i64 p) ∧ w'.cell? ⟨bi, oi + j, none⟩ = some (.slice ar c cr) ∧ Hid (Below w6.heap.size w6 w'))
              (first | exact HSALL.out _ (Below.refl _ _) | exact HSALL.out _ (Below.refl _ _).drew | exact HSALL.out _ ((Below.refl _ _).drew.alloc (Nat.le_refl _) _) | exact HSALL.out _ HB7.out | exact HSALL.out _ (HB7.out.alloc HB7.out.size _) | go_keep)
              ((go_at_call 107; refine (HREST.out _ ?_).mono ?_; (first | exact HBD.out | exact (HBD.out.alloc HBD.out.size _)); rintro e w7 ⟨u7, y, rfl, hg7, hb7, hr7, hw7⟩; have HBX7 := Lib.hid hb7; have HB7 : Hid (Below wx.heap.size wx w7) := (by first | exact Lib.hid ((Below.refl wx.heap.size wx).drew.trans hb7) | exact Lib.hid (((Below.refl wx.heap.size wx).drew.alloc (Nat.le_refl _) _).trans (hb7.mono (by simp)))); obtain ⟨ay, cy, hv7⟩ := l1_slice hg7.l1; subst hv7; have HO7 := Lib.hid hg7.l1; have HP7 := Lib.hid (fun hc => gb_at hg7 hc); have HR7 := Lib.hid hr7; have HW7 := Lib.hid hw7; clear hg7 hb7 hr7 hw7))
            all_goals go_wp2
            all_goals go_meet
            all_goals refine ⟨y, ay, cy, _, rfl, rfl, ?_, ?_, ?_, HR7, HW7, ?_⟩
            all_goals first
              | exact HB7 | exact Lib.hid (HB7.out.alloc HB7.out.size _) | exact HO7 | exact Lib.hid (HO7.out.below (below_alloc1 _ _)) | exact Lib.hid ((HGbN.out wx.drew (Nat.le_refl _)).below HBX7.out) | exact Lib.hid (HGbN.out _ HB7.out.size) | exact Lib.hid (fun hc b o e => by have := HP7.out hc b o e; simp at this ⊢; omega)
          case rest =>
            obtain ⟨y, ay, cy, g0, rfl, rfl, HBC, HY, HE, HRY, HYW, HAP⟩ := hcut
            clear HSALL HREST HBD hrow c0 HGbN HROWC HRR
            have HREN : Hid (∀ i (h : i < M.length) (h' : i < (rs ++ [y]).length), Lin.RestE p B M[i] B.length (rs ++ [y])[i]) := Lib.hid (fun i h h' => by
              by_cases e : i = j
              · subst e
                rw [HUE.out, List.getElem_append_right (by have := HRL.out; omega)]
                simp only [HRL.out, Nat.sub_self, List.getElem_cons_zero]
                exact HRY.out
              · rw [List.getElem_append_left (by have := HRL.out; simp at h'; omega)]
                exact HRE.out i h _)
            have HB6C := Lib.hid (HB.out.trans (HBC.out.mono hsx))
            clear HRE
            obtain ⟨wz, hwz⟩ : ∃ wz : World, wz = wc := ⟨_, rfl⟩
            subst hwz
            have hsz : wx.heap.size ≤ wz.heap.size := HBC.out.size
            go_wp2
            go_loopw [19, 20] (fun ov i wr => ∃ (q2 : Nat), q2 ≤ Wl.length ∧ i = .int .i64 q2 ∧ Hid (Below wx.heap.size wx wr) ∧ Hid (Gb wx.heap.size wr ov (leadRow (Wl.take q2) y)) ∧ Hid (L1 0 wr (.slice ay c cy) (toL c y)) ∧ Hid (0 < c → ∀ b o, ay = some ⟨b, o, none⟩ → ov.ownBlock ≠ some b ∧ b < wr.heap.size)) (fun _ i _ => Wl.length - (intOf i).toNat)
            case atStart => exact ⟨0, Nat.zero_le _, rfl, HBC, HE, HY, Lib.hid (fun hc b o e => ⟨fun h => (HAP.out hc b o e).1 (by injection h), (HAP.out hc b o e).2⟩)⟩
            case round =>
              clear HBC HE HY HAP
              obtain ⟨q2, hq2, rfl, HBR, HO, HYR, HAR⟩ := hrel
              obtain ⟨wy, hwy⟩ : ∃ wy : World, wy = wr := ⟨_, rfl⟩
              subst hwy
              have hsy : wx.heap.size ≤ wy.heap.size := HBR.out.size
              have HLN : Hid ((leadRow (Wl.take q2) y).length = q2) := Lib.hid (by rw [leadRow_length, List.length_take]; omega)
              have HB6R := Lib.hid (HB.out.trans (HBR.out.mono hsx))
              by_cases hlq : q2 < Wl.length
              · have hkw : q2 < (Wl.map (toL c)).length := by rw [List.length_map]; exact hlq
                refine Sl.cases HW6.out (fun _ _ hx _ => absurd hkw (by simp [hx])) (fun bt ot c2 hvv _ _ hcl => ?_)
                injection hvv with e1 e2 e3
                clear e2
                subst e1 e3
                obtain ⟨ut, hut, hrt0⟩ := hcl q2 hkw
                obtain ⟨t, ht⟩ : ∃ t, t = Wl[q2] := ⟨_, rfl⟩
                rw [List.getElem_map] at hrt0
                have hrt : L1 0 w6 ut (toL c t) := by rw [ht]; exact hrt0
                clear hrt0
                obtain ⟨att, ctt, hus⟩ := l1_slice hrt
                subst hus
                have HTW : Hid (Lin.Wd c t) := Lib.hid (by rw [ht]; exact HWW.out _ (List.getElem_mem hlq))
                have HTN : Hid (t ≠ Lin.zv) := Lib.hid (by rw [ht]; exact HR5.out.1.ne (List.getElem_mem hlq))
                obtain ⟨hdc, _, _⟩ := ld_ltn HTW.out HTN.out
                obtain ⟨d, hd⟩ : ∃ d, d = Lin.ld t := ⟨_, rfl⟩
                have HD := Lib.hid hd
                rw [← hd] at hdc
                have HTK : Hid (leadRow (Wl.take (q2 + 1)) y = leadRow (Wl.take q2) y ++ [y d]) := Lib.hid (by rw [leadRow_take hlq, hd, ht])
                obtain ⟨z, hz⟩ : ∃ z, z = y d := ⟨_, rfl⟩
                rw [← hz] at HTK
                have HLEAD : Hid (Calls Try.prog 108 #[.slice att c ctt] wy (QW (.int .i64 (d : Int)) wy)) := Lib.hid (by
                  have := l01Lead_any _ _ wy (hrt.below HB6R.out) (by rw [toL_length]; omega)
                  rwa [leadOf_toL HTW.out HTN.out, ← HD.out] at this)
                have hct := later HB6R.out (Nat.le_refl _) hut
                obtain ⟨by', oy, cy2, hvy, hcy⟩ := l1_toL HYR.out (show 0 < c by omega)
                injection hvy with e1 e2 e3
                clear e2
                subst e1 e3
                have hcd := hcy d hdc
                rw [← hz] at hcd
                have hcp := HAR.out (by omega) by' oy rfl
                have HCP := Lib.hid hcp
                clear hcl hut hrt ht hd hz hcy hkw hcp
                go_wp2_with fail
                refine HLEAD.out.mono ?_
                rintro e w7 ⟨rfl, rfl⟩
                clear HLEAD
                have hba : Below wy.heap.size wy (wy.alloc (.cells #[.int .i64 z] 2)) := below_alloc1 _ _
                have HO8 := Lib.hid (HO.out.below hba)
                have HB8 := Lib.hid (HBR.out.alloc hsy (.cells #[.int .i64 z] 2))
                have HY8 := Lib.hid (HYR.out.below hba)
                have hcell : (wy.alloc (.cells #[.int .i64 z] 2)).cell? ⟨wy.heap.size, 0, none⟩ = some (.int .i64 z) := by simp
                clear hba
                go_wp2_with (at_builtin; refine wpList_appendB rfl (some 105) rfl (.tmp 95) (.tmp 104) rfl wx.heap.size _ (leadRow (Wl.take q2) y) rfl wy.heap.size 1 z rfl HO8.out hcell ?c1 ?c2 ?_)
                case c1 => rw [HLN.out]; omega
                case c2 => first | (simp; omega) | omega
                intro v9 W9 hg9 hgr9 hat9
                have HB9 : Hid (Below wx.heap.size wx W9) := Lib.hid (HB8.out.grown hgr9 (by simp; omega) (fun g hg => ((World.ownsRow.lt HO8.out) g hg).1))
                have HG9 : Hid (Gb wx.heap.size W9 v9 (leadRow (Wl.take (q2 + 1)) y)) := Lib.hid (by rw [HTK.out]; exact hg9)
                have HY9 : Hid (L1 0 W9 (.slice (some ⟨by', oy, none⟩) c cy) (toL c y)) := Lib.hid (l1_grown HY8.out hgr9 (fun b o e => by
                  injection e with e
                  injection e with e1 e2
                  subst e1
                  exact fun h => HCP.out.1 h.symm))
                have HA9 : Hid (0 < c → ∀ b o, some (⟨by', oy, none⟩ : Addr) = some ⟨b, o, none⟩ → v9.ownBlock ≠ some b ∧ b < W9.heap.size) := Lib.hid (fun _ b o e => by
                  injection e with e
                  injection e with e1 e2
                  subst e1
                  have h2 := HCP.out.2
                  refine ⟨fun h => ?_, ?_⟩
                  · rcases hat9 with h9 | h9
                    · exact HCP.out.1 (h9.symm.trans h)
                    · rw [h9] at h
                      injection h with h
                      simp at h
                      omega
                  · have := hgr9.size
                    simp at this
                    omega)
                clear hg9 hgr9 hat9 hcell hct hcd
                go_wp2
                go_roundw
                case rel => exact ⟨q2 + 1, by omega, by go_num, HB9, HG9, HY9, HA9⟩
                case measure => simp [intOf]; omega
              · have HQE : Hid (leadRow (Wl.take q2) y = leadRow Wl y) := Lib.hid (by rw [List.take_of_length_le (by omega)])
                rw [HQE.out] at HO
                obtain ⟨a9, c9, hv9⟩ := Sl.shape HO.out.l1
                rw [leadRow_length] at hv9
                subst hv9
                have HG1 : Hid (G1 wy (.slice a9 Wl.length c9) (leadRow Wl y)) := Lib.hid HO.out.g1
                have hba : Below wy.heap.size wy (wy.alloc (.cells #[.slice a9 Wl.length c9] 22)) := below_alloc1 _ _
                have HGL6 := Lib.hid ((HG.out.below HBR.out).below hba)
                have HG6 := Lib.hid (HG1.out.below hba)
                have hcell6 := cell_alloc1 wy (.slice a9 Wl.length c9) 22
                have hsz6 : w6.heap.size ≤ wy.heap.size := by omega
                have HB6 := Lib.hid (HB6R.out.trans (hba.mono HB6R.out.size))
                clear hba
                go_wp2_with (at_builtin; refine wpList_appendE rfl (some 109) rfl (.tmp 106) (.tmp 108) rfl w6.heap.size w2.heap.size _ (rs.map (leadRow Wl)) rfl HGL6.out wy.heap.size rfl a9 Wl.length c9 hcell6 _ HG6.out ?c1 ?c2 ?_)
                case c1 => rw [HGN.out]; omega
                case c2 => first | (simp; omega) | omega
                intro v7 W7 hg7 hgr7
                have HG7 : Hid (GsE w6.heap.size w2.heap.size W7 v7 ((rs ++ [y]).map (leadRow Wl))) := Lib.hid (by rw [List.map_append]; exact Or.inr hg7)
                have HB7 : Hid (Below w6.heap.size w6 W7) := Lib.hid (HB6.out.trans hgr7)
                have HRN : Hid ((rs ++ [y]).length = j + 1) := Lib.hid (by simp [HRL.out])
                clear hg7 hgr7 hcell6
                go_wp2
                go_roundw
                case rel => first | exact ⟨j + 1, rs ++ [y], by omega, by go_num, HRN.out, HB7, HG7, HREN⟩ | ((repeat apply Exists.intro); exact ⟨⟨j + 1, rs ++ [y], by omega, by go_num, HRN.out, HB7, HG7, HREN⟩, rfl⟩)
                case measure => simp [intOf]; omega
        · have HJE : Hid (j = M.length) := Lib.hid (by omega)
          have HXX := Lib.hid (HX6.out.next HB.out)
          go_wp2
          go_ret2
          refine ⟨_, rs.map (leadRow Wl), 0, rfl, HG.out.l2, HXX.out.below, TbOut.of_yes rfl ?_⟩
          rw [HNT.out]
          have hk := HK1.out
          refine ⟨P, HR2.out, Or.inr ⟨HH0.out, B, Wl, rs, ?_, ?_, ?_, rfl⟩⟩
          · have := HR6.out
            rwa [HQ1.out, show k1 = k - 1 by omega] at this
          · have := HR5.out
            rwa [HQ1.out, show k1 = k - 1 by omega] at this
          · rw [← HMD.out]
            exact ⟨by rw [HRL.out, HJE.out], HRE.out⟩
  · have hne2 : (cd != 0) = true := by simp [hk]
    have hne3 : (cd == 0) = false := by simp [hk]
    have HNE := Lib.hid hk
    clear hk
    go_wp2
    go_ret2
    exact ⟨_, [], cd, rfl, Or.inl ⟨rfl, _, _, rfl⟩, HX1.out.below, TbOut.of_no HNE.out⟩
end Go.Proofs.Ytpdkfidmmjlmnab
