/-
  slices.Insert at vectors, one value in a block of its own, by its contract.
-/
import Derived.Test.YtlbalcckjokeiaaVo
import Derived.Laws.CopyRow
import Derived.Lib.Overlaps
import Derived.Lib.AppendZerosOnto
import Derived.Lib.JoinLaws
import Derived.Deep.RegionLaw
namespace Go.Proofs.Ytlbalcckjokeiaa
open Go.RowKit

theorem ins_room {A X : List Value} {k d m : Nat} (hX : X.length = d) (hk : k ≤ m) (hm : m + d ≤ A.length) :
    ((A.take (k + d) ++ (A.take m).drop k ++ A.drop (m + d)).take k ++ X ++ (A.take (k + d) ++ (A.take m).drop k ++ A.drop (m + d)).drop (k + d)).take (m + d) = (A.take m).take k ++ (X ++ (A.take m).drop k) := by
  have h1 : (A.take (k + d)).length = k + d := by rw [List.length_take]; omega
  have h2 : (A.take (k + d) ++ (A.take m).drop k ++ A.drop (m + d)).take k = A.take k := by
    rw [List.append_assoc, List.take_append_of_le_length (by omega), List.take_take, Nat.min_eq_left (by omega)]
  have h3 : (A.take (k + d) ++ (A.take m).drop k ++ A.drop (m + d)).drop (k + d) = (A.take m).drop k ++ A.drop (m + d) := by
    rw [List.append_assoc, List.drop_append_of_le_length (by omega), List.drop_of_length_le (by omega), List.nil_append]
  rw [h2, h3, ← List.append_assoc, List.take_append_of_le_length (by simp; omega), List.take_of_length_le (by simp; omega), List.take_take, Nat.min_eq_left hk, List.append_assoc]
theorem ins_grow {R X Y : List Value} {k d m : Nat} (hX : X.length = d) (hY : Y.length = m - k) (hk : k ≤ m) (hm : m + d ≤ R.length) :
    ((R.take k ++ X ++ R.drop (k + d)).take (k + d) ++ Y ++ (R.take k ++ X ++ R.drop (k + d)).drop (m + d)).take (m + d) = R.take k ++ (X ++ Y) := by
  have h1 : (R.take k ++ X ++ R.drop (k + d)).take (k + d) = R.take k ++ X := by
    rw [List.take_append_of_le_length (by simp; omega), List.take_of_length_le (by simp; omega)]
  rw [h1, List.take_append_of_le_length (by simp; omega), List.take_of_length_le (by simp; omega), List.append_assoc]
theorem cellsOf_cons (v : Lin.V) (L : List Lin.V) : cellsOf (v :: L) = vl v ++ cellsOf L := by simp [cellsOf]
theorem cellsOf_take (L : List Lin.V) : ∀ i, cellsOf (L.take i) = (cellsOf L).take (i * 40) := by
  induction L with
  | nil => intro i; simp [cellsOf]
  | cons v L ih =>
    intro i
    cases i with
    | zero => simp [cellsOf]
    | succ i =>
      rw [List.take_succ_cons, cellsOf_cons, cellsOf_cons, ih, List.take_append, vl_length, List.take_of_length_le (l := vl v) (by rw [vl_length]; omega), show (i + 1) * 40 - 40 = i * 40 by omega]
theorem cellsOf_drop (L : List Lin.V) : ∀ i, cellsOf (L.drop i) = (cellsOf L).drop (i * 40) := by
  induction L with
  | nil => intro i; simp [cellsOf]
  | cons v L ih =>
    intro i
    cases i with
    | zero => simp
    | succ i =>
      rw [List.drop_succ_cons, cellsOf_cons, ih, List.drop_append, vl_length, List.drop_of_length_le (l := vl v) (by rw [vl_length]; omega), show (i + 1) * 40 - 40 = i * 40 by omega, List.nil_append]
theorem cellsOf_ins (L : List Lin.V) (u : Lin.V) (i : Nat) : cellsOf (L.take i ++ u :: L.drop i) = (cellsOf L).take (i * 40) ++ (vl u ++ (cellsOf L).drop (i * 40)) := by
  rw [cellsOf_append, cellsOf_cons, cellsOf_take, cellsOf_drop]
theorem cellsOf_one' (L : List Lin.V) : ∀ u ∈ cellsOf L, u.oneCell' = true := fun u hu => by
  obtain ⟨v, _, h⟩ := List.mem_flatMap.1 hu
  exact vl_one v u h

/-- copy of elements of 40 cells into a block. -/
theorem run_copyV (w : World) (ty : TypeId) (g o dLen dCap : Nat) (a : Addr) (sLen sCap : Nat) (cur : Array Value) (t : TypeId) (cs : List Value)
    (hg : w.heap[g]? = some (.cells cur t (0, 0))) (hn : cs.length = Nat.min sLen dLen * 40)
    (hsrc : ∀ j v, cs[j]? = some v → w.cell? (a.add j) = some v) (hfit : o + cs.length ≤ cur.size) (h1 : ∀ v ∈ cs, v.oneCell' = true) :
    (Builtin.copy_ #[69, 69] ty #[.slice (some ⟨g, o, none⟩) dLen dCap, .slice (some a) sLen sCap]).run Try.prog w =
      .ok (goInt (Nat.min sLen dLen)) (w.setRow g (cur.toList.take o ++ cs ++ cur.toList.drop (o + cs.length)).toArray) := by
  have hl := run_loadCells_list (P := Try.prog) w a cs hsrc
  have hst := run_storeCells_at Try.prog g o t cs 0 cur w hg (by simpa using hfit) h1
  obtain ⟨i, hi, _, hs, _⟩ := info_parts Try.infoVz
  simp [Builtin.copy_, run_underlying Try.underlyingSV, Builtin.lenOf, Builtin.firstCells, sizeOf, typeInfo, hi, hs, ← hn, hl, hst]

theorem wpList_copy_run {ops : Array Oper} {rest : List Oper} {o : Oper} {a : Act} {w : World} {Q : Exit → Act → World → Prop} {P : Program} (hgd : o.guard = none) (d s : Operand) (t t' : TypeId)
    (ho : o.op = .call { callee := .builtin .copy, args := #[d, s], argTypes := #[t, t'] }) (v u : Value) (hd : a.eval d = v) (hs : a.eval s = u) {v' : Value} {w' : World}
    (hr : (Builtin.copy_ #[t, t'] o.type #[v, u]).run P w = .ok v' w') (h : wpList P ops Q rest (a.put o.dst v') w') : wpList P ops Q (o :: rest) a w :=
  wpList_plain hgd fun K hK => by
    unfold Oper.wp execOp
    simp only [ho, resolve, invoke, builtin, Sem.run_bind, Sem.run_pure, Result.andThen_ok, List.map_toArray, List.map_cons, List.map_nil, hd, hs, hr]
    exact hK _ _ h
theorem step_copy_run {P : Program} {ops : Array Oper} {o : Oper} {a : Act} {w : World} {K : Act → World → Prop} {Q : Exit → Act → World → Prop} {E : Prop}
    (hg : o.guard = none) (d x : Operand) (dT sT : TypeId) (hop : o.op = Op.call { callee := Callee.builtin Builtin.copy, args := #[d, x], argTypes := #[dT, sT] })
    (v u : Value) (hd : a.eval d = v) (hx : a.eval x = u) {v' : Value} {w' : World} (hr : (Builtin.copy_ #[dT, sT] o.type #[v, u]).run P w = .ok v' w') (hK : K (a.put o.dst v') w') :
    if Region.wanted o (yielded ops a.tmps) = true then Oper.wp P o a w K Q else E := by
  have hw : Region.wanted o (yielded ops a.tmps) = true := by simp [Region.wanted, hg]
  rw [if_pos hw]
  unfold Oper.wp
  simp [execOp, hop, resolve, invoke, builtin, hd, hx, hr, Result.andThen]
  exact hK

theorem hoverlaps (w : World) (b g : Nat) (hne : b ≠ g) (C : Array Value) (tA : TypeId) (cur : Array Value) (t : TypeId) (hb : w.heap[b]? = some (.cells C tA (0, 0))) (hg : w.heap[g]? = some (.cells cur t (0, 0))) (h0 : cur.size ≠ 0) (o la lb ca cb : Nat) :
    (callFunc 139 #[.slice (some ⟨b, 0, none⟩) la ca, .slice (some ⟨g, o, none⟩) lb cb]).run Try.prog w = .ok (.value (.bool false)) w := by
  obtain ⟨i, hi, _, hs, _⟩ := info_parts Try.infoVz
  have hz : ∀ w, (sizeOf 107).run Try.prog w = .ok 40 w := fun w => by simp [sizeOf, typeInfo, hi, hs]
  rw [run_callFunc_extern Try.func139 (by kernel_rfl) (by kernel_rfl) (by kernel_rfl) (e := Extern.SlicesOverlaps.overlaps #[69, 69] #[4]) (by kernel_rfl),
    Lib.run_overlaps_apart w 69 4 107 Try.underlyingSV 40 hz ⟨b, 0, none⟩ ⟨g, o, none⟩ la ca lb cb hne tA t C.size cur.size (by simp [World.shape?, hb]) (by simp [World.shape?, hg]) h0 (by simp [World.frozen?, hb]) (by simp [World.frozen?, hb])]
  rfl

def InsR (base : Nat) (s : Value) (L : List Lin.V) (w : World) (e : Ending) (w' : World) : Prop := ∃ s', e = .returned s' ∧ Ow base w' s' L ∧ w.grownBy w' s.ownBlock

set_option maxHeartbeats 3200000 in
set_option maxRecDepth 100000 in
theorem insert_room (base g n c b i : Nat) (cur : Array Value) (L : List Lin.V) (u : Lin.V) (w : World) (hgb : base ≤ g) (hg : w.heap[g]? = some (.cells cur 107 (0, 0))) (hn : L.length = n) (hi : i < n) (hc : n + 1 ≤ c) (hcm : c ≤ maxLen) (hcs : cur.size = c * 40)
    (htk : cur.toList.take (n * 40) = cellsOf L) (hb : w.heap[b]? = some (.cells (vl u).toArray 107 (0, 0))) (hne : b ≠ g) :
    Calls Try.prog 132 #[.slice (some ⟨g, 0, none⟩) n c, .int .i64 i, .slice (some ⟨b, 0, none⟩) 1 1] w (InsR base (.slice (some ⟨g, 0, none⟩) n c) (L.take i ++ u :: L.drop i) w) := by
  have hz2 : ¬ ((i : Int) = (n : Int)) := by omega
  have hcm2 : c ≤ 9223372036854775807 := hcm
  have hw1 : IntKind.i64.wrap ((i : Int) + 1) = (i : Int) + 1 := by rw [IntKind.wrap_i64]; omega
  have hb1 : (0 : Int) ≤ (i : Int) + 1 := by omega
  have hin : i ≤ n := by omega
  have htn : ((i : Int) + 1).toNat = i + 1 := by omega
  have hb2 : ¬ (c = i + 1) := by omega
  have hb3 : (i : Int) ≤ (n : Int) + 1 := by omega
  have hb4 : ¬ (c = i) := by omega
  go_enter Try.func132, Try.ntmps132
  obtain ⟨Y, hY⟩ : ∃ Y, Y = (cur.toList.take (n * 40)).drop (i * 40) := ⟨_, rfl⟩
  have hsz : cur.toList.length = c * 40 := by simpa using hcs
  have hYl : Y.length = (n - i) * 40 := by rw [hY, List.length_drop, List.length_take, hsz]; omega
  have hY1 : ∀ v ∈ Y, v.oneCell' = true := fun v hv => cellsOf_one' L v (by rw [← htk]; rw [hY] at hv; exact List.mem_of_mem_drop hv)
  obtain ⟨R, hR⟩ : ∃ R : Array Value, R = (cur.toList.take ((i + 1) * 40) ++ Y ++ cur.toList.drop ((i + 1) * 40 + Y.length)).toArray := ⟨_, rfl⟩
  have hgd : w.drew.heap[g]? = some (.cells cur 107 (0, 0)) := hg
  have hcp1 : ∀ ty dc sc, (Builtin.copy_ #[69, 69] ty #[.slice (some ⟨g, (i + 1) * 40, none⟩) (n - i) dc, .slice (some ⟨g, i * 40, none⟩) (n + 1 - i) sc]).run Try.prog w.drew = .ok (goInt ((n - i : Nat) : Int)) (w.drew.setRow g R) := fun ty dc sc => by
    have h := run_copyV w.drew ty g ((i + 1) * 40) (n - i) dc ⟨g, i * 40, none⟩ (n + 1 - i) sc cur 107 Y hgd (by rw [hYl]; congr 1; simp only [Nat.min_def]; split <;> omega)
      (fun j v hj => by
        rw [Addr.add_mid, cell_of_row _ _ _ _ _ _ hgd]
        rw [hY, List.getElem?_drop, List.getElem?_take] at hj
        split at hj
        · simpa using hj
        · cases hj) (by rw [hYl, hcs]; omega) hY1
    rw [show Nat.min (n + 1 - i) (n - i) = n - i by simp only [Nat.min_def]; split <;> omega] at h
    rw [hR]
    exact h
  obtain ⟨W1, hW1⟩ : ∃ W1, W1 = w.drew.setRow g R := ⟨_, rfl⟩
  have hg1 : W1.heap[g]? = some (.cells R 107 (0, 0)) := by rw [hW1]; exact setRow_heap _ _ _ _ _ _ hgd
  have hb1' : W1.heap[b]? = some (.cells (vl u).toArray 107 (0, 0)) := by rw [hW1, setRow_other _ _ _ _ hne]; exact hb
  have hRl : R.toList.length = c * 40 := by rw [hR]; simp only [List.length_append, List.length_take, List.length_drop, hYl, hsz]; omega
  obtain ⟨R2, hR2⟩ : ∃ R2 : Array Value, R2 = (R.toList.take (i * 40) ++ vl u ++ R.toList.drop (i * 40 + (vl u).length)).toArray := ⟨_, rfl⟩
  have hcp2 : ∀ ty dl dc sc, 1 ≤ dl → (Builtin.copy_ #[69, 69] ty #[.slice (some ⟨g, i * 40, none⟩) dl dc, .slice (some ⟨b, 0, none⟩) 1 sc]).run Try.prog W1 = .ok (goInt 1) (W1.setRow g R2) := fun ty dl dc sc hdl => by
    have hmin : Nat.min 1 dl = 1 := by simp only [Nat.min_def]; split <;> omega
    have h := run_copyV W1 ty g (i * 40) dl dc ⟨b, 0, none⟩ 1 sc R 107 (vl u) hg1 (by rw [hmin, vl_length])
      (fun j v hj => by
        rw [Addr.add_mid, cell_of_row _ _ _ _ _ _ hb1']
        simpa using hj) (by rw [vl_length]; have : R.size = c * 40 := by simpa using hRl
                            omega) (vl_one u)
    rw [hmin] at h
    rw [hR2]
    exact h
  have HFIN : Hid (Ow base (W1.setRow g R2) (.slice (some ⟨g, 0, none⟩) (n + 1) c) (L.take i ++ u :: L.drop i) ∧ w.grownBy (W1.setRow g R2) (some g)) := Lib.hid (by
    have hlen : (L.take i ++ u :: L.drop i).length = n + 1 := by simp [hn]; omega
    refine ⟨⟨cellsOf_length _, Or.inr ⟨g, c, R2, by rw [hlen], hgb, setRow_heap _ _ _ _ _ _ hg1, by omega, hcm, ?_, ?_⟩⟩, ?_⟩
    · have : R2.toList.length = c * 40 := by rw [hR2]; simp only [List.length_append, List.length_take, List.length_drop, vl_length, hRl]; omega
      simpa using this
    · rw [hlen, cellsOf_ins, ← htk, ← hY, hR2, hR]
      have h := ins_room (A := cur.toList) (X := vl u) (k := i * 40) (d := 40) (m := n * 40) (vl_length u) (by omega) (by rw [hsz]; omega)
      rw [← hY] at h
      simp only [vl_length, hYl]
      rw [show (i + 1) * 40 = i * 40 + 40 by omega, show i * 40 + 40 + (n - i) * 40 = n * 40 + 40 by omega, show (n + 1) * 40 = n * 40 + 40 by omega]
      exact h
    · refine ⟨by rw [hW1]; rfl, by rw [hW1]; rfl, by rw [hW1]; rfl, by rw [hW1]; simp, fun k hk hkg => ?_⟩
      have hkg' : k ≠ g := fun e => hkg (by rw [e])
      rw [setRow_other _ _ _ _ hkg', hW1, setRow_other _ _ _ _ hkg']
      rfl)
  rw [← hW1] at hcp1
  have hov := fun o la lb ca cb => hoverlaps w b g hne _ _ cur _ hb hg (by rw [hcs]; omega) o la lb ca cb
  clear hY hsz hYl hY1 hR hgd hW1 hg1 hb1' hRl hR2 htk hg hb
  go_wp2_with (simp only [hov])
  go_region_law (refine step_copy_run rfl _ _ 69 69 rfl _ _ (by simp [Act.eval, Act.put]) (by simp [Act.eval, Act.put]) (hcp1 _ _ _) ?_)
  have hcp3 := hcp2 3 (n + 1 - i) (c - i) 1 (by omega)
  clear hcp1 hcp2
  go_wp2
  go_ret
  exact ⟨_, rfl, HFIN.out.1, HFIN.out.2⟩
set_option maxHeartbeats 3200000 in
set_option maxRecDepth 100000 in
theorem insert_grow (base g n b i : Nat) (cur : Array Value) (L : List Lin.V) (u : Lin.V) (w : World) (hbw : base ≤ w.heap.size) (hg : w.heap[g]? = some (.cells cur 107 (0, 0))) (hn : L.length = n) (hi : i < n) (hn2 : n ≤ 1048576) (hcs : cur.size = n * 40)
    (htk : cur.toList.take (n * 40) = cellsOf L) (hb : w.heap[b]? = some (.cells (vl u).toArray 107 (0, 0))) :
    Calls Try.prog 132 #[.slice (some ⟨g, 0, none⟩) n n, .int .i64 i, .slice (some ⟨b, 0, none⟩) 1 1] w (InsR base (.slice (some ⟨g, 0, none⟩) n n) (L.take i ++ u :: L.drop i) w) := by
  have hz2 : ¬ ((i : Int) = (n : Int)) := by omega
  have hw1 : IntKind.i64.wrap ((i : Int) + 1) = (i : Int) + 1 := by rw [IntKind.wrap_i64]; omega
  have hb1 : (0 : Int) ≤ (i : Int) + 1 := by omega
  have hin : i ≤ n := by omega
  have htn : ((i : Int) + 1).toNat = i + 1 := by omega
  have hb3 : (i : Int) ≤ (n : Int) + 1 := by omega
  have hci : ¬ (n = i) := by omega
  have hgw : g < w.heap.size := (Array.getElem?_eq_some_iff.1 hg).1
  have hbw2 : b < w.heap.size := (Array.getElem?_eq_some_iff.1 hb).1
  obtain ⟨i0, hi0, hz0, hzs, hzb⟩ := info_parts Try.infoVz
  have hgd : w.drew.heap[g]? = some (.cells cur 107 (0, 0)) := hg
  have hsz : cur.toList.length = n * 40 := by simpa using hcs
  obtain ⟨X, hX⟩ : ∃ X, X = cur.toList.take (i * 40) := ⟨_, rfl⟩
  have hXl : X.length = i * 40 := by rw [hX, List.length_take, hsz]; omega
  obtain ⟨Y, hY⟩ : ∃ Y, Y = (cur.toList.take (n * 40)).drop (i * 40) := ⟨_, rfl⟩
  have hYl : Y.length = (n - i) * 40 := by rw [hY, List.length_drop, List.length_take, hsz]; omega
  have hY1 : ∀ v ∈ Y, v.oneCell' = true := fun v hv => cellsOf_one' L v (by rw [← htk]; rw [hY] at hv; exact List.mem_of_mem_drop hv)
  have hold : (Builtin.firstCells i0.size i (.slice (some ⟨g, 0, none⟩) i n)).run Try.prog w.drew = .ok X.toArray w.drew := by
    rw [hzs]
    exact run_firstCells_some w.drew 40 i ⟨g, 0, none⟩ i n X hXl (fun j v hj => by
      rw [Addr.add_mid, cell_of_row _ _ _ _ _ _ hgd]
      rw [hX, List.getElem?_take] at hj
      split at hj
      · simpa using hj
      · cases hj)
  have hik : i + (n + 1 - i) = n + 1 := by omega
  have hkk : (n : Int) + 1 - (i : Int) = ((n + 1 - i : Nat) : Int) := by omega
  obtain ⟨G, hG⟩ : ∃ G, G = grownCap w (n + 1) n 107 := ⟨_, rfl⟩
  have hGn : n + 1 ≤ G := by rw [hG]; exact grownCap_ge w _ _ _
  have hGm : G ≤ maxLen := by rw [hG]; exact grownCap_le_maxLen w (n + 1) n _ (by unfold maxLen; omega)
  obtain ⟨ROW, hROW⟩ : ∃ ROW : Array Value, ROW = X.toArray ++ Builtin.zeroCells (Value.agg zl.toArray).cells (n + 1 - i) ++ Builtin.zeroCells (Value.agg zl.toArray).cells (G - (n + 1)) := ⟨_, rfl⟩
  have hrz : ∀ ty, (Builtin.append_ #[69, 3] ty #[.slice (some ⟨g, 0, none⟩) i n, .int .i64 ((n : Int) + 1 - (i : Int))]).run Try.prog w = .ok (.slice (some ⟨w.heap.size, 0, none⟩) (n + 1) G) (w.drew.alloc (.cells ROW 107)) := fun ty => by
    have h := Lib.run_append_grow_zeros w 69 3 ty 107 i0 _ .i64 .i64 Try.underlyingSV Try.underlying3 hi0 hz0 (some ⟨g, 0, none⟩) i n X hold (n + 1 - i) (by omega) (by omega) (by omega) (by omega) (by rw [hzb]; omega) (by rw [hzb, hik]; exact growslice_fits (by omega) (by omega))
    rw [hik] at h
    rw [hkk, hROW, hG]
    exact h
  have hRl : ROW.toList.length = G * 40 := by
    rw [hROW]
    have : (zl.toArray).size = 40 := by simp [zl_length]
    simp [Builtin.zeroCells, Value.cells, hXl, zl_length]
    omega
  have hRt : ROW.toList.take (i * 40) = X := by
    rw [hROW]
    simp [hXl]
  obtain ⟨W1, hW1⟩ : ∃ W1, W1 = w.drew.alloc (.cells ROW 107) := ⟨_, rfl⟩
  have hN1 : W1.heap[w.heap.size]? = some (.cells ROW 107 (0, 0)) := by rw [hW1]; exact heap_alloc_new w.drew _
  have hO1 : ∀ k, k < w.heap.size → W1.heap[k]? = w.heap[k]? := fun k hk => by rw [hW1]; exact heap_alloc_old w.drew _ (r := k) hk
  obtain ⟨R2, hR2⟩ : ∃ R2 : Array Value, R2 = (ROW.toList.take (i * 40) ++ vl u ++ ROW.toList.drop (i * 40 + (vl u).length)).toArray := ⟨_, rfl⟩
  have hR2l : R2.toList.length = G * 40 := by rw [hR2]; simp only [List.length_append, List.length_take, List.length_drop, vl_length, hRl]; omega
  have hcp1 : ∀ ty dl dc sc, 1 ≤ dl → (Builtin.copy_ #[69, 69] ty #[.slice (some ⟨w.heap.size, i * 40, none⟩) dl dc, .slice (some ⟨b, 0, none⟩) 1 sc]).run Try.prog W1 = .ok (goInt 1) (W1.setRow w.heap.size R2) := fun ty dl dc sc hdl => by
    have hmin : Nat.min 1 dl = 1 := by simp only [Nat.min_def]; split <;> omega
    have h := run_copyV W1 ty w.heap.size (i * 40) dl dc ⟨b, 0, none⟩ 1 sc ROW 107 (vl u) hN1 (by rw [hmin, vl_length])
      (fun j v hj => by
        rw [Addr.add_mid, cell_of_row _ _ _ _ _ _ ((hO1 b hbw2).trans hb)]
        simpa using hj) (by rw [vl_length]; have : ROW.size = G * 40 := by simpa using hRl
                            omega) (vl_one u)
    rw [hmin] at h
    rw [hR2]
    exact h
  obtain ⟨W2, hW2⟩ : ∃ W2, W2 = W1.setRow w.heap.size R2 := ⟨_, rfl⟩
  have hN2 : W2.heap[w.heap.size]? = some (.cells R2 107 (0, 0)) := by rw [hW2]; exact setRow_heap _ _ _ _ _ _ hN1
  have hO2 : ∀ k, k < w.heap.size → W2.heap[k]? = w.heap[k]? := fun k hk => by
    rw [hW2]
    show (W1.setRow w.heap.size R2).heap[k]? = _
    rw [setRow_other _ _ _ _ (by omega)]
    exact hO1 k hk
  obtain ⟨R3, hR3⟩ : ∃ R3 : Array Value, R3 = (R2.toList.take ((i + 1) * 40) ++ Y ++ R2.toList.drop ((i + 1) * 40 + Y.length)).toArray := ⟨_, rfl⟩
  have hcp2 : ∀ ty dc sc, (Builtin.copy_ #[69, 69] ty #[.slice (some ⟨w.heap.size, (i + 1) * 40, none⟩) (n - i) dc, .slice (some ⟨g, i * 40, none⟩) (n - i) sc]).run Try.prog W2.drew = .ok (goInt ((n - i : Nat) : Int)) (W2.drew.setRow w.heap.size R3) := fun ty dc sc => by
    have h := run_copyV W2.drew ty w.heap.size ((i + 1) * 40) (n - i) dc ⟨g, i * 40, none⟩ (n - i) sc R2 107 Y hN2 (by rw [hYl]; congr 1; simp)
      (fun j v hj => by
        rw [Addr.add_mid]
        show W2.cell? _ = _
        rw [cell_of_row _ _ _ _ _ _ ((hO2 g hgw).trans hg)]
        rw [hY, List.getElem?_drop, List.getElem?_take] at hj
        split at hj
        · simpa using hj
        · cases hj) (by rw [hYl]; have : R2.size = G * 40 := by simpa using hR2l
                        omega) hY1
    rw [show Nat.min (n - i) (n - i) = n - i by simp] at h
    rw [hR3]
    exact h
  have HFIN : Hid (Ow base (W2.drew.setRow w.heap.size R3) (.slice (some ⟨w.heap.size, 0, none⟩) (n + 1) G) (L.take i ++ u :: L.drop i) ∧ w.grownBy (W2.drew.setRow w.heap.size R3) (some g)) := Lib.hid (by
    have hlen : (L.take i ++ u :: L.drop i).length = n + 1 := by simp [hn]; omega
    refine ⟨⟨cellsOf_length _, Or.inr ⟨w.heap.size, G, R3, by rw [hlen], hbw, setRow_heap _ _ _ _ _ _ hN2, by omega, hGm, ?_, ?_⟩⟩, ?_⟩
    · have : R3.toList.length = G * 40 := by rw [hR3]; simp only [List.length_append, List.length_take, List.length_drop, hYl, hR2l]; omega
      simpa using this
    · rw [hlen, cellsOf_ins, ← htk, ← hY, hR3, hR2]
      have h := ins_grow (R := ROW.toList) (X := vl u) (Y := Y) (k := i * 40) (d := 40) (m := n * 40) (vl_length u) (by rw [hYl]; omega) (by omega) (by rw [hRl]; omega)
      simp only [vl_length, hYl]
      rw [show (i + 1) * 40 = i * 40 + 40 by omega, show i * 40 + 40 + (n - i) * 40 = n * 40 + 40 by omega, show (n + 1) * 40 = n * 40 + 40 by omega]
      rw [h, hRt, hX, List.take_take, Nat.min_eq_left (by omega)]
    · have hs2 : W2.heap.size = w.heap.size + 1 := by
        rw [hW2]
        show (W1.setRow w.heap.size R2).heap.size = _
        rw [setRow_size, hW1]
        simp
      refine ⟨by rw [hW2, hW1]; rfl, by rw [hW2, hW1]; rfl, by rw [hW2, hW1]; rfl, by rw [setRow_size]; show _ ≤ W2.heap.size; rw [hs2]; omega, fun k hk _ => ?_⟩
      rw [setRow_other _ _ _ _ (by omega)]
      exact hO2 k hk)
  rw [← hW1] at hrz
  rw [← hW2] at hcp1
  have hcp3 := hcp1 3 (n + 1 - i) (G - i) 1 (by omega)
  have hGi : ¬ (G = i) := by omega
  have hGim : ¬ (G = i + 1) := by omega
  unfold maxLen at hGm
  clear hY hsz hYl hY1 hgd hRl hRt hN1 hO1 hW1 hW2 hR2 hR2l hN2 hO2 hR3 htk hg hb hX hXl hold hik hkk hG hROW hcp1 hi0 hz0 hzs hzb hcs
  go_enter Try.func132, Try.ntmps132
  go_wp2_with (at_builtin; refine Lib.wpList_append_run _ rfl _ _ _ _ rfl _ _ rfl rfl _ _ (hrz _) ?_)
  go_region_law (refine step_copy_run rfl _ _ 69 69 rfl _ _ (by simp [Act.eval, Act.put]) (by simp [Act.eval, Act.put]) (hcp2 _ _ _) ?_)
  go_wp2
  go_ret
  exact ⟨_, rfl, HFIN.out.1, HFIN.out.2⟩
set_option maxHeartbeats 3200000 in
set_option maxRecDepth 100000 in
theorem insert_end (base b : Nat) (s : Value) (L : List Lin.V) (u : Lin.V) (w : World) (hbw : base ≤ w.heap.size) (hs : Ow base w s L) (hl : L.length ≤ 1048576) (hb : At w b 0 u) :
    Calls Try.prog 132 #[s, .int .i64 (L.length : Int), .slice (some ⟨b, 0, none⟩) 1 1] w (InsR base s (L ++ [u]) w) := by
  have HS := Lib.hid hs
  have HB := Lib.hid hb
  obtain ⟨n, hn⟩ : ∃ n, n = L.length := ⟨_, rfl⟩
  have HN := Lib.hid hn
  have hnl : n ≤ 1048576 := by omega
  rcases hs.2 with ⟨rfl, h0⟩ | ⟨g, c, cur, rfl, _, _, hnc, hcm, _⟩
  · rw [h0]
    clear hs hb hn
    go_enter Try.func132, Try.ntmps132
    go_wp2_with (at_builtin; refine wpList_appendV rfl (some 25) rfl (.tmp 23) (.tmp 24) rfl base _ L rfl HS.out b _ u rfl HB.out hl hbw ?_; intro s' w' hw' hgr; have HW := Lib.hid hw'; have HG := Lib.hid hgr; clear hw' hgr)
    go_ret
    exact ⟨_, rfl, HW.out, HG.out⟩
  · rw [← hn] at hnc HS ⊢
    have hcm2 : c ≤ 9223372036854775807 := hcm
    have hbn : ((n : Int) == (n : Int)) = true := by simp
    clear hs hb hcm hn
    by_cases hcn : c = n
    · subst hcn
      go_enter Try.func132, Try.ntmps132
      go_wp2_with (at_builtin; refine wpList_appendV rfl (some 25) rfl (.tmp 23) (.tmp 24) rfl base _ L rfl HS.out b _ u rfl HB.out hl hbw ?_; intro s' w' hw' hgr; have HW := Lib.hid hw'; have HG := Lib.hid hgr; clear hw' hgr)
      go_ret
      exact ⟨_, rfl, HW.out, HG.out⟩
    · have hcn2 : ¬ (c ≤ n) := by omega
      go_enter Try.func132, Try.ntmps132
      go_wp2_with (at_builtin; refine wpList_appendV rfl (some 25) rfl (.tmp 23) (.tmp 24) rfl base _ L rfl HS.out b _ u rfl HB.out hl hbw ?_; intro s' w' hw' hgr; have HW := Lib.hid hw'; have HG := Lib.hid hgr; clear hw' hgr)
      go_ret
      exact ⟨_, rfl, HW.out, HG.out⟩

theorem insert_any (base b i : Nat) (s : Value) (L : List Lin.V) (u : Lin.V) (w : World) (hbw : base ≤ w.heap.size) (hs : Ow base w s L) (hl : L.length ≤ 1048576) (hi : i ≤ L.length) (hb : w.heap[b]? = some (.cells (vl u).toArray 107 (0, 0))) (hne : some b ≠ s.ownBlock) :
    Calls Try.prog 132 #[s, .int .i64 (i : Int), .slice (some ⟨b, 0, none⟩) 1 1] w (InsR base s (L.take i ++ u :: L.drop i) w) := by
  by_cases hin : i = L.length
  · subst hin
    rw [List.take_length, List.drop_length]
    exact insert_end base b s L u w hbw hs hl (at_of_block hb)
  · rcases hs.2 with ⟨rfl, h0⟩ | ⟨g, c, cur, rfl, hg, hh, hnc, hcm, hcs, htk⟩
    · omega
    · by_cases hroom : L.length + 1 ≤ c
      · exact insert_room base g L.length c b i cur L u w hg hh rfl (by omega) hroom hcm hcs htk hb (fun e => hne (by rw [e]; rfl))
      · obtain rfl : c = L.length := by omega
        exact insert_grow base g L.length b i cur L u w hbw hh rfl (by omega) hl hcs htk hb
end Go.Proofs.Ytlbalcckjokeiaa
