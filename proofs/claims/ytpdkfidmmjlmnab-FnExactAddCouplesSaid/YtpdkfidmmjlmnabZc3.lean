/-
  Texts that ProofAcl needs, part 3.
-/
import Derived.Test.YtpdkfidmmjlmnabZc2
import Derived.Laws.EntriesVeiled
import Derived.Deep.RegionHeld3
import Derived.BigRegion
import Derived.Deep.Cut
import Derived.Deep.CutRange
import Derived.StillTailTactics
import Derived.Deep.AppendLies
namespace Go.Proofs.Ytpdkfidmmjlmnab
open Go.RowKit

/-- An interval of cells: block, offset, length. -/
abbrev Iv := Nat × Nat × Nat
def ivSize (I : List Iv) : Nat := (I.map (·.2.2)).sum
theorem ivSize_append (A B : List Iv) : ivSize (A ++ B) = ivSize A + ivSize B := by simp [ivSize]
def Apart (x y : Iv) : Prop := x.1 ≠ y.1 ∨ x.2.1 + x.2.2 ≤ y.2.1 ∨ y.2.1 + y.2.2 ≤ x.2.1
def Disj (I : List Iv) : Prop := I.Pairwise Apart
def InIv (I : List Iv) (b o : Nat) : Prop := ∃ x ∈ I, x.1 = b ∧ x.2.1 ≤ o ∧ o < x.2.1 + x.2.2
/-- Numbers stand there that may be written. -/
def Nums (lo hi : Nat) (w : World) (I : List Iv) : Prop := ∀ x ∈ I, lo ≤ x.1 ∧ x.1 < hi ∧ ∀ i, i < x.2.2 → (∃ z : Int, w.cell? ⟨x.1, x.2.1 + i, none⟩ = some (.int .i64 z)) ∧ w.frozen? ⟨x.1, x.2.1 + i, none⟩ = false
/-- Outside of the intervals all cells are as they were. -/
def OutC (I : List Iv) (w w' : World) : Prop := ∀ b o, ¬ InIv I b o → w'.cell? ⟨b, o, none⟩ = w.cell? ⟨b, o, none⟩
/-- The numbers from k on stand there. -/
def Marked (w : World) : List Iv → Int → Prop
  | [], _ => True
  | x :: I, k => (∀ i, i < x.2.2 → w.cell? ⟨x.1, x.2.1 + i, none⟩ = some (.int .i64 (k + (i : Int)))) ∧ Marked w I (k + (x.2.2 : Int))
theorem Nums.tame {lo hi : Nat} {w w' : World} {I : List Iv} (h : Nums lo hi w I) (t : Tame w w') : Nums lo hi w' I := fun x hx => ⟨(h x hx).1, (h x hx).2.1, fun i hi => by
  obtain ⟨⟨z, hz⟩, hf⟩ := (h x hx).2.2 i hi
  exact ⟨t.nums _ _ _ hz, (t.frozen _ _).trans hf⟩⟩
theorem Nums.same {lo hi : Nat} {w w' : World} {I : List Iv} (h : Nums lo hi w I) (s : Same lo hi w w') : Nums lo hi w' I := fun x hx => ⟨(h x hx).1, (h x hx).2.1, fun i hi => by
  obtain ⟨⟨z, hz⟩, hf⟩ := (h x hx).2.2 i hi
  have hb := s x.1 (h x hx).1 (h x hx).2.1
  exact ⟨⟨z, (World.cell?_of_block (w := w) (a := ⟨x.1, x.2.1 + i, none⟩) hb).trans hz⟩, (World.frozen?_of_block (w := w) (a := ⟨x.1, x.2.1 + i, none⟩) hb).trans hf⟩⟩
theorem Nums.sub {lo hi : Nat} {w : World} {I J : List Iv} (h : Nums lo hi w I) (s : ∀ x ∈ J, x ∈ I) : Nums lo hi w J := fun x hx => h x (s x hx)
theorem Nums.append {lo hi : Nat} {w : World} {I J : List Iv} (h : Nums lo hi w I) (k : Nums lo hi w J) : Nums lo hi w (I ++ J) := fun x hx => (List.mem_append.1 hx).elim (h x) (k x)
theorem Nums.wider {lo hi lo' hi' : Nat} {w : World} {I : List Iv} (h : Nums lo hi w I) (h1 : lo' ≤ lo) (h2 : hi ≤ hi') : Nums lo' hi' w I := fun x hx => ⟨by have := (h x hx).1; omega, by have := (h x hx).2.1; omega, (h x hx).2.2⟩
theorem OutC.refl (I : List Iv) (w : World) : OutC I w w := fun _ _ _ => rfl
theorem OutC.trans {A B : List Iv} {a b c : World} (h : OutC A a b) (k : OutC B b c) : OutC (A ++ B) a c := fun x o hn => by
  rw [k x o (fun ⟨y, hy, e⟩ => hn ⟨y, List.mem_append_right _ hy, e⟩), h x o (fun ⟨y, hy, e⟩ => hn ⟨y, List.mem_append_left _ hy, e⟩)]
theorem Marked.append {w : World} {A B : List Iv} {k : Int} (h : Marked w A k) (h2 : Marked w B (k + (ivSize A : Int))) : Marked w (A ++ B) k := by
  induction A generalizing k with
  | nil => simpa [ivSize] using h2
  | cons x A ih =>
    refine ⟨h.1, ih h.2 ?_⟩
    have : k + (x.2.2 : Int) + (ivSize A : Int) = k + (ivSize (x :: A) : Int) := by simp [ivSize]; omega
    rw [this]
    exact h2
theorem Marked.parts {w : World} {A B : List Iv} {k : Int} (h : Marked w (A ++ B) k) : Marked w A k ∧ Marked w B (k + (ivSize A : Int)) := by
  induction A generalizing k with
  | nil => exact ⟨trivial, by simpa [ivSize] using h⟩
  | cons x A ih =>
    obtain ⟨h1, h2⟩ := ih h.2
    refine ⟨⟨h.1, h1⟩, ?_⟩
    have : k + (x.2.2 : Int) + (ivSize A : Int) = k + (ivSize (x :: A) : Int) := by simp [ivSize]; omega
    rw [← this]
    exact h2
theorem Marked.keep {w w' : World} {A B : List Iv} {k : Int} (h : Marked w A k) (o : OutC B w w') (d : ∀ x ∈ A, ∀ y ∈ B, Apart x y) : Marked w' A k := by
  induction A generalizing k with
  | nil => trivial
  | cons x A ih =>
    refine ⟨fun i hi => ?_, ih h.2 (fun y hy => d y (List.mem_cons_of_mem _ hy))⟩
    rw [o x.1 (x.2.1 + i) (fun ⟨y, hy, e1, e2, e3⟩ => by have := d x List.mem_cons_self y hy; unfold Apart at this; omega)]
    exact h.1 i hi
theorem Marked.same {lo hi : Nat} {w w' : World} {I : List Iv} {k : Int} (h : Marked w I k) (hI : ∀ x ∈ I, lo ≤ x.1 ∧ x.1 < hi) (s : Same lo hi w w') : Marked w' I k := by
  induction I generalizing k with
  | nil => trivial
  | cons x A ih =>
    refine ⟨fun i hi => ?_, ih h.2 (fun y hy => hI y (List.mem_cons_of_mem _ hy))⟩
    have hb := s x.1 (hI x List.mem_cons_self).1 (hI x List.mem_cons_self).2
    exact (World.cell?_of_block (w := w) (a := ⟨x.1, x.2.1 + i, none⟩) hb).trans (h.1 i hi)

/-- The slice v is an interval, or empty. -/
def S1 (lo hi : Nat) (_ : World) (v : Value) (I : List Iv) : Prop :=
  (I = [] ∧ ∃ ad cap, v = .slice ad 0 cap) ∨ ∃ b o n cap, I = [(b, o, n)] ∧ 0 < n ∧ n ≤ 1048576 ∧ lo ≤ b ∧ b < hi ∧ v = .slice (some ⟨b, o, none⟩) n cap
def flat (J : Nat → List Iv) (m : Nat) : List Iv := (List.range m).flatMap J
theorem flat_succ (J : Nat → List Iv) (m : Nat) : flat J (m + 1) = flat J m ++ J m := by simp [flat, List.range_succ]
theorem flat_part (J : Nat → List Iv) {j m : Nat} (h : j ≤ m) : ∃ r, flat J m = flat J j ++ r := by
  induction m with
  | zero => exact ⟨[], by rw [show j = 0 by omega]; simp⟩
  | succ m ih =>
    by_cases e : j = m + 1
    · exact ⟨[], by rw [e]; simp⟩
    · obtain ⟨r, hr⟩ := ih (by omega)
      exact ⟨r ++ J m, by rw [flat_succ, hr, List.append_assoc]⟩
theorem flat_mem {J : Nat → List Iv} {j m : Nat} (h : j < m) : ∀ x ∈ J j, x ∈ flat J m := fun _ hx => List.mem_flatMap.2 ⟨j, List.mem_range.2 h, hx⟩
theorem flat_apart {J : Nat → List Iv} {j m : Nat} (h : j < m) (d : Disj (flat J m)) : ∀ x ∈ flat J j, ∀ y ∈ J j, Apart x y := by
  obtain ⟨r, hr⟩ := flat_part J (show j + 1 ≤ m by omega)
  have d2 : (flat J j ++ J j).Pairwise Apart := by
    have : Disj ((flat J j ++ J j) ++ r) := by rw [← flat_succ, ← hr]; exact d
    exact (List.pairwise_append.1 this).1
  exact (List.pairwise_append.1 d2).2.2
theorem flat_size {J : Nat → List Iv} {j m : Nat} (h : j < m) : ivSize (flat J j) + ivSize (J j) ≤ ivSize (flat J m) := by
  obtain ⟨r, hr⟩ := flat_part J (show j + 1 ≤ m by omega)
  rw [hr, flat_succ, ivSize_append, ivSize_append]
  omega
/-- A slice of such slices. -/
def SS (S : World → Value → List Iv → Prop) (lo hi : Nat) (w : World) (v : Value) (I : List Iv) : Prop :=
  ∃ (ad : Option Addr) (m cap : Nat) (f : Nat → Value) (J : Nat → List Iv), v = .slice ad m cap ∧ m ≤ 1048576 ∧ I = flat J m ∧ (∀ j, j < m → S w (f j) (J j)) ∧ (0 < m → ∃ b o, ad = some ⟨b, o, none⟩ ∧ lo ≤ b ∧ b < hi ∧ ∀ j, j < m → w.cell? ⟨b, o + j, none⟩ = some (f j))
def S2 (lo hi : Nat) := SS (S1 lo hi) lo hi
def S3 (lo hi : Nat) := SS (S2 lo hi) lo hi
theorem S1.shape {lo hi : Nat} {w : World} {v : Value} {I : List Iv} (h : S1 lo hi w v I) : ∃ a n c, v = .slice a n c := by
  rcases h with ⟨_, ad, cap, h⟩ | ⟨b, o, n, cap, _, _, _, _, _, h⟩
  · exact ⟨ad, 0, cap, h⟩
  · exact ⟨_, n, cap, h⟩
theorem SS.shape {S : World → Value → List Iv → Prop} {lo hi : Nat} {w : World} {v : Value} {I : List Iv} (h : SS S lo hi w v I) : ∃ a n c, v = .slice a n c := by
  obtain ⟨ad, m, cap, _, _, h, _⟩ := h
  exact ⟨ad, m, cap, h⟩
theorem SS.keep {S : World → Value → List Iv → Prop} {lo hi : Nat} {w w' : World} {v : Value} {I : List Iv} (h : SS S lo hi w v I) (hS : ∀ v I, S w v I → S w' v I) (hc : ∀ b o v, lo ≤ b → b < hi → (∃ a n c, v = .slice a n c) → w.cell? ⟨b, o, none⟩ = some v → w'.cell? ⟨b, o, none⟩ = some v)
    (hs : ∀ v I, S w v I → ∃ a n c, v = .slice a n c) : SS S lo hi w' v I := by
  obtain ⟨ad, m, cap, f, J, h1, h2, h3, h4, h5⟩ := h
  refine ⟨ad, m, cap, f, J, h1, h2, h3, fun j hj => hS _ _ (h4 j hj), fun hm => ?_⟩
  obtain ⟨b, o, e, hb, hb2, hcl⟩ := h5 hm
  exact ⟨b, o, e, hb, hb2, fun j hj => hc _ _ _ hb hb2 (hs _ _ (h4 j hj)) (hcl j hj)⟩
theorem S1.keep {lo hi : Nat} {w w' : World} {v : Value} {I : List Iv} (h : S1 lo hi w v I) : S1 lo hi w' v I := h
theorem S2.tame {lo hi : Nat} {w w' : World} {v : Value} {I : List Iv} (h : S2 lo hi w v I) (t : Tame w w') : S2 lo hi w' v I :=
  SS.keep h (fun _ _ h => h) (fun b o v _ _ ⟨a, n, c, e⟩ hc => by subst e; exact t.slices _ _ _ _ _ hc) (fun _ _ h => S1.shape h)
theorem S3.tame {lo hi : Nat} {w w' : World} {v : Value} {I : List Iv} (h : S3 lo hi w v I) (t : Tame w w') : S3 lo hi w' v I :=
  SS.keep h (fun _ _ h => S2.tame h t) (fun b o v _ _ ⟨a, n, c, e⟩ hc => by subst e; exact t.slices _ _ _ _ _ hc) (fun _ _ h => SS.shape h)
theorem S2.same {lo hi : Nat} {w w' : World} {v : Value} {I : List Iv} (h : S2 lo hi w v I) (s : Same lo hi w w') : S2 lo hi w' v I :=
  SS.keep h (fun _ _ h => h) (fun b o _ hb hb2 _ hc => (World.cell?_of_block (w := w) (a := ⟨b, o, none⟩) (s b hb hb2)).trans hc) (fun _ _ h => S1.shape h)
theorem S3.same {lo hi : Nat} {w w' : World} {v : Value} {I : List Iv} (h : S3 lo hi w v I) (s : Same lo hi w w') : S3 lo hi w' v I :=
  SS.keep h (fun _ _ h => S2.same h s) (fun b o _ hb hb2 _ hc => (World.cell?_of_block (w := w) (a := ⟨b, o, none⟩) (s b hb hb2)).trans hc) (fun _ _ h => SS.shape h)

def MarkS (lo hi : Nat) (I : List Iv) (k : Int) (w : World) (e : Ending) (w' : World) : Prop := e = .returned (.int .i64 (k + (ivSize I : Int))) ∧ Only lo hi w w' ∧ Tame w w' ∧ OutC I w w' ∧ Marked w' I k

set_option maxHeartbeats 800000 in
theorem mark1s_any {lo hi : Nat} (v : Value) (I : List Iv) (k : Int) (w : World) (h : S1 lo hi w v I) (hn : Nums lo hi w I) (hk0 : 0 ≤ k) (hk1 : k ≤ 4611686018427387904) :
    Calls Try.prog 58 #[v, .int .i64 k] w (MarkS lo hi I k w) := by
  rcases h with ⟨rfl, ad, cap, rfl⟩ | ⟨b, o, n, cap, rfl, hpos, hm, hlo, hhi, rfl⟩
  · go_enter Try.func58, Try.ntmps58
    go_wp2
    refine wp_loop_rounds 1 ?_
    rw [rounds_succ]
    go_wp2
    go_ret
    exact ⟨ret_int (by simp [ivSize]), Only.refl _ _ _, Tame.refl _, OutC.refl _ _, trivial⟩
  · have HN := Lib.hid (hn (b, o, n) (by simp)).2.2
    clear hn
    go_enter Try.func58, Try.ntmps58
    go_wp2
    go_loopw [1, 5] (fun kk i wr => ∃ (j : Nat), j ≤ n ∧ i = .int .i64 j ∧ kk = .int .i64 (k + (j : Int)) ∧ Hid (Only lo hi w wr ∧ Tame w wr ∧ OutC [(b, o, n)] w wr) ∧ Hid (∀ q, q < n → ∃ x, wr.cell? ⟨b, o + q, none⟩ = some (.int .i64 x) ∧ (q < j → x = k + (q : Int))) ∧ Hid (∀ q, q < n → wr.frozen? ⟨b, o + q, none⟩ = false)) (fun _ i _ => n - (intOf i).toNat)
    case atStart => exact ⟨0, Nat.zero_le _, rfl, by simp, Lib.hid ⟨Only.refl _ _ _, Tame.refl _, OutC.refl _ _⟩, Lib.hid (fun q hq => by
      obtain ⟨⟨x, hx⟩, _⟩ := HN.out q hq
      exact ⟨x, hx, fun h => absurd h (Nat.not_lt_zero _)⟩), Lib.hid (fun q hq => (HN.out q hq).2)⟩
    case round =>
      clear HN
      obtain ⟨j, hj, rfl, rfl, HO, HX, HZ⟩ := hrel
      by_cases hlt : j < n
      · obtain ⟨x, hx, _⟩ := HX.out j hlt
        have hz := HZ.out j hlt
        have HN : Hid (∀ q, q < n → ∃ x, (wr.setCell ⟨b, o + j, none⟩ (.int .i64 (k + (j : Int)))).cell? ⟨b, o + q, none⟩ = some (.int .i64 x) ∧ (q < j + 1 → x = k + (q : Int))) := Lib.hid (fun q hq => by
          obtain ⟨y, hy, hy2⟩ := HX.out q hq
          by_cases e : q = j
          · subst e
            exact ⟨k + (q : Int), World.cell?_setCell_same _ _ _ hy, fun _ => rfl⟩
          · refine ⟨y, ?_, fun h => hy2 (by omega)⟩
            rw [World.cell?_setCell_other _ _ _ _ (fun hh => e (by have h2 := congrArg Addr.off hh; exact (Nat.add_left_cancel h2).symm))]
            exact hy)
        have HZ2 : Hid (∀ q, q < n → (wr.setCell ⟨b, o + j, none⟩ (.int .i64 (k + (j : Int)))).frozen? ⟨b, o + q, none⟩ = false) := Lib.hid (fun q hq => by rw [World.frozen?_setCell]; exact HZ.out q hq)
        have HO2 : Hid (Only lo hi w (wr.setCell ⟨b, o + j, none⟩ (.int .i64 (k + (j : Int)))) ∧ Tame w (wr.setCell ⟨b, o + j, none⟩ (.int .i64 (k + (j : Int)))) ∧ OutC [(b, o, n)] w (wr.setCell ⟨b, o + j, none⟩ (.int .i64 (k + (j : Int))))) := Lib.hid ⟨HO.out.1.trans (Only.set _ hlo hhi), HO.out.2.1.trans (Tame.set hx), fun b2 o2 hn2 => by
          rw [World.cell?_setCell_other _ _ _ _ (fun hh => hn2 (by
            have h1 := congrArg Addr.block hh
            have h2 := congrArg Addr.off hh
            simp only at h1 h2
            exact ⟨(b, o, n), by simp, h1, by show o ≤ o2; omega, by show o2 < o + n; omega⟩))]
          exact HO.out.2.2 b2 o2 hn2⟩
        go_wp2
        go_roundw
        case rel => exact ⟨j + 1, by omega, by go_num, by go_num, HO2, HN, HZ2⟩
        case measure => simp [intOf]; omega
      · have hjj : Hid (j = n) := Lib.hid (by omega)
        go_wp2
        go_ret
        refine ⟨ret_int (by rw [hjj.out]; simp [ivSize]), HO.out.1, HO.out.2.1, HO.out.2.2, fun q hq => ?_, trivial⟩
        obtain ⟨x, hx, hx2⟩ := HX.out q hq
        rw [hx, hx2 (by have := hjj.out; simp only at hq; omega)]

set_option maxHeartbeats 800000 in
theorem held1s_any {lo hi : Nat} (v : Value) (I : List Iv) (k : Int) (w : World) (h : S1 lo hi w v I) (hm : Marked w I k) (hk0 : 0 ≤ k) (hk1 : k ≤ 4611686018427387904) :
    Calls Try.prog 59 #[v, .int .i64 k] w (QW (.int .i64 (k + (ivSize I : Int))) w) := by
  rcases h with ⟨rfl, ad, cap, rfl⟩ | ⟨b, o, n, cap, rfl, hpos, hn, hlo, hhi, rfl⟩
  · have := held1_any (lo := 0) (.slice ad 0 cap) 0 k w (Or.inl ⟨rfl, _, _, rfl⟩) (by omega) hk0 hk1
    simpa [ivSize] using this
  · have := held1_any (lo := 0) (.slice (some ⟨b, o, none⟩) n cap) n k w (Or.inr ⟨b, o, cap, by rw [upFrom_length], Nat.zero_le _, by rw [upFrom_length]; exact hpos, fun q hq => by
      rw [upFrom_length] at hq
      refine ⟨_, hm.1 q hq, ?_⟩
      simp only [IsI, upFrom, List.getElem_map, List.getElem_range]⟩) hn hk0 hk1
    simpa [ivSize] using this

set_option maxHeartbeats 1600000 in
theorem mark2s_any {lo hi : Nat} (v : Value) (I : List Iv) (k : Int) (w : World) (h : S2 lo hi w v I) (hn : Nums lo hi w I) (hd : Disj I) (hk0 : 0 ≤ k) (hk1 : k + (ivSize I : Int) ≤ 4611686018427387904) :
    Calls Try.prog 30 #[v, .int .i64 k] w (MarkS lo hi I k w) := by
  obtain ⟨ad, m, cap, f, J, rfl, hm, rfl, hs, hc⟩ := h
  have HS := Lib.hid hs
  have HN := Lib.hid hn
  have HD := Lib.hid hd
  clear hs hn hd
  by_cases h0 : m = 0
  · subst h0
    clear hc
    go_enter Try.func30, Try.ntmps30
    go_wp2
    refine wp_loop_rounds 1 ?_
    rw [rounds_succ]
    go_wp2
    go_ret
    exact ⟨ret_int (by simp [ivSize, flat]), Only.refl _ _ _, Tame.refl _, OutC.refl _ _, trivial⟩
  · obtain ⟨b, o, rfl, hlo, hhi, hcl⟩ := hc (by omega)
    have HC := Lib.hid hcl
    have HK := Lib.hid hk1
    clear hcl hc hk1
    go_enter Try.func30, Try.ntmps30
    go_wp2
    go_loopw [1, 5] (fun kk i wr => ∃ (j : Nat) (s : Int), j ≤ m ∧ i = .int .i64 j ∧ kk = .int .i64 s ∧ Hid (s = k + (ivSize (flat J j) : Int)) ∧ Hid (Only lo hi w wr ∧ Tame w wr ∧ OutC (flat J j) w wr ∧ Marked wr (flat J j) k)) (fun _ i _ => m - (intOf i).toNat)
    case atStart => exact ⟨0, k, Nat.zero_le _, rfl, rfl, Lib.hid (by simp [flat, ivSize]), Lib.hid ⟨Only.refl _ _ _, Tame.refl _, OutC.refl _ _, trivial⟩⟩
    case round =>
      obtain ⟨j, s, hj, rfl, rfl, HSU, HO⟩ := hrel
      by_cases hlt : j < m
      · obtain ⟨a1, n1, c1, hu1⟩ := S1.shape (HS.out j hlt)
        have hu := HC.out j hlt
        rw [hu1] at hu
        have hu' := HO.out.2.1.slices _ _ _ _ _ hu
        have hs := HS.out
        have hsz := flat_size (J := J) hlt
        have hs0 : 0 ≤ s ∧ s ≤ 4611686018427387904 := by have := HSU.out; have := HK.out; omega
        have HM1 := Lib.hid (mark1s_any (f j) (J j) s wr (hs j hlt) ((HN.out.sub (flat_mem hlt)).tame HO.out.2.1) (by omega) (by omega))
        rw [hu1] at HM1
        have HS2 : Hid (s + (ivSize (J j) : Int) = k + (ivSize (flat J (j + 1)) : Int)) := Lib.hid (by have := HSU.out; rw [flat_succ, ivSize_append]; omega)
        clear hu hu1 hs hsz
        go_wp2_with fail
        refine HM1.out.mono ?_
        rintro e w2 ⟨rfl, ho, ht, hout, hmk⟩
        have HO2 : Hid (Only lo hi w w2 ∧ Tame w w2 ∧ OutC (flat J (j + 1)) w w2 ∧ Marked w2 (flat J (j + 1)) k) := Lib.hid ⟨HO.out.1.trans ho, HO.out.2.1.trans ht, by rw [flat_succ]; exact HO.out.2.2.1.trans hout, by
          rw [flat_succ]
          exact (HO.out.2.2.2.keep hout (flat_apart hlt HD.out)).append (by rw [← HSU.out]; exact hmk)⟩
        have hs1 : 0 ≤ s + (ivSize (J j) : Int) ∧ s + (ivSize (J j) : Int) ≤ 4611686018427387904 := by
          have h1 := HS2.out
          have h2 := HK.out
          have h3 : ivSize (flat J (j + 1)) ≤ ivSize (flat J m) := by
            obtain ⟨r, hr⟩ := flat_part J (show j + 1 ≤ m by omega)
            rw [hr, ivSize_append]; omega
          omega
        clear ho ht hout hmk HM1
        go_wp2
        go_roundw
        case rel => exact ⟨j + 1, s + (ivSize (J j) : Int), by omega, by go_num, rfl, HS2, HO2⟩
        case measure => simp [intOf]; omega
      · have hjj : Hid (j = m) := Lib.hid (by omega)
        go_wp2
        go_ret
        have h := HO.out
        have h2 := HSU.out
        rw [hjj.out] at h h2
        exact ⟨ret_int h2, h.1, h.2.1, h.2.2.1, h.2.2.2⟩

set_option maxHeartbeats 1600000 in
theorem held2s_any {lo hi : Nat} (v : Value) (I : List Iv) (k : Int) (w : World) (h : S2 lo hi w v I) (hn : Marked w I k) (hk0 : 0 ≤ k) (hk1 : k + (ivSize I : Int) ≤ 4611686018427387904) :
    Calls Try.prog 31 #[v, .int .i64 k] w (QW (.int .i64 (k + (ivSize I : Int))) w) := by
  obtain ⟨ad, m, cap, f, J, rfl, hm, rfl, hs, hc⟩ := h
  have HS := Lib.hid hs
  have HN := Lib.hid hn
  clear hs hn
  by_cases h0 : m = 0
  · subst h0
    clear hc
    go_enter Try.func31, Try.ntmps31
    go_wp2
    refine wp_loop_rounds 1 ?_
    rw [rounds_succ]
    go_wp2
    go_ret
    exact ⟨ret_int (by simp [ivSize, flat]), rfl⟩
  · obtain ⟨b, o, rfl, hlo, hhi, hcl⟩ := hc (by omega)
    have HC := Lib.hid hcl
    have HK := Lib.hid hk1
    clear hcl hc hk1
    go_enter Try.func31, Try.ntmps31
    go_wp2
    go_loop [1, 5] (fun kk i => ∃ (j : Nat) (s : Int), j ≤ m ∧ i = .int .i64 j ∧ kk = .int .i64 s ∧ Hid (s = k + (ivSize (flat J j) : Int))) (fun _ i => m - (intOf i).toNat)
    case atStart => exact ⟨0, k, Nat.zero_le _, rfl, rfl, Lib.hid (by simp [flat, ivSize])⟩
    case round =>
      obtain ⟨j, s, hj, rfl, rfl, HSU⟩ := hrel
      by_cases hlt : j < m
      · obtain ⟨a1, n1, c1, hu1⟩ := S1.shape (HS.out j hlt)
        have hu' := HC.out j hlt
        rw [hu1] at hu'
        have hs := HS.out
        have hsz := flat_size (J := J) hlt
        have hs0 : 0 ≤ s ∧ s ≤ 4611686018427387904 := by have := HSU.out; have := HK.out; omega
        have hmk : Marked w (J j) s := by
          obtain ⟨r, hr⟩ := flat_part J (show j + 1 ≤ m by omega)
          have h := HN.out
          rw [hr, flat_succ] at h
          have h2 := h.parts.1.parts.2
          rw [← HSU.out] at h2
          exact h2
        have HM1 := Lib.hid (held1s_any (f j) (J j) s w (hs j hlt) hmk (by omega) (by omega))
        rw [hu1] at HM1
        have HS2 : Hid (s + (ivSize (J j) : Int) = k + (ivSize (flat J (j + 1)) : Int)) := Lib.hid (by have := HSU.out; rw [flat_succ, ivSize_append]; omega)
        clear hu1 hs hsz hmk
        go_wp2_with fail
        refine HM1.out.mono ?_
        rintro e w2 ⟨rfl, rfl⟩
        have hneg : ¬ (s + (ivSize (J j) : Int) < 0) := by omega
        have hs1 : 0 ≤ s + (ivSize (J j) : Int) ∧ s + (ivSize (J j) : Int) ≤ 4611686018427387904 := by
          have h1 := HS2.out
          have h2 := HK.out
          have h3 : ivSize (flat J (j + 1)) ≤ ivSize (flat J m) := by
            obtain ⟨r, hr⟩ := flat_part J (show j + 1 ≤ m by omega)
            rw [hr, ivSize_append]; omega
          omega
        clear hu' HM1
        go_wp2
        go_round
        case rel => exact ⟨j + 1, s + (ivSize (J j) : Int), by omega, by go_num, rfl, HS2⟩
        case measure => simp [intOf]; omega
      · have hjj : Hid (j = m) := Lib.hid (by omega)
        go_wp2
        go_ret
        have h2 := HSU.out
        rw [hjj.out] at h2
        exact ⟨ret_int h2, rfl⟩

end Go.Proofs.Ytpdkfidmmjlmnab


namespace Go.Proofs.Ytpdkfidmmjlmnab
open Go.RowKit

/-- The table at block g: its row of rows there, row j at block g + 1 + j, number i of it Z j i. -/
structure Tb (W : World) (g r c : Nat) (Z : Nat → Nat → Int) : Prop where
  top : W.rowIs g 22 r (fun j => .slice (some ⟨g + 1 + j, 0, none⟩) c c)
  rows : ∀ j, j < r → W.rowIs (g + 1 + j) 2 c (fun i => .int .i64 (Z j i))
  lt : g + 1 + r ≤ W.heap.size
theorem Mat.tb {w w' : World} {r c : Nat} {Z : Nat → Nat → Int} (h : Mat w w' r c Z) : Tb w' w.heap.size r c Z := ⟨h.top, h.rows, by rw [h.size]; omega⟩
theorem Tb.below {W W' : World} {g r c : Nat} {Z : Nat → Nat → Int} (h : Tb W g r c Z) (hb : Below W.heap.size W W') : Tb W' g r c Z :=
  ⟨h.top.of_block (hb.block _ h.top.lt), fun j hj => (h.rows j hj).of_block (hb.block _ (h.rows j hj).lt), Nat.le_trans h.lt hb.size⟩
theorem Tb.out {W : World} {g r c : Nat} {Z : Nat → Nat → Int} (h : Tb W g r c Z) {a : Addr} (ha : a.block < g ∨ g + 1 + r ≤ a.block) (v : Value) : Tb (W.setCell a v) g r c Z :=
  ⟨h.top.setOther (by omega) v, fun j hj => (h.rows j hj).setOther (by omega) v, by simpa using h.lt⟩
theorem Tb.put {W : World} {g r c : Nat} {Z : Nat → Nat → Int} (h : Tb W g r c Z) {j i : Nat} (hj : j < r) (x : Int) :
    Tb (W.setCell ⟨g + 1 + j, i, none⟩ (.int .i64 x)) g r c (fun j2 i2 => if j2 = j ∧ i2 = i then x else Z j2 i2) := by
  refine ⟨h.top.setOther (by show g ≠ g + 1 + j; omega) _, fun j2 hj2 => ?_, by simpa using h.lt⟩
  by_cases e : j2 = j
  · subst e
    exact ((h.rows j2 hj2).set i _).congr (fun i2 _ => by by_cases e2 : i2 = i <;> simp [e2])
  · exact ((h.rows j2 hj2).setOther (by show g + 1 + j2 ≠ g + 1 + j; omega) _).congr (fun i2 _ => by simp [e])
theorem Tb.congr {W : World} {g r c : Nat} {Z Z' : Nat → Nat → Int} (h : Tb W g r c Z) (e : ∀ j, j < r → ∀ i, i < c → Z j i = Z' j i) : Tb W g r c Z' :=
  ⟨h.top, fun j hj => (h.rows j hj).congr (fun i hi => by rw [e j hj i hi]), h.lt⟩
end Go.Proofs.Ytpdkfidmmjlmnab


namespace Go.Proofs.Ytpdkfidmmjlmnab
open Go.RowKit

theorem S1.wider {lo hi lo' hi' : Nat} {W : World} {u : Value} {I : List Iv} (h : S1 lo hi W u I) (h1 : lo' ≤ lo) (h2 : hi ≤ hi') : S1 lo' hi' W u I := by
  rcases h with h | ⟨b, o, n, cap, e, a, b1, c, d, f⟩
  · exact Or.inl h
  · exact Or.inr ⟨b, o, n, cap, e, a, b1, by omega, by omega, f⟩
theorem SS.wider {S S' : World → Value → List Iv → Prop} {lo hi lo' hi' : Nat} {W : World} {u : Value} {I : List Iv} (h : SS S lo hi W u I) (hS : ∀ v I, S W v I → S' W v I) (h1 : lo' ≤ lo) (h2 : hi ≤ hi') : SS S' lo' hi' W u I := by
  obtain ⟨ad, m, cap, f, J, a, b, c, d, e⟩ := h
  refine ⟨ad, m, cap, f, J, a, b, c, fun j hj => hS _ _ (d j hj), fun hm => ?_⟩
  obtain ⟨b, o, x1, x2, x3, x4⟩ := e hm
  exact ⟨b, o, x1, by omega, by omega, x4⟩
theorem S2.wider {lo hi lo' hi' : Nat} {W : World} {u : Value} {I : List Iv} (h : S2 lo hi W u I) (h1 : lo' ≤ lo) (h2 : hi ≤ hi') : S2 lo' hi' W u I := SS.wider h (fun _ _ k => S1.wider k h1 h2) h1 h2
theorem S3.wider {lo hi lo' hi' : Nat} {W : World} {u : Value} {I : List Iv} (h : S3 lo hi W u I) (h1 : lo' ≤ lo) (h2 : hi ≤ hi') : S3 lo' hi' W u I := SS.wider h (fun _ _ k => S2.wider k h1 h2) h1 h2

/-- A result of 1 level(s) in blocks from lo up to hi, its numbers apart from each other. -/
def Rw1 (lo hi : Nat) (W : World) (u : Value) (out : List Int) : Prop := W1 lo hi W u out ∧ ∃ I, S1 lo hi W u I ∧ Nums lo hi W I ∧ Disj I ∧ ivSize I ≤ 1048576
theorem Rw1.same {lo hi : Nat} {W W' : World} {u : Value} {out : List Int} (h : Rw1 lo hi W u out) (s : Same lo hi W W') : Rw1 lo hi W' u out := by
  obtain ⟨h1, I, h2, h3, h4, h5⟩ := h
  exact ⟨h1.same s, I, h2, h3.same s, h4, h5⟩
theorem Rw1.next {lo hi : Nat} {W W' : World} {u : Value} {out : List Int} (h : Rw1 lo hi W u out) (hb : Below W.heap.size W W') (hh : hi ≤ W.heap.size) : Rw1 lo hi W' u out := h.same (Same.of_below hb hh)
theorem Rw1.wider {lo hi lo' hi' : Nat} {W : World} {u : Value} {out : List Int} (h : Rw1 lo hi W u out) (h1 : lo' ≤ lo) (h2 : hi ≤ hi') : Rw1 lo' hi' W u out := by
  obtain ⟨a, I, b, c, d, e⟩ := h
  exact ⟨a.wider h1 h2, I, b.wider h1 h2, c.wider h1 h2, d, e⟩
theorem Rw1.l {lo hi : Nat} {W : World} {u : Value} {out : List Int} (h : Rw1 lo hi W u out) : L1 0 W u out := h.1.l1.lower (Nat.zero_le _)
theorem Rw1.shape {lo hi : Nat} {W : World} {u : Value} {out : List Int} (h : Rw1 lo hi W u out) : ∃ ad cap, u = .slice ad out.length cap := Sw.shape h.1
theorem Rw1.nil (lo hi : Nat) (W : World) : Rw1 lo hi W (.slice none 0 0) [] := ⟨Or.inl ⟨rfl, _, _, rfl⟩, [], Or.inl ⟨rfl, _, _, rfl⟩, fun _ h => absurd h (by simp), List.Pairwise.nil, by simp [ivSize]⟩
/-- The same with the marks from 1 on in it. -/
def Hw1 (lo hi : Nat) (W : World) (u : Value) (m : Int) : Prop := ∃ I, S1 lo hi W u I ∧ Marked W I 1 ∧ (∀ x ∈ I, lo ≤ x.1 ∧ x.1 < hi) ∧ m = 1 + (ivSize I : Int) ∧ ivSize I ≤ 1048576
theorem Hw1.same {lo hi : Nat} {W W' : World} {u : Value} {m : Int} (h : Hw1 lo hi W u m) (s : Same lo hi W W') : Hw1 lo hi W' u m := by
  obtain ⟨I, h2, h3, h4, h5⟩ := h
  exact ⟨I, h2, h3.same h4 s, h4, h5⟩
theorem Hw1.next {lo hi : Nat} {W W' : World} {u : Value} {m : Int} (h : Hw1 lo hi W u m) (hb : Below W.heap.size W W') (hh : hi ≤ W.heap.size) : Hw1 lo hi W' u m := h.same (Same.of_below hb hh)
/-- A result of 2 level(s) in blocks from lo up to hi, its numbers apart from each other. -/
def Rw2 (lo hi : Nat) (W : World) (u : Value) (out : List (List Int)) : Prop := W2 lo hi W u out ∧ ∃ I, S2 lo hi W u I ∧ Nums lo hi W I ∧ Disj I ∧ ivSize I ≤ 1099511627776
theorem Rw2.same {lo hi : Nat} {W W' : World} {u : Value} {out : List (List Int)} (h : Rw2 lo hi W u out) (s : Same lo hi W W') : Rw2 lo hi W' u out := by
  obtain ⟨h1, I, h2, h3, h4, h5⟩ := h
  exact ⟨h1.same s, I, h2.same s, h3.same s, h4, h5⟩
theorem Rw2.next {lo hi : Nat} {W W' : World} {u : Value} {out : List (List Int)} (h : Rw2 lo hi W u out) (hb : Below W.heap.size W W') (hh : hi ≤ W.heap.size) : Rw2 lo hi W' u out := h.same (Same.of_below hb hh)
theorem Rw2.wider {lo hi lo' hi' : Nat} {W : World} {u : Value} {out : List (List Int)} (h : Rw2 lo hi W u out) (h1 : lo' ≤ lo) (h2 : hi ≤ hi') : Rw2 lo' hi' W u out := by
  obtain ⟨a, I, b, c, d, e⟩ := h
  exact ⟨a.wider h1 h2, I, b.wider h1 h2, c.wider h1 h2, d, e⟩
theorem Rw2.l {lo hi : Nat} {W : World} {u : Value} {out : List (List Int)} (h : Rw2 lo hi W u out) : L2 0 W u out := h.1.l2.lower (Nat.zero_le _)
theorem Rw2.shape {lo hi : Nat} {W : World} {u : Value} {out : List (List Int)} (h : Rw2 lo hi W u out) : ∃ ad cap, u = .slice ad out.length cap := Sw.shape h.1
theorem Rw2.nil (lo hi : Nat) (W : World) : Rw2 lo hi W (.slice none 0 0) [] := ⟨Or.inl ⟨rfl, _, _, rfl⟩, [], ⟨none, 0, 0, fun _ => .slice none 0 0, fun _ => [], rfl, by omega, rfl, fun _ h => absurd h (Nat.not_lt_zero _), fun h => absurd h (Nat.lt_irrefl _)⟩, fun _ h => absurd h (by simp), List.Pairwise.nil, by simp [ivSize]⟩
/-- The same with the marks from 1 on in it. -/
def Hw2 (lo hi : Nat) (W : World) (u : Value) (m : Int) : Prop := ∃ I, S2 lo hi W u I ∧ Marked W I 1 ∧ (∀ x ∈ I, lo ≤ x.1 ∧ x.1 < hi) ∧ m = 1 + (ivSize I : Int) ∧ ivSize I ≤ 1099511627776
theorem Hw2.same {lo hi : Nat} {W W' : World} {u : Value} {m : Int} (h : Hw2 lo hi W u m) (s : Same lo hi W W') : Hw2 lo hi W' u m := by
  obtain ⟨I, h2, h3, h4, h5⟩ := h
  exact ⟨I, h2.same s, h3.same h4 s, h4, h5⟩
theorem Hw2.next {lo hi : Nat} {W W' : World} {u : Value} {m : Int} (h : Hw2 lo hi W u m) (hb : Below W.heap.size W W') (hh : hi ≤ W.heap.size) : Hw2 lo hi W' u m := h.same (Same.of_below hb hh)
/-- A result of 3 level(s) in blocks from lo up to hi, its numbers apart from each other. -/
def Rw3 (lo hi : Nat) (W : World) (u : Value) (out : List (List (List Int))) : Prop := W3 lo hi W u out ∧ ∃ I, S3 lo hi W u I ∧ Nums lo hi W I ∧ Disj I ∧ ivSize I ≤ 1152921504606846976
theorem Rw3.same {lo hi : Nat} {W W' : World} {u : Value} {out : List (List (List Int))} (h : Rw3 lo hi W u out) (s : Same lo hi W W') : Rw3 lo hi W' u out := by
  obtain ⟨h1, I, h2, h3, h4, h5⟩ := h
  exact ⟨h1.same s, I, h2.same s, h3.same s, h4, h5⟩
theorem Rw3.next {lo hi : Nat} {W W' : World} {u : Value} {out : List (List (List Int))} (h : Rw3 lo hi W u out) (hb : Below W.heap.size W W') (hh : hi ≤ W.heap.size) : Rw3 lo hi W' u out := h.same (Same.of_below hb hh)
theorem Rw3.wider {lo hi lo' hi' : Nat} {W : World} {u : Value} {out : List (List (List Int))} (h : Rw3 lo hi W u out) (h1 : lo' ≤ lo) (h2 : hi ≤ hi') : Rw3 lo' hi' W u out := by
  obtain ⟨a, I, b, c, d, e⟩ := h
  exact ⟨a.wider h1 h2, I, b.wider h1 h2, c.wider h1 h2, d, e⟩
theorem Rw3.l {lo hi : Nat} {W : World} {u : Value} {out : List (List (List Int))} (h : Rw3 lo hi W u out) : L3 0 W u out := h.1.l3.lower (Nat.zero_le _)
theorem Rw3.shape {lo hi : Nat} {W : World} {u : Value} {out : List (List (List Int))} (h : Rw3 lo hi W u out) : ∃ ad cap, u = .slice ad out.length cap := Sw.shape h.1
theorem Rw3.nil (lo hi : Nat) (W : World) : Rw3 lo hi W (.slice none 0 0) [] := ⟨Or.inl ⟨rfl, _, _, rfl⟩, [], ⟨none, 0, 0, fun _ => .slice none 0 0, fun _ => [], rfl, by omega, rfl, fun _ h => absurd h (Nat.not_lt_zero _), fun h => absurd h (Nat.lt_irrefl _)⟩, fun _ h => absurd h (by simp), List.Pairwise.nil, by simp [ivSize]⟩
/-- The same with the marks from 1 on in it. -/
def Hw3 (lo hi : Nat) (W : World) (u : Value) (m : Int) : Prop := ∃ I, S3 lo hi W u I ∧ Marked W I 1 ∧ (∀ x ∈ I, lo ≤ x.1 ∧ x.1 < hi) ∧ m = 1 + (ivSize I : Int) ∧ ivSize I ≤ 1152921504606846976
theorem Hw3.same {lo hi : Nat} {W W' : World} {u : Value} {m : Int} (h : Hw3 lo hi W u m) (s : Same lo hi W W') : Hw3 lo hi W' u m := by
  obtain ⟨I, h2, h3, h4, h5⟩ := h
  exact ⟨I, h2.same s, h3.same h4 s, h4, h5⟩
theorem Hw3.next {lo hi : Nat} {W W' : World} {u : Value} {m : Int} (h : Hw3 lo hi W u m) (hb : Below W.heap.size W W') (hh : hi ≤ W.heap.size) : Hw3 lo hi W' u m := h.same (Same.of_below hb hh)
/-- Lists of intervals in spans of blocks one behind the other are apart. -/
theorem disj_spans {J : Nat → List Iv} {b : Nat → Nat} {n : Nat} (hi : ∀ j, j < n → b j ≤ b (j + 1)) (hJ : ∀ j, j < n → ∀ x ∈ J j, b j ≤ x.1 ∧ x.1 < b (j + 1)) (hd : ∀ j, j < n → Disj (J j)) : Disj (flat J n) ∧ ∀ x ∈ flat J n, x.1 < b n := by
  induction n with
  | zero => exact ⟨List.Pairwise.nil, fun x hx => absurd hx (by simp [flat])⟩
  | succ n ih =>
    obtain ⟨h1, h2⟩ := ih (fun j hj => hi j (by omega)) (fun j hj => hJ j (by omega)) (fun j hj => hd j (by omega))
    rw [flat_succ]
    refine ⟨List.pairwise_append.2 ⟨h1, hd n (by omega), fun x hx y hy => Or.inl ?_⟩, fun x hx => ?_⟩
    · have a := h2 x hx
      have c := (hJ n (by omega) y hy).1
      omega
    · rcases List.mem_append.1 hx with h | h
      · have a := h2 x h
        have c := hi n (by omega)
        omega
      · exact (hJ n (by omega) x h).2
theorem size_spans {J : Nat → List Iv} {n B : Nat} (h : ∀ j, j < n → ivSize (J j) ≤ B) : ivSize (flat J n) ≤ B * n := by
  induction n with
  | zero => simp [flat, ivSize]
  | succ n ih =>
    have h1 := ih (fun j hj => h j (by omega))
    have h2 := h n (by omega)
    rw [flat_succ, ivSize_append, Nat.mul_succ]
    omega
theorem nums_flat {lo hi : Nat} {W : World} {J : Nat → List Iv} {n : Nat} (h : ∀ j, j < n → Nums lo hi W (J j)) : Nums lo hi W (flat J n) := fun x hx => by
  obtain ⟨j, hj, hx⟩ := List.mem_flatMap.1 hx
  exact h j (List.mem_range.1 hj) x hx
theorem choose2 {α : Type} [Inhabited α] {P : Nat → α → Prop} {n : Nat} (h : ∀ j, j < n → ∃ a, P j a) : ∃ f : Nat → α, ∀ j, j < n → P j (f j) :=
  ⟨fun j => if hj : j < n then Classical.choose (h j hj) else default, fun j hj => by simp only [dif_pos hj]; exact Classical.choose_spec (h j hj)⟩

/-- A table in blocks of its own. -/
theorem Tb.rw2 {lo : Nat} {W : World} {g r c : Nat} {Z : Nat → Nat → Int} (h : Tb W g r c Z) (hl : lo ≤ g) (hr : r ≤ 1048576) (hc : c ≤ 1048576) : Rw2 lo W.heap.size W (.slice (some ⟨g, 0, none⟩) r r) (tableOf r c Z) := by
  have hlt := h.lt
  refine ⟨?_, ?_⟩
  · by_cases h0 : r = 0
    · subst h0
      exact Or.inl ⟨rfl, _, _, rfl⟩
    · refine Or.inr ⟨g, 0, r, by simp [tableOf], hl, by omega, by simp [tableOf]; omega, fun k hk => ?_, fun k _ => h.top.frozen _⟩
      have hk' : k < r := by simpa [tableOf] using hk
      refine ⟨_, by rw [Nat.zero_add]; exact h.top.cell hk', ?_⟩
      simp only [tableOf, List.getElem_map, List.getElem_range]
      by_cases hc : c = 0
      · subst hc
        exact Or.inl ⟨rfl, _, _, rfl⟩
      · refine Or.inr ⟨g + 1 + k, 0, c, by simp, by omega, by omega, by simp; omega, fun i hi => ?_, fun i _ => (h.rows k hk').frozen _⟩
        have hi' : i < c := by simpa using hi
        refine ⟨_, by rw [Nat.zero_add]; exact (h.rows k hk').cell hi', ?_⟩
        simp only [IsI, List.getElem_map, List.getElem_range]
  · refine ⟨flat (fun j => if c = 0 then [] else [(g + 1 + j, 0, c)]) r, ⟨some ⟨g, 0, none⟩, r, r, fun j => .slice (some ⟨g + 1 + j, 0, none⟩) c c, fun j => if c = 0 then [] else [(g + 1 + j, 0, c)], rfl, hr, rfl, fun j hj => ?_, fun _ => ⟨g, 0, rfl, hl, by omega, fun j hj => by rw [Nat.zero_add]; exact h.top.cell hj⟩⟩, nums_flat (fun j hj => ?_), ?_, ?_⟩
    · by_cases hc0 : c = 0
      · subst hc0
        exact Or.inl ⟨by simp, _, _, rfl⟩
      · exact Or.inr ⟨g + 1 + j, 0, c, c, if_neg hc0, by omega, hc, by omega, by omega, rfl⟩
    · intro x hx
      by_cases hc0 : c = 0
      · rw [if_pos hc0] at hx; simp at hx
      · rw [if_neg hc0] at hx
        obtain rfl : x = (g + 1 + j, 0, c) := by simpa using hx
        exact ⟨by show lo ≤ g + 1 + j; omega, by show g + 1 + j < _; omega, fun i hi => ⟨⟨Z j i, by rw [Nat.zero_add]; exact (h.rows j hj).cell hi⟩, (h.rows j hj).frozen _⟩⟩
    · refine (disj_spans (b := fun j => g + 1 + j) (fun j _ => by omega) (fun j _ x hx => ?_) (fun j _ => ?_)).1
      · by_cases hc0 : c = 0
        · rw [if_pos hc0] at hx; simp at hx
        · rw [if_neg hc0] at hx
          obtain rfl : x = (g + 1 + j, 0, c) := by simpa using hx
          exact ⟨Nat.le_refl _, by show g + 1 + j < g + 1 + (j + 1); omega⟩
      · by_cases hc0 : c = 0
        · rw [if_pos hc0]; exact List.Pairwise.nil
        · rw [if_neg hc0]; exact List.pairwise_singleton _ _
    · have := size_spans (J := fun j => if c = 0 then [] else [(g + 1 + j, 0, c)]) (n := r) (B := c) (fun j _ => by
        by_cases hc0 : c = 0
        · simp [hc0, ivSize]
        · simp [hc0, ivSize])
      have h2 : c * r ≤ 1048576 * 1048576 := Nat.mul_le_mul hc hr
      omega
theorem Mat.rw2 {lo : Nat} {w w' : World} {r c : Nat} {Z : Nat → Nat → Int} (h : Mat w w' r c Z) (hl : lo ≤ w.heap.size) (hr : r ≤ 1048576) (hc : c ≤ 1048576) : Rw2 lo w'.heap.size w' (.slice (some ⟨w.heap.size, 0, none⟩) r r) (tableOf r c Z) := h.tb.rw2 hl hr hc

/-- Tables while they are laid into a row of tables at block g: k of them are there. -/
structure Fill3 (wr : World) (g n k : Nat) (f : Nat → Value) (b : Nat → Nat) (ts : List (List (List Int))) : Prop where
  row : wr.rowIs g 26 n f
  lo : g < b 0
  inc : ∀ j, j < k → b j ≤ b (j + 1)
  hi : b k ≤ wr.heap.size
  at' : ∀ j (h : j < ts.length), j < k → Rw2 (b j) (b (j + 1)) wr (f j) ts[j]
theorem Fill3.start {wr : World} {g n : Nat} {f : Nat → Value} (h : wr.rowIs g 26 n f) (hg : g + 1 ≤ wr.heap.size) (ts : List (List (List Int))) : Fill3 wr g n 0 f (fun _ => g + 1) ts :=
  ⟨h, Nat.lt_succ_self _, fun _ h => absurd h (Nat.not_lt_zero _), hg, fun _ _ h => absurd h (Nat.not_lt_zero _)⟩
theorem Fill3.next {wr w' : World} {g n k : Nat} {f : Nat → Value} {b : Nat → Nat} {ts : List (List (List Int))} (h : Fill3 wr g n k f b ts) (hb : Below wr.heap.size wr w') (hm : ∀ j, j < k → b (j + 1) ≤ b k) : Fill3 w' g n k f b ts :=
  ⟨h.row.of_block (hb.block _ h.row.lt), h.lo, h.inc, Nat.le_trans h.hi hb.size, fun j hj hk => (h.at' j hj hk).next hb (Nat.le_trans (hm j hk) h.hi)⟩
theorem inc_le {b : Nat → Nat} {k : Nat} (h : ∀ j, j < k → b j ≤ b (j + 1)) : ∀ j, j ≤ k → b j ≤ b k := by
  intro j hj
  induction k with
  | zero => rw [show j = 0 by omega]; exact Nat.le_refl _
  | succ k ih =>
    by_cases e : j = k + 1
    · rw [e]; exact Nat.le_refl _
    · exact Nat.le_trans (ih (fun i hi => h i (by omega)) (by omega)) (h k (by omega))
theorem Fill3.below {wr w' : World} {g n k : Nat} {f : Nat → Value} {b : Nat → Nat} {ts : List (List (List Int))} (h : Fill3 wr g n k f b ts) (hb : Below wr.heap.size wr w') : Fill3 w' g n k f b ts := h.next hb (fun j hj => inc_le h.inc (j + 1) hj)
theorem Fill3.out {wr : World} {g n k : Nat} {f : Nat → Value} {b : Nat → Nat} {ts : List (List (List Int))} (h : Fill3 wr g n k f b ts) {a : Addr} (ha : a.block < g) (v : Value) : Fill3 (wr.setCell a v) g n k f b ts :=
  ⟨h.row.setOther (by omega) v, h.lo, h.inc, by simpa using h.hi, fun j hj hk => (h.at' j hj hk).same (fun x hx _ => Below.heap_setCell wr a v x (by have := h.lo; have := inc_le (b := b) (k := j) (fun i hi => h.inc i (by omega)) 0 (Nat.zero_le _); omega))⟩
theorem Fill3.step {wr w1 : World} {g n k : Nat} {f : Nat → Value} {b : Nat → Nat} {ts : List (List (List Int))} {u : Value} (h : Fill3 wr g n k f b ts) (hb : Below wr.heap.size wr w1) (hk : k < ts.length) (hu : Rw2 wr.heap.size w1.heap.size w1 u ts[k]) :
    Fill3 (w1.setCell ⟨g, k, none⟩ u) g n (k + 1) (fun j => if j = k then u else f j) (fun j => if j < k then b j else if j = k then wr.heap.size else w1.heap.size) ts := by
  have hlt := h.row.lt
  have hr : w1.rowIs g 26 n f := h.row.of_block (hb.block _ hlt)
  have hsm : ∀ lo hi, g < lo → Same lo hi w1 (w1.setCell ⟨g, k, none⟩ u) := fun lo hi hl => Same.set u (Or.inl hl)
  refine ⟨hr.set k u, ?_, fun j hj => ?_, ?_, fun j hj hjk => ?_⟩
  · by_cases e : 0 < k
    · simp only [if_pos e]; exact h.lo
    · simp only [if_neg e, if_pos (show 0 = k by omega)]; exact hlt
  · by_cases e : j < k
    · simp only [if_pos e]
      by_cases e2 : j + 1 < k
      · simp only [if_pos e2]; exact h.inc j e
      · simp only [if_neg e2, if_pos (show j + 1 = k by omega)]
        have := inc_le h.inc j (by omega)
        have := h.hi
        omega
    · simp only [if_neg e, if_pos (show j = k by omega), if_neg (show ¬ j + 1 < k by omega), if_neg (show ¬ j + 1 = k by omega)]
      exact hb.size
  · simp only [if_neg (show ¬ k + 1 < k by omega), if_neg (show ¬ k + 1 = k by omega)]
    simp
  · by_cases e : j = k
    · subst e
      simp only [if_neg (show ¬ j < j by omega), if_neg (show ¬ j + 1 < j by omega), if_neg (show ¬ j + 1 = j by omega), if_true]
      exact hu.same (hsm _ _ hlt)
    · have hj' : j < k := by omega
      have hh := inc_le h.inc (j + 1) hj'
      have h0 := inc_le (b := b) (k := j) (fun i hi => h.inc i (by omega)) 0 (Nat.zero_le _)
      have hl0 := h.lo
      have ht := ((h.at' j hj hj').next hb (Nat.le_trans hh h.hi)).same (hsm _ _ (by omega))
      simp only [if_neg e, if_pos hj']
      by_cases e2 : j + 1 < k
      · simp only [if_pos e2]; exact ht
      · simp only [if_neg e2, if_pos (show j + 1 = k by omega)]
        exact ht.wider (Nat.le_refl _) (Nat.le_trans hh h.hi)
/-- What a function answers beside a code. -/
structure RsOut {α : Type} (P : α → Prop) (z : α) (c0 : Int) (out : α) (c : Int) : Prop where
  good : c0 = 0 → P out
  bad : c0 ≠ 0 → out = z
  code : c = c0
theorem RsOut.unique {α : Type} {P : α → Prop} {z : α} {c0 : Int} {o1 o2 : α} {c1 c2 : Int} (hu : c0 = 0 → ∀ a b, P a → P b → a = b) (h1 : RsOut P z c0 o1 c1) (h2 : RsOut P z c0 o2 c2) : o1 = o2 ∧ c1 = c2 := by
  refine ⟨?_, h1.code.trans h2.code.symm⟩
  by_cases h0 : c0 = 0
  · exact hu h0 _ _ (h1.good h0) (h2.good h0)
  · rw [h1.bad h0, h2.bad h0]
theorem RsOut.all {α : Type} {P : α → Prop} {z : α} {c0 : Int} {o : α} {c : Int} (h : RsOut P z c0 o c) {Q : α → Prop} (hz : Q z) (hb : c0 = 0 → ∀ a, P a → Q a) : Q o := by
  by_cases h0 : c0 = 0
  · exact hb h0 _ (h.good h0)
  · rw [h.bad h0]
    exact hz
theorem RsOut.of_no {α : Type} {P : α → Prop} {z : α} {c0 : Int} (h : c0 ≠ 0) : RsOut P z c0 z c0 := ⟨fun h0 => absurd h0 h, fun _ => rfl, rfl⟩
theorem RsOut.of_yes {α : Type} {P : α → Prop} {z : α} {c0 : Int} {o : α} (h : c0 = 0) (hp : P o) : RsOut P z c0 o 0 := ⟨fun _ => hp, fun hh => absurd h hh, h.symm⟩
/-- The answer of the program: a result in memory of its own, and a code; and that of the model. -/
def AnsW {α : Type} (R : Nat → Nat → World → Value → α → Prop) (P : α → Prop) (z : α) (c0 : Int) (w : World) (e : Ending) (w' : World) : Prop :=
  ∃ (u : Value) (out : α) (c : Int), e = .returned (.tuple #[u, .int .i64 c]) ∧ R w.heap.size w'.heap.size w' u out ∧ Below w.heap.size w w' ∧ RsOut P z c0 out c
def AnsS {α : Type} (R : World → Value → α → Prop) (P : α → Prop) (z : α) (c0 : Int) (w : World) (e : Ending) (w' : World) : Prop :=
  ∃ (u : Value) (out : α) (c : Int), e = .returned (.tuple #[u, .int .i64 c]) ∧ R w' u out ∧ Below w.heap.size w w' ∧ RsOut P z c0 out c
end Go.Proofs.Ytpdkfidmmjlmnab


namespace Go.Proofs.Ytpdkfidmmjlmnab
open Go.RowKit

/-- The differential of a vector of the degree n. -/
def difOf (p : Int) (ds : List Int) (ms : List (List (List Int))) (n : Int) (vs : List Int) : List Int := if n = 0 then [] else apT p (ds.getD (n.toNat - 1) 0).toNat vs (ms.getD (n.toNat - 1) [])
def InDeg (ds : List Int) (n : Int) : Prop := 0 ≤ n ∧ n ≤ (ds.length : Int) - 1
/-- What DifferentialOf answers: a list and a code. -/
structure DifOut (p : Int) (ds : List Int) (ms : List (List (List Int))) (n : Int) (vs out : List Int) (c : Int) : Prop where
  bad : ¬ IsCx p ds ms → out = [] ∧ c = 1
  far : IsCx p ds ms → ¬ InDeg ds n → out = [] ∧ c = 2
  row : IsCx p ds ms → InDeg ds n → ¬ RowOk p (ds.getD n.toNat 0) vs → out = [] ∧ c = 2
  good : IsCx p ds ms → InDeg ds n → RowOk p (ds.getD n.toNat 0) vs → out = difOf p ds ms n vs ∧ c = 0
theorem DifOut.unique {p : Int} {ds : List Int} {ms : List (List (List Int))} {n : Int} {vs o1 o2 : List Int} {c1 c2 : Int} (h1 : DifOut p ds ms n vs o1 c1) (h2 : DifOut p ds ms n vs o2 c2) : o1 = o2 ∧ c1 = c2 := by
  by_cases a : IsCx p ds ms
  · by_cases b : InDeg ds n
    · by_cases c : RowOk p (ds.getD n.toNat 0) vs
      · have x := h1.good a b c
        have y := h2.good a b c
        exact ⟨x.1.trans y.1.symm, x.2.trans y.2.symm⟩
      · have x := h1.row a b c
        have y := h2.row a b c
        exact ⟨x.1.trans y.1.symm, x.2.trans y.2.symm⟩
    · have x := h1.far a b
      have y := h2.far a b
      exact ⟨x.1.trans y.1.symm, x.2.trans y.2.symm⟩
  · have x := h1.bad a
    have y := h2.bad a
    exact ⟨x.1.trans y.1.symm, x.2.trans y.2.symm⟩
end Go.Proofs.Ytpdkfidmmjlmnab


namespace Go.Proofs.Ytpdkfidmmjlmnab
open Go.RowKit

/-- The slice u holds tables, in a row of its own. -/
def Gt (base : Nat) (w : World) (u : Value) (ts : List (List (List Int))) : Prop := ∃ vs, w.ownsRow base 26 1 u ts.length vs ∧ ∀ k (h1 : k < vs.length) (h2 : k < ts.length), Gs 0 w vs[k] ts[k]
theorem Gt.below {base : Nat} {w w' : World} {u : Value} {ts : List (List (List Int))} (h : Gt base w u ts) (hb : Below w.heap.size w w') : Gt base w' u ts := by
  obtain ⟨vs, ho, hr⟩ := h
  exact ⟨vs, owns_below ho hb, fun k h1 h2 => (hr k h1 h2).below hb⟩
theorem Gt.l3 {base : Nat} {w : World} {u : Value} {ts : List (List (List Int))} (h : Gt base w u ts) : L3 0 w u ts := by
  obtain ⟨vs, ho, hr⟩ := h
  exact sl_of_owns ho (Nat.zero_le _) rfl (fun k h1 h2 => (hr k h2 h1).l2)
theorem Gt.lt {base : Nat} {w : World} {v : Value} {ts : List (List (List Int))} (h : Gt base w v ts) : ∀ k, v.ownBlock = some k → base ≤ k ∧ k < w.heap.size := by
  obtain ⟨vs, ho, _⟩ := h
  exact World.ownsRow.lt ho
theorem Gt.new {base : Nat} (w : World) (hb : base ≤ w.heap.size) : Gt base (w.alloc (.cells #[] 26)) (.slice (some ⟨w.heap.size, 0, none⟩) 0 0) [] :=
  ⟨[], by simpa using World.ownsRow_made (base := base) (e := 26) (size := 1) w #[] 0 hb (by unfold maxLen; omega) (by simp), fun k h1 _ => absurd h1 (Nat.not_lt_zero _)⟩
theorem Gs.new {base : Nat} (w : World) (hb : base ≤ w.heap.size) : Gs base (w.alloc (.cells #[] 22)) (.slice (some ⟨w.heap.size, 0, none⟩) 0 0) [] :=
  ⟨[], by simpa using World.ownsRow_made (base := base) (e := 22) (size := 1) w #[] 0 hb (by unfold maxLen; omega) (by simp), fun k h1 _ => absurd h1 (Nat.not_lt_zero _)⟩
theorem Gb.new {base : Nat} (w : World) (hb : base ≤ w.heap.size) : Gb base (w.alloc (.cells #[] 2)) (.slice (some ⟨w.heap.size, 0, none⟩) 0 0) [] := by
  have := World.ownsRow_made (base := base) (e := 2) (size := 1) w #[] 0 hb (by unfold maxLen; omega) (by simp)
  simpa [Gb] using this
theorem Gs.grown {w w3 : World} {base base' n : Nat} {u v : Value} {t : List (List Int)} {vs : List Value} (h : Gs base' w u t) (ho : w.ownsRow base 26 1 v n vs) (hg : w.grownBy w3 v.ownBlock) : Gs base' w3 u t := by
  obtain ⟨us, hu, hr⟩ := h
  exact ⟨us, owns_grown hu ho (by decide) hg, fun k h1 h2 => owns_grown (hr k h1 h2) ho (by decide) hg⟩
theorem Gt.push {base : Nat} {w w3 : World} {v v' row : Value} {ts : List (List (List Int))} {vs : List Value} {x : List (List Int)} (ho : w.ownsRow base 26 1 v ts.length vs) (hr : ∀ k (h1 : k < vs.length) (h2 : k < ts.length), Gs 0 w vs[k] ts[k]) (hx : Gs 0 w row x)
    (ho3 : w3.ownsRow base 26 1 v' (ts.length + 1) (vs ++ [row])) (hg : w.grownBy w3 v.ownBlock) : Gt base w3 v' (ts ++ [x]) := by
  have hvl : vs.length = ts.length := by have := ho.1; omega
  refine ⟨vs ++ [row], by simpa using ho3, fun k h1 h2 => ?_⟩
  by_cases e : k < vs.length
  · rw [List.getElem_append_left e, List.getElem_append_left (by omega)]
    exact (hr k e (by omega)).grown ho hg
  · have e2 : k = vs.length := by simp at h1; omega
    subst e2
    rw [List.getElem_append_right (by omega), List.getElem_append_right (by omega)]
    simp only [hvl, Nat.sub_self, List.getElem_cons_zero]
    exact hx.grown ho hg
theorem gb_row {W : World} {base g n : Nat} {f : Nat → Value} {xs : List Int} (h : W.rowIs g 2 n f) (hl : xs.length = n) (hf : ∀ i (h : i < xs.length), f i = .int .i64 xs[i]) (hn : n ≤ maxLen) (hb : base ≤ g) : Gb base W (.slice (some ⟨g, 0, none⟩) n n) xs := by
  obtain ⟨cs, hbl, hsz, hcs⟩ := h
  refine ⟨by simp, Or.inr ⟨g, n, cs, by rw [hl], hb, hbl, by omega, hn, by simp [hsz], ?_⟩⟩
  refine List.ext_getElem (by simp [hl, hsz]) fun i h1 h2 => ?_
  have hi : i < n := by have : i < xs.length := by simpa using h2
                        omega
  simp only [List.getElem_take, List.getElem_map]
  have := hcs i hi
  rw [hf i (by omega)] at this
  obtain ⟨_, h3⟩ := Array.getElem?_eq_some_iff.1 this
  simpa using h3
section
variable {ops : Array Oper} {rest : List Oper} {Q : Exit → Act → World → Prop}
end
end Go.Proofs.Ytpdkfidmmjlmnab


namespace Go.Proofs.Ytpdkfidmmjlmnab
open Go.RowKit

/-- A couple. -/
def IsCp (p d e : Int) (il jl kl : List (List Int)) : Prop := IsP p ∧ (0 ≤ d ∧ d ≤ 24) ∧ (0 ≤ e ∧ e ≤ 24) ∧ TabOk p d d il ∧ TabOk p d e jl ∧ TabOk p e d kl
theorem no_iff {P : Prop} (h : ¬ P) : (false = true ↔ P) := ⟨fun k => (by cases k), fun k => absurd k h⟩
theorem yes_iff {P : Prop} (h : P) : (true = true ↔ P) := ⟨fun _ => h, fun _ => rfl⟩
set_option maxHeartbeats 3200000 in
set_option maxRecDepth 100000 in
theorem l05Is_any (p d e : Int) (iv jv kv : Value) (il jl kl : List (List Int)) (w : World) (h : Cp 0 w iv jv kv il jl kl) (hm : CpB 1048576 il jl kl) :
    Calls Try.prog 132 #[.agg #[.int .i64 p, .int .i64 d, .int .i64 e, iv, jv, kv]] w (BB (IsCp p d e il jl kl) w) := by
  have HM := Lib.hid hm
  obtain ⟨w1, hw1⟩ : ∃ w1, w1 = w.alloc (.cells #[.int .i64 p, .int .i64 d, .int .i64 e, iv, jv, kv] 71) := ⟨_, rfl⟩
  have hs1 : w1.heap.size = w.heap.size + 1 := by rw [hw1]; simp
  have HX : Hid (BxCp w w1 w.heap.size p d e iv jv kv il jl kl) := Lib.hid (by rw [hw1]; exact BxCp.start 71 h)
  clear h hm
  have c0 := HX.out.c0
  have c1 := HX.out.c1
  have c2 := HX.out.c2
  have c3 := HX.out.c3
  have c4 := HX.out.c4
  have c5 := HX.out.c5
  go_enter Try.func132, Try.ntmps132
  go_upto_region 1 with fail
  rw [← hw1]
  clear hw1
  by_cases hp : IsP p
  · have HP := Lib.hid hp
    clear hp
    go_wp2_with fail
    refine (spprime_yes HP.out _).mono ?_
    rintro ee w' ⟨rfl, rfl⟩
    by_cases hd : 0 ≤ d ∧ d ≤ 24
    · have HD := Lib.hid hd
      clear hd
      go_wp2_with fail
      refine (spin_yes HD.out _).mono ?_
      rintro ee w' ⟨rfl, rfl⟩
      by_cases he : 0 ≤ e ∧ e ≤ 24
      · have HE := Lib.hid he
        clear he
        go_wp2_with fail
        refine (spin_yes HE.out _).mono ?_
        rintro ee w' ⟨rfl, rfl⟩
        go_wp2_with fail
        refine (l01Table_any p d d iv il _ HP.out HX.out.cx.fi HM.out.bi).mono ?_
        rintro ee w' ⟨b1, rfl, rfl, hb1⟩
        by_cases hi : TabOk p d d il
        · obtain rfl : b1 = true := hb1.2 hi
          have HI := Lib.hid hi
          clear hb1 hi
          go_wp2_with fail
          refine (l01Table_any p d e jv jl _ HP.out HX.out.cx.fj HM.out.bj).mono ?_
          rintro ee w' ⟨b2, rfl, rfl, hb2⟩
          by_cases hj : TabOk p d e jl
          · obtain rfl : b2 = true := hb2.2 hj
            have HJ := Lib.hid hj
            clear hb2 hj
            go_wp2_with fail
            refine (l01Table_any p e d kv kl _ HP.out HX.out.cx.fk HM.out.bk).mono ?_
            rintro ee w' ⟨b3, rfl, rfl, hb3⟩
            have HB3 := Lib.hid hb3
            clear hb3
            go_wp2
            go_ret
            exact ⟨b3, rfl, HX.out.below, HB3.out.trans ⟨fun h => ⟨HP.out, HD.out, HE.out, HI.out, HJ.out, h⟩, fun h => h.2.2.2.2.2⟩⟩
          · obtain rfl : b2 = false := bb_no hb2 hj
            have HJ := Lib.hid hj
            clear hb2 hj
            go_wp2
            go_ret
            exact ⟨false, rfl, HX.out.below, no_iff fun h => HJ.out h.2.2.2.2.1⟩
        · obtain rfl : b1 = false := bb_no hb1 hi
          have HI := Lib.hid hi
          clear hb1 hi
          go_wp2
          go_ret
          exact ⟨false, rfl, HX.out.below, no_iff fun h => HI.out h.2.2.2.1⟩
      · have HE := Lib.hid he
        clear he
        go_wp2_with fail
        refine (spin_no HE.out _).mono ?_
        rintro ee w' ⟨rfl, rfl⟩
        go_wp2
        go_ret
        exact ⟨false, rfl, HX.out.below, no_iff fun h => HE.out h.2.2.1⟩
    · have HD := Lib.hid hd
      clear hd
      go_wp2_with fail
      refine (spin_no HD.out _).mono ?_
      rintro ee w' ⟨rfl, rfl⟩
      go_wp2
      go_ret
      exact ⟨false, rfl, HX.out.below, no_iff fun h => HD.out h.2.1⟩
  · have HP := Lib.hid hp
    clear hp
    go_wp2_with fail
    refine (spprime_no HP.out _).mono ?_
    rintro ee w' ⟨rfl, rfl⟩
    go_wp2
    go_ret
    exact ⟨false, rfl, HX.out.below, no_iff fun h => HP.out h.1⟩

theorem hload6 (w : World) {b : Nat} {p d e : Int} {iv jv kv : Value} (c0 : w.cell? ⟨b, 0, none⟩ = some (.int .i64 p)) (c1 : w.cell? ⟨b, 1, none⟩ = some (.int .i64 d)) (c2 : w.cell? ⟨b, 2, none⟩ = some (.int .i64 e)) (c3 : w.cell? ⟨b, 3, none⟩ = some iv) (c4 : w.cell? ⟨b, 4, none⟩ = some jv) (c5 : w.cell? ⟨b, 5, none⟩ = some kv) :
    (Instr.loadAt 71 (.pointer (some ⟨b, 0, none⟩))).run Try.prog w = .ok (.agg #[.int .i64 p, .int .i64 d, .int .i64 e, iv, jv, kv]) w := by go_simp
theorem hloadSSc (w : World) {b o : Nat} {x : Value} (h : w.cell? ⟨b, o, none⟩ = some x) : (Instr.loadAt 26 (.pointer (some ⟨b, o, none⟩))).run Try.prog w = .ok x w := by go_simp

end Go.Proofs.Ytpdkfidmmjlmnab


namespace Go.Proofs.Ytpdkfidmmjlmnab
open Go.RowKit

structure Fill2 (wr : World) (g n k : Nat) (f : Nat → Value) (b : Nat → Nat) (ts : List (List Int)) : Prop where
  row : wr.rowIs g 22 n f
  lo : g < b 0
  inc : ∀ j, j < k → b j ≤ b (j + 1)
  hi : b k ≤ wr.heap.size
  at' : ∀ j (h : j < ts.length), j < k → Rw1 (b j) (b (j + 1)) wr (f j) ts[j]
theorem Fill2.start {wr : World} {g n : Nat} {f : Nat → Value} (h : wr.rowIs g 22 n f) (hg : g + 1 ≤ wr.heap.size) (ts : List (List Int)) : Fill2 wr g n 0 f (fun _ => g + 1) ts :=
  ⟨h, Nat.lt_succ_self _, fun _ h => absurd h (Nat.not_lt_zero _), hg, fun _ _ h => absurd h (Nat.not_lt_zero _)⟩
theorem Fill2.next {wr w' : World} {g n k : Nat} {f : Nat → Value} {b : Nat → Nat} {ts : List (List Int)} (h : Fill2 wr g n k f b ts) (hb : Below wr.heap.size wr w') (hm : ∀ j, j < k → b (j + 1) ≤ b k) : Fill2 w' g n k f b ts :=
  ⟨h.row.of_block (hb.block _ h.row.lt), h.lo, h.inc, Nat.le_trans h.hi hb.size, fun j hj hk => (h.at' j hj hk).next hb (Nat.le_trans (hm j hk) h.hi)⟩
theorem Fill2.below {wr w' : World} {g n k : Nat} {f : Nat → Value} {b : Nat → Nat} {ts : List (List Int)} (h : Fill2 wr g n k f b ts) (hb : Below wr.heap.size wr w') : Fill2 w' g n k f b ts := h.next hb (fun j hj => inc_le h.inc (j + 1) hj)
theorem Fill2.out {wr : World} {g n k : Nat} {f : Nat → Value} {b : Nat → Nat} {ts : List (List Int)} (h : Fill2 wr g n k f b ts) {a : Addr} (ha : a.block < g) (v : Value) : Fill2 (wr.setCell a v) g n k f b ts :=
  ⟨h.row.setOther (by omega) v, h.lo, h.inc, by simpa using h.hi, fun j hj hk => (h.at' j hj hk).same (fun x hx _ => Below.heap_setCell wr a v x (by have := h.lo; have := inc_le (b := b) (k := j) (fun i hi => h.inc i (by omega)) 0 (Nat.zero_le _); omega))⟩
theorem Fill2.step {wr w1 : World} {g n k : Nat} {f : Nat → Value} {b : Nat → Nat} {ts : List (List Int)} {u : Value} (h : Fill2 wr g n k f b ts) (hb : Below wr.heap.size wr w1) (hk : k < ts.length) (hu : Rw1 wr.heap.size w1.heap.size w1 u ts[k]) :
    Fill2 (w1.setCell ⟨g, k, none⟩ u) g n (k + 1) (fun j => if j = k then u else f j) (fun j => if j < k then b j else if j = k then wr.heap.size else w1.heap.size) ts := by
  have hlt := h.row.lt
  have hr : w1.rowIs g 22 n f := h.row.of_block (hb.block _ hlt)
  have hsm : ∀ lo hi, g < lo → Same lo hi w1 (w1.setCell ⟨g, k, none⟩ u) := fun lo hi hl => Same.set u (Or.inl hl)
  refine ⟨hr.set k u, ?_, fun j hj => ?_, ?_, fun j hj hjk => ?_⟩
  · by_cases e : 0 < k
    · simp only [if_pos e]; exact h.lo
    · simp only [if_neg e, if_pos (show 0 = k by omega)]; exact hlt
  · by_cases e : j < k
    · simp only [if_pos e]
      by_cases e2 : j + 1 < k
      · simp only [if_pos e2]; exact h.inc j e
      · simp only [if_neg e2, if_pos (show j + 1 = k by omega)]
        have := inc_le h.inc j (by omega)
        have := h.hi
        omega
    · simp only [if_neg e, if_pos (show j = k by omega), if_neg (show ¬ j + 1 < k by omega), if_neg (show ¬ j + 1 = k by omega)]
      exact hb.size
  · simp only [if_neg (show ¬ k + 1 < k by omega), if_neg (show ¬ k + 1 = k by omega)]
    simp
  · by_cases e : j = k
    · subst e
      simp only [if_neg (show ¬ j < j by omega), if_neg (show ¬ j + 1 < j by omega), if_neg (show ¬ j + 1 = j by omega), if_true]
      exact hu.same (hsm _ _ hlt)
    · have hj' : j < k := by omega
      have hh := inc_le h.inc (j + 1) hj'
      have h0 := inc_le (b := b) (k := j) (fun i hi => h.inc i (by omega)) 0 (Nat.zero_le _)
      have hl0 := h.lo
      have ht := ((h.at' j hj hj').next hb (Nat.le_trans hh h.hi)).same (hsm _ _ (by omega))
      simp only [if_neg e, if_pos hj']
      by_cases e2 : j + 1 < k
      · simp only [if_pos e2]; exact ht
      · simp only [if_neg e2, if_pos (show j + 1 = k by omega)]
        exact ht.wider (Nat.le_refl _) (Nat.le_trans hh h.hi)
theorem Fill2.rw2 {wr : World} {g n : Nat} {f : Nat → Value} {b : Nat → Nat} {ts : List (List Int)} (h : Fill2 wr g n n f b ts) (hn : n = ts.length) (hs : n ≤ 1048576) : Rw2 g wr.heap.size wr (.slice (some ⟨g, 0, none⟩) n n) ts := by
  have hlt := h.row.lt
  have h1 : ∀ j, j < n → Rw1 g wr.heap.size wr (f j) (ts.getD j []) := fun j hj => by
    rw [getD_of_lt _ (by omega)]
    have a1 := inc_le h.inc (j + 1) hj
    have a2 := inc_le (b := b) (k := j) (fun i hi => h.inc i (by omega)) 0 (Nat.zero_le _)
    have a3 := h.lo
    exact (h.at' j (by omega) hj).wider (by omega) (Nat.le_trans a1 h.hi)
  refine ⟨?_, ?_⟩
  · by_cases h0 : n = 0
    · exact Or.inl ⟨List.eq_nil_of_length_eq_zero (by omega), _, _, by rw [h0]⟩
    · refine Or.inr ⟨g, 0, n, by rw [hn], Nat.le_refl _, hlt, by omega, fun k hk => ?_, fun k _ => h.row.frozen _⟩
      refine ⟨f k, by rw [Nat.zero_add]; exact h.row.cell (by omega), ?_⟩
      have := (h1 k (by omega)).1
      rwa [getD_of_lt _ hk] at this
  · have hex : ∀ j, j < n → ∃ I, S1 (b j) (b (j + 1)) wr (f j) I ∧ Nums (b j) (b (j + 1)) wr I ∧ Disj I ∧ ivSize I ≤ 1048576 := fun j hj => (h.at' j (by omega) hj).2
    obtain ⟨J, hJ⟩ := choose2 hex
    have hw : ∀ j, j < n → g ≤ b j ∧ b (j + 1) ≤ wr.heap.size := fun j hj => by
      have a1 := inc_le h.inc (j + 1) hj
      have a2 := inc_le (b := b) (k := j) (fun i hi => h.inc i (by omega)) 0 (Nat.zero_le _)
      have a3 := h.lo
      have a4 := h.hi
      omega
    refine ⟨flat J n, ⟨some ⟨g, 0, none⟩, n, n, f, J, rfl, hs, rfl, fun j hj => (hJ j hj).1.wider (hw j hj).1 (hw j hj).2, fun _ => ⟨g, 0, rfl, Nat.le_refl _, hlt, fun j hj => by rw [Nat.zero_add]; exact h.row.cell hj⟩⟩, nums_flat (fun j hj => (hJ j hj).2.1.wider (hw j hj).1 (hw j hj).2), (disj_spans h.inc (fun j hj x hx => ⟨((hJ j hj).2.1 x hx).1, ((hJ j hj).2.1 x hx).2.1⟩) (fun j hj => (hJ j hj).2.2.1)).1, ?_⟩
    have h2 := size_spans (J := J) (n := n) (B := 1048576) (fun j hj => (hJ j hj).2.2.2)
    have h3 : 1048576 * n ≤ 1048576 * 1048576 := Nat.mul_le_mul (Nat.le_refl _) hs
    omega
end Go.Proofs.Ytpdkfidmmjlmnab


namespace Go.Proofs.Ytpdkfidmmjlmnab
open Go.RowKit

set_option maxRecDepth 100000 in
theorem mapsOfCouples_any (w : World) : Calls Try.prog 134 #[] w (BR (.agg #[.func (.func 188) #[] #[], .func (.func 189) #[] #[], .func (.func 190) #[] #[]]) w) := by
  have hres : Try.f134.results = #[.cell 0 135] := by kernel_rfl
  have HRES := Lib.hid hres
  have HH : Hid ((w.alloc (.cells #[.nilFunc, .nilFunc, .nilFunc] 135)).heap[w.heap.size]? = some (.cells #[.nilFunc, .nilFunc, .nilFunc] 135 (0, 0))) := Lib.hid (by simpa using heap_alloc_new w (.cells #[.nilFunc, .nilFunc, .nilFunc] 135))
  have HB : Hid (Below w.heap.size w (w.alloc (.cells #[.nilFunc, .nilFunc, .nilFunc] 135))) := Lib.hid (below_alloc1 _ _)
  clear hres
  go_enter Try.func134, Try.ntmps134
  go_wp2
  refine bodyPost_ret (v := .agg #[.func (.func 188) #[] #[], .func (.func 189) #[] #[], .func (.func 190) #[] #[]]) ?_ rfl ?_
  · simp only [results, HRES.out]
    go_simp
  · exact ⟨rfl, below_alloc1 _ _⟩


set_option maxHeartbeats 400000 in
theorem mapI_any (p d e : Int) (iv jv kv : Value) (il jl kl : List (List Int)) (w : World) (h : Cp 0 w iv jv kv il jl kl) : Calls Try.prog 188 #[.agg #[.int .i64 p, .int .i64 d, .int .i64 e, iv, jv, kv]] w (BR (.agg #[.int .i64 p, .int .i64 d, .int .i64 d, iv]) w) := by
  have hres : Try.f188.results = #[.cell 2 138] := by kernel_rfl
  have HRES := Lib.hid hres
  obtain ⟨⟨ai, ci, rfl⟩, ⟨aj, cj, rfl⟩, ⟨ak, ck, rfl⟩⟩ := h.shapes
  clear hres h
  go_enter Try.func188, Try.ntmps188
  go_wp2
  refine bodyPost_ret (v := .agg #[.int .i64 p, .int .i64 d, .int .i64 d, .slice ai il.length ci]) ?_ rfl ?_
  · simp only [results, HRES.out]
    go_simp
  · exact ⟨rfl, (((Below.refl _ _).alloc (Nat.le_refl _) _).alloc (by simp) _)⟩


set_option maxHeartbeats 400000 in
theorem mapJ_any (p d e : Int) (iv jv kv : Value) (il jl kl : List (List Int)) (w : World) (h : Cp 0 w iv jv kv il jl kl) : Calls Try.prog 189 #[.agg #[.int .i64 p, .int .i64 d, .int .i64 e, iv, jv, kv]] w (BR (.agg #[.int .i64 p, .int .i64 d, .int .i64 e, jv]) w) := by
  have hres : Try.f189.results = #[.cell 2 138] := by kernel_rfl
  have HRES := Lib.hid hres
  obtain ⟨⟨ai, ci, rfl⟩, ⟨aj, cj, rfl⟩, ⟨ak, ck, rfl⟩⟩ := h.shapes
  clear hres h
  go_enter Try.func189, Try.ntmps189
  go_wp2
  refine bodyPost_ret (v := .agg #[.int .i64 p, .int .i64 d, .int .i64 e, .slice aj jl.length cj]) ?_ rfl ?_
  · simp only [results, HRES.out]
    go_simp
  · exact ⟨rfl, (((Below.refl _ _).alloc (Nat.le_refl _) _).alloc (by simp) _)⟩


set_option maxHeartbeats 400000 in
theorem mapK_any (p d e : Int) (iv jv kv : Value) (il jl kl : List (List Int)) (w : World) (h : Cp 0 w iv jv kv il jl kl) : Calls Try.prog 190 #[.agg #[.int .i64 p, .int .i64 d, .int .i64 e, iv, jv, kv]] w (BR (.agg #[.int .i64 p, .int .i64 e, .int .i64 d, kv]) w) := by
  have hres : Try.f190.results = #[.cell 2 138] := by kernel_rfl
  have HRES := Lib.hid hres
  obtain ⟨⟨ai, ci, rfl⟩, ⟨aj, cj, rfl⟩, ⟨ak, ck, rfl⟩⟩ := h.shapes
  clear hres h
  go_enter Try.func190, Try.ntmps190
  go_wp2
  refine bodyPost_ret (v := .agg #[.int .i64 p, .int .i64 e, .int .i64 d, .slice ak kl.length ck]) ?_ rfl ?_
  · simp only [results, HRES.out]
    go_simp
  · exact ⟨rfl, (((Below.refl _ _).alloc (Nat.le_refl _) _).alloc (by simp) _)⟩


theorem idxM0 (W : World) : (Instr.index 135 (.agg #[.func (.func 188) #[] #[], .func (.func 189) #[] #[], .func (.func 190) #[] #[]]) (.int .i64 0)).run Try.prog W = .ok (.func (.func 188) #[] #[]) W := by kernel_rfl
theorem idxM1 (W : World) : (Instr.index 135 (.agg #[.func (.func 188) #[] #[], .func (.func 189) #[] #[], .func (.func 190) #[] #[]]) (.int .i64 1)).run Try.prog W = .ok (.func (.func 189) #[] #[]) W := by kernel_rfl
theorem idxM2 (W : World) : (Instr.index 135 (.agg #[.func (.func 188) #[] #[], .func (.func 189) #[] #[], .func (.func 190) #[] #[]]) (.int .i64 2)).run Try.prog W = .ok (.func (.func 190) #[] #[]) W := by kernel_rfl
set_option maxHeartbeats 6400000 in
set_option maxRecDepth 100000 in
theorem isCouple_any (p d e : Int) (iv jv kv : Value) (il jl kl : List (List Int)) (w : World) (h : Cp 0 w iv jv kv il jl kl) (hm : CpB 1048576 il jl kl) :
    Calls Try.prog 68 #[.agg #[.int .i64 p, .int .i64 d, .int .i64 e, iv, jv, kv]] w (VrB (fun b => b = true ↔ IsCp p d e il jl kl) w) := by
  have HM := Lib.hid hm
  obtain ⟨w1, hw1⟩ : ∃ w1, w1 = w.alloc (.cells #[.int .i64 p, .int .i64 d, .int .i64 e, iv, jv, kv] 71) := ⟨_, rfl⟩
  have hs1 : w1.heap.size = w.heap.size + 1 := by rw [hw1]; simp
  have HX : Hid (BxCp w w1 w.heap.size p d e iv jv kv il jl kl) := Lib.hid (by rw [hw1]; exact BxCp.start 71 h)
  clear h hm
  obtain ⟨⟨ai, ci, rfl⟩, ⟨aj, cj, rfl⟩, ⟨ak, ck, rfl⟩⟩ := HX.out.cx.shapes
  have hq0 := idxM0
  have hq1 := idxM1
  have hq2 := idxM2
  have c0 := HX.out.c0
  have c1 := HX.out.c1
  have c2 := HX.out.c2
  have c3 := HX.out.c3
  have c4 := HX.out.c4
  have c5 := HX.out.c5
  go_enter Try.func68, Try.ntmps68
  go_upto_region 1 with fail
  rw [← hw1]
  clear hw1
  by_cases hp : IsP p
  · have HP := Lib.hid hp
    clear hp
    go_wp2_with fail
    refine (prime_yes HP.out _).mono ?_
    rintro ee w' ⟨rfl, rfl⟩
    by_cases hd : 0 ≤ d ∧ d ≤ 24
    · have HD := Lib.hid hd
      clear hd
      go_wp2_with fail
      refine (in_yes HD.out _).mono ?_
      rintro ee w' ⟨rfl, rfl⟩
      by_cases he : 0 ≤ e ∧ e ≤ 24
      · have HE := Lib.hid he
        clear he
        go_wp2_with fail
        refine (in_yes HE.out _).mono ?_
        rintro ee w' ⟨rfl, rfl⟩
        go_wp2_with fail
        refine (mapsOfCouples_any _).mono ?_
        rintro ee w2 ⟨rfl, hb⟩
        have HX2 := Lib.hid (HX.out.next hb)
        clear hb c0 c1 c2 c3 c4 c5
        have c0 := HX2.out.c0
        have c1 := HX2.out.c1
        have c2 := HX2.out.c2
        have c3 := HX2.out.c3
        have c4 := HX2.out.c4
        have c5 := HX2.out.c5
        go_wp2
        refine wp_loop_rounds 4 ?_
        rw [rounds_succ]
        go_wp2_with fail
        refine (mapI_any p d e _ _ _ il jl kl _ HX2.out.cx).mono ?_
        rintro ee w3 ⟨rfl, hb⟩
        have HY := Lib.hid (HX2.out.next hb)
        have HZ := Lib.hid (HY.out.next (below_alloc1 w3 (.cells #[.int .i64 p, .int .i64 d, .int .i64 d, .slice ai il.length ci] 138)))
        clear hb c0 c1 c2 c3 c4 c5
        go_wp2_with fail
        refine (isTable_any p d d (.slice ai il.length ci) il _ HP.out HZ.out.cx.fi HM.out.bi).mono ?_
        rintro ee w' ⟨b0, rfl, rfl, hbb⟩
        by_cases ht : TabOk p d d il
        · obtain rfl : b0 = true := hbb.2 ht
          have HT0 := Lib.hid ht
          have HX3 := HZ
          clear hbb ht HY HZ HX2
          have c0 := HX3.out.c0
          have c1 := HX3.out.c1
          have c2 := HX3.out.c2
          have c3 := HX3.out.c3
          have c4 := HX3.out.c4
          have c5 := HX3.out.c5
          go_wp2
          rw [rounds_succ]
          go_wp2_with fail
          refine (mapJ_any p d e _ _ _ il jl kl _ HX3.out.cx).mono ?_
          rintro ee w4 ⟨rfl, hb⟩
          have HY := Lib.hid (HX3.out.next hb)
          have HZ := Lib.hid (HY.out.next (below_alloc1 w4 (.cells #[.int .i64 p, .int .i64 d, .int .i64 e, .slice aj jl.length cj] 138)))
          clear hb c0 c1 c2 c3 c4 c5
          go_wp2_with fail
          refine (isTable_any p d e (.slice aj jl.length cj) jl _ HP.out HZ.out.cx.fj HM.out.bj).mono ?_
          rintro ee w' ⟨b1, rfl, rfl, hbb⟩
          by_cases ht : TabOk p d e jl
          · obtain rfl : b1 = true := hbb.2 ht
            have HT1 := Lib.hid ht
            have HX4 := HZ
            clear hbb ht HY HZ HX3
            have c0 := HX4.out.c0
            have c1 := HX4.out.c1
            have c2 := HX4.out.c2
            have c3 := HX4.out.c3
            have c4 := HX4.out.c4
            have c5 := HX4.out.c5
            go_wp2
            rw [rounds_succ]
            go_wp2_with fail
            refine (mapK_any p d e _ _ _ il jl kl _ HX4.out.cx).mono ?_
            rintro ee w5 ⟨rfl, hb⟩
            have HY := Lib.hid (HX4.out.next hb)
            have HZ := Lib.hid (HY.out.next (below_alloc1 w5 (.cells #[.int .i64 p, .int .i64 e, .int .i64 d, .slice ak kl.length ck] 138)))
            clear hb c0 c1 c2 c3 c4 c5
            go_wp2_with fail
            refine (isTable_any p e d (.slice ak kl.length ck) kl _ HP.out HZ.out.cx.fk HM.out.bk).mono ?_
            rintro ee w' ⟨b2, rfl, rfl, hbb⟩
            by_cases ht : TabOk p e d kl
            · obtain rfl : b2 = true := hbb.2 ht
              have HT2 := Lib.hid ht
              have HX5 := HZ
              clear hbb ht HY HZ HX4
              have c0 := HX5.out.c0
              have c1 := HX5.out.c1
              have c2 := HX5.out.c2
              have c3 := HX5.out.c3
              have c4 := HX5.out.c4
              have c5 := HX5.out.c5
              go_wp2
              rw [rounds_succ]
              go_wp2
              go_ret
              exact ⟨true, rfl, HX5.out.below, yes_iff ⟨HP.out, HD.out, HE.out, HT0.out, HT1.out, HT2.out⟩⟩
            · obtain rfl : b2 = false := bb_no hbb ht
              have HT := Lib.hid ht
              clear hbb ht
              go_wp2
              go_ret
              exact ⟨false, rfl, HZ.out.below, no_iff fun h => HT.out h.2.2.2.2.2⟩
          · obtain rfl : b1 = false := bb_no hbb ht
            have HT := Lib.hid ht
            clear hbb ht
            go_wp2
            go_ret
            exact ⟨false, rfl, HZ.out.below, no_iff fun h => HT.out h.2.2.2.2.1⟩
        · obtain rfl : b0 = false := bb_no hbb ht
          have HT := Lib.hid ht
          clear hbb ht
          go_wp2
          go_ret
          exact ⟨false, rfl, HZ.out.below, no_iff fun h => HT.out h.2.2.2.1⟩
      · have HE := Lib.hid he
        clear he
        go_wp2_with fail
        refine (in_no HE.out _).mono ?_
        rintro ee w' ⟨rfl, rfl⟩
        go_wp2
        go_ret
        exact ⟨false, rfl, HX.out.below, no_iff fun h => HE.out h.2.2.1⟩
    · have HD := Lib.hid hd
      clear hd
      go_wp2_with fail
      refine (in_no HD.out _).mono ?_
      rintro ee w' ⟨rfl, rfl⟩
      go_wp2
      go_ret
      exact ⟨false, rfl, HX.out.below, no_iff fun h => HD.out h.2.1⟩
  · have HP := Lib.hid hp
    clear hp
    go_wp2_with fail
    refine (prime_no HP.out _).mono ?_
    rintro ee w' ⟨rfl, rfl⟩
    go_wp2
    go_ret
    exact ⟨false, rfl, HX.out.below, no_iff fun h => HP.out h.1⟩

end Go.Proofs.Ytpdkfidmmjlmnab


namespace Go.Proofs.Ytpdkfidmmjlmnab
open Go.RowKit

theorem Fill3.parts {wr : World} {g n : Nat} {f : Nat → Value} {b : Nat → Nat} {ts : List (List (List Int))} (h : Fill3 wr g n n f b ts) (hn : n = ts.length) (hs : n ≤ 1048576) : W3 g wr.heap.size wr (.slice (some ⟨g, 0, none⟩) n n) ts ∧ ∃ J, S3 g wr.heap.size wr (.slice (some ⟨g, 0, none⟩) n n) J ∧ Nums (b 0) wr.heap.size wr J ∧ Disj J ∧ ivSize J ≤ 1152921504606846976 := by
  have hlt := h.row.lt
  have h1 : ∀ j, j < n → Rw2 g wr.heap.size wr (f j) (ts.getD j []) := fun j hj => by
    rw [getD_of_lt _ (by omega)]
    have a1 := inc_le h.inc (j + 1) hj
    have a2 := inc_le (b := b) (k := j) (fun i hi => h.inc i (by omega)) 0 (Nat.zero_le _)
    have a3 := h.lo
    exact (h.at' j (by omega) hj).wider (by omega) (Nat.le_trans a1 h.hi)
  refine ⟨?_, ?_⟩
  · by_cases h0 : n = 0
    · exact Or.inl ⟨List.eq_nil_of_length_eq_zero (by omega), _, _, by rw [h0]⟩
    · refine Or.inr ⟨g, 0, n, by rw [hn], Nat.le_refl _, hlt, by omega, fun k hk => ?_, fun k _ => h.row.frozen _⟩
      refine ⟨f k, by rw [Nat.zero_add]; exact h.row.cell (by omega), ?_⟩
      have := (h1 k (by omega)).1
      rwa [getD_of_lt _ hk] at this
  · have hex : ∀ j, j < n → ∃ I, S2 (b j) (b (j + 1)) wr (f j) I ∧ Nums (b j) (b (j + 1)) wr I ∧ Disj I ∧ ivSize I ≤ 1099511627776 := fun j hj => (h.at' j (by omega) hj).2
    obtain ⟨J, hJ⟩ := choose2 hex
    have hw : ∀ j, j < n → g ≤ b j ∧ b (j + 1) ≤ wr.heap.size := fun j hj => by
      have a1 := inc_le h.inc (j + 1) hj
      have a2 := inc_le (b := b) (k := j) (fun i hi => h.inc i (by omega)) 0 (Nat.zero_le _)
      have a3 := h.lo
      have a4 := h.hi
      omega
    refine ⟨flat J n, ⟨some ⟨g, 0, none⟩, n, n, f, J, rfl, hs, rfl, fun j hj => (hJ j hj).1.wider (hw j hj).1 (hw j hj).2, fun _ => ⟨g, 0, rfl, Nat.le_refl _, hlt, fun j hj => by rw [Nat.zero_add]; exact h.row.cell hj⟩⟩, nums_flat (fun j hj => (hJ j hj).2.1.wider (inc_le (b := b) (k := j) (fun i hi => h.inc i (by omega)) 0 (Nat.zero_le _)) (hw j hj).2), (disj_spans h.inc (fun j hj x hx => ⟨((hJ j hj).2.1 x hx).1, ((hJ j hj).2.1 x hx).2.1⟩) (fun j hj => (hJ j hj).2.2.1)).1, ?_⟩
    have h2 := size_spans (J := J) (n := n) (B := 1099511627776) (fun j hj => (hJ j hj).2.2.2)
    have h3 : 1099511627776 * n ≤ 1099511627776 * 1048576 := Nat.mul_le_mul (Nat.le_refl _) hs
    omega


/-- A complex that a function answers: numbers in blocks from lo up to hi, apart from each other. -/
def RcW (lo hi : Nat) (W : World) (dv mv : Value) (ds : List Int) (ms : List (List (List Int))) : Prop :=
  CxW lo hi W dv mv ds ms ∧ ∃ I J, S1 lo hi W dv I ∧ S3 lo hi W mv J ∧ Nums lo hi W I ∧ Nums lo hi W J ∧ Disj J ∧ (∀ x ∈ I, ∀ y ∈ J, Apart x y) ∧ ivSize I ≤ 1048576 ∧ ivSize J ≤ 1152921504606846976
theorem RcW.same {lo hi : Nat} {W W' : World} {dv mv : Value} {ds : List Int} {ms : List (List (List Int))} (h : RcW lo hi W dv mv ds ms) (s : Same lo hi W W') : RcW lo hi W' dv mv ds ms := by
  obtain ⟨h0, I, J, h1, h2, h3, h4, h5⟩ := h
  exact ⟨h0.same s, I, J, h1, h2.same s, h3.same s, h4.same s, h5⟩
theorem RcW.cx {lo hi : Nat} {W : World} {dv mv : Value} {ds : List Int} {ms : List (List (List Int))} (h : RcW lo hi W dv mv ds ms) : Cx 0 W dv mv ds ms := h.1.cx.lower (Nat.zero_le _)
theorem RcW.wider {lo hi lo' hi' : Nat} {W : World} {dv mv : Value} {ds : List Int} {ms : List (List (List Int))} (h : RcW lo hi W dv mv ds ms) (h1 : lo' ≤ lo) (h2 : hi ≤ hi') : RcW lo' hi' W dv mv ds ms := by
  obtain ⟨h0, I, J, a, b, c, d, e⟩ := h
  exact ⟨⟨h0.dims.wider h1 h2, h0.maps.wider h1 h2⟩, I, J, a.wider h1 h2, b.wider h1 h2, c.wider h1 h2, d.wider h1 h2, e⟩
theorem RcW.nil (lo hi : Nat) (W : World) : RcW lo hi W (.slice none 0 0) (.slice none 0 0) [] [] :=
  ⟨⟨Or.inl ⟨rfl, _, _, rfl⟩, Or.inl ⟨rfl, _, _, rfl⟩⟩, [], [], Or.inl ⟨rfl, _, _, rfl⟩, ⟨none, 0, 0, fun _ => .slice none 0 0, fun _ => [], rfl, by omega, rfl, fun _ h => absurd h (Nat.not_lt_zero _), fun h => absurd h (Nat.lt_irrefl _)⟩, fun _ h => absurd h (by simp), fun _ h => absurd h (by simp), List.Pairwise.nil, fun _ h => absurd h (by simp), by simp [ivSize], by simp [ivSize]⟩
/-- Prime, dimensions and tables of a complex. -/
abbrev Co := Int × List Int × List (List (List Int))
def RwC (lo hi : Nat) (W : World) (u : Value) (o : Co) : Prop := ∃ ad cd am cm, u = .agg #[.int .i64 o.1, .slice ad o.2.1.length cd, .slice am o.2.2.length cm] ∧ RcW lo hi W (.slice ad o.2.1.length cd) (.slice am o.2.2.length cm) o.2.1 o.2.2
def RsC (W : World) (u : Value) (o : Co) : Prop := ∃ ad cd am cm, u = .agg #[.int .i64 o.1, .slice ad o.2.1.length cd, .slice am o.2.2.length cm] ∧ Cx 0 W (.slice ad o.2.1.length cd) (.slice am o.2.2.length cm) o.2.1 o.2.2
theorem RwC.nil (lo hi : Nat) (W : World) : RwC lo hi W (.agg #[.int .i64 0, .slice none 0 0, .slice none 0 0]) (0, [], []) := ⟨none, 0, none, 0, rfl, RcW.nil _ _ _⟩
theorem RsC.nil (W : World) : RsC W (.agg #[.int .i64 0, .slice none 0 0, .slice none 0 0]) (0, [], []) := ⟨none, 0, none, 0, rfl, ⟨Or.inl ⟨rfl, _, _, rfl⟩, Or.inl ⟨rfl, _, _, rfl⟩⟩⟩
/-- The same with the marks from 1 on in it. -/
def HcW (lo hi : Nat) (W : World) (dv mv : Value) (m : Int) : Prop :=
  ∃ I J, S1 lo hi W dv I ∧ S3 lo hi W mv J ∧ Marked W I 1 ∧ Marked W J (1 + (ivSize I : Int)) ∧ (∀ x ∈ I, lo ≤ x.1 ∧ x.1 < hi) ∧ (∀ x ∈ J, lo ≤ x.1 ∧ x.1 < hi) ∧ m = 1 + (ivSize I : Int) + (ivSize J : Int) ∧ ivSize I ≤ 1048576 ∧ ivSize J ≤ 1152921504606846976
theorem HcW.same {lo hi : Nat} {W W' : World} {dv mv : Value} {m : Int} (h : HcW lo hi W dv mv m) (s : Same lo hi W W') : HcW lo hi W' dv mv m := by
  obtain ⟨I, J, h1, h2, h3, h4, h5, h6, h7⟩ := h
  exact ⟨I, J, h1, h2.same s, h3.same h5 s, h4.same h6 s, h5, h6, h7⟩
/-- The box of a complex, its three cells alone. -/
structure Bc (wr : World) (b : Nat) (p : Int) (dv mv : Value) : Prop where
  c0 : wr.cell? ⟨b, 0, none⟩ = some (.int .i64 p)
  c1 : wr.cell? ⟨b, 1, none⟩ = some dv
  c2 : wr.cell? ⟨b, 2, none⟩ = some mv
  lt : b < wr.heap.size
theorem Bc.start (w : World) (p : Int) (dv mv : Value) (t : TypeId) : Bc (w.alloc (.cells #[.int .i64 p, dv, mv] t)) w.heap.size p dv mv := ⟨by simp, by simp, by simp, by simp⟩
theorem Bc.next {wr w' : World} {b : Nat} {p : Int} {dv mv : Value} (h : Bc wr b p dv mv) (hb : Below wr.heap.size wr w') : Bc w' b p dv mv :=
  ⟨later hb (Nat.le_refl _) h.c0, later hb (Nat.le_refl _) h.c1, later hb (Nat.le_refl _) h.c2, Nat.lt_of_lt_of_le h.lt hb.size⟩
theorem Bc.only {wr w' : World} {b lo hi : Nat} {p : Int} {dv mv : Value} (h : Bc wr b p dv mv) (ho : Only lo hi wr w') (hb : b < lo ∨ hi ≤ b) : Bc w' b p dv mv :=
  ⟨(ho.cell hb).trans h.c0, (ho.cell hb).trans h.c1, (ho.cell hb).trans h.c2, by have := ho.size; have := h.lt; omega⟩

end Go.Proofs.Ytpdkfidmmjlmnab


namespace Go.Proofs.Ytpdkfidmmjlmnab
open Go.RowKit

/-- The three cells of a box of a complex. -/
def box3 (p : Int) (a b : Value) : Nat → Value := fun i => if i = 0 then .int .i64 p else if i = 1 then a else b
/-- The dual while it is being made: its box, its list of dimensions, its list of tables, each in a block of its own. -/
structure Du (w wx : World) (g bd bm n m : Nat) (p : Int) (D M : Nat → Value) : Prop where
  below : Below w.heap.size w wx
  lo : w.heap.size ≤ g ∧ w.heap.size ≤ bd ∧ w.heap.size ≤ bm
  ne : g ≠ bd ∧ g ≠ bm ∧ bd ≠ bm
  box : wx.rowIs g 31 3 (box3 p (.slice (some ⟨bd, 0, none⟩) n n) (.slice (some ⟨bm, 0, none⟩) m m))
  dims : wx.rowIs bd 2 n D
  maps : wx.rowIs bm 26 m M
theorem Du.drew {w wx : World} {g bd bm n m : Nat} {p : Int} {D M : Nat → Value} (h : Du w wx g bd bm n m p D M) : Du w wx.drew g bd bm n m p D M := ⟨h.below.drew, h.lo, h.ne, h.box.drew, h.dims.drew, h.maps.drew⟩
theorem Du.next {w wx w' : World} {g bd bm n m : Nat} {p : Int} {D M : Nat → Value} (h : Du w wx g bd bm n m p D M) (hb : Below wx.heap.size wx w') : Du w w' g bd bm n m p D M :=
  ⟨h.below.trans (hb.mono h.below.size), h.lo, h.ne, h.box.of_block (hb.block _ h.box.lt), h.dims.of_block (hb.block _ h.dims.lt), h.maps.of_block (hb.block _ h.maps.lt)⟩
theorem Du.congr {w wx : World} {g bd bm n m : Nat} {p : Int} {D D' M : Nat → Value} (h : Du w wx g bd bm n m p D M) (e : ∀ j, j < n → D j = D' j) : Du w wx g bd bm n m p D' M := ⟨h.below, h.lo, h.ne, h.box, h.dims.congr e, h.maps⟩
/-- The list of dimensions, k of them laid. -/
def duD (ds : List Int) (k : Nat) : Nat → Value := fun j => .int .i64 (if j < k then ds.getD (ds.length - 1 - j) 0 else 0)
/-- A table at the block b: its row of rows there, row j at b + 1 + j. -/
structure TabAt (w : World) (b r c : Nat) (Z : Nat → Nat → Int) : Prop where
  top : w.rowIs b 22 r (fun j => .slice (some ⟨b + 1 + j, 0, none⟩) c c)
  rows : ∀ j, j < r → w.rowIs (b + 1 + j) 2 c (fun i => .int .i64 (Z j i))
theorem Mat.at {w w' : World} {r c : Nat} {Z : Nat → Nat → Int} (h : Mat w w' r c Z) : TabAt w' w.heap.size r c Z := ⟨h.top, h.rows⟩
theorem TabAt.below {w w' : World} {b r c : Nat} {Z : Nat → Nat → Int} (h : TabAt w b r c Z) (hb : Below w.heap.size w w') : TabAt w' b r c Z :=
  ⟨h.top.of_block (hb.block _ h.top.lt), fun j hj => (h.rows j hj).of_block (hb.block _ (h.rows j hj).lt)⟩
theorem TabAt.set {w : World} {b r c : Nat} {Z : Nat → Nat → Int} (h : TabAt w b r c Z) {a : Addr} (ha : a.block < b) (v : Value) : TabAt (w.setCell a v) b r c Z :=
  ⟨h.top.setOther (by omega) v, fun j hj => (h.rows j hj).setOther (by omega) v⟩
/-- The tables of the dual, k of them laid, one behind the other. -/
structure Ts (lo : Nat) (w : World) (bs r c : Nat → Nat) (Z : Nat → Nat → Nat → Int) (k : Nat) : Prop where
  at' : ∀ j, j < k → TabAt w (bs j) (r j) (c j) (Z j)
  lo' : ∀ j, j < k → lo ≤ bs j
  hi : ∀ j, j < k → bs j + 1 + r j ≤ w.heap.size
  inc : ∀ i j, i < j → j < k → bs i + 1 + r i ≤ bs j
def duR (ds : List Int) (m : Nat) (j : Nat) : Nat := (ds.getD (m - 1 - j) 0).toNat
def duC (ms : List (List (List Int))) (j : Nat) : Nat := (ms.getD (ms.length - 1 - j) []).length
def duZ (ms : List (List (List Int))) (j a b : Nat) : Int := ((ms.getD (ms.length - 1 - j) []).getD b []).getD a 0
def duM (bs r : Nat → Nat) (k : Nat) : Nat → Value := fun j => if j < k then .slice (some ⟨bs j, 0, none⟩) (r j) (r j) else .slice none 0 0
theorem Ts.step {lo k : Nat} {w w1 : World} {bs r c : Nat → Nat} {Z : Nat → Nat → Nat → Int} (h : Ts lo w bs r c Z k) (hm : Mat w w1 (r k) (c k) (Z k)) (hlo : lo ≤ w.heap.size) {a : Addr} (ha : a.block < lo) (v : Value) :
    Ts lo (w1.setCell a v) (fun j => if j = k then w.heap.size else bs j) r c Z (k + 1) := by
  refine ⟨fun j hj => ?_, fun j hj => ?_, fun j hj => ?_, fun i j hi hj => ?_⟩
  · by_cases e : j = k
    · subst e
      simp only [if_true]
      exact hm.at.set (by omega) v
    · simp only [if_neg e]
      have hj' : j < k := by omega
      have := h.lo' j hj'
      exact ((h.at' j hj').below hm.below).set (by omega) v
  · by_cases e : j = k
    · simp only [if_pos e]; exact hlo
    · simp only [if_neg e]; exact h.lo' j (by omega)
  · by_cases e : j = k
    · subst e
      simp [hm.size]
    · simp only [if_neg e]
      have := h.hi j (by omega)
      have := hm.below.size
      simp
      omega
  · by_cases e : j = k
    · subst e
      rw [if_neg (by omega), if_pos rfl]
      exact h.hi i hi
    · rw [if_neg (by omega), if_neg e]
      exact h.inc i j hi (by omega)
theorem Ts.drew {lo k : Nat} {w : World} {bs r c : Nat → Nat} {Z : Nat → Nat → Nat → Int} (h : Ts lo w bs r c Z k) : Ts lo w.drew bs r c Z k :=
  ⟨fun j hj => ⟨(h.at' j hj).top.drew, fun i hi => ((h.at' j hj).rows i hi).drew⟩, h.lo', h.hi, h.inc⟩
end Go.Proofs.Ytpdkfidmmjlmnab


namespace Go.Proofs.Ytpdkfidmmjlmnab
open Go.RowKit

theorem far {w : World} {b o b2 o2 : Nat} {u v : Value} (h : b ≠ b2) (hc : w.cell? ⟨b2, o2, none⟩ = some u) : (w.setCell ⟨b, o, none⟩ v).cell? ⟨b2, o2, none⟩ = some u := (World.cell?_setCell_far w _ _ v h).trans hc
/-- Three cells of a block. -/
def sel3 (x y z : Value) : Nat → Value := fun i => if i = 0 then x else if i = 1 then y else z
theorem Ts.set {lo k : Nat} {w : World} {bs r c : Nat → Nat} {Z : Nat → Nat → Nat → Int} (h : Ts lo w bs r c Z k) {a : Addr} (ha : a.block < lo) (v : Value) : Ts lo (w.setCell a v) bs r c Z k :=
  ⟨fun j hj => (h.at' j hj).set (by have := h.lo' j hj; omega) v, h.lo', fun j hj => by have := h.hi j hj; simpa using this, h.inc⟩

/-- The dual as it lies behind the call: its dimensions, its tables' heads, its tables. -/
structure DuAt (w w' : World) (ds : List Int) (ms : List (List (List Int))) (bd bm : Nat) : Prop where
  below : Below w.heap.size w w'
  lo : w.heap.size ≤ bd ∧ w.heap.size ≤ bm ∧ bd ≠ bm
  dims : w'.rowIs bd 2 ds.length (duD ds ds.length)
  tabs : ∃ (lo : Nat) (bs : Nat → Nat), bd < lo ∧ bm < lo ∧ w'.rowIs bm 26 ms.length (duM bs (duR ds ms.length) ms.length) ∧ Ts lo w' bs (duR ds ms.length) (duC ms) (duZ ms) ms.length
theorem DuAt.set {w w' : World} {ds : List Int} {ms : List (List (List Int))} {bd bm : Nat} (h : DuAt w w' ds ms bd bm) {a : Addr} (h0 : w.heap.size ≤ a.block) (h1 : a.block < bd) (h2 : a.block < bm) (v : Value) : DuAt w (w'.setCell a v) ds ms bd bm := by
  obtain ⟨lo, bs, a1, a2, a3, a4⟩ := h.tabs
  exact ⟨h.below.setCell h0 _, h.lo, h.dims.setOther (by omega) _, lo, bs, a1, a2, a3.setOther (by omega) _, a4.set (by omega) _⟩

end Go.Proofs.Ytpdkfidmmjlmnab


namespace Go.Proofs.Ytpdkfidmmjlmnab
open Go.RowKit

section
variable {w w' : World} {base size n k : Nat} {e t : TypeId} {u v : Value} {xs : List Value} {g : Nat} {f : Nat → Value}
theorem owns_off (ho : w.ownsRow base e size u n xs) (hr : w.rowIs g t k f) (h : t ≠ e) (i : Nat) (x : Value) : (w.setCell ⟨g, i, none⟩ x).ownsRow base e size u n xs := by
  obtain ⟨c, hc, _⟩ := hr
  refine ⟨ho.1, ?_⟩
  rcases ho.2 with h2 | ⟨g2, cap, cur, hu, hb, hh, r⟩
  · exact Or.inl h2
  · refine Or.inr ⟨g2, cap, cur, hu, hb, ?_, r⟩
    rw [Below.heap_setCell w _ x g2 (by
      intro e2
      have e3 : g2 = g := e2
      subst e3
      rw [hc] at hh
      simp at hh
      exact h hh.2)]
    exact hh
end
theorem G1.off {w : World} {g k : Nat} {t : TypeId} {f : Nat → Value} {u : Value} {xs : List Int} (h : G1 w u xs) (hr : w.rowIs g t k f) (ht : t ≠ 2) (i : Nat) (x : Value) : G1 (w.setCell ⟨g, i, none⟩ x) u xs := owns_off h hr ht i x
theorem Gb.off {base : Nat} {w : World} {g k : Nat} {t : TypeId} {f : Nat → Value} {u : Value} {xs : List Int} (h : Gb base w u xs) (hr : w.rowIs g t k f) (ht : t ≠ 2) (i : Nat) (x : Value) : Gb base (w.setCell ⟨g, i, none⟩ x) u xs := owns_off h hr ht i x
theorem Gs.off {base : Nat} {w : World} {g k : Nat} {t : TypeId} {f : Nat → Value} {u : Value} {xs : List (List Int)} (h : Gs base w u xs) (hr : w.rowIs g t k f) (ht : t ≠ 2 ∧ t ≠ 22) (i : Nat) (x : Value) : Gs base (w.setCell ⟨g, i, none⟩ x) u xs := by
  obtain ⟨vs, ho, h1⟩ := h
  exact ⟨vs, owns_off ho hr ht.2 i x, fun k a b => (h1 k a b).off hr ht.1 i x⟩
theorem Gt.off {base : Nat} {w : World} {g k : Nat} {t : TypeId} {f : Nat → Value} {u : Value} {xs : List (List (List Int))} (h : Gt base w u xs) (hr : w.rowIs g t k f) (ht : t ≠ 2 ∧ t ≠ 22 ∧ t ≠ 26) (i : Nat) (x : Value) : Gt base (w.setCell ⟨g, i, none⟩ x) u xs := by
  obtain ⟨vs, ho, h1⟩ := h
  exact ⟨vs, owns_off ho hr ht.2.2 i x, fun k a b => (h1 k a b).off hr ⟨ht.1, ht.2.1⟩ i x⟩
section
variable {o : Oper} {a : Act} {w : World} {K : Act → World → Prop} {Q : Exit → Act → World → Prop}
end
section
variable {P : Program} {ops : Array Oper} {Q : Exit → Act → World → Prop} {md : Region.Mode} {S : World → Prop}
/-- An operation that makes memory, alone to come up. -/
theorem held_mem {i : Nat} {oi : Oper} {fuel : Nat} {listed : Array Bool} {a : Act} {w w' : World} {v : Value} (d : Option Tmp) (hr : Region.ready md ops listed = [i]) (hi : ops[i]? = some oi) (hg : oi.guard = none) (hd : oi.dst = d)
    (h : (execOp a.eval oi).run P w = .ok (.value v) w') (hS : S w') (hh : wpAnyH P md ops Q S fuel (listed.setIfInBounds i true) (a.put d v) w') : wpAnyH P md ops Q S (fuel + 1) listed a w := by
  subst hd
  refine held_call hr hi hg ?_
  unfold Oper.wp
  rw [h]
  exact ⟨hS, hh⟩
end

/-- A complex that the model gathers: its box at block g, its two lists. -/
structure Sd (w1 wr : World) (g : Nat) (p : Int) (v vm : Value) (xs : List Int) (ts : List (List (List Int))) : Prop where
  below : Below w1.heap.size w1 wr
  lo : w1.heap.size ≤ g
  box : wr.rowIs g 31 3 (sel3 (.int .i64 p) v vm)
  dims : Gb w1.heap.size wr v xs
  maps : Gt w1.heap.size wr vm ts
theorem Sd.next {w1 wr wa : World} {g : Nat} {p : Int} {v vm : Value} {xs : List Int} {ts : List (List (List Int))} (h : Sd w1 wr g p v vm xs ts) (hb : Below wr.heap.size wr wa) : Sd w1 wa g p v vm xs ts :=
  ⟨h.below.trans (hb.mono h.below.size), h.lo, h.box.of_block (hb.block _ h.box.lt), h.dims.below hb, h.maps.below hb⟩
end Go.Proofs.Ytpdkfidmmjlmnab


namespace Go.Proofs.Ytpdkfidmmjlmnab
open Go.RowKit
/-- Numbers, dimensions and tables. -/
abbrev CpO := Int × Int × Int × List (List Int) × List (List Int) × List (List Int)
structure PtCp (lo hi : Nat) (W : World) (iv jv kv : Value) (Ii Ij Ik : List Iv) : Prop where
  si : S2 lo hi W iv Ii
  ni : Nums lo hi W Ii
  di : Disj Ii
  zi : ivSize Ii ≤ 1099511627776
  sj : S2 lo hi W jv Ij
  nj : Nums lo hi W Ij
  dj : Disj Ij
  zj : ivSize Ij ≤ 1099511627776
  sk : S2 lo hi W kv Ik
  nk : Nums lo hi W Ik
  dk : Disj Ik
  zk : ivSize Ik ≤ 1099511627776
  aij : ∀ x ∈ Ii, ∀ y ∈ Ij, Apart x y
  aik : ∀ x ∈ Ii, ∀ y ∈ Ik, Apart x y
  ajk : ∀ x ∈ Ij, ∀ y ∈ Ik, Apart x y
theorem PtCp.same {lo hi : Nat} {W W' : World} {iv jv kv : Value} {Ii Ij Ik : List Iv} (h : PtCp lo hi W iv jv kv Ii Ij Ik) (s : Same lo hi W W') : PtCp lo hi W' iv jv kv Ii Ij Ik :=
  ⟨h.si.same s, h.ni.same s, h.di, h.zi, h.sj.same s, h.nj.same s, h.dj, h.zj, h.sk.same s, h.nk.same s, h.dk, h.zk, h.aij, h.aik, h.ajk⟩
theorem PtCp.wider {lo hi lo' hi' : Nat} {W : World} {iv jv kv : Value} {Ii Ij Ik : List Iv} (h : PtCp lo hi W iv jv kv Ii Ij Ik) (h1 : lo' ≤ lo) (h2 : hi ≤ hi') : PtCp lo' hi' W iv jv kv Ii Ij Ik :=
  ⟨h.si.wider h1 h2, h.ni.wider h1 h2, h.di, h.zi, h.sj.wider h1 h2, h.nj.wider h1 h2, h.dj, h.zj, h.sk.wider h1 h2, h.nk.wider h1 h2, h.dk, h.zk, h.aij, h.aik, h.ajk⟩
def RcCp (lo hi : Nat) (W : World) (iv jv kv : Value) (il : List (List Int)) (jl : List (List Int)) (kl : List (List Int)) : Prop := CpW lo hi W iv jv kv il jl kl ∧ ∃ Ii Ij Ik, PtCp lo hi W iv jv kv Ii Ij Ik
theorem RcCp.same {lo hi : Nat} {W W' : World} {iv jv kv : Value} {il : List (List Int)} {jl : List (List Int)} {kl : List (List Int)} (h : RcCp lo hi W iv jv kv il jl kl) (s : Same lo hi W W') : RcCp lo hi W' iv jv kv il jl kl := by
  obtain ⟨h0, Ii, Ij, Ik, h1⟩ := h
  exact ⟨h0.same s, Ii, Ij, Ik, h1.same s⟩
theorem RcCp.wider {lo hi lo' hi' : Nat} {W : World} {iv jv kv : Value} {il : List (List Int)} {jl : List (List Int)} {kl : List (List Int)} (h : RcCp lo hi W iv jv kv il jl kl) (h1 : lo' ≤ lo) (h2 : hi ≤ hi') : RcCp lo' hi' W iv jv kv il jl kl := by
  obtain ⟨h0, Ii, Ij, Ik, h3⟩ := h
  exact ⟨⟨h0.fi.wider h1 h2, h0.fj.wider h1 h2, h0.fk.wider h1 h2⟩, Ii, Ij, Ik, h3.wider h1 h2⟩
theorem RcCp.cx {lo hi : Nat} {W : World} {iv jv kv : Value} {il : List (List Int)} {jl : List (List Int)} {kl : List (List Int)} (h : RcCp lo hi W iv jv kv il jl kl) : Cp 0 W iv jv kv il jl kl := h.1.cx.lower (Nat.zero_le _)
/-- Parts one behind the other. -/
theorem RcCp.of {lo hi b0 b1 b2 b3 : Nat} {W : World} {iv jv kv : Value} {il : List (List Int)} {jl : List (List Int)} {kl : List (List Int)} (hqi : Rw2 b0 b1 W iv il) (hqj : Rw2 b1 b2 W jv jl) (hqk : Rw2 b2 b3 W kv kl) (hl : lo ≤ b0) (l0 : b0 ≤ b1) (l1 : b1 ≤ b2) (l2 : b2 ≤ b3) (hh : b3 ≤ hi) : RcCp lo hi W iv jv kv il jl kl := by
  obtain ⟨wi, Ii, si, ni, di, zi⟩ := hqi
  obtain ⟨wj, Ij, sj, nj, dj, zj⟩ := hqj
  obtain ⟨wk, Ik, sk, nk, dk, zk⟩ := hqk
  refine ⟨⟨wi.wider (by omega) (by omega), wj.wider (by omega) (by omega), wk.wider (by omega) (by omega)⟩, Ii, Ij, Ik, ⟨si.wider (by omega) (by omega), ni.wider (by omega) (by omega), di, zi, sj.wider (by omega) (by omega), nj.wider (by omega) (by omega), dj, zj, sk.wider (by omega) (by omega), nk.wider (by omega) (by omega), dk, zk, ?_, ?_, ?_⟩⟩
  · intro x hx y hy
    exact Or.inl (by have := (ni x hx).2.1; have := (nj y hy).1; omega)
  · intro x hx y hy
    exact Or.inl (by have := (ni x hx).2.1; have := (nk y hy).1; omega)
  · intro x hx y hy
    exact Or.inl (by have := (nj x hx).2.1; have := (nk y hy).1; omega)
def RwCp (lo hi : Nat) (W : World) (u : Value) (o : CpO) : Prop := ∃ ai ci aj cj ak ck, u = .agg #[.int .i64 o.1, .int .i64 o.2.1, .int .i64 o.2.2.1, .slice ai o.2.2.2.1.length ci, .slice aj o.2.2.2.2.1.length cj, .slice ak o.2.2.2.2.2.length ck] ∧ RcCp lo hi W (.slice ai o.2.2.2.1.length ci) (.slice aj o.2.2.2.2.1.length cj) (.slice ak o.2.2.2.2.2.length ck) o.2.2.2.1 o.2.2.2.2.1 o.2.2.2.2.2
def GwCp (base : Nat) (W : World) (u : Value) (o : CpO) : Prop := ∃ ai ci aj cj ak ck, u = .agg #[.int .i64 o.1, .int .i64 o.2.1, .int .i64 o.2.2.1, .slice ai o.2.2.2.1.length ci, .slice aj o.2.2.2.2.1.length cj, .slice ak o.2.2.2.2.2.length ck] ∧ Gs base W (.slice ai o.2.2.2.1.length ci) o.2.2.2.1 ∧ Gs base W (.slice aj o.2.2.2.2.1.length cj) o.2.2.2.2.1 ∧ Gs base W (.slice ak o.2.2.2.2.2.length ck) o.2.2.2.2.2
theorem RwCp.nil (lo hi : Nat) (W : World) : RwCp lo hi W (.agg #[.int .i64 0, .int .i64 0, .int .i64 0, .slice none 0 0, .slice none 0 0, .slice none 0 0]) (0, 0, 0, [], [], []) :=
  ⟨none, 0, none, 0, none, 0, rfl, ⟨Or.inl ⟨rfl, _, _, rfl⟩, Or.inl ⟨rfl, _, _, rfl⟩, Or.inl ⟨rfl, _, _, rfl⟩⟩, [], [], [], ⟨⟨none, 0, 0, fun _ => .slice none 0 0, fun _ => [], rfl, by omega, rfl, fun _ h => absurd h (Nat.not_lt_zero _), fun h => absurd h (Nat.lt_irrefl _)⟩, fun _ h => absurd h (by simp), List.Pairwise.nil, by simp [ivSize], ⟨none, 0, 0, fun _ => .slice none 0 0, fun _ => [], rfl, by omega, rfl, fun _ h => absurd h (Nat.not_lt_zero _), fun h => absurd h (Nat.lt_irrefl _)⟩, fun _ h => absurd h (by simp), List.Pairwise.nil, by simp [ivSize], ⟨none, 0, 0, fun _ => .slice none 0 0, fun _ => [], rfl, by omega, rfl, fun _ h => absurd h (Nat.not_lt_zero _), fun h => absurd h (Nat.lt_irrefl _)⟩, fun _ h => absurd h (by simp), List.Pairwise.nil, by simp [ivSize], fun _ h => absurd h (by simp), fun _ h => absurd h (by simp), fun _ h => absurd h (by simp)⟩⟩
theorem Gb.nilv (base : Nat) (w : World) : Gb base w (.slice none 0 0) [] := ⟨rfl, Or.inl ⟨rfl, rfl⟩⟩
theorem Gs.nilv (base : Nat) (w : World) : Gs base w (.slice none 0 0) [] := ⟨[], ⟨rfl, Or.inl ⟨rfl, rfl⟩⟩, fun _ h => absurd h (Nat.not_lt_zero _)⟩
theorem Gt.nilv (base : Nat) (w : World) : Gt base w (.slice none 0 0) [] := ⟨[], ⟨rfl, Or.inl ⟨rfl, rfl⟩⟩, fun _ h => absurd h (Nat.not_lt_zero _)⟩
theorem GwCp.nil (base : Nat) (W : World) : GwCp base W (.agg #[.int .i64 0, .int .i64 0, .int .i64 0, .slice none 0 0, .slice none 0 0, .slice none 0 0]) (0, 0, 0, [], [], []) := ⟨none, 0, none, 0, none, 0, rfl, Gs.nilv _ _, Gs.nilv _ _, Gs.nilv _ _⟩
/-- What a law asks of one that it compares. -/
def CpBo (o : CpO) : Prop := CpB 1048576 o.2.2.2.1 o.2.2.2.2.1 o.2.2.2.2.2
structure HcCp' (lo hi : Nat) (W : World) (iv jv kv : Value) (m : Int) (Ii Ij Ik : List Iv) : Prop where
  si : S2 lo hi W iv Ii
  mmi : Marked W Ii (1)
  ri : ∀ x ∈ Ii, lo ≤ x.1 ∧ x.1 < hi
  zi : ivSize Ii ≤ 1099511627776
  sj : S2 lo hi W jv Ij
  mmj : Marked W Ij (1 + (ivSize Ii : Int))
  rj : ∀ x ∈ Ij, lo ≤ x.1 ∧ x.1 < hi
  zj : ivSize Ij ≤ 1099511627776
  sk : S2 lo hi W kv Ik
  mmk : Marked W Ik (1 + (ivSize Ii : Int) + (ivSize Ij : Int))
  rk : ∀ x ∈ Ik, lo ≤ x.1 ∧ x.1 < hi
  zk : ivSize Ik ≤ 1099511627776
  me : m = 1 + (ivSize Ii : Int) + (ivSize Ij : Int) + (ivSize Ik : Int)
def HcCp (lo hi : Nat) (W : World) (iv jv kv : Value) (m : Int) : Prop := ∃ Ii Ij Ik, HcCp' lo hi W iv jv kv m Ii Ij Ik
theorem HcCp.same {lo hi : Nat} {W W' : World} {iv jv kv : Value} {m : Int} (h : HcCp lo hi W iv jv kv m) (s : Same lo hi W W') : HcCp lo hi W' iv jv kv m := by
  obtain ⟨Ii, Ij, Ik, h⟩ := h
  exact ⟨Ii, Ij, Ik, h.si.same s, h.mmi.same h.ri s, h.ri, h.zi, h.sj.same s, h.mmj.same h.rj s, h.rj, h.zj, h.sk.same s, h.mmk.same h.rk s, h.rk, h.zk, h.me⟩
def MkRCp (lo hi : Nat) (iv jv kv : Value) (w : World) (ee : Ending) (w' : World) : Prop := ∃ (m : Int) (w1 : World), ee = .returned (.int .i64 m) ∧ 1 ≤ m ∧ m ≤ 4611686018427387904 ∧ Below w.heap.size w w1 ∧ Only lo hi w1 w' ∧ HcCp lo hi w' iv jv kv m

set_option maxHeartbeats 1600000 in
theorem markRCp_any {lo hi : Nat} (p d e : Int) (iv jv kv : Value) (il : List (List Int)) (jl : List (List Int)) (kl : List (List Int)) (w : World) (h : RcCp lo hi w iv jv kv il jl kl) (hh : hi ≤ w.heap.size) :
    Calls Try.prog 72 #[.agg #[.int .i64 p, .int .i64 d, .int .i64 e, iv, jv, kv], .int .i64 1] w (MkRCp lo hi iv jv kv w) := by
  obtain ⟨_, Ii, Ij, Ik, h1⟩ := h
  have hb0 : Below w.heap.size w (w.alloc (.cells #[.int .i64 p, .int .i64 d, .int .i64 e, iv, jv, kv] 71)) := (Below.refl _ _).alloc (Nat.le_refl _) _
  have HP := Lib.hid (h1.same (Same.of_below hb0 hh))
  have HB0 := Lib.hid hb0
  have hzi := h1.zi
  have hzj := h1.zj
  have hzk := h1.zk
  clear h1 hb0
  go_enter Try.func72, Try.ntmps72
  go_wp2_with fail
  refine (mark2s_any iv Ii (1) _ HP.out.si HP.out.ni HP.out.di (by omega) (by omega)).mono ?_
  rintro ee w1 ⟨rfl, ho, ht, hc, hm⟩
  have c04 : w1.cell? ⟨w.heap.size, 4, none⟩ = some jv := (ho.cell (Or.inr hh)).trans (by simp)
  have c05 : w1.cell? ⟨w.heap.size, 5, none⟩ = some kv := (ho.cell (Or.inr hh)).trans (by simp)
  have HMi := Lib.hid hm
  have HO0 := Lib.hid (And.intro ho ht)
  clear ho ht hc hm
  go_wp2_with fail
  refine (mark2s_any jv Ij (1 + (ivSize Ii : Int)) _ (HP.out.sj.tame HO0.out.2) (HP.out.nj.tame HO0.out.2) HP.out.dj (by omega) (by omega)).mono ?_
  rintro ee w2 ⟨rfl, ho, ht, hc, hm⟩
  have c15 : w2.cell? ⟨w.heap.size, 5, none⟩ = some kv := (ho.cell (Or.inr hh)).trans c05
  clear c04 c05
  have HMi' := Lib.hid (HMi.out.keep hc HP.out.aij)
  clear HMi
  have HMi := HMi'
  clear HMi'
  have HMj := Lib.hid hm
  have HO1 := Lib.hid (And.intro (HO0.out.1.trans ho) (HO0.out.2.trans ht))
  clear ho ht hc hm
  go_wp2_with fail
  refine (mark2s_any kv Ik (1 + (ivSize Ii : Int) + (ivSize Ij : Int)) _ (HP.out.sk.tame HO1.out.2) (HP.out.nk.tame HO1.out.2) HP.out.dk (by omega) (by omega)).mono ?_
  rintro ee w3 ⟨rfl, ho, ht, hc, hm⟩
  clear c15
  have HMi' := Lib.hid (HMi.out.keep hc HP.out.aik)
  clear HMi
  have HMi := HMi'
  clear HMi'
  have HMj' := Lib.hid (HMj.out.keep hc HP.out.ajk)
  clear HMj
  have HMj := HMj'
  clear HMj'
  have HMk := Lib.hid hm
  have HO2 := Lib.hid (And.intro (HO1.out.1.trans ho) (HO1.out.2.trans ht))
  clear ho ht hc hm
  go_wp2
  go_ret
  exact ⟨_, _, rfl, by omega, by omega, HB0.out, HO2.out.1, Ii, Ij, Ik, ⟨HP.out.si.tame HO2.out.2, HMi.out, fun x hx => ⟨(HP.out.ni x hx).1, (HP.out.ni x hx).2.1⟩, hzi, HP.out.sj.tame HO2.out.2, HMj.out, fun x hx => ⟨(HP.out.nj x hx).1, (HP.out.nj x hx).2.1⟩, hzj, HP.out.sk.tame HO2.out.2, HMk.out, fun x hx => ⟨(HP.out.nk x hx).1, (HP.out.nk x hx).2.1⟩, hzk, rfl⟩⟩

set_option maxHeartbeats 1600000 in
theorem heldRCp_any {lo hi : Nat} (p d e : Int) (iv jv kv : Value) (m : Int) (w : World) (h : HcCp lo hi w iv jv kv m) (hh : hi ≤ w.heap.size) :
    Calls Try.prog 75 #[.agg #[.int .i64 p, .int .i64 d, .int .i64 e, iv, jv, kv], .int .i64 1] w (BR (.int .i64 m) w) := by
  have hb0 : Below w.heap.size w (w.alloc (.cells #[.int .i64 p, .int .i64 d, .int .i64 e, iv, jv, kv] 71)) := (Below.refl _ _).alloc (Nat.le_refl _) _
  obtain ⟨Ii, Ij, Ik, h1⟩ := h.same (Same.of_below hb0 hh)
  have hme := h1.me
  subst hme
  have HP := Lib.hid h1
  have HB0 := Lib.hid hb0
  have hzi := h1.zi
  have hzj := h1.zj
  have hzk := h1.zk
  have hn0 : ¬ (1 + (ivSize Ii : Int)) < 0 := by omega
  have hn1 : ¬ (1 + (ivSize Ii : Int) + (ivSize Ij : Int)) < 0 := by omega
  have hn2 : ¬ (1 + (ivSize Ii : Int) + (ivSize Ij : Int) + (ivSize Ik : Int)) < 0 := by omega
  clear h1 hb0 h
  go_enter Try.func75, Try.ntmps75
  go_wp2_with fail
  refine (held2s_any iv Ii (1) _ HP.out.si HP.out.mmi (by omega) (by omega)).mono ?_
  rintro ee w1 ⟨rfl, rfl⟩
  go_wp2_with fail
  refine (held2s_any jv Ij (1 + (ivSize Ii : Int)) _ HP.out.sj HP.out.mmj (by omega) (by omega)).mono ?_
  rintro ee w2 ⟨rfl, rfl⟩
  go_wp2_with fail
  refine (held2s_any kv Ik (1 + (ivSize Ii : Int) + (ivSize Ij : Int)) _ HP.out.sk HP.out.mmk (by omega) (by omega)).mono ?_
  rintro ee w3 ⟨rfl, rfl⟩
  go_wp2
  go_ret
  exact ⟨rfl, HB0.out⟩
/-- The cells of a box alone. -/
structure BcCp (wr : World) (b : Nat) (p d e : Int) (iv jv kv : Value) : Prop where
  c0 : wr.cell? ⟨b, 0, none⟩ = some (.int .i64 p)
  c1 : wr.cell? ⟨b, 1, none⟩ = some (.int .i64 d)
  c2 : wr.cell? ⟨b, 2, none⟩ = some (.int .i64 e)
  c3 : wr.cell? ⟨b, 3, none⟩ = some (iv)
  c4 : wr.cell? ⟨b, 4, none⟩ = some (jv)
  c5 : wr.cell? ⟨b, 5, none⟩ = some (kv)
  lt : b < wr.heap.size
theorem BcCp.start (w : World) (p d e : Int) (iv jv kv : Value) (t : TypeId) : BcCp (w.alloc (.cells #[.int .i64 p, .int .i64 d, .int .i64 e, iv, jv, kv] t)) w.heap.size p d e iv jv kv := ⟨by simp, by simp, by simp, by simp, by simp, by simp, by simp⟩
theorem BcCp.next {wr w' : World} {b : Nat} {p d e : Int} {iv jv kv : Value} (h : BcCp wr b p d e iv jv kv) (hb : Below wr.heap.size wr w') : BcCp w' b p d e iv jv kv :=
  ⟨later hb (Nat.le_refl _) h.c0, later hb (Nat.le_refl _) h.c1, later hb (Nat.le_refl _) h.c2, later hb (Nat.le_refl _) h.c3, later hb (Nat.le_refl _) h.c4, later hb (Nat.le_refl _) h.c5, Nat.lt_of_lt_of_le h.lt hb.size⟩
theorem BcCp.only {wr w' : World} {b lo hi : Nat} {p d e : Int} {iv jv kv : Value} (h : BcCp wr b p d e iv jv kv) (ho : Only lo hi wr w') (hb : b < lo ∨ hi ≤ b) : BcCp w' b p d e iv jv kv :=
  ⟨(ho.cell hb).trans h.c0, (ho.cell hb).trans h.c1, (ho.cell hb).trans h.c2, (ho.cell hb).trans h.c3, (ho.cell hb).trans h.c4, (ho.cell hb).trans h.c5, by have := ho.size; have := h.lt; omega⟩
theorem BcCp.bq {wr : World} {b : Nat} {p d e : Int} {iv jv kv : Value} {il : List (List Int)} {jl : List (List Int)} {kl : List (List Int)} (h : BcCp wr b p d e iv jv kv) (hc : Cp 0 wr iv jv kv il jl kl) : BqCp wr b p d e iv jv kv il jl kl := ⟨h.c0, h.c1, h.c2, h.c3, h.c4, h.c5, h.lt, hc⟩
theorem BcCp.row (W : World) (b : Nat) (p d e : Int) (iv jv kv : Value) {c0 : Array Value} {t : TypeId} (h : W.heap[b]? = some (.cells c0 t (0, 0))) : BcCp (W.setRow b #[.int .i64 p, .int .i64 d, .int .i64 e, iv, jv, kv]) b p d e iv jv kv := by
  have h0 := setRow_heap W b c0 #[.int .i64 p, .int .i64 d, .int .i64 e, iv, jv, kv] t _ h
  have hlt : b < W.heap.size := (Array.getElem?_eq_some_iff.1 h).1
  exact ⟨by simp [World.cell?, h0], by simp [World.cell?, h0], by simp [World.cell?, h0], by simp [World.cell?, h0], by simp [World.cell?, h0], by simp [World.cell?, h0], by simpa using hlt⟩
end Go.Proofs.Ytpdkfidmmjlmnab


namespace Go.Proofs.Ytpdkfidmmjlmnab
open Go.RowKit

/-- copy of a row that reads as x into a row of a table that a call has made, from place q on. -/
theorem copy_into {w0 w : World} {r c : Nat} {Z : Nat → Nat → Int} (h : Mat w0 w r c Z) {j q : Nat} (hj : j < r) (dl dc : Nat) (sa : Option Addr) (sc : Nat) (x : List Int) (hx : L1 0 w (.slice sa x.length sc) x) (hq : q + x.length ≤ c) (hd : x.length ≤ dl) :
    ∃ W, (∀ ty, (Builtin.copy_ #[22, 22] ty #[.slice (some ⟨w0.heap.size + 1 + j, q, none⟩) dl dc, .slice sa x.length sc]).run Try.prog w = .ok (goInt x.length) W) ∧ W.heap.size = w.heap.size ∧
      Mat w0 W r c (fun j2 i2 => if j2 = j ∧ q ≤ i2 ∧ i2 < q + x.length then x.getD (i2 - q) 0 else Z j2 i2) := by
  rcases hx with ⟨rfl, ad, cap, hv⟩ | ⟨b, o, cap, hv, _, hpos, hcl⟩
  · refine ⟨w, fun ty => ?_, rfl, h.congr (fun j2 _ i2 _ => by rw [if_neg (by rintro ⟨_, h1, h2⟩; simp at h2; omega)])⟩
    clear hv
    obtain ⟨i, hi, _⟩ := info_parts Try.infoI
    cases sa with
    | none => simp [Builtin.copy_, run_underlying Try.underlying22, Builtin.lenOf, Builtin.firstCells, sizeOf, typeInfo, hi, storeCells]
    | some a => simp [Builtin.copy_, run_underlying Try.underlying22, Builtin.lenOf, Builtin.firstCells, sizeOf, typeInfo, hi, storeCells, loadCells, loadCellsFrom]
  · injection hv with e1 e2 e3
    subst e1 e3
    obtain ⟨cur, hcur, hcs, hget⟩ := h.rows j hj
    have hlen : (x.map (Value.int .i64)).length = x.length := List.length_map ..
    refine ⟨w.setRow (w0.heap.size + 1 + j) (cur.toList.take q ++ x.map (Value.int .i64) ++ cur.toList.drop (q + x.length)).toArray, fun ty => ?_, by simp, ?_⟩
    · have hh := run_copy_row (P := Try.prog) w 22 22 ty 2 (w0.heap.size + 1 + j) q dl dc ⟨b, o, none⟩ x.length sc cur 2 (x.map (Value.int .i64)) Try.underlying22 Try.infoI1 hcur
        (by rw [hlen]; simp only [Nat.min_def]; split <;> omega) (fun k u hk => by
        have hk' : k < x.length := by rw [← hlen]; exact (List.getElem?_eq_some_iff.1 hk).1
        obtain ⟨u2, hu2, hr2⟩ := hcl k hk'
        rw [Addr.add_mid, hu2, hr2]
        simp [hk'] at hk
        rw [← hk]) (by rw [hlen]; omega) (fun u hu => by
        obtain ⟨y, _, rfl⟩ := List.mem_map.1 hu
        rfl)
      rw [hlen] at hh
      exact hh
    · refine ⟨below_setRow h.below (by omega) _, by simp [h.size], h.top.of_block (setRow_other _ _ _ _ (by omega)), fun j2 hj2 => ?_⟩
      by_cases e : j2 = j
      · subst e
        have hcl2 : cur.toList.length = c := by simpa using hcs
        refine ⟨_, setRow_heap _ _ _ _ _ _ hcur, by simp [hcs]; omega, fun i hi => ?_⟩
        show _ = some (Value.int .i64 (if j2 = j2 ∧ q ≤ i ∧ i < q + x.length then x.getD (i - q) 0 else Z j2 i))
        have hgi : cur[i]? = some (Value.int .i64 (Z j2 i)) := hget i hi
        rw [List.getElem?_toArray, List.append_assoc]
        by_cases h1 : i < q
        · rw [List.getElem?_append_left (by rw [List.length_take]; omega), List.getElem?_take_of_lt h1, if_neg (by omega)]
          rw [← Array.getElem?_toList] at hgi
          exact hgi
        · rw [List.getElem?_append_right (by rw [List.length_take]; omega), List.length_take, Nat.min_eq_left (by omega)]
          by_cases h2 : i < q + x.length
          · rw [List.getElem?_append_left (by rw [hlen]; omega), if_pos ⟨rfl, by omega, h2⟩]
            have h3 : i - q < x.length := by omega
            simp [h3, List.getD]
          · rw [List.getElem?_append_right (by rw [hlen]; omega), hlen, if_neg (by omega), List.getElem?_drop, show q + x.length + (i - q - x.length) = i by omega]
            rw [← Array.getElem?_toList] at hgi
            exact hgi
      · exact ((h.rows j2 hj2).of_block (setRow_other _ _ _ _ (by omega))).congr (fun i _ => by rw [if_neg (fun hh => e hh.1)])

/-- Two tables side by side and behind one another. -/
def sumT (a : List (List Int)) (l : Nat) (b : List (List Int)) (r : Nat) : List (List Int) := a.map (fun x => x ++ List.replicate r 0) ++ b.map (fun x => List.replicate l 0 ++ x)
def smZ (a : List (List Int)) (l : Nat) (b : List (List Int)) (k1 k2 : Nat) (j i : Nat) : Int :=
  if j < a.length then (if j < k1 ∧ i < l then (a.getD j []).getD i 0 else 0) else (if j < a.length + k2 ∧ l ≤ i then (b.getD (j - a.length) []).getD (i - l) 0 else 0)
theorem smZ_0 (a : List (List Int)) (l : Nat) (b : List (List Int)) : smZ a l b 0 0 = fun _ _ => 0 := by
  funext j i
  unfold smZ
  by_cases h : j < a.length
  · rw [if_pos h, if_neg (by omega)]
  · rw [if_neg h, if_neg (by omega)]
theorem sumT_length (a : List (List Int)) (l : Nat) (b : List (List Int)) (r : Nat) : (sumT a l b r).length = a.length + b.length := by simp [sumT]
theorem tableOf_sumT {a : List (List Int)} {l : Nat} {b : List (List Int)} {r : Nat} (ha : ∀ x ∈ a, x.length = l) (hb : ∀ x ∈ b, x.length = r) : tableOf (a.length + b.length) (l + r) (smZ a l b a.length b.length) = sumT a l b r := by
  unfold sumT
  refine List.ext_getElem (by simp [tableOf]) fun j h1 h2 => ?_
  have hj : j < a.length + b.length := by simpa [tableOf] using h1
  simp only [tableOf, List.getElem_map, List.getElem_range]
  by_cases h : j < a.length
  · rw [List.getElem_append_left (by simpa using h), List.getElem_map]
    have hl := ha _ (List.getElem_mem h)
    refine List.ext_getElem (by simp [hl]) fun i h3 h4 => ?_
    simp only [List.getElem_map, List.getElem_range, smZ, if_pos h]
    by_cases hi : i < l
    · rw [if_pos ⟨h, hi⟩, List.getElem_append_left (by omega), getD_of_lt _ h, getD_of_lt _ (by omega)]
    · rw [if_neg (fun hh => hi hh.2), List.getElem_append_right (by omega), List.getElem_replicate]
  · have hk : j - a.length < b.length := by omega
    rw [List.getElem_append_right (by simpa using Nat.le_of_not_lt h), List.getElem_map]
    simp only [List.length_map]
    have hl : b[j - a.length].length = r := hb _ (List.getElem_mem hk)
    refine List.ext_getElem (by simp [hl]) fun i h3 h4 => ?_
    have hi2 : i < l + r := by simpa using h3
    simp only [List.getElem_map, List.getElem_range, smZ, if_neg h]
    by_cases hi : l ≤ i
    · rw [if_pos ⟨hj, hi⟩, List.getElem_append_right (by simpa using hi), getD_of_lt _ hk, getD_of_lt _ (by omega)]
      simp
    · rw [if_neg (fun hh => hi hh.2), List.getElem_append_left (by simp; omega), List.getElem_replicate]

set_option maxHeartbeats 3200000 in
set_option maxRecDepth 100000 in
theorem sumTable_any (va vb : Value) (a b : List (List Int)) (l r : Nat) (w : World) (hva : L2 0 w va a) (hvb : L2 0 w vb b) (hal : a.length ≤ 524288) (hbl : b.length ≤ 524288) (hl : l ≤ 524288) (hr : r ≤ 524288) (ha : ∀ x ∈ a, x.length = l) (hb : ∀ x ∈ b, x.length = r) :
    Calls Try.prog 139 #[va, .int .i64 (l : Int), vb, .int .i64 (r : Int)] w (MatR (a.length + b.length) (l + r) (smZ a l b a.length b.length) w) := by
  obtain ⟨aa, ca, rfl⟩ := Sl.shape hva
  obtain ⟨ab, cb, rfl⟩ := Sl.shape hvb
  have HVA := Lib.hid (fun W (h : Below w.heap.size w W) => hva.below h)
  have HVB := Lib.hid (fun W (h : Below w.heap.size w W) => hvb.below h)
  have HA := Lib.hid ha
  have HB := Lib.hid hb
  have hw1 : IntKind.i64.wrap ((a.length : Int) + (b.length : Int)) = ((a.length + b.length : Nat) : Int) := by rw [show (a.length : Int) + (b.length : Int) = ((a.length + b.length : Nat) : Int) by omega]; exact IntWalk.i64_in _ (by omega)
  have hw2 : IntKind.i64.wrap ((l : Int) + (r : Int)) = ((l + r : Nat) : Int) := by rw [show (l : Int) + (r : Int) = ((l + r : Nat) : Int) by omega]; exact IntWalk.i64_in _ (by omega)
  obtain ⟨R, hR⟩ : ∃ R, R = a.length + b.length := ⟨_, rfl⟩
  obtain ⟨c, hc⟩ : ∃ c, c = l + r := ⟨_, rfl⟩
  rw [← hR] at hw1
  rw [← hc] at hw2
  rw [← hR, ← hc]
  have hRa : a.length ≤ R := by omega
  have hcl : l ≤ c := by omega
  have HRE : Hid (R = a.length + b.length) := Lib.hid hR
  have HCE : Hid (c = l + r) := Lib.hid hc
  have hR2 : R ≤ 1048576 := by omega
  have hc2 : c ≤ 1048576 := by omega
  clear hva hvb ha hb hR hc
  go_enter Try.func139, Try.ntmps139
  go_wp2_with fail
  refine (zeroTable_any R c w hR2 hc2).mono ?_
  rintro ee w1 ⟨rfl, hm⟩
  have HM0 : Hid (Mat w w1 R c (smZ a l b 0 0)) := Lib.hid (by rw [smZ_0]; exact hm)
  clear hm hw1 hw2
  go_wp2
  go_loopw [10, 11, 25] (fun _ _ i wr => ∃ (k : Nat), k ≤ a.length ∧ i = .int .i64 k ∧ Hid (Mat w wr R c (smZ a l b k 0))) (fun _ _ i _ => a.length - (intOf i).toNat)
  case atStart => exact ⟨0, Nat.zero_le _, rfl, HM0⟩
  case round =>
    clear HM0
    obtain ⟨k, hk, rfl, HM⟩ := hrel
    obtain ⟨wx, hwx⟩ : ∃ wx : World, wx = wr := ⟨_, rfl⟩
    subst hwx
    by_cases hlt : k < a.length
    · have hlk : (k : Int) < (a.length : Int) := by omega
      have hlR : (k : Int) < (R : Int) := by omega
      have hkR : k < R := by omega
      refine Sl.cases (HVA.out _ HM.out.below) (fun _ _ hx _ => absurd hlt (by simp [hx])) (fun bk ok c2' hvv _ _ hcl => ?_)
      injection hvv with e1 e2 e3
      clear e2
      subst e1 e3
      obtain ⟨ur, hur, hrr⟩ := hcl k hlt
      obtain ⟨y, hy⟩ : ∃ y, y = a[k] := ⟨_, rfl⟩
      rw [← hy] at hrr
      have hyl : y.length = l := by rw [hy]; exact HA.out _ (List.getElem_mem hlt)
      have hyg : a.getD k [] = y := by rw [getD_of_lt _ hlt, hy]
      obtain ⟨ar, cr, hus⟩ := Sl.shape hrr
      rw [hyl] at hus
      subst hus
      have htop := HM.out.top.cell hkR
      obtain ⟨W, hrun, hsz, hmat⟩ := copy_into HM.out (q := 0) hkR c c ar cr y (by rw [hyl]; exact hrr) (by omega) (by omega)
      have HM2 : Hid (Mat w W R c (smZ a l b (k + 1) 0)) := Lib.hid (hmat.congr (fun j hj i hi => by
        unfold smZ
        by_cases e : j = k
        · subst e
          by_cases h2 : i < l
          · rw [if_pos ⟨rfl, by omega, by omega⟩, if_pos hlt, if_pos ⟨by omega, h2⟩, hyg, Nat.sub_zero]
          · rw [if_neg (by omega), if_pos hlt, if_pos hlt, if_neg (by omega), if_neg (by omega)]
        · rw [if_neg (by omega)]
          by_cases h3 : j < a.length
          · rw [if_pos h3, if_pos h3]
            by_cases h4 : j < k ∧ i < l
            · rw [if_pos h4, if_pos (by omega)]
            · rw [if_neg h4, if_neg (by omega)]
          · rw [if_neg h3, if_neg h3]))
      have HRUN := Lib.hid (by rw [hyl] at hrun; exact hrun)
      clear hcl hrr hy hyg hmat hrun hsz HM hyl
      go_wp2
      rw [HRUN.out]
      go_wp2
      go_roundw
      case rel => first | exact ⟨k + 1, by omega, by go_num, HM2⟩ | ((repeat apply Exists.intro); exact ⟨⟨k + 1, by omega, by go_num, HM2⟩, rfl⟩)
      case measure => simp [intOf]; omega
    · have hlk : ¬ (k : Int) < (a.length : Int) := by omega
      have HM1 : Hid (Mat w wx R c (smZ a l b a.length 0)) := Lib.hid (by have h0 := HM.out; rwa [show k = a.length by omega] at h0)
      clear HM
      obtain ⟨wo, hwo⟩ : ∃ wo : World, wo = wx := ⟨_, rfl⟩
      subst hwo
      go_wp2
      go_loopw [12, 13, 39] (fun _ _ i wr => ∃ (k : Nat), k ≤ b.length ∧ i = .int .i64 k ∧ Hid (Mat w wr R c (smZ a l b a.length k))) (fun _ _ i _ => b.length - (intOf i).toNat)
      case atStart => exact ⟨0, Nat.zero_le _, rfl, HM1⟩
      case round =>
        clear HM1
        obtain ⟨k2, hk2, rfl, HM⟩ := hrel
        obtain ⟨wy, hwy⟩ : ∃ wy : World, wy = wr := ⟨_, rfl⟩
        subst hwy
        by_cases hlt2 : k2 < b.length
        · have hlk2 : (k2 : Int) < (b.length : Int) := by omega
          obtain ⟨m, hm⟩ : ∃ m, m = a.length + k2 := ⟨_, rfl⟩
          have hmR : m < R := by have := HRE.out; omega
          have hlR : (m : Int) < (R : Int) := by omega
          have hw3 : IntKind.i64.wrap ((a.length : Int) + (k2 : Int)) = (m : Int) := by rw [show (a.length : Int) + (k2 : Int) = (m : Int) by omega]; exact IntWalk.i64_in _ (by omega)
          refine Sl.cases (HVB.out _ HM.out.below) (fun _ _ hx _ => absurd hlt2 (by simp [hx])) (fun bk ok c2' hvv _ _ hcl => ?_)
          injection hvv with e1 e2 e3
          clear e2
          subst e1 e3
          obtain ⟨ur, hur, hrr⟩ := hcl k2 hlt2
          obtain ⟨y, hy⟩ : ∃ y, y = b[k2] := ⟨_, rfl⟩
          rw [← hy] at hrr
          have hyl : y.length = r := by rw [hy]; exact HB.out _ (List.getElem_mem hlt2)
          have hyg : b.getD k2 [] = y := by rw [getD_of_lt _ hlt2, hy]
          obtain ⟨ar, cr, hus⟩ := Sl.shape hrr
          rw [hyl] at hus
          subst hus
          have htop := HM.out.top.cell hmR
          have hce := HCE.out
          by_cases hcl2 : l < c
          · skip
            obtain ⟨W, hrun, hsz, hmat⟩ := copy_into HM.out (q := l) hmR (c - l) (c - l) ar cr y (by rw [hyl]; exact hrr) (by omega) (by omega)
            have HM2 : Hid (Mat w W R c (smZ a l b a.length (k2 + 1))) := Lib.hid (hmat.congr (fun j hj i hi => by
              unfold smZ
              by_cases e : j = m
              · subst e
                rw [if_neg (show ¬ j < a.length by omega), if_neg (show ¬ j < a.length by omega)]
                by_cases h2 : l ≤ i
                · rw [if_pos ⟨rfl, h2, by omega⟩, if_pos ⟨by omega, h2⟩, show j - a.length = k2 by omega, hyg]
                · rw [if_neg (by omega), if_neg (by omega), if_neg (by omega)]
              · rw [if_neg (by omega)]
                by_cases h3 : j < a.length
                · rw [if_pos h3, if_pos h3]
                · rw [if_neg h3, if_neg h3]
                  by_cases h4 : j < a.length + k2 ∧ l ≤ i
                  · rw [if_pos h4, if_pos (by omega)]
                  · rw [if_neg h4, if_neg (by omega)]))
            have HRUN := Lib.hid (by rw [hyl] at hrun; exact hrun)
            have hl0 : (0 : Int) ≤ (l : Int) := by omega
            have hlc : (l : Int) ≤ (c : Int) := by omega
            clear hcl hrr hy hyg hmat hrun hsz HM hm hce hyl
            go_wp2
            rw [HRUN.out]
            go_wp2
            go_roundw
            case rel => first | exact ⟨k2 + 1, by omega, by go_num, HM2⟩ | ((repeat apply Exists.intro); exact ⟨⟨k2 + 1, by omega, by go_num, HM2⟩, rfl⟩)
            case measure => simp [intOf]; omega
          · skip
            obtain ⟨W, hrun, hsz, hmat⟩ := copy_into HM.out (q := 0) hmR (c - l) (c - l) ar cr y (by rw [hyl]; exact hrr) (by omega) (by omega)
            have HM2 : Hid (Mat w W R c (smZ a l b a.length (k2 + 1))) := Lib.hid (hmat.congr (fun j hj i hi => by
              unfold smZ
              by_cases e : j = m
              · subst e
                rw [if_neg (show ¬ j < a.length by omega), if_neg (show ¬ j < a.length by omega)]
                by_cases h2 : l ≤ i
                · exact absurd h2 (by omega)
                · rw [if_neg (by omega), if_neg (by omega), if_neg (by omega)]
              · rw [if_neg (by omega)]
                by_cases h3 : j < a.length
                · rw [if_pos h3, if_pos h3]
                · rw [if_neg h3, if_neg h3]
                  by_cases h4 : j < a.length + k2 ∧ l ≤ i
                  · rw [if_pos h4, if_pos (by omega)]
                  · rw [if_neg h4, if_neg (by omega)]))
            have HRUN := Lib.hid (by rw [hyl] at hrun; exact hrun)
            have hl0 : (0 : Int) ≤ (l : Int) := by omega
            have hlc : (l : Int) ≤ (c : Int) := by omega
            clear hcl hrr hy hyg hmat hrun hsz HM hm hce hyl
            go_wp2
            rw [HRUN.out]
            go_wp2
            go_roundw
            case rel => first | exact ⟨k2 + 1, by omega, by go_num, HM2⟩ | ((repeat apply Exists.intro); exact ⟨⟨k2 + 1, by omega, by go_num, HM2⟩, rfl⟩)
            case measure => simp [intOf]; omega
        · have hlk2 : ¬ (k2 : Int) < (b.length : Int) := by omega
          have HM3 : Hid (Mat w wy R c (smZ a l b a.length b.length)) := Lib.hid (by have h0 := HM.out; rwa [show k2 = b.length by omega] at h0)
          clear HM
          go_wp2
          go_ret
          exact ⟨rfl, HM3.out⟩
end Go.Proofs.Ytpdkfidmmjlmnab


namespace Go.Proofs.Ytpdkfidmmjlmnab
open Go.RowKit

section
variable {P : Program} {ops : Array Oper} {Q : Exit → Act → World → Prop} {md : Region.Mode} {S : World → Prop}
theorem held_one {i : Nat} {fuel : Nat} {listed : Array Bool} {a : Act} {w : World} (hr : Region.ready md ops listed = [i])
    (h1 : wpOp P ops Q i (fun a' w' => S w' ∧ wpAnyH P md ops Q S fuel (listed.setIfInBounds i true) a' w') a w) : wpAnyH P md ops Q S (fuel + 1) listed a w :=
  wpAnyH_all hr (by simp) (fun k hk => by obtain rfl := List.mem_singleton.1 hk; exact h1)
theorem held_two {i j : Nat} {fuel : Nat} {listed : Array Bool} {a : Act} {w : World} (hr : Region.ready md ops listed = [i, j])
    (h1 : wpOp P ops Q i (fun a' w' => S w' ∧ wpAnyH P md ops Q S fuel (listed.setIfInBounds i true) a' w') a w)
    (h2 : wpOp P ops Q j (fun a' w' => S w' ∧ wpAnyH P md ops Q S fuel (listed.setIfInBounds j true) a' w') a w) : wpAnyH P md ops Q S (fuel + 1) listed a w :=
  wpAnyH_all hr (by simp) (fun k hk => by
    rcases List.mem_cons.1 hk with rfl | hk
    · exact h1
    · obtain rfl := List.mem_singleton.1 hk; exact h2)
theorem held_three {i j l : Nat} {fuel : Nat} {listed : Array Bool} {a : Act} {w : World} (hr : Region.ready md ops listed = [i, j, l])
    (h1 : wpOp P ops Q i (fun a' w' => S w' ∧ wpAnyH P md ops Q S fuel (listed.setIfInBounds i true) a' w') a w)
    (h2 : wpOp P ops Q j (fun a' w' => S w' ∧ wpAnyH P md ops Q S fuel (listed.setIfInBounds j true) a' w') a w)
    (h3 : wpOp P ops Q l (fun a' w' => S w' ∧ wpAnyH P md ops Q S fuel (listed.setIfInBounds l true) a' w') a w) : wpAnyH P md ops Q S (fuel + 1) listed a w :=
  wpAnyH_all hr (by simp) (fun k hk => by
    rcases List.mem_cons.1 hk with rfl | hk
    · exact h1
    · rcases List.mem_cons.1 hk with rfl | hk
      · exact h2
      · obtain rfl := List.mem_singleton.1 hk; exact h3)
theorem op_plain {i : Nat} {oi : Oper} {K : Act → World → Prop} {a : Act} {w : World} (hi : ops[i]? = some oi) (hg : oi.guard = none) (h : oi.wp P a w K Q) : wpOp P ops Q i K a w := by
  unfold wpOp
  rw [hi]
  have hw : Region.wanted oi (yielded ops a.tmps) = true := by unfold Region.wanted; rw [hg]
  simp only [hw, if_true]
  exact Or.inl h
theorem op_enter {i : Nat} {oi : Oper} {K : Act → World → Prop} {a : Act} {w : World} (d : Option Tmp) {f : FuncId} {args : Array Value} (hi : ops[i]? = some oi) (hg : oi.guard = none) (hd : oi.dst = d)
    (h : (execOp a.eval oi).run P w = .ok (.enter f args) w) {R : Ending → World → Prop} (hc : Calls P f args w R) (hR : ∀ v w', R (.returned v) w' → K (a.put d v) w') (h2 : ∀ c w', ¬ R (.panicked c) w') (h3 : ∀ w', ¬ R .outgrown w') : wpOp P ops Q i K a w :=
  op_plain hi hg (wp_enter h hc (fun v w' hv => by rw [hd]; exact hR v w' hv) h2 h3)
theorem op_mem {i : Nat} {oi : Oper} {K : Act → World → Prop} {a : Act} {w w' : World} {v : Value} (d : Option Tmp) (hi : ops[i]? = some oi) (hg : oi.guard = none) (hd : oi.dst = d)
    (h : (execOp a.eval oi).run P w = .ok (.value v) w') (hK : K (a.put d v) w') : wpOp P ops Q i K a w := by
  subst hd
  refine op_plain hi hg ?_
  unfold Oper.wp
  rw [h]
  exact hK
theorem op_row {i : Nat} {oi : Oper} {K : Act → World → Prop} {a : Act} {w : World} (hi : ops[i]? = some oi) (hgd : oi.guard = none) (hd : oi.dst = none) (ty : TypeId) (x y : Operand) (ho : oi.op = .store ty x y)
    (g : Nat) (cells : Array Value) (hx : a.eval x = .pointer (some ⟨g, 0, none⟩)) (hy : a.eval y = .agg cells) (t : TypeId) (old : Array Value) (hg : w.heap[g]? = some (.cells old t (0, 0))) (hs : (P.info? ty).map (·.size) = some cells.size)
    (hold : old.size = cells.size) (h1 : cells.all (·.oneCell') = true) (hK : K a (w.setRow g cells)) : wpOp P ops Q i K a w :=
  op_plain hi hgd (wp_store_row ty x y ho g cells hx hy t old hg hs hold h1 (by rw [hd]; exact hK))
end
/-- A block of cells that may be written. -/
def Rz (W : World) (g : Nat) (t : TypeId) (cs : Array Value) : Prop := W.heap[g]? = some (.cells cs t (0, 0))
theorem Rz.lt {W : World} {g : Nat} {t : TypeId} {cs : Array Value} (h : Rz W g t cs) : g < W.heap.size := (Array.getElem?_eq_some_iff.1 h).1
theorem Rz.next {W W' : World} {g : Nat} {t : TypeId} {cs : Array Value} (h : Rz W g t cs) (hb : Below W.heap.size W W') : Rz W' g t cs := (hb.block g h.lt).trans h
theorem Rz.new (W : World) (t : TypeId) (cs : Array Value) : Rz (W.alloc (.cells cs t)) W.heap.size t cs := by simpa [Rz] using heap_alloc_new W (.cells cs t)
theorem Rz.set {W : World} {g : Nat} {t : TypeId} {cs : Array Value} (h : Rz W g t cs) (x : Array Value) : Rz (W.setRow g x) g t x := setRow_heap W g cs x t _ h
theorem Rz.off {W : World} {g g' : Nat} {t : TypeId} {cs : Array Value} (h : Rz W g t cs) (hne : g ≠ g') (x : Array Value) : Rz (W.setRow g' x) g t cs := (setRow_other W g' g x hne).trans h
theorem Rz.cell {W : World} {g : Nat} {t : TypeId} {cs : Array Value} (h : Rz W g t cs) {i : Nat} {v : Value} (hv : cs[i]? = some v) : W.cell? ⟨g, i, none⟩ = some v := by
  have h' : W.heap[g]? = some (.cells cs t (0, 0)) := h
  simp [World.cell?, h', hv]
end Go.Proofs.Ytpdkfidmmjlmnab

