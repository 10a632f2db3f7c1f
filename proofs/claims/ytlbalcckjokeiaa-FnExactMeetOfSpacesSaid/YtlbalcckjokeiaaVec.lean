/-
  impl.vectorOf by its contract: a row of numbers as an array of MaxRows numbers.
-/
import Derived.Test.YtlbalcckjokeiaaApply2
import Derived.Test.YtlbalcckjokeiaaArr
import Derived.Laws.CopyOwn
namespace Go.Proofs.Ytlbalcckjokeiaa
open Go.RowKit

def zl : List Value := List.replicate 40 (.int .i64 0)
theorem zl_length : zl.length = 40 := by simp [zl]
/-- A row with zeros behind it, MaxRows numbers in all. -/
def pad (v : List Int) : List Int := v ++ List.replicate (40 - v.length) 0
theorem pad_length {v : List Int} (h : v.length ≤ 40) : (pad v).length = 40 := by simp [pad]; omega
theorem pad_splice (v : List Int) : (splice zl 0 (v.map (Value.int .i64))).toArray = ints (pad v) := by
  have e : zl = (List.replicate 40 (0 : Int)).map (Value.int .i64) := by simp [zl]
  have h2 : List.drop v.length (List.replicate 40 (0 : Int)) = List.replicate (40 - v.length) 0 := List.drop_replicate ..
  rw [e]
  simp only [splice, ints, pad, List.take_zero, List.nil_append, Nat.zero_add, List.length_map, ← List.map_drop, h2, List.map_append]
theorem pad_zero {v : List Int} (h : v.length ≤ 40) : pad v = List.replicate 40 0 ↔ ∀ x ∈ v, x = 0 := by
  constructor
  · intro e x hx
    have : x ∈ pad v := by simp [pad, hx]
    rw [e] at this
    exact List.eq_of_mem_replicate this
  · intro hall
    refine List.eq_replicate_iff.2 ⟨pad_length h, fun x hx => ?_⟩
    rcases List.mem_append.1 hx with h1 | h1
    · exact hall x h1
    · exact List.eq_of_mem_replicate h1

theorem Try.underlyingV : Try.prog.underlying 107 = some (.array 40 2) := by kernel_rfl
theorem Try.infoV : (Try.prog.info? 107).map (·.size) = some 40 := by kernel_rfl
theorem Try.infoI1 : (Try.prog.info? 2).map (·.size) = some 1 := by kernel_rfl

set_option maxRecDepth 100000 in
theorem hmk40 : ∀ w, (Instr.makeSlice 31 (.int .i64 40) (.int .i64 40)).run Try.prog w = .ok (.slice (some ⟨w.heap.size, 0, none⟩) 40 40) (w.alloc (.cells zl.toArray 2)) := fun w => by
  have h := run_make_row' (P := Try.prog) 31 2 (.int .i64 0) 8 Try.underlying31 Try.infoI rfl .i64 .i64 40 (by omega) (by omega) w
  have e : madeCells #[.int .i64 0] 40 = zl.toArray := by kernel_rfl
  rw [e] at h
  exact h

theorem below_two (w : World) (A B : Obj) : Below w.heap.size w ((w.alloc A).alloc B) := ((Below.refl _ _).alloc (Nat.le_refl _) _).alloc (by simp) _
theorem below_second (w : World) (A B : Obj) : Below (w.heap.size + 1) (w.alloc A) ((w.alloc A).alloc B) := (Below.refl _ _).alloc (by simp) _
def AR (a : Array Value) (w : World) (e : Ending) (w' : World) : Prop := e = .returned (.agg a) ∧ Below w.heap.size w w'

set_option maxHeartbeats 3200000 in
set_option maxRecDepth 100000 in
theorem vectorOf_any (va : Value) (v : List Int) (w : World) (ha : L1 0 w va v) (hv : v.length ≤ 40) :
    Calls Try.prog 121 #[va] w (AR (ints (pad v)) w) := by
  have hmk := hmk40
  have hat : ∀ (g : Nat) w, (Instr.arrayAt 107 (.slice (some ⟨g, 0, none⟩) 40 40)).run Try.prog w = .ok (.pointer (some ⟨g, 0, none⟩)) w := fun g w => run_arrayAt w _ _ 40 _ 40 40 Try.underlyingV (Nat.le_refl _)
  have hres : Try.f121.results = #[.cell 2 107] := by kernel_rfl
  have HRES := Lib.hid hres
  clear hres
  obtain ⟨cs, hcs⟩ : ∃ cs, cs = v.map (Value.int .i64) := ⟨_, rfl⟩
  have hcl : cs.length = v.length := by rw [hcs]; simp
  have hsp : (splice zl 0 cs).toArray = ints (pad v) := by rw [hcs]; exact pad_splice v
  have hone : ∀ u ∈ cs, u.oneCell' = true := by rw [hcs]; exact ints_oneCell _ _
  have hsrc : ∃ ad cap, va = .slice ad v.length cap ∧ (0 < cs.length → ∃ a, ad = some a ∧ ∀ j u, cs[j]? = some u → w.cell? (a.add j) = some u) := by
    refine Sl.cases ha (fun ad cap hx hv' => ⟨ad, cap, by subst hx; exact hv', fun h0 => by rw [hcl, hx] at h0; simp at h0⟩) (fun b o cap hv' _ hpos hc => ⟨_, cap, hv', fun _ => ⟨_, rfl, fun j u hu => ?_⟩⟩)
    have hj : j < v.length := by rw [← hcl]; exact (List.getElem?_eq_some_iff.1 hu).1
    obtain ⟨u2, h2, h3⟩ := hc j hj
    rw [Addr.add_lit, h2, h3]
    rw [hcs] at hu
    simp [hj] at hu
    rw [hu]
  obtain ⟨ad, cap, rfl, hpos⟩ := hsrc
  have HN : Hid (cs.length = Nat.min v.length 40) := Lib.hid (by rw [hcl]; exact (Nat.min_eq_left hv).symm)
  have HFIT : Hid (0 + cs.length ≤ zl.length) := Lib.hid (by rw [zl_length]; omega)
  have HPOS : Hid (∀ W, Below w.heap.size w W → 0 < cs.length → some (⟨w.heap.size + 1, 0, none⟩ : Addr) = some ⟨w.heap.size + 1, 0, none⟩ ∧ ∃ a, ad = some a ∧ ∀ j u, cs[j]? = some u → W.cell? (a.add j) = some u) := Lib.hid (fun W hb h0 => by
    obtain ⟨a, h1, h2⟩ := hpos h0
    refine ⟨rfl, a, h1, fun j u hu => ?_⟩
    have h3 := h2 j u hu
    rw [hb.cell (World.block_lt_of_cell? _ _ h3), h3])
  have HSP := Lib.hid hsp
  have HONE := Lib.hid hone
  have HPAD : Hid ((Try.prog.info? 107).map (·.size) = some (ints (pad v)).size) := Lib.hid (by rw [ints_size, pad_length hv]; exact Try.infoV)
  have HALL : Hid ((ints (pad v)).all (·.oneCell') = true) := Lib.hid (by simp [ints, Value.oneCell'])
  clear hcl hsp hone hpos hcs ha
  go_enter Try.func121, Try.ntmps121
  go_wp2_with (with_reducible refine wpList_copy_splice rfl (.tmp 5) (.tmp 6) 31 31 rfl 2 Try.underlying31 Try.infoI1 (some ⟨w.heap.size + 1, 0, none⟩) ad 40 40 v.length cap rfl rfl (w.heap.size + 1) 0 zl 2 (heap_alloc2_new _ _ _) cs HN.out (HPOS.out _ (below_two _ _ _)) HFIT.out HONE.out (w.heap.size + 1) _ (below_second _ _ _) (Nat.le_refl _) ?_)
  intro w2 HG2 hB2
  have hzz : ∃ old : Array Value, old.size = 40 ∧ w2.heap[w.heap.size]? = some (.cells old 107 (0, 0)) := by
    refine ⟨_, ?_, (hB2.block _ (Nat.lt_succ_self _)).trans (heap_alloc_new _ _)⟩
    rfl
  obtain ⟨old, hold, hz⟩ := hzz
  have hbel : Below w.heap.size w w2 := ((Below.refl _ _).alloc (Nat.le_refl _) _).trans (hB2.mono (Nat.le_succ _))
  have hg2 : w2.heap[w.heap.size + 1]? = some (.cells (ints (pad v)) 2 (0, 0)) := by rw [← HSP.out]; exact HG2.out
  have HZ := Lib.hid hz
  have HB := Lib.hid hbel
  have HOLD := Lib.hid hold
  have HG := Lib.hid hg2
  have HOS : Hid (old.size = (ints (pad v)).size) := Lib.hid (by rw [hold, ints_size, pad_length hv])
  clear hz hbel hold hg2 HG2 hB2
  go_wp2_with (first | (with_reducible refine wpList_load_row rfl 107 (.tmp 9) rfl (w.heap.size + 1) rfl 2 (ints (pad v)) (0, 0) _ HG.out Try.underlyingV rfl HPAD.out ?_) | (with_reducible refine wpList_store_row rfl 107 (.tmp 2) (.tmp 10) rfl w.heap.size (ints (pad v)) rfl rfl 107 old HZ.out HPAD.out HOS.out HALL.out ?_))
  exact bodyPost_ret (v := .agg (ints (pad v))) (results_cell_row HRES.out _ _ w.heap.size 107 (ints (pad v)) (0, 0) _ rfl (setRow_heap _ _ _ _ _ _ HZ.out) Try.underlyingV rfl HPAD.out) rfl ⟨rfl, below_setRow HB.out (Nat.le_refl _) _⟩
end Go.Proofs.Ytlbalcckjokeiaa
