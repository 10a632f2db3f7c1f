/-
  slices.SortFunc of bars by the library's contract.
-/
import Derived.Shelf.SlSortCmp.NoneTotal
import Derived.Shelf.Lay
import Derived.Ground.SlsfProg
import Derived.Test.YtchijefibiaphaaBjm
import Derived.Test.YtchijefibiaphaaBmk
namespace Go.Proofs.Ytchijefibiaphaa
open Go.Shelf Go.RowKit Go.Lib Go.Sort

shelf_lay_g SlLaysF0.n6 Slsf 6 at Try 83 as Try.sortBar

theorem swo3 : SWO (ltOf cmp3) where
  irrefl x := by unfold ltOf; simp only [decide_eq_false_iff_not]; exact fun h => cmp3_asymm h h
  trans x y z h1 h2 := by unfold ltOf at *; simp only [decide_eq_true_eq] at *; rw [cmp3_iff] at *; omega
  ntrans x y z h1 h2 := by unfold ltOf at *; simp only [decide_eq_false_iff_not] at *; exact cmp3_ntrans h1 h2

theorem holds_bars {base : Nat} {w : World} {g n cap : Nat} {L : List B3} (h : Gbr base w (.slice (some ⟨g, 0, none⟩) n cap) L) : HoldsK bc 3 w g 0 L.toArray := by
  have hn := h.cap_le.1
  subst hn
  intro j hj
  have hj3 : j < L.length * 3 := by simpa using hj
  rw [get_flatK _ _ _ j (by simpa using hj3)]
  have hq : j / 3 < L.length := by omega
  have hm : j % 3 < 3 := Nat.mod_lt _ (by decide)
  obtain ⟨q, hqe⟩ : ∃ q, q = j / 3 := ⟨_, rfl⟩
  obtain ⟨m, hme⟩ : ∃ m, m = j % 3 := ⟨_, rfl⟩
  have hjq : j = q * 3 + m := by omega
  rw [← hqe] at hq ⊢
  rw [← hme] at hm ⊢
  have e := bcl_cell hq hm
  have h2 := h
  unfold Gbr at h2
  have hc := World.ownsRow.cellAt h2 j (by omega)
  rw [Nat.zero_add]
  refine ⟨?_, ?_⟩
  · rw [hc, hjq, e, getElem!_pos L.toArray q (by simpa using hq)]
    rw [List.getElem?_eq_getElem (by simpa [bc] using hm), getElem!_pos (bc _) m (by simpa [bc] using hm)]
    simp
  · rcases h.2 with ⟨h0, _⟩ | ⟨g', cap', cur, hv, _, hb, _⟩
    · cases h0
    · injection hv with e1
      injection e1 with e1
      injection e1 with e1
      subst e1
      simp [World.frozen?, hb]

theorem sorted_world {base : Nat} {w : World} {g n cap m : Nat} {L : List B3} {out : Array B3} {os : Array Obj} (h : Gbr base w (.slice (some ⟨g, 0, none⟩) n cap) L) (hl : out.size = L.length) (hpos : 0 < L.length) :
    RwB base (sortWorldK bc 3 w g 0 m out os).heap.size (sortWorldK bc 3 w g 0 m out os) (.slice (some ⟨g, 0, none⟩) n cap) out.toList ∧ Below base w (sortWorldK bc 3 w g 0 m out os) := by
  have hH := holds_bars h
  obtain ⟨hlen, h2⟩ := h
  rcases h2 with ⟨h0, _⟩ | ⟨g', cap', cur, hv, hlo, hb, hn, hcm, hcs, ht⟩
  · cases h0
  · injection hv with e1 e2 e3
    injection e1 with e1
    injection e1 with e1
    subst e1 e2 e3
    have hgl : g < w.heap.size := (Array.getElem?_eq_some_iff.1 hb).1
    have hK := holdsK_sortWorldK_c bc 3 w g 0 L.toArray out m os hH hgl (by simpa using hl)
    have hblk : (sortWorldK bc 3 w g 0 m out os).heap[g]? = some (.cells (putCells id 0 (flatK bc 3 out) cur) 53 (0, 0)) := by
      unfold sortWorldK putRowK putRow mapBlock grow «Sort».ahead
      simp only [Array.getElem?_append, Array.size_modify, hgl, if_true, Array.getElem?_modify, hb, Option.map_some, onCells]
    have hsz : (putCells id 0 (flatK bc 3 out) cur).size = cur.size := by simp [putCells]
    refine ⟨Or.inr ⟨g, cap, cur.size, fun i => (putCells id 0 (flatK bc 3 out) cur).getD i undef, by simp [hl], hlo, ?_, by simpa [hl] using hpos, by simp [hl]; omega, ⟨_, hblk, hsz, fun i hi => by simp [hsz, hi]⟩, fun k hk => ?_⟩, rfl, rfl, rfl, ?_, fun k hk => ?_⟩
    · exact (Array.getElem?_eq_some_iff.1 hblk).1
    · have hk' : k < out.size := by simpa using hk
      have hrow : (sortWorldK bc 3 w g 0 m out os).rowIs g 53 cur.size (fun i => (putCells id 0 (flatK bc 3 out) cur).getD i undef) := ⟨_, hblk, hsz, fun i hi => by simp [hsz, hi]⟩
      have go : ∀ r, r < 3 → (putCells id 0 (flatK bc 3 out) cur).getD (k * 3 + r) undef = (bc out[k]).getD r undef := fun r hr => by
        have h1 := hrow.cell (i := k * 3 + r) (by omega)
        have h3 := (hK (k * 3 + r) (by simp; omega)).1
        rw [Nat.zero_add, h1, get_flatK _ _ _ _ (by omega)] at h3
        injection h3 with h3
        rw [h3, show (k * 3 + r) / 3 = k by omega, show (k * 3 + r) % 3 = r by omega, getElem!_pos out k hk', getElem!_pos (bc _) r (by simpa [bc] using hr)]
        simp only [id, List.getD_eq_getElem?_getD]
        rw [List.getElem?_eq_getElem (by simpa [bc] using hr)]
        rfl
      have e0 := go 0 (by omega)
      have e1 := go 1 (by omega)
      have e2 := go 2 (by omega)
      exact ⟨by simpa [bc] using e0, by simpa [bc] using e1, by simpa [bc] using e2⟩
    · exact size_sortWorldK_c bc 3 w g 0 m out os
    · have hkg : ¬ g = k := by omega
      have hkl : k < w.heap.size := by omega
      unfold sortWorldK putRowK putRow mapBlock grow «Sort».ahead
      simp only [Array.getElem?_append, Array.size_modify, hkl, if_true, Array.getElem?_modify, hkg, if_false]

def SoR (base : Nat) (u : Value) (L : List B3) (w : World) (e : Ending) (w' : World) : Prop := e = .returned (.tuple #[]) ∧ ∃ out, JbS L out ∧ RwB base w'.heap.size w' u out ∧ Below base w w'
theorem sortBars_any {base : Nat} {w : World} {g cap : Nat} {L : List B3} (h : Gbr base w (.slice (some ⟨g, 0, none⟩) L.length cap) L) (hpos : 0 < L.length) (hl : L.length ≤ 1048576) :
    Calls Try.prog 83 #[.slice (some ⟨g, 0, none⟩) L.length cap, .func (.func 76) #[] #[]] w (SoR base (.slice (some ⟨g, 0, none⟩) L.length cap) L w) := by
  have hgl : g < w.heap.size := by
    rcases h.2 with ⟨h0, _⟩ | ⟨g', cap', cur, hv, _, hb, _⟩
    · cases h0
    · injection hv with e1
      injection e1 with e1
      injection e1 with e1
      subst e1
      exact (Array.getElem?_eq_some_iff.1 hb).1
  have eg : ∀ args w, (callFunc 76 args).run Try.prog w = .ok (.enter 76 args) w := enters_of Try.func76 (by kernel_rfl) rfl
  have hcon := AnyQ.slices_SortFunc Try.sortBar 3 (fun _ => by kernel_rfl) (fun _ => by kernel_rfl) bc (fun _ => rfl) bc_one cmp3 swo3 76 #[] g 0 cap L.toArray w eg (fun m os dk _ x y => (compareBars_any x y _).mono (fun e w' hh => ⟨hh.1, hh.2⟩)) (holds_bars h) hgl (by simp; omega)
  have hs : L.toArray.size = L.length := by simp
  rw [hs] at hcon
  refine hcon.mono ?_
  rintro e w' ⟨he, d', n, os, hp, hso, rfl⟩
  have hd : d'.size = L.length := by have := hp.1; simpa using this
  have hw := sorted_world (m := n) (os := os) h hd hpos
  refine ⟨he, d'.toList, ⟨?_, ?_⟩, hw.1, hw.2⟩
  · obtain ⟨hsz, _, hperm⟩ := hp
    have e1 : d'.extract 0 L.length = d' := by rw [← hd]; exact Array.extract_size
    have e2 : L.toArray.extract 0 L.length = L.toArray := by rw [← hs]; exact Array.extract_size
    rw [e1, e2] at hperm
    simpa using hperm
  · refine List.pairwise_iff_getElem.2 (fun i j hi hj hij => ?_)
    have hi' : i < d'.size := by simpa using hi
    have hj' : j < d'.size := by simpa using hj
    have := hso i j (Nat.zero_le _) hij (by omega)
    rw [getElem!_pos d' j hj', getElem!_pos d' i hi'] at this
    simpa [ltOf] using this
end Go.Proofs.Ytchijefibiaphaa
