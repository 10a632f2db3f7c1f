/-
  Arrays of integers: how the model compares two of them with == and !=. Nothing of the program is named here.
-/
import Derived.Test.YtlbalcckjokeiaaMem
import Derived.WalkLawsBesides
namespace Go.Proofs.Ytlbalcckjokeiaa
open Go.RowKit

def ints (zs : List Int) : Array Value := (zs.map (Value.int .i64)).toArray
theorem ints_size (zs : List Int) : (ints zs).size = zs.length := by simp [ints]
theorem ints_at {zs : List Int} {i : Nat} (h : i < zs.length) : (ints zs)[i]? = some (.int .i64 zs[i]) := by simp [ints, h]

section
variable {P : Program}
theorem run_part_int (w : World) {e : TypeId} (he : P.underlying e = some (.int .i64)) (cs : Array Value) (i : Nat) (v : Value) (h : cs[i]? = some v) : (part e cs i).run P w = .ok v w := by
  simp [part, isAgg, run_underlying he, h]

/-- Equality place by place is equality of lists. -/
theorem ints_agree {zs ys : List Int} (h : zs.length = ys.length) : (∀ i ∈ List.range' 0 zs.length 1, zs.getD i 0 = ys.getD i 0) ↔ zs = ys := by
  constructor
  · intro hall
    refine List.ext_getElem h fun i h1 h2 => ?_
    have := hall i (by simpa using h1)
    simpa [List.getD, h1, h2] using this
  · intro e i _
    rw [e]

theorem run_equalIn_ints (w : World) (d : Nat) {t e : TypeId} {n : Nat} (zs ys : List Int) (ht : P.underlying t = some (.array n e)) (he : P.underlying e = some (.int .i64)) (hz : (P.info? e).map (·.size) = some 1)
    (h1 : zs.length = n) (h2 : ys.length = n) : (Op.equalIn (d + 2) t (.agg (ints zs)) (.agg (ints ys))).run P w = .ok (decide (zs = ys)) w := by
  obtain ⟨inf, hi, hs⟩ := Option.map_eq_some_iff.1 hz
  have hsz : (sizeOf e).run P w = .ok 1 w := by simp [sizeOf, typeInfo, hi, hs]
  have key := ints_agree (h1.trans h2.symm)
  rw [h1] at key
  have hd : decide (zs = ys) = decide (∀ i ∈ List.range' 0 n 1, zs.getD i 0 = ys.getD i 0) := by
    by_cases hq : zs = ys
    · rw [decide_eq_true hq, decide_eq_true (key.2 hq)]
    · rw [decide_eq_false hq, decide_eq_false (fun hh => hq (key.1 hh))]
  have hr : ∀ i ∈ List.range' 0 n 1, i < zs.length ∧ i < ys.length := fun i hm => by
    have := (List.mem_range'_1.1 hm).2
    omega
  rw [hd, Op.equalIn]
  simp only [Sem.run_bind, run_underlying ht, Result.andThen_ok, hsz, Std.Legacy.Range.forIn_eq_forIn_range', Std.Legacy.Range.size, Nat.sub_zero, Nat.add_sub_cancel, Nat.div_one, Nat.mul_one]
  clear hd key
  generalize List.range' 0 n 1 = l at hr ⊢
  induction l with
  | nil => simp
  | cons i l ih =>
    obtain ⟨hi1, hi2⟩ := hr i (List.mem_cons_self ..)
    have hh : (Op.equalIn (d + 1) e (.int .i64 (zs.getD i 0)) (.int .i64 (ys.getD i 0))).run P w = .ok (zs.getD i 0 == ys.getD i 0) w := run_equalIn_int w d e .i64 .i64 _ _ he
    have ha := run_part_int w he (ints zs) i (.int .i64 (zs.getD i 0)) (by rw [ints_at hi1]; simp [List.getD, hi1])
    have hb := run_part_int w he (ints ys) i (.int .i64 (ys.getD i 0)) (by rw [ints_at hi2]; simp [List.getD, hi2])
    have hnext := ih (fun j hj => hr j (List.mem_cons_of_mem _ hj))
    simp only [List.forIn_cons, Sem.run_bind, ha, hb, hh, Result.andThen_ok]
    by_cases hq : zs.getD i 0 = ys.getD i 0
    · rw [beq_iff_eq.2 hq]
      simp only [Bool.not_true, Bool.false_eq_true, if_false, Sem.run_pure, Result.andThen_ok]
      rw [hnext]
      simp only [List.forall_mem_cons, hq, true_and]
    · rw [beq_eq_false_iff_ne.2 hq]
      simp only [Bool.not_false, if_true, Sem.run_pure, Result.andThen_ok, List.forall_mem_cons, hq, false_and, decide_false]

theorem run_neq_ints (w : World) {t e : TypeId} {n : Nat} (zs ys : List Int) (ht : P.underlying t = some (.array n e)) (he : P.underlying e = some (.int .i64)) (hz : (P.info? e).map (·.size) = some 1)
    (h1 : zs.length = n) (h2 : ys.length = n) : (binOp .neq t (.agg (ints zs)) (.agg (ints ys))).run P w = .ok (.bool (!decide (zs = ys))) w := by
  rw [run_neq_struct, run_equalIn_ints w 9998 zs ys ht he hz h1 h2]
  rfl
theorem run_eql_ints (w : World) {t e : TypeId} {n : Nat} (zs ys : List Int) (ht : P.underlying t = some (.array n e)) (he : P.underlying e = some (.int .i64)) (hz : (P.info? e).map (·.size) = some 1)
    (h1 : zs.length = n) (h2 : ys.length = n) : (binOp .eql t (.agg (ints zs)) (.agg (ints ys))).run P w = .ok (.bool (decide (zs = ys))) w := by
  rw [run_eql_struct, run_equalIn_ints w 9998 zs ys ht he hz h1 h2]
  rfl
end
end Go.Proofs.Ytlbalcckjokeiaa
