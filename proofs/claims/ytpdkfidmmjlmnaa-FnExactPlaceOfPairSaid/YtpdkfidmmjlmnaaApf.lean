/-
  ApplyFamily of both sides by contracts.
-/
import Derived.Test.YtpdkfidmmjlmnaaApw
import Derived.Test.YtpdkfidmmjlmnaaFaS
import Derived.StillTailTactics
namespace Go.Proofs.Ytpdkfidmmjlmnaa
open Go.RowKit

theorem fam_ap {p s : Int} {ds ds2 : List Int} {fs : List (List (List Int))} {vs : List Int} {n c2 : Nat} (hp : IsP p) (hF : FamOk p ds ds2 s fs) (hn : n < ds.length) (hv : RowOk p (ds.getD n 0) vs) (hc2 : dimZ ds2 ((n : Int) + s) = (c2 : Int)) : ApOk p c2 vs (fs.getD n []) ∧ n < fs.length := by
  have hnf : n < fs.length := by rw [hF.1]; exact hn
  have ht := hF.2 n hnf
  rw [hc2] at ht
  refine ⟨⟨hp, ?_, hv.2, ht.2⟩, hnf⟩
  have h1 := ht.1
  have h2 := hv.1
  omega

end Go.Proofs.Ytpdkfidmmjlmnaa
