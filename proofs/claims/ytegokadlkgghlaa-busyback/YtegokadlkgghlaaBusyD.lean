/- Small machines: what the functions tell. -/
import Derived.Test.YtegokadlkgghlaaBusyR
import Derived.Test.YtegokadlkgghlaaBusyK
set_option linter.unusedSimpArgs false
set_option linter.unusedVariables false
set_option maxRecDepth 100000
namespace Go.Av
open Go.Proofs

def mostAns (s S : Int) : AV :=
  if ¬(1 ≤ s ∧ s ≤ 2) then .tup [I 0, I 0, I 0, I 1] else if ¬(0 ≤ S ∧ S ≤ 60) then .tup [I 0, I 0, I 0, I 7] else .tup [IN (busyF s.toNat S.toNat).1, IN (busyF s.toNat S.toNat).2.1, IN (busyF s.toNat S.toNat).2.2, I 0]

end Go.Av
