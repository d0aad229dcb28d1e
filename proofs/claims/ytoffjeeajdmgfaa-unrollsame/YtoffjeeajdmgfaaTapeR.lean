/- The document's run of a machine. -/
import Derived.Test.YtoffjeeajdmgfaaTapeM
import Derived.Test.YtoffjeeajdmgfaaTape2
import Derived.Test.YtoffjeeajdmgfaaInts
set_option linter.unusedSimpArgs false
set_option linter.unusedVariables false
set_option maxRecDepth 100000
namespace Go.Av
open Go.Proofs

def encS (p : Int × Int) : AV := .agg [I p.1, I p.2]
def sgn (l : List (Int × Int)) (x : Int) : Int := l.foldl (fun s p => if p.1 = x then p.2 else s) 0

theorem sgn_append (l : List (Int × Int)) (p : Int × Int) (x : Int) : sgn (l ++ [p]) x = if p.1 = x then p.2 else sgn l x := by simp [sgn]
theorem sgn_take {l : List (Int × Int)} {k : Nat} (h : k < l.length) (x : Int) : sgn (l.take (k + 1)) x = if l[k].1 = x then l[k].2 else sgn (l.take k) x := by
  rw [List.take_add_one, List.getElem?_eq_getElem h]; exact sgn_append _ _ _

end Go.Av
