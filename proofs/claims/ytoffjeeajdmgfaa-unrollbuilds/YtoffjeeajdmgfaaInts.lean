/- Lists of numbers compared. -/
import Derived.Test.YtoffjeeajdmgfaaLib
set_option linter.unusedSimpArgs false
set_option linter.unusedVariables false
set_option maxRecDepth 100000
namespace Go.Av
open Go.Proofs

end Go.Av
