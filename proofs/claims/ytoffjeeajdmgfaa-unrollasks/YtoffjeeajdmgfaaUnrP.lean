/- Machines on few cells: what the program's functions tell. -/
import Derived.Test.YtoffjeeajdmgfaaUnrB
import Derived.Test.YtoffjeeajdmgfaaOpen
