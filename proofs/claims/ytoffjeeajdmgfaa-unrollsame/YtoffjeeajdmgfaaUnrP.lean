/- Machines on few cells: what the program's functions tell. -/
import Derived.Test.YtoffjeeajdmgfaaUnrG
import Derived.Test.YtoffjeeajdmgfaaOpen
