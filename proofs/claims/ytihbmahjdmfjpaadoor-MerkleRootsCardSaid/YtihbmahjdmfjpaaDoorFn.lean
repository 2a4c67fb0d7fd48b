/- The double digest that the program uses has the contract, and tells two texts apart. -/
import Derived.Test.YtihbmahjdmfjpaaDoorFm
import Derived.Test.YtihbmahjdmfjpaaDoorXi
import Derived.Outline
namespace Go.Proofs.YtihbmahjdmfjpaaDoor
open Go.RowKit
set_option linter.unusedVariables false
set_option linter.unusedSimpArgs false
set_option maxRecDepth 100000
theorem twC : TwC twiceB := ⟨fun R => sumB_len _, fun A cap R w hG hR hc hl => twice_any A cap R w hG hR hc hl⟩
theorem tw_ne : twiceB (HA ++ HA) ≠ twiceB (HA ++ HB) := by decide +kernel
end Go.Proofs.YtihbmahjdmfjpaaDoor
