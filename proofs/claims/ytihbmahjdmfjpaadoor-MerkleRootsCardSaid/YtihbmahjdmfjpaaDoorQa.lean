/- What the rows' proofs ask of the loaded program: closed facts. -/
import Derived.Test.YtihbmahjdmfjpaaDoorRows
import Derived.ProofKit
import Derived.ChangeOld
namespace Go.Proofs.YtihbmahjdmfjpaaDoor
open Go.RowKit
theorem own : ownKnob Tryd.prog.godebug = none := by kernel_rfl
theorem laidOut : laidOutB Tryd.prog = true := by kernel_rfl
end Go.Proofs.YtihbmahjdmfjpaaDoor
