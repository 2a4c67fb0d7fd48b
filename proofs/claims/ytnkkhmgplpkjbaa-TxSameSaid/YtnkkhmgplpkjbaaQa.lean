/- What the rows' proofs ask of the loaded program: closed facts. -/
import Derived.Test.YtnkkhmgplpkjbaaRows
import Derived.ProofKit
import Derived.ChangeOld
namespace Go.Proofs.Ytnkkhmgplpkjbaa
open Go.RowKit
theorem own : ownKnob Try.prog.godebug = none := by kernel_rfl
theorem laidOut : laidOutB Try.prog = true := by kernel_rfl
end Go.Proofs.Ytnkkhmgplpkjbaa
