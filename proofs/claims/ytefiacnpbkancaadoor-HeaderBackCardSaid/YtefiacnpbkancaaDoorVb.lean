/- The document's own Take where there are so many bytes. -/
import Derived.Test.YtefiacnpbkancaaDoorVa
import Derived.StillTailTactics
import Derived.Outline
namespace Go.Proofs.YtefiacnpbkancaaDoor
open Go.RowKit
set_option maxRecDepth 100000
set_option linter.unusedVariables false
set_option linter.unusedSimpArgs false
def SQ (q : Nat) (A : Option Addr) (m cap a : Nat) (w : World) : Prop := w.cell? ⟨q, 0, none⟩ = some (.slice A m cap) ∧ w.cell? ⟨q, 1, none⟩ = some (.int .i64 a)
theorem src_len {w : World} {B m : Nat} {A : Option Addr} {R : List (BitVec 8)} (h : Rd w B A R) (hm : R.length = m) : Src22 w A m (vbs R) := by subst hm; exact src_of_rd h
theorem OB.far {w : World} {B : Nat} {v : Value} {L : List (BitVec 8)} (h : OB w B v L) {a : Addr} (ha : a.block < B) (u : Value) : OB (w.setCell a u) B v L := ownsRow_setCell_below h ha u
end Go.Proofs.YtefiacnpbkancaaDoor
