/-
  DERIVED. GIVEN WITH THE SEED: THE CARDS: each row of YtnkkhmgplpkjbaaDoorRows.lean that lists a variable, with what it lists TIED to the program's text (the seventh form; the later family's looks); each row that meets fmt, with fmt's text TOLD by the authors' own Lean function (tested against real Go, not proved from fmt's source: count such statements apart). THE CARD IS WHAT COUNTS. Prove the row's statement (the work); the ties are given (YtnkkhmgplpkjbaaDoorTie.lean); close each card by the builder's one call (the guide's Derived/Test/ToyasCard.lean, 'card_holds'). Laid BY PROGRAM, IN A SANDBOX (cutbox-door.mjs). By AI agents, Wed Nov 11 2026. No macro, syntax, notation, axiom, sorry.
-/
import Derived.Test.YtnkkhmgplpkjbaaDoorRows
import GoSem.ClaimSeven
namespace Go.Proofs.YtnkkhmgplpkjbaaDoor
namespace Rows

/-- THE TIED CARD OF 'spinneylaw05.TxPuts'. -/
def txPutsCard : Claim7 := { stood := { row := txPutsRow, standIns := [], harness := (true, "c78b7ee41d6447728646f282b20a7a7c68ba27b8177adeccde4f11e30a555416"), looks := false }, kinds := [], alts := [], laidByText := true, laidKinds := [.data, .data], laidTests := true, laidLooks := .later }
def TxPutsCardSaid : Prop := Claim7.holds Tryd.pinned (.plain (OpenSpec.ofChange txPutsSpec)) txPutsCard

/-- THE TIED CARD OF 'spinneylaw05.TxKnown'. -/
def txKnownCard : Claim7 := { stood := { row := txKnownRow, standIns := [], harness := (true, "c78b7ee41d6447728646f282b20a7a7c68ba27b8177adeccde4f11e30a555416"), looks := false }, kinds := [], alts := [], laidByText := true, laidKinds := [.data, .data], laidTests := true, laidLooks := .later }
def TxKnownCardSaid : Prop := Claim7.holds Tryd.pinned (.plain (OpenSpec.ofChange txKnownSpec)) txKnownCard

/-- THE TIED CARD OF 'spinneylaw05.TxBack'. -/
def txBackCard : Claim7 := { stood := { row := txBackRow, standIns := [], harness := (true, "c78b7ee41d6447728646f282b20a7a7c68ba27b8177adeccde4f11e30a555416"), looks := false }, kinds := [], alts := [], laidByText := true, laidKinds := [.data, .data], laidTests := true, laidLooks := .later }
def TxBackCardSaid : Prop := Claim7.holds Tryd.pinned (.plain (OpenSpec.ofChange txBackSpec)) txBackCard

/-- THE SECOND FORM's CARD OF 'spinneylaw05.TxPuts'. -/
def txPutsUptoCard : Claim7 := { stood := { row := txPutsUptoRow, standIns := [], harness := (true, "c78b7ee41d6447728646f282b20a7a7c68ba27b8177adeccde4f11e30a555416"), looks := false }, kinds := [], alts := [], laidByText := true, laidKinds := [.data, .data], laidTests := true, laidLooks := .later }
def TxPutsUptoCardSaid : Prop := Claim7.holds Tryd.pinned (.plain (OpenSpec.upto txPutsSpec)) txPutsUptoCard

/-- THE SECOND FORM's CARD OF 'spinneylaw05.TxKnown'. -/
def txKnownUptoCard : Claim7 := { stood := { row := txKnownUptoRow, standIns := [], harness := (true, "c78b7ee41d6447728646f282b20a7a7c68ba27b8177adeccde4f11e30a555416"), looks := false }, kinds := [], alts := [], laidByText := true, laidKinds := [.data, .data], laidTests := true, laidLooks := .later }
def TxKnownUptoCardSaid : Prop := Claim7.holds Tryd.pinned (.plain (OpenSpec.upto txKnownSpec)) txKnownUptoCard

/-- THE SECOND FORM's CARD OF 'spinneylaw05.TxBack'. -/
def txBackUptoCard : Claim7 := { stood := { row := txBackUptoRow, standIns := [], harness := (true, "c78b7ee41d6447728646f282b20a7a7c68ba27b8177adeccde4f11e30a555416"), looks := false }, kinds := [], alts := [], laidByText := true, laidKinds := [.data, .data], laidTests := true, laidLooks := .later }
def TxBackUptoCardSaid : Prop := Claim7.holds Tryd.pinned (.plain (OpenSpec.upto txBackSpec)) txBackUptoCard
end Rows
end Go.Proofs.YtnkkhmgplpkjbaaDoor
