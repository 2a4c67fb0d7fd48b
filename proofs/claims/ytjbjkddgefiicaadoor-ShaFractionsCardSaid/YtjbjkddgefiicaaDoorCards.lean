/-
  DERIVED. GIVEN WITH THE SEED: THE CARDS: each row of YtjbjkddgefiicaaDoorRows.lean that lists a variable, with what it lists TIED to the program's text (the seventh form; the later family's looks); each row that meets fmt, with fmt's text TOLD by the authors' own Lean function (tested against real Go, not proved from fmt's source: count such statements apart). THE CARD IS WHAT COUNTS. Prove the row's statement (the work); the ties are given (YtjbjkddgefiicaaDoorTie.lean); close each card by the builder's one call (the guide's Derived/Test/ToyasCard.lean, 'card_holds'). Laid BY PROGRAM, IN A SANDBOX (cutbox-door.mjs). By AI agents, Wed Nov 11 2026. No macro, syntax, notation, axiom, sorry.
-/
import Derived.Test.YtjbjkddgefiicaaDoorRows
import GoSem.ClaimSeven
namespace Go.Proofs.YtjbjkddgefiicaaDoor
namespace Rows

/-- THE TIED CARD OF 'spinneylaw01.ShaNamesBytes'. -/
def shaNamesBytesCard : Claim7 := { stood := { row := shaNamesBytesRow, standIns := [], harness := (true, "dab1dd911e5cda1db83f8f58287b57ca1cc07afd2902322517216c07d3957bb9"), looks := false }, kinds := [], alts := [], laidByText := true, laidKinds := [.data, .data], laidTests := true, laidLooks := .later }
def ShaNamesBytesCardSaid : Prop := Claim7.holds Tryd.pinned (.plain (OpenSpec.ofChange shaNamesBytesSpec)) shaNamesBytesCard

/-- THE TIED CARD OF 'spinneylaw01.ShaHeaders'. -/
def shaHeadersCard : Claim7 := { stood := { row := shaHeadersRow, standIns := [], harness := (true, "dab1dd911e5cda1db83f8f58287b57ca1cc07afd2902322517216c07d3957bb9"), looks := false }, kinds := [], alts := [], laidByText := true, laidKinds := [.data, .data], laidTests := true, laidLooks := .later }
def ShaHeadersCardSaid : Prop := Claim7.holds Tryd.pinned (.plain (OpenSpec.ofChange shaHeadersSpec)) shaHeadersCard

/-- THE TIED CARD OF 'spinneylaw01.ShaSays'. -/
def shaSaysCard : Claim7 := { stood := { row := shaSaysRow, standIns := [], harness := (true, "dab1dd911e5cda1db83f8f58287b57ca1cc07afd2902322517216c07d3957bb9"), looks := false }, kinds := [], alts := [], laidByText := true, laidKinds := [.data, .data], laidTests := true, laidLooks := .later }
def ShaSaysCardSaid : Prop := Claim7.holds Tryd.pinned (.plain (OpenSpec.ofChange shaSaysSpec)) shaSaysCard

/-- THE TIED CARD OF 'spinneylaw01.ShaFractions'. -/
def shaFractionsCard : Claim7 := { stood := { row := shaFractionsRow, standIns := [], harness := (true, "dab1dd911e5cda1db83f8f58287b57ca1cc07afd2902322517216c07d3957bb9"), looks := false }, kinds := [], alts := [], laidByText := true, laidKinds := [.data, .data], laidTests := true, laidLooks := .later }
def ShaFractionsCardSaid : Prop := Claim7.holds Tryd.pinned (.plain (OpenSpec.ofChange shaFractionsSpec)) shaFractionsCard

/-- THE TIED CARD OF 'spinneylaw01.ShaKnown'. -/
def shaKnownCard : Claim7 := { stood := { row := shaKnownRow, standIns := [], harness := (true, "dab1dd911e5cda1db83f8f58287b57ca1cc07afd2902322517216c07d3957bb9"), looks := false }, kinds := [], alts := [], laidByText := true, laidKinds := [.data, .data], laidTests := true, laidLooks := .later }
def ShaKnownCardSaid : Prop := Claim7.holds Tryd.pinned (.plain (OpenSpec.ofChange shaKnownSpec)) shaKnownCard

/-- THE TIED CARD OF 'spinneylaw01.ShaTries'. -/
def shaTriesCard : Claim7 := { stood := { row := shaTriesRow, standIns := [], harness := (true, "dab1dd911e5cda1db83f8f58287b57ca1cc07afd2902322517216c07d3957bb9"), looks := false }, kinds := [], alts := [], laidByText := true, laidKinds := [.data, .data], laidTests := true, laidLooks := .later }
def ShaTriesCardSaid : Prop := Claim7.holds Tryd.pinned (.plain (OpenSpec.ofChange shaTriesSpec)) shaTriesCard

/-- THE TIED CARD OF 'spinneylaw01.ShaTwiceOver'. -/
def shaTwiceOverCard : Claim7 := { stood := { row := shaTwiceOverRow, standIns := [], harness := (true, "dab1dd911e5cda1db83f8f58287b57ca1cc07afd2902322517216c07d3957bb9"), looks := false }, kinds := [], alts := [], laidByText := true, laidKinds := [.data, .data], laidTests := true, laidLooks := .later }
def ShaTwiceOverCardSaid : Prop := Claim7.holds Tryd.pinned (.plain (OpenSpec.ofChange shaTwiceOverSpec)) shaTwiceOverCard

/-- THE TIED CARD OF 'spinneylaw01.ShaNamesOnce'. -/
def shaNamesOnceCard : Claim7 := { stood := { row := shaNamesOnceRow, standIns := [], harness := (true, "dab1dd911e5cda1db83f8f58287b57ca1cc07afd2902322517216c07d3957bb9"), looks := false }, kinds := [], alts := [], laidByText := true, laidKinds := [.data, .data], laidTests := true, laidLooks := .later }
def ShaNamesOnceCardSaid : Prop := Claim7.holds Tryd.pinned (.plain (OpenSpec.ofChange shaNamesOnceSpec)) shaNamesOnceCard

/-- THE SECOND FORM's CARD OF 'spinneylaw01.ShaNamesBytes'. -/
def shaNamesBytesUptoCard : Claim7 := { stood := { row := shaNamesBytesUptoRow, standIns := [], harness := (true, "dab1dd911e5cda1db83f8f58287b57ca1cc07afd2902322517216c07d3957bb9"), looks := false }, kinds := [], alts := [], laidByText := true, laidKinds := [.data, .data], laidTests := true, laidLooks := .later }
def ShaNamesBytesUptoCardSaid : Prop := Claim7.holds Tryd.pinned (.plain (OpenSpec.upto shaNamesBytesSpec)) shaNamesBytesUptoCard

/-- THE SECOND FORM's CARD OF 'spinneylaw01.ShaHeaders'. -/
def shaHeadersUptoCard : Claim7 := { stood := { row := shaHeadersUptoRow, standIns := [], harness := (true, "dab1dd911e5cda1db83f8f58287b57ca1cc07afd2902322517216c07d3957bb9"), looks := false }, kinds := [], alts := [], laidByText := true, laidKinds := [.data, .data], laidTests := true, laidLooks := .later }
def ShaHeadersUptoCardSaid : Prop := Claim7.holds Tryd.pinned (.plain (OpenSpec.upto shaHeadersSpec)) shaHeadersUptoCard

/-- THE SECOND FORM's CARD OF 'spinneylaw01.ShaSays'. -/
def shaSaysUptoCard : Claim7 := { stood := { row := shaSaysUptoRow, standIns := [], harness := (true, "dab1dd911e5cda1db83f8f58287b57ca1cc07afd2902322517216c07d3957bb9"), looks := false }, kinds := [], alts := [], laidByText := true, laidKinds := [.data, .data], laidTests := true, laidLooks := .later }
def ShaSaysUptoCardSaid : Prop := Claim7.holds Tryd.pinned (.plain (OpenSpec.upto shaSaysSpec)) shaSaysUptoCard

/-- THE SECOND FORM's CARD OF 'spinneylaw01.ShaFractions'. -/
def shaFractionsUptoCard : Claim7 := { stood := { row := shaFractionsUptoRow, standIns := [], harness := (true, "dab1dd911e5cda1db83f8f58287b57ca1cc07afd2902322517216c07d3957bb9"), looks := false }, kinds := [], alts := [], laidByText := true, laidKinds := [.data, .data], laidTests := true, laidLooks := .later }
def ShaFractionsUptoCardSaid : Prop := Claim7.holds Tryd.pinned (.plain (OpenSpec.upto shaFractionsSpec)) shaFractionsUptoCard

/-- THE SECOND FORM's CARD OF 'spinneylaw01.ShaKnown'. -/
def shaKnownUptoCard : Claim7 := { stood := { row := shaKnownUptoRow, standIns := [], harness := (true, "dab1dd911e5cda1db83f8f58287b57ca1cc07afd2902322517216c07d3957bb9"), looks := false }, kinds := [], alts := [], laidByText := true, laidKinds := [.data, .data], laidTests := true, laidLooks := .later }
def ShaKnownUptoCardSaid : Prop := Claim7.holds Tryd.pinned (.plain (OpenSpec.upto shaKnownSpec)) shaKnownUptoCard

/-- THE SECOND FORM's CARD OF 'spinneylaw01.ShaTries'. -/
def shaTriesUptoCard : Claim7 := { stood := { row := shaTriesUptoRow, standIns := [], harness := (true, "dab1dd911e5cda1db83f8f58287b57ca1cc07afd2902322517216c07d3957bb9"), looks := false }, kinds := [], alts := [], laidByText := true, laidKinds := [.data, .data], laidTests := true, laidLooks := .later }
def ShaTriesUptoCardSaid : Prop := Claim7.holds Tryd.pinned (.plain (OpenSpec.upto shaTriesSpec)) shaTriesUptoCard

/-- THE SECOND FORM's CARD OF 'spinneylaw01.ShaTwiceOver'. -/
def shaTwiceOverUptoCard : Claim7 := { stood := { row := shaTwiceOverUptoRow, standIns := [], harness := (true, "dab1dd911e5cda1db83f8f58287b57ca1cc07afd2902322517216c07d3957bb9"), looks := false }, kinds := [], alts := [], laidByText := true, laidKinds := [.data, .data], laidTests := true, laidLooks := .later }
def ShaTwiceOverUptoCardSaid : Prop := Claim7.holds Tryd.pinned (.plain (OpenSpec.upto shaTwiceOverSpec)) shaTwiceOverUptoCard

/-- THE SECOND FORM's CARD OF 'spinneylaw01.ShaNamesOnce'. -/
def shaNamesOnceUptoCard : Claim7 := { stood := { row := shaNamesOnceUptoRow, standIns := [], harness := (true, "dab1dd911e5cda1db83f8f58287b57ca1cc07afd2902322517216c07d3957bb9"), looks := false }, kinds := [], alts := [], laidByText := true, laidKinds := [.data, .data], laidTests := true, laidLooks := .later }
def ShaNamesOnceUptoCardSaid : Prop := Claim7.holds Tryd.pinned (.plain (OpenSpec.upto shaNamesOnceSpec)) shaNamesOnceUptoCard
end Rows
end Go.Proofs.YtjbjkddgefiicaaDoor
