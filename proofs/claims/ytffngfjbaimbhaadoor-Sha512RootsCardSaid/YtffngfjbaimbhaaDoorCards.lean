/-
  DERIVED. GIVEN WITH THE SEED: THE CARDS: each row of YtffngfjbaimbhaaDoorRows.lean that lists a variable, with what it lists TIED to the program's text (the seventh form; the later family's looks); each row that meets fmt, with fmt's text TOLD by the authors' own Lean function (tested against real Go, not proved from fmt's source: count such statements apart). THE CARD IS WHAT COUNTS. Prove the row's statement (the work); the ties are given (YtffngfjbaimbhaaDoorTie.lean); close each card by the builder's one call (the guide's Derived/Test/ToyasCard.lean, 'card_holds'). Laid BY PROGRAM, IN A SANDBOX (cutbox-door.mjs). By AI agents, Wed Nov 11 2026. No macro, syntax, notation, axiom, sorry.
-/
import Derived.Test.YtffngfjbaimbhaaDoorRows
import GoSem.ClaimSeven
namespace Go.Proofs.YtffngfjbaimbhaaDoor
namespace Rows

/-- THE TIED CARD OF 'spinneylaw02.Sha512Sums'. -/
def sha512SumsCard : Claim7 := { stood := { row := sha512SumsRow, standIns := [], harness := (true, "b0099ac7a7e37ad102bb62fb4c613ce3fa243fa782262a31e67a3d0dca0af76a"), looks := false }, kinds := [], alts := [], laidByText := true, laidKinds := [.data, .data], laidTests := true, laidLooks := .later }
def Sha512SumsCardSaid : Prop := Claim7.holds Tryd.pinned (.plain (OpenSpec.ofChange sha512SumsSpec)) sha512SumsCard

/-- THE TIED CARD OF 'spinneylaw02.Sha512Known'. -/
def sha512KnownCard : Claim7 := { stood := { row := sha512KnownRow, standIns := [], harness := (true, "b0099ac7a7e37ad102bb62fb4c613ce3fa243fa782262a31e67a3d0dca0af76a"), looks := false }, kinds := [], alts := [], laidByText := true, laidKinds := [.data, .data], laidTests := true, laidLooks := .later }
def Sha512KnownCardSaid : Prop := Claim7.holds Tryd.pinned (.plain (OpenSpec.ofChange sha512KnownSpec)) sha512KnownCard

/-- THE TIED CARD OF 'spinneylaw02.Sha512Roots'. -/
def sha512RootsCard : Claim7 := { stood := { row := sha512RootsRow, standIns := [], harness := (true, "b0099ac7a7e37ad102bb62fb4c613ce3fa243fa782262a31e67a3d0dca0af76a"), looks := false }, kinds := [], alts := [], laidByText := true, laidKinds := [.data, .data], laidTests := true, laidLooks := .later }
def Sha512RootsCardSaid : Prop := Claim7.holds Tryd.pinned (.plain (OpenSpec.ofChange sha512RootsSpec)) sha512RootsCard

/-- THE SECOND FORM's CARD OF 'spinneylaw02.Sha512Sums'. -/
def sha512SumsUptoCard : Claim7 := { stood := { row := sha512SumsUptoRow, standIns := [], harness := (true, "b0099ac7a7e37ad102bb62fb4c613ce3fa243fa782262a31e67a3d0dca0af76a"), looks := false }, kinds := [], alts := [], laidByText := true, laidKinds := [.data, .data], laidTests := true, laidLooks := .later }
def Sha512SumsUptoCardSaid : Prop := Claim7.holds Tryd.pinned (.plain (OpenSpec.upto sha512SumsSpec)) sha512SumsUptoCard

/-- THE SECOND FORM's CARD OF 'spinneylaw02.Sha512Known'. -/
def sha512KnownUptoCard : Claim7 := { stood := { row := sha512KnownUptoRow, standIns := [], harness := (true, "b0099ac7a7e37ad102bb62fb4c613ce3fa243fa782262a31e67a3d0dca0af76a"), looks := false }, kinds := [], alts := [], laidByText := true, laidKinds := [.data, .data], laidTests := true, laidLooks := .later }
def Sha512KnownUptoCardSaid : Prop := Claim7.holds Tryd.pinned (.plain (OpenSpec.upto sha512KnownSpec)) sha512KnownUptoCard

/-- THE SECOND FORM's CARD OF 'spinneylaw02.Sha512Roots'. -/
def sha512RootsUptoCard : Claim7 := { stood := { row := sha512RootsUptoRow, standIns := [], harness := (true, "b0099ac7a7e37ad102bb62fb4c613ce3fa243fa782262a31e67a3d0dca0af76a"), looks := false }, kinds := [], alts := [], laidByText := true, laidKinds := [.data, .data], laidTests := true, laidLooks := .later }
def Sha512RootsUptoCardSaid : Prop := Claim7.holds Tryd.pinned (.plain (OpenSpec.upto sha512RootsSpec)) sha512RootsUptoCard
end Rows
end Go.Proofs.YtffngfjbaimbhaaDoor
