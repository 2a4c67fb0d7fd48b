/-
  DERIVED. GIVEN WITH THE SEED: THE CARDS: each row of YtihbmahjdmfjpaaDoorRows.lean that lists a variable, with what it lists TIED to the program's text (the seventh form; the later family's looks); each row that meets fmt, with fmt's text TOLD by the authors' own Lean function (tested against real Go, not proved from fmt's source: count such statements apart). THE CARD IS WHAT COUNTS. Prove the row's statement (the work); the ties are given (YtihbmahjdmfjpaaDoorTie.lean); close each card by the builder's one call (the guide's Derived/Test/ToyasCard.lean, 'card_holds'). Laid BY PROGRAM, IN A SANDBOX (cutbox-door.mjs). By AI agents, Wed Nov 11 2026. No macro, syntax, notation, axiom, sorry.
-/
import Derived.Test.YtihbmahjdmfjpaaDoorRows
import GoSem.ClaimSeven
namespace Go.Proofs.YtihbmahjdmfjpaaDoor
namespace Rows

/-- THE TIED CARD OF 'spinneylaw08.MerkleRoots'. -/
def merkleRootsCard : Claim7 := { stood := { row := merkleRootsRow, standIns := [], harness := (true, "bf3958bee2bb2f418436ea6189173a940f743d4ad88048deb140b19c258d9b19"), looks := false }, kinds := [], alts := [], laidByText := true, laidKinds := [.data, .data], laidTests := true, laidLooks := .later }
def MerkleRootsCardSaid : Prop := Claim7.holds Tryd.pinned (.plain (OpenSpec.ofChange merkleRootsSpec)) merkleRootsCard

/-- THE TIED CARD OF 'spinneylaw08.MerkleBranches'. -/
def merkleBranchesCard : Claim7 := { stood := { row := merkleBranchesRow, standIns := [], harness := (true, "bf3958bee2bb2f418436ea6189173a940f743d4ad88048deb140b19c258d9b19"), looks := false }, kinds := [], alts := [], laidByText := true, laidKinds := [.data, .data], laidTests := true, laidLooks := .later }
def MerkleBranchesCardSaid : Prop := Claim7.holds Tryd.pinned (.plain (OpenSpec.ofChange merkleBranchesSpec)) merkleBranchesCard

/-- THE TIED CARD OF 'spinneylaw08.MerkleCommits'. -/
def merkleCommitsCard : Claim7 := { stood := { row := merkleCommitsRow, standIns := [], harness := (true, "bf3958bee2bb2f418436ea6189173a940f743d4ad88048deb140b19c258d9b19"), looks := false }, kinds := [], alts := [], laidByText := true, laidKinds := [.data, .data], laidTests := true, laidLooks := .later }
def MerkleCommitsCardSaid : Prop := Claim7.holds Tryd.pinned (.plain (OpenSpec.ofChange merkleCommitsSpec)) merkleCommitsCard

/-- THE TIED CARD OF 'spinneylaw08.MerkleProves'. -/
def merkleProvesCard : Claim7 := { stood := { row := merkleProvesRow, standIns := [], harness := (true, "bf3958bee2bb2f418436ea6189173a940f743d4ad88048deb140b19c258d9b19"), looks := false }, kinds := [], alts := [], laidByText := true, laidKinds := [.data, .data], laidTests := true, laidLooks := .later }
def MerkleProvesCardSaid : Prop := Claim7.holds Tryd.pinned (.plain (OpenSpec.ofChange merkleProvesSpec)) merkleProvesCard

/-- THE TIED CARD OF 'spinneylaw08.MerkleApart'. -/
def merkleApartCard : Claim7 := { stood := { row := merkleApartRow, standIns := [], harness := (true, "bf3958bee2bb2f418436ea6189173a940f743d4ad88048deb140b19c258d9b19"), looks := false }, kinds := [], alts := [], laidByText := true, laidKinds := [.data, .data], laidTests := true, laidLooks := .later }
def MerkleApartCardSaid : Prop := Claim7.holds Tryd.pinned (.plain (OpenSpec.ofChange merkleApartSpec)) merkleApartCard

/-- THE TIED CARD OF 'spinneylaw08.MerkleTwice'. -/
def merkleTwiceCard : Claim7 := { stood := { row := merkleTwiceRow, standIns := [], harness := (true, "bf3958bee2bb2f418436ea6189173a940f743d4ad88048deb140b19c258d9b19"), looks := false }, kinds := [], alts := [], laidByText := true, laidKinds := [.data, .data], laidTests := true, laidLooks := .later }
def MerkleTwiceCardSaid : Prop := Claim7.holds Tryd.pinned (.plain (OpenSpec.ofChange merkleTwiceSpec)) merkleTwiceCard

/-- THE TIED CARD OF 'spinneylaw08.MerkleKnown'. -/
def merkleKnownCard : Claim7 := { stood := { row := merkleKnownRow, standIns := [], harness := (true, "bf3958bee2bb2f418436ea6189173a940f743d4ad88048deb140b19c258d9b19"), looks := false }, kinds := [], alts := [], laidByText := true, laidKinds := [.data, .data], laidTests := true, laidLooks := .later }
def MerkleKnownCardSaid : Prop := Claim7.holds Tryd.pinned (.plain (OpenSpec.ofChange merkleKnownSpec)) merkleKnownCard

/-- THE SECOND FORM's CARD OF 'spinneylaw08.MerkleRoots'. -/
def merkleRootsUptoCard : Claim7 := { stood := { row := merkleRootsUptoRow, standIns := [], harness := (true, "bf3958bee2bb2f418436ea6189173a940f743d4ad88048deb140b19c258d9b19"), looks := false }, kinds := [], alts := [], laidByText := true, laidKinds := [.data, .data], laidTests := true, laidLooks := .later }
def MerkleRootsUptoCardSaid : Prop := Claim7.holds Tryd.pinned (.plain (OpenSpec.upto merkleRootsSpec)) merkleRootsUptoCard

/-- THE SECOND FORM's CARD OF 'spinneylaw08.MerkleBranches'. -/
def merkleBranchesUptoCard : Claim7 := { stood := { row := merkleBranchesUptoRow, standIns := [], harness := (true, "bf3958bee2bb2f418436ea6189173a940f743d4ad88048deb140b19c258d9b19"), looks := false }, kinds := [], alts := [], laidByText := true, laidKinds := [.data, .data], laidTests := true, laidLooks := .later }
def MerkleBranchesUptoCardSaid : Prop := Claim7.holds Tryd.pinned (.plain (OpenSpec.upto merkleBranchesSpec)) merkleBranchesUptoCard

/-- THE SECOND FORM's CARD OF 'spinneylaw08.MerkleCommits'. -/
def merkleCommitsUptoCard : Claim7 := { stood := { row := merkleCommitsUptoRow, standIns := [], harness := (true, "bf3958bee2bb2f418436ea6189173a940f743d4ad88048deb140b19c258d9b19"), looks := false }, kinds := [], alts := [], laidByText := true, laidKinds := [.data, .data], laidTests := true, laidLooks := .later }
def MerkleCommitsUptoCardSaid : Prop := Claim7.holds Tryd.pinned (.plain (OpenSpec.upto merkleCommitsSpec)) merkleCommitsUptoCard

/-- THE SECOND FORM's CARD OF 'spinneylaw08.MerkleProves'. -/
def merkleProvesUptoCard : Claim7 := { stood := { row := merkleProvesUptoRow, standIns := [], harness := (true, "bf3958bee2bb2f418436ea6189173a940f743d4ad88048deb140b19c258d9b19"), looks := false }, kinds := [], alts := [], laidByText := true, laidKinds := [.data, .data], laidTests := true, laidLooks := .later }
def MerkleProvesUptoCardSaid : Prop := Claim7.holds Tryd.pinned (.plain (OpenSpec.upto merkleProvesSpec)) merkleProvesUptoCard

/-- THE SECOND FORM's CARD OF 'spinneylaw08.MerkleApart'. -/
def merkleApartUptoCard : Claim7 := { stood := { row := merkleApartUptoRow, standIns := [], harness := (true, "bf3958bee2bb2f418436ea6189173a940f743d4ad88048deb140b19c258d9b19"), looks := false }, kinds := [], alts := [], laidByText := true, laidKinds := [.data, .data], laidTests := true, laidLooks := .later }
def MerkleApartUptoCardSaid : Prop := Claim7.holds Tryd.pinned (.plain (OpenSpec.upto merkleApartSpec)) merkleApartUptoCard

/-- THE SECOND FORM's CARD OF 'spinneylaw08.MerkleTwice'. -/
def merkleTwiceUptoCard : Claim7 := { stood := { row := merkleTwiceUptoRow, standIns := [], harness := (true, "bf3958bee2bb2f418436ea6189173a940f743d4ad88048deb140b19c258d9b19"), looks := false }, kinds := [], alts := [], laidByText := true, laidKinds := [.data, .data], laidTests := true, laidLooks := .later }
def MerkleTwiceUptoCardSaid : Prop := Claim7.holds Tryd.pinned (.plain (OpenSpec.upto merkleTwiceSpec)) merkleTwiceUptoCard

/-- THE SECOND FORM's CARD OF 'spinneylaw08.MerkleKnown'. -/
def merkleKnownUptoCard : Claim7 := { stood := { row := merkleKnownUptoRow, standIns := [], harness := (true, "bf3958bee2bb2f418436ea6189173a940f743d4ad88048deb140b19c258d9b19"), looks := false }, kinds := [], alts := [], laidByText := true, laidKinds := [.data, .data], laidTests := true, laidLooks := .later }
def MerkleKnownUptoCardSaid : Prop := Claim7.holds Tryd.pinned (.plain (OpenSpec.upto merkleKnownSpec)) merkleKnownUptoCard
end Rows
end Go.Proofs.YtihbmahjdmfjpaaDoor
