/-
  NARROWER THAN 'FOR EVERY INPUT', by the rows' own cells (each row's printed sentence says how): MerkleRoots: laid · MerkleBranches: laid · MerkleCommits: laid · MerkleProves: laid · MerkleApart: laid · MerkleTwice: laid · MerkleKnown: laid.
  DERIVED. THE GIVEN ROWS OF THIS SEAT. 7 by the template 'for every input the law returns true; each argument reads behind the call as it read before'; 0 by the template 'total and deterministic' (their statements: YtihbmahjdmfjpaaDoorTotals.lean).
  GIVEN WITH THE SEED: the statements are not yours to turn. If you find one false, say at which input.
  Laid BY PROGRAM, IN A SANDBOX (cutbox-rows.mjs): the forced cells as the released guide's own fill.sh prints them over the translation 9fcb5eb2c4f4b083… (all of the seat's roots in one cut). By AI agents, Wed Nov 11 2026. No macro, syntax, notation, axiom, sorry.
-/
import Derived.Test.YtihbmahjdmfjpaaDoorChecked
import GoSem.Claim
import GoSem.ClaimJoined
import GoSem.ClaimMapViews
import Derived.JoinedTies
import Derived.KernelRfl
namespace Go.Proofs.YtihbmahjdmfjpaaDoor
/- THE CELL 'sum', in the pinned program and in every row, IS THE sha256 OF THE DUMP (.gsa) THAT YtihbmahjdmfjpaaDoorProg.lean LOADS. Nothing in Lean hashes anything: it is a label: what it is worth is what the hold of that sum in a sandbox is worth. -/
noncomputable def Tryd.pinned : Pinned := { name := "ytihbmahjdmfjpaadoor", sum := "9fcb5eb2c4f4b08377633aef1e8e5d1c329fecc806985a1c629316d97094c3bb", checked := Tryd.checked }
namespace Rows
def none {H : Type} : Left H := { results := [], args := [] }

/- WHAT THE LISTED PACKAGE-LEVEL VARIABLES READ AS WHEN THE CALL BEGINS. Each datum BY PROGRAM (the guide's laid-datum.mjs) off the statement by which the dump's own 'gosem.cut.vars' lays the variable. In a bare row this is a premise. The card (YtihbmahjdmfjpaaDoorCards.lean) ties it to the program's text. -/
def laid_spinney_sha_initial {H : Type} : DataW H := .agg [.lit (.int .u32 1779033703), .lit (.int .u32 3144134277), .lit (.int .u32 1013904242), .lit (.int .u32 2773480762), .lit (.int .u32 1359893119), .lit (.int .u32 2600822924), .lit (.int .u32 528734635), .lit (.int .u32 1541459225)]
def laid_spinney_sha_constants {H : Type} : DataW H := .agg [.lit (.int .u32 1116352408), .lit (.int .u32 1899447441), .lit (.int .u32 3049323471), .lit (.int .u32 3921009573), .lit (.int .u32 961987163), .lit (.int .u32 1508970993), .lit (.int .u32 2453635748), .lit (.int .u32 2870763221), .lit (.int .u32 3624381080), .lit (.int .u32 310598401), .lit (.int .u32 607225278), .lit (.int .u32 1426881987), .lit (.int .u32 1925078388), .lit (.int .u32 2162078206), .lit (.int .u32 2614888103), .lit (.int .u32 3248222580), .lit (.int .u32 3835390401), .lit (.int .u32 4022224774), .lit (.int .u32 264347078), .lit (.int .u32 604807628), .lit (.int .u32 770255983), .lit (.int .u32 1249150122), .lit (.int .u32 1555081692), .lit (.int .u32 1996064986), .lit (.int .u32 2554220882), .lit (.int .u32 2821834349), .lit (.int .u32 2952996808), .lit (.int .u32 3210313671), .lit (.int .u32 3336571891), .lit (.int .u32 3584528711), .lit (.int .u32 113926993), .lit (.int .u32 338241895), .lit (.int .u32 666307205), .lit (.int .u32 773529912), .lit (.int .u32 1294757372), .lit (.int .u32 1396182291), .lit (.int .u32 1695183700), .lit (.int .u32 1986661051), .lit (.int .u32 2177026350), .lit (.int .u32 2456956037), .lit (.int .u32 2730485921), .lit (.int .u32 2820302411), .lit (.int .u32 3259730800), .lit (.int .u32 3345764771), .lit (.int .u32 3516065817), .lit (.int .u32 3600352804), .lit (.int .u32 4094571909), .lit (.int .u32 275423344), .lit (.int .u32 430227734), .lit (.int .u32 506948616), .lit (.int .u32 659060556), .lit (.int .u32 883997877), .lit (.int .u32 958139571), .lit (.int .u32 1322822218), .lit (.int .u32 1537002063), .lit (.int .u32 1747873779), .lit (.int .u32 1955562222), .lit (.int .u32 2024104815), .lit (.int .u32 2227730452), .lit (.int .u32 2361852424), .lit (.int .u32 2428436474), .lit (.int .u32 2756734187), .lit (.int .u32 3204031479), .lit (.int .u32 3329325298)]

/-- 'spinneylaw08.MerkleRoots': WHATEVER THE INPUT: true; the input reads as it did. -/
def merkleRootsSpec : ChangeSpec := { name := "merkleRoots", fn := fun _ => fun
  | [d] => { results := [.lit (.bool true)], args := [d] }
  | _ => none }
def merkleRootsRow : OpenClaim := { program := "ytihbmahjdmfjpaadoor", sum := "9fcb5eb2c4f4b08377633aef1e8e5d1c329fecc806985a1c629316d97094c3bb", func := "spinney/spinneylaw08.MerkleRoots", spec := "merkleRoots", unfollowed := true, recurses := true, named := ["spinney/sha.initial", "spinney/sha.constants"], apart := false, laid := [("spinney/sha.initial", laid_spinney_sha_initial), ("spinney/sha.constants", laid_spinney_sha_constants)] }
def MerkleRootsSaid : Prop := merkleRootsRow.holds Tryd.pinned (OpenSpec.ofChange merkleRootsSpec)

/-- ITS FALSE NEIGHBOUR: 'it returns false'. Refute it at one input. -/
def merkleRootsWrong : ChangeSpec := { name := "merkleRoots", fn := fun _ => fun
  | [d] => { results := [.lit (.bool false)], args := [d] }
  | _ => none }
def MerkleRootsWrongFalsely : Prop := merkleRootsRow.holds Tryd.pinned (OpenSpec.ofChange merkleRootsWrong)

/-- 'spinneylaw08.MerkleBranches': WHATEVER THE INPUT: true; the input reads as it did. -/
def merkleBranchesSpec : ChangeSpec := { name := "merkleBranches", fn := fun _ => fun
  | [d1, d2, d3] => { results := [.lit (.bool true)], args := [d1, d2, d3] }
  | _ => none }
def merkleBranchesRow : OpenClaim := { program := "ytihbmahjdmfjpaadoor", sum := "9fcb5eb2c4f4b08377633aef1e8e5d1c329fecc806985a1c629316d97094c3bb", func := "spinney/spinneylaw08.MerkleBranches", spec := "merkleBranches", unfollowed := true, recurses := true, named := ["spinney/sha.initial", "spinney/sha.constants"], apart := false, laid := [("spinney/sha.initial", laid_spinney_sha_initial), ("spinney/sha.constants", laid_spinney_sha_constants)] }
def MerkleBranchesSaid : Prop := merkleBranchesRow.holds Tryd.pinned (OpenSpec.ofChange merkleBranchesSpec)

/-- ITS FALSE NEIGHBOUR: 'it returns false'. Refute it at one input. -/
def merkleBranchesWrong : ChangeSpec := { name := "merkleBranches", fn := fun _ => fun
  | [d1, d2, d3] => { results := [.lit (.bool false)], args := [d1, d2, d3] }
  | _ => none }
def MerkleBranchesWrongFalsely : Prop := merkleBranchesRow.holds Tryd.pinned (OpenSpec.ofChange merkleBranchesWrong)

/-- 'spinneylaw08.MerkleCommits': WHATEVER THE INPUT: true; the input reads as it did. -/
def merkleCommitsSpec : ChangeSpec := { name := "merkleCommits", fn := fun _ => fun
  | [d] => { results := [.lit (.bool true)], args := [d] }
  | _ => none }
def merkleCommitsRow : OpenClaim := { program := "ytihbmahjdmfjpaadoor", sum := "9fcb5eb2c4f4b08377633aef1e8e5d1c329fecc806985a1c629316d97094c3bb", func := "spinney/spinneylaw08.MerkleCommits", spec := "merkleCommits", unfollowed := true, recurses := true, named := ["spinney/sha.initial", "spinney/sha.constants"], apart := false, laid := [("spinney/sha.initial", laid_spinney_sha_initial), ("spinney/sha.constants", laid_spinney_sha_constants)] }
def MerkleCommitsSaid : Prop := merkleCommitsRow.holds Tryd.pinned (OpenSpec.ofChange merkleCommitsSpec)

/-- ITS FALSE NEIGHBOUR: 'it returns false'. Refute it at one input. -/
def merkleCommitsWrong : ChangeSpec := { name := "merkleCommits", fn := fun _ => fun
  | [d] => { results := [.lit (.bool false)], args := [d] }
  | _ => none }
def MerkleCommitsWrongFalsely : Prop := merkleCommitsRow.holds Tryd.pinned (OpenSpec.ofChange merkleCommitsWrong)

/-- 'spinneylaw08.MerkleProves': WHATEVER THE INPUT: true; the input reads as it did. -/
def merkleProvesSpec : ChangeSpec := { name := "merkleProves", fn := fun _ => fun
  | [d1, d2, d3] => { results := [.lit (.bool true)], args := [d1, d2, d3] }
  | _ => none }
def merkleProvesRow : OpenClaim := { program := "ytihbmahjdmfjpaadoor", sum := "9fcb5eb2c4f4b08377633aef1e8e5d1c329fecc806985a1c629316d97094c3bb", func := "spinney/spinneylaw08.MerkleProves", spec := "merkleProves", unfollowed := true, recurses := true, named := ["spinney/sha.initial", "spinney/sha.constants"], apart := false, laid := [("spinney/sha.initial", laid_spinney_sha_initial), ("spinney/sha.constants", laid_spinney_sha_constants)] }
def MerkleProvesSaid : Prop := merkleProvesRow.holds Tryd.pinned (OpenSpec.ofChange merkleProvesSpec)

/-- ITS FALSE NEIGHBOUR: 'it returns false'. Refute it at one input. -/
def merkleProvesWrong : ChangeSpec := { name := "merkleProves", fn := fun _ => fun
  | [d1, d2, d3] => { results := [.lit (.bool false)], args := [d1, d2, d3] }
  | _ => none }
def MerkleProvesWrongFalsely : Prop := merkleProvesRow.holds Tryd.pinned (OpenSpec.ofChange merkleProvesWrong)

/-- 'spinneylaw08.MerkleApart': WHATEVER THE INPUT: true; the input reads as it did. -/
def merkleApartSpec : ChangeSpec := { name := "merkleApart", fn := fun _ => fun
  | [d1, d2] => { results := [.lit (.bool true)], args := [d1, d2] }
  | _ => none }
def merkleApartRow : OpenClaim := { program := "ytihbmahjdmfjpaadoor", sum := "9fcb5eb2c4f4b08377633aef1e8e5d1c329fecc806985a1c629316d97094c3bb", func := "spinney/spinneylaw08.MerkleApart", spec := "merkleApart", unfollowed := true, recurses := true, named := ["spinney/sha.initial", "spinney/sha.constants"], apart := false, laid := [("spinney/sha.initial", laid_spinney_sha_initial), ("spinney/sha.constants", laid_spinney_sha_constants)] }
def MerkleApartSaid : Prop := merkleApartRow.holds Tryd.pinned (OpenSpec.ofChange merkleApartSpec)

/-- ITS FALSE NEIGHBOUR: 'it returns false'. Refute it at one input. -/
def merkleApartWrong : ChangeSpec := { name := "merkleApart", fn := fun _ => fun
  | [d1, d2] => { results := [.lit (.bool false)], args := [d1, d2] }
  | _ => none }
def MerkleApartWrongFalsely : Prop := merkleApartRow.holds Tryd.pinned (OpenSpec.ofChange merkleApartWrong)

/-- 'spinneylaw08.MerkleTwice': WHATEVER THE INPUT: true; the input reads as it did. -/
def merkleTwiceSpec : ChangeSpec := { name := "merkleTwice", fn := fun _ => fun
  | [d] => { results := [.lit (.bool true)], args := [d] }
  | _ => none }
def merkleTwiceRow : OpenClaim := { program := "ytihbmahjdmfjpaadoor", sum := "9fcb5eb2c4f4b08377633aef1e8e5d1c329fecc806985a1c629316d97094c3bb", func := "spinney/spinneylaw08.MerkleTwice", spec := "merkleTwice", unfollowed := true, recurses := true, named := ["spinney/sha.initial", "spinney/sha.constants"], apart := false, laid := [("spinney/sha.initial", laid_spinney_sha_initial), ("spinney/sha.constants", laid_spinney_sha_constants)] }
def MerkleTwiceSaid : Prop := merkleTwiceRow.holds Tryd.pinned (OpenSpec.ofChange merkleTwiceSpec)

/-- ITS FALSE NEIGHBOUR: 'it returns false'. Refute it at one input. -/
def merkleTwiceWrong : ChangeSpec := { name := "merkleTwice", fn := fun _ => fun
  | [d] => { results := [.lit (.bool false)], args := [d] }
  | _ => none }
def MerkleTwiceWrongFalsely : Prop := merkleTwiceRow.holds Tryd.pinned (OpenSpec.ofChange merkleTwiceWrong)

/-- 'spinneylaw08.MerkleKnown': WHATEVER THE INPUT: true; the input reads as it did. -/
def merkleKnownSpec : ChangeSpec := { name := "merkleKnown", fn := fun _ => fun
  | [] => { results := [.lit (.bool true)], args := [] }
  | _ => none }
def merkleKnownRow : OpenClaim := { program := "ytihbmahjdmfjpaadoor", sum := "9fcb5eb2c4f4b08377633aef1e8e5d1c329fecc806985a1c629316d97094c3bb", func := "spinney/spinneylaw08.MerkleKnown", spec := "merkleKnown", unfollowed := true, recurses := true, named := ["spinney/sha.initial", "spinney/sha.constants"], apart := false, laid := [("spinney/sha.initial", laid_spinney_sha_initial), ("spinney/sha.constants", laid_spinney_sha_constants)] }
def MerkleKnownSaid : Prop := merkleKnownRow.holds Tryd.pinned (OpenSpec.ofChange merkleKnownSpec)

/-- ITS FALSE NEIGHBOUR: 'it returns false'. Refute it at one input. -/
def merkleKnownWrong : ChangeSpec := { name := "merkleKnown", fn := fun _ => fun
  | [] => { results := [.lit (.bool false)], args := [] }
  | _ => none }
def MerkleKnownWrongFalsely : Prop := merkleKnownRow.holds Tryd.pinned (OpenSpec.ofChange merkleKnownWrong)

/- THE SECOND FORM. 'bulk': how many values and letters a reading holds, each counted each time it is reached (what is shared counts as often as it is met; a slice's spare places count too). A statement '..UptoSaid' is the law's where the arguments, and the package variables that the reading takes, are together of bulk at most 1048576: NARROWER than '..Said'. Prove '..Said' where nothing that the law and all that it calls make is longer than what came in: it says more and counts as full. Else prove '..UptoSaid'. A law counts once. -/
mutual
def uptoBulk {H : Type} : DataW H → Nat
  | .lit (.string bytes) => bytes.length + 1
  | .lit _ => 1
  | .nil => 1
  | .ptr d => uptoBulk d + 1
  | .slice elems spare => uptoBulkAll elems + uptoBulkAll spare + 1
  | .agg parts => uptoBulkAll parts + 1
  | .iface _ d => uptoBulk d + 1
  | .map entries => uptoBulkEntries entries + 1
  | .held _ => 1
def uptoBulkAll {H : Type} : List (DataW H) → Nat
  | [] => 0
  | d :: r => uptoBulk d + uptoBulkAll r
def uptoBulkEntries {H : Type} : List (Lit × DataW H) → Nat
  | [] => 0
  | x :: r => uptoBulkEntry x + uptoBulkEntries r
def uptoBulkEntry {H : Type} : Lit × DataW H → Nat
  | (.string bytes, d) => bytes.length + uptoBulk d + 1
  | (_, d) => uptoBulk d + 1
 end
def uptoSmall : (H : Type) → List (DataW H) → Bool := fun _ ds => decide (uptoBulkAll ds ≤ 1048576)
def OpenSpec.upto (s : _root_.Go.ChangeSpec) : _root_.Go.OpenSpec := { _root_.Go.OpenSpec.ofChange s with cond := some uptoSmall }

/-- 'spinneylaw08.MerkleRoots', WHERE WHAT IT READS IS OF BULK AT MOST 1048576: true; the input reads as it did. -/
def merkleRootsUptoRow : OpenClaim := { program := "ytihbmahjdmfjpaadoor", sum := "9fcb5eb2c4f4b08377633aef1e8e5d1c329fecc806985a1c629316d97094c3bb", func := "spinney/spinneylaw08.MerkleRoots", spec := "merkleRoots", unfollowed := true, recurses := true, named := ["spinney/sha.initial", "spinney/sha.constants"], apart := false, laid := [("spinney/sha.initial", laid_spinney_sha_initial), ("spinney/sha.constants", laid_spinney_sha_constants)], narrowed := true }
def MerkleRootsUptoSaid : Prop := merkleRootsUptoRow.holds Tryd.pinned (OpenSpec.upto merkleRootsSpec)

/-- 'spinneylaw08.MerkleBranches', WHERE WHAT IT READS IS OF BULK AT MOST 1048576: true; the input reads as it did. -/
def merkleBranchesUptoRow : OpenClaim := { program := "ytihbmahjdmfjpaadoor", sum := "9fcb5eb2c4f4b08377633aef1e8e5d1c329fecc806985a1c629316d97094c3bb", func := "spinney/spinneylaw08.MerkleBranches", spec := "merkleBranches", unfollowed := true, recurses := true, named := ["spinney/sha.initial", "spinney/sha.constants"], apart := false, laid := [("spinney/sha.initial", laid_spinney_sha_initial), ("spinney/sha.constants", laid_spinney_sha_constants)], narrowed := true }
def MerkleBranchesUptoSaid : Prop := merkleBranchesUptoRow.holds Tryd.pinned (OpenSpec.upto merkleBranchesSpec)

/-- 'spinneylaw08.MerkleCommits', WHERE WHAT IT READS IS OF BULK AT MOST 1048576: true; the input reads as it did. -/
def merkleCommitsUptoRow : OpenClaim := { program := "ytihbmahjdmfjpaadoor", sum := "9fcb5eb2c4f4b08377633aef1e8e5d1c329fecc806985a1c629316d97094c3bb", func := "spinney/spinneylaw08.MerkleCommits", spec := "merkleCommits", unfollowed := true, recurses := true, named := ["spinney/sha.initial", "spinney/sha.constants"], apart := false, laid := [("spinney/sha.initial", laid_spinney_sha_initial), ("spinney/sha.constants", laid_spinney_sha_constants)], narrowed := true }
def MerkleCommitsUptoSaid : Prop := merkleCommitsUptoRow.holds Tryd.pinned (OpenSpec.upto merkleCommitsSpec)

/-- 'spinneylaw08.MerkleProves', WHERE WHAT IT READS IS OF BULK AT MOST 1048576: true; the input reads as it did. -/
def merkleProvesUptoRow : OpenClaim := { program := "ytihbmahjdmfjpaadoor", sum := "9fcb5eb2c4f4b08377633aef1e8e5d1c329fecc806985a1c629316d97094c3bb", func := "spinney/spinneylaw08.MerkleProves", spec := "merkleProves", unfollowed := true, recurses := true, named := ["spinney/sha.initial", "spinney/sha.constants"], apart := false, laid := [("spinney/sha.initial", laid_spinney_sha_initial), ("spinney/sha.constants", laid_spinney_sha_constants)], narrowed := true }
def MerkleProvesUptoSaid : Prop := merkleProvesUptoRow.holds Tryd.pinned (OpenSpec.upto merkleProvesSpec)

/-- 'spinneylaw08.MerkleApart', WHERE WHAT IT READS IS OF BULK AT MOST 1048576: true; the input reads as it did. -/
def merkleApartUptoRow : OpenClaim := { program := "ytihbmahjdmfjpaadoor", sum := "9fcb5eb2c4f4b08377633aef1e8e5d1c329fecc806985a1c629316d97094c3bb", func := "spinney/spinneylaw08.MerkleApart", spec := "merkleApart", unfollowed := true, recurses := true, named := ["spinney/sha.initial", "spinney/sha.constants"], apart := false, laid := [("spinney/sha.initial", laid_spinney_sha_initial), ("spinney/sha.constants", laid_spinney_sha_constants)], narrowed := true }
def MerkleApartUptoSaid : Prop := merkleApartUptoRow.holds Tryd.pinned (OpenSpec.upto merkleApartSpec)

/-- 'spinneylaw08.MerkleTwice', WHERE WHAT IT READS IS OF BULK AT MOST 1048576: true; the input reads as it did. -/
def merkleTwiceUptoRow : OpenClaim := { program := "ytihbmahjdmfjpaadoor", sum := "9fcb5eb2c4f4b08377633aef1e8e5d1c329fecc806985a1c629316d97094c3bb", func := "spinney/spinneylaw08.MerkleTwice", spec := "merkleTwice", unfollowed := true, recurses := true, named := ["spinney/sha.initial", "spinney/sha.constants"], apart := false, laid := [("spinney/sha.initial", laid_spinney_sha_initial), ("spinney/sha.constants", laid_spinney_sha_constants)], narrowed := true }
def MerkleTwiceUptoSaid : Prop := merkleTwiceUptoRow.holds Tryd.pinned (OpenSpec.upto merkleTwiceSpec)

/-- 'spinneylaw08.MerkleKnown', WHERE WHAT IT READS IS OF BULK AT MOST 1048576: true; the input reads as it did. -/
def merkleKnownUptoRow : OpenClaim := { program := "ytihbmahjdmfjpaadoor", sum := "9fcb5eb2c4f4b08377633aef1e8e5d1c329fecc806985a1c629316d97094c3bb", func := "spinney/spinneylaw08.MerkleKnown", spec := "merkleKnown", unfollowed := true, recurses := true, named := ["spinney/sha.initial", "spinney/sha.constants"], apart := false, laid := [("spinney/sha.initial", laid_spinney_sha_initial), ("spinney/sha.constants", laid_spinney_sha_constants)], narrowed := true }
def MerkleKnownUptoSaid : Prop := merkleKnownUptoRow.holds Tryd.pinned (OpenSpec.upto merkleKnownSpec)

end Rows
end Go.Proofs.YtihbmahjdmfjpaaDoor
