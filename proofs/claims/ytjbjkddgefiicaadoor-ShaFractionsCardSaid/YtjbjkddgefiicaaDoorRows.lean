/-
  NARROWER THAN 'FOR EVERY INPUT', by the rows' own cells (each row's printed sentence says how): ShaNamesBytes: laid · ShaHeaders: laid · ShaSays: laid · ShaFractions: laid · ShaKnown: laid · ShaTries: laid · ShaTwiceOver: laid · ShaNamesOnce: laid.
  DERIVED. THE GIVEN ROWS OF THIS SEAT. 8 by the template 'for every input the law returns true; each argument reads behind the call as it read before'; 0 by the template 'total and deterministic' (their statements: YtjbjkddgefiicaaDoorTotals.lean).
  GIVEN WITH THE SEED: the statements are not yours to turn. If you find one false, say at which input.
  Laid BY PROGRAM, IN A SANDBOX (cutbox-rows.mjs): the forced cells as the released guide's own fill.sh prints them over the translation 497978397c9be286… (all of the seat's roots in one cut). By AI agents, Wed Nov 11 2026. No macro, syntax, notation, axiom, sorry.
-/
import Derived.Test.YtjbjkddgefiicaaDoorChecked
import GoSem.Claim
import GoSem.ClaimJoined
import GoSem.ClaimMapViews
import Derived.JoinedTies
import Derived.KernelRfl
namespace Go.Proofs.YtjbjkddgefiicaaDoor
/- THE CELL 'sum', in the pinned program and in every row, IS THE sha256 OF THE DUMP (.gsa) THAT YtjbjkddgefiicaaDoorProg.lean LOADS. Nothing in Lean hashes anything: it is a label: what it is worth is what the hold of that sum in a sandbox is worth. -/
noncomputable def Tryd.pinned : Pinned := { name := "ytjbjkddgefiicaadoor", sum := "497978397c9be286d32237ec01342fcdf76b2489f59c3b470baea2ee5fb9f827", checked := Tryd.checked }
namespace Rows
def none {H : Type} : Left H := { results := [], args := [] }

/- WHAT THE LISTED PACKAGE-LEVEL VARIABLES READ AS WHEN THE CALL BEGINS. Each datum BY PROGRAM (the guide's laid-datum.mjs) off the statement by which the dump's own 'gosem.cut.vars' lays the variable. In a bare row this is a premise. The card (YtjbjkddgefiicaaDoorCards.lean) ties it to the program's text. -/
def laid_spinney_sha_initial {H : Type} : DataW H := .agg [.lit (.int .u32 1779033703), .lit (.int .u32 3144134277), .lit (.int .u32 1013904242), .lit (.int .u32 2773480762), .lit (.int .u32 1359893119), .lit (.int .u32 2600822924), .lit (.int .u32 528734635), .lit (.int .u32 1541459225)]
def laid_spinney_sha_constants {H : Type} : DataW H := .agg [.lit (.int .u32 1116352408), .lit (.int .u32 1899447441), .lit (.int .u32 3049323471), .lit (.int .u32 3921009573), .lit (.int .u32 961987163), .lit (.int .u32 1508970993), .lit (.int .u32 2453635748), .lit (.int .u32 2870763221), .lit (.int .u32 3624381080), .lit (.int .u32 310598401), .lit (.int .u32 607225278), .lit (.int .u32 1426881987), .lit (.int .u32 1925078388), .lit (.int .u32 2162078206), .lit (.int .u32 2614888103), .lit (.int .u32 3248222580), .lit (.int .u32 3835390401), .lit (.int .u32 4022224774), .lit (.int .u32 264347078), .lit (.int .u32 604807628), .lit (.int .u32 770255983), .lit (.int .u32 1249150122), .lit (.int .u32 1555081692), .lit (.int .u32 1996064986), .lit (.int .u32 2554220882), .lit (.int .u32 2821834349), .lit (.int .u32 2952996808), .lit (.int .u32 3210313671), .lit (.int .u32 3336571891), .lit (.int .u32 3584528711), .lit (.int .u32 113926993), .lit (.int .u32 338241895), .lit (.int .u32 666307205), .lit (.int .u32 773529912), .lit (.int .u32 1294757372), .lit (.int .u32 1396182291), .lit (.int .u32 1695183700), .lit (.int .u32 1986661051), .lit (.int .u32 2177026350), .lit (.int .u32 2456956037), .lit (.int .u32 2730485921), .lit (.int .u32 2820302411), .lit (.int .u32 3259730800), .lit (.int .u32 3345764771), .lit (.int .u32 3516065817), .lit (.int .u32 3600352804), .lit (.int .u32 4094571909), .lit (.int .u32 275423344), .lit (.int .u32 430227734), .lit (.int .u32 506948616), .lit (.int .u32 659060556), .lit (.int .u32 883997877), .lit (.int .u32 958139571), .lit (.int .u32 1322822218), .lit (.int .u32 1537002063), .lit (.int .u32 1747873779), .lit (.int .u32 1955562222), .lit (.int .u32 2024104815), .lit (.int .u32 2227730452), .lit (.int .u32 2361852424), .lit (.int .u32 2428436474), .lit (.int .u32 2756734187), .lit (.int .u32 3204031479), .lit (.int .u32 3329325298)]

/-- 'spinneylaw01.ShaNamesBytes': WHATEVER THE INPUT: true; the input reads as it did. -/
def shaNamesBytesSpec : ChangeSpec := { name := "shaNamesBytes", fn := fun _ => fun
  | [d] => { results := [.lit (.bool true)], args := [d] }
  | _ => none }
def shaNamesBytesRow : OpenClaim := { program := "ytjbjkddgefiicaadoor", sum := "497978397c9be286d32237ec01342fcdf76b2489f59c3b470baea2ee5fb9f827", func := "spinney/spinneylaw01.ShaNamesBytes", spec := "shaNamesBytes", unfollowed := true, recurses := true, named := ["spinney/sha.initial", "spinney/sha.constants"], apart := false, laid := [("spinney/sha.initial", laid_spinney_sha_initial), ("spinney/sha.constants", laid_spinney_sha_constants)] }
def ShaNamesBytesSaid : Prop := shaNamesBytesRow.holds Tryd.pinned (OpenSpec.ofChange shaNamesBytesSpec)

/-- ITS FALSE NEIGHBOUR: 'it returns false'. Refute it at one input. -/
def shaNamesBytesWrong : ChangeSpec := { name := "shaNamesBytes", fn := fun _ => fun
  | [d] => { results := [.lit (.bool false)], args := [d] }
  | _ => none }
def ShaNamesBytesWrongFalsely : Prop := shaNamesBytesRow.holds Tryd.pinned (OpenSpec.ofChange shaNamesBytesWrong)

/-- 'spinneylaw01.ShaHeaders': WHATEVER THE INPUT: true; the input reads as it did. -/
def shaHeadersSpec : ChangeSpec := { name := "shaHeaders", fn := fun _ => fun
  | [d1, d2] => { results := [.lit (.bool true)], args := [d1, d2] }
  | _ => none }
def shaHeadersRow : OpenClaim := { program := "ytjbjkddgefiicaadoor", sum := "497978397c9be286d32237ec01342fcdf76b2489f59c3b470baea2ee5fb9f827", func := "spinney/spinneylaw01.ShaHeaders", spec := "shaHeaders", unfollowed := true, recurses := true, named := ["spinney/sha.initial", "spinney/sha.constants"], apart := false, laid := [("spinney/sha.initial", laid_spinney_sha_initial), ("spinney/sha.constants", laid_spinney_sha_constants)] }
def ShaHeadersSaid : Prop := shaHeadersRow.holds Tryd.pinned (OpenSpec.ofChange shaHeadersSpec)

/-- ITS FALSE NEIGHBOUR: 'it returns false'. Refute it at one input. -/
def shaHeadersWrong : ChangeSpec := { name := "shaHeaders", fn := fun _ => fun
  | [d1, d2] => { results := [.lit (.bool false)], args := [d1, d2] }
  | _ => none }
def ShaHeadersWrongFalsely : Prop := shaHeadersRow.holds Tryd.pinned (OpenSpec.ofChange shaHeadersWrong)

/-- 'spinneylaw01.ShaSays': WHATEVER THE INPUT: true; the input reads as it did. -/
def shaSaysSpec : ChangeSpec := { name := "shaSays", fn := fun _ => fun
  | [d1, d2] => { results := [.lit (.bool true)], args := [d1, d2] }
  | _ => none }
def shaSaysRow : OpenClaim := { program := "ytjbjkddgefiicaadoor", sum := "497978397c9be286d32237ec01342fcdf76b2489f59c3b470baea2ee5fb9f827", func := "spinney/spinneylaw01.ShaSays", spec := "shaSays", inPlace := ["internal/bytealg.IndexByteString"], unfollowed := true, recurses := true, named := ["spinney/sha.initial", "spinney/sha.constants"], apart := false, laid := [("spinney/sha.initial", laid_spinney_sha_initial), ("spinney/sha.constants", laid_spinney_sha_constants)] }
def ShaSaysSaid : Prop := shaSaysRow.holds Tryd.pinned (OpenSpec.ofChange shaSaysSpec)

/-- ITS FALSE NEIGHBOUR: 'it returns false'. Refute it at one input. -/
def shaSaysWrong : ChangeSpec := { name := "shaSays", fn := fun _ => fun
  | [d1, d2] => { results := [.lit (.bool false)], args := [d1, d2] }
  | _ => none }
def ShaSaysWrongFalsely : Prop := shaSaysRow.holds Tryd.pinned (OpenSpec.ofChange shaSaysWrong)

/-- 'spinneylaw01.ShaFractions': WHATEVER THE INPUT: true; the input reads as it did. -/
def shaFractionsSpec : ChangeSpec := { name := "shaFractions", fn := fun _ => fun
  | [] => { results := [.lit (.bool true)], args := [] }
  | _ => none }
def shaFractionsRow : OpenClaim := { program := "ytjbjkddgefiicaadoor", sum := "497978397c9be286d32237ec01342fcdf76b2489f59c3b470baea2ee5fb9f827", func := "spinney/spinneylaw01.ShaFractions", spec := "shaFractions", unfollowed := true, recurses := true, named := ["spinney/sha.initial", "spinney/sha.constants"], apart := false, laid := [("spinney/sha.initial", laid_spinney_sha_initial), ("spinney/sha.constants", laid_spinney_sha_constants)] }
def ShaFractionsSaid : Prop := shaFractionsRow.holds Tryd.pinned (OpenSpec.ofChange shaFractionsSpec)

/-- ITS FALSE NEIGHBOUR: 'it returns false'. Refute it at one input. -/
def shaFractionsWrong : ChangeSpec := { name := "shaFractions", fn := fun _ => fun
  | [] => { results := [.lit (.bool false)], args := [] }
  | _ => none }
def ShaFractionsWrongFalsely : Prop := shaFractionsRow.holds Tryd.pinned (OpenSpec.ofChange shaFractionsWrong)

/-- 'spinneylaw01.ShaKnown': WHATEVER THE INPUT: true; the input reads as it did. -/
def shaKnownSpec : ChangeSpec := { name := "shaKnown", fn := fun _ => fun
  | [] => { results := [.lit (.bool true)], args := [] }
  | _ => none }
def shaKnownRow : OpenClaim := { program := "ytjbjkddgefiicaadoor", sum := "497978397c9be286d32237ec01342fcdf76b2489f59c3b470baea2ee5fb9f827", func := "spinney/spinneylaw01.ShaKnown", spec := "shaKnown", inPlace := ["internal/bytealg.IndexByteString"], unfollowed := true, recurses := true, named := ["spinney/sha.initial", "spinney/sha.constants"], apart := false, laid := [("spinney/sha.initial", laid_spinney_sha_initial), ("spinney/sha.constants", laid_spinney_sha_constants)] }
def ShaKnownSaid : Prop := shaKnownRow.holds Tryd.pinned (OpenSpec.ofChange shaKnownSpec)

/-- ITS FALSE NEIGHBOUR: 'it returns false'. Refute it at one input. -/
def shaKnownWrong : ChangeSpec := { name := "shaKnown", fn := fun _ => fun
  | [] => { results := [.lit (.bool false)], args := [] }
  | _ => none }
def ShaKnownWrongFalsely : Prop := shaKnownRow.holds Tryd.pinned (OpenSpec.ofChange shaKnownWrong)

/-- 'spinneylaw01.ShaTries': WHATEVER THE INPUT: true; the input reads as it did. -/
def shaTriesSpec : ChangeSpec := { name := "shaTries", fn := fun _ => fun
  | [d1, d2] => { results := [.lit (.bool true)], args := [d1, d2] }
  | _ => none }
def shaTriesRow : OpenClaim := { program := "ytjbjkddgefiicaadoor", sum := "497978397c9be286d32237ec01342fcdf76b2489f59c3b470baea2ee5fb9f827", func := "spinney/spinneylaw01.ShaTries", spec := "shaTries", unfollowed := true, recurses := true, named := ["spinney/sha.initial", "spinney/sha.constants"], apart := false, laid := [("spinney/sha.initial", laid_spinney_sha_initial), ("spinney/sha.constants", laid_spinney_sha_constants)] }
def ShaTriesSaid : Prop := shaTriesRow.holds Tryd.pinned (OpenSpec.ofChange shaTriesSpec)

/-- ITS FALSE NEIGHBOUR: 'it returns false'. Refute it at one input. -/
def shaTriesWrong : ChangeSpec := { name := "shaTries", fn := fun _ => fun
  | [d1, d2] => { results := [.lit (.bool false)], args := [d1, d2] }
  | _ => none }
def ShaTriesWrongFalsely : Prop := shaTriesRow.holds Tryd.pinned (OpenSpec.ofChange shaTriesWrong)

/-- 'spinneylaw01.ShaTwiceOver': WHATEVER THE INPUT: true; the input reads as it did. -/
def shaTwiceOverSpec : ChangeSpec := { name := "shaTwiceOver", fn := fun _ => fun
  | [d] => { results := [.lit (.bool true)], args := [d] }
  | _ => none }
def shaTwiceOverRow : OpenClaim := { program := "ytjbjkddgefiicaadoor", sum := "497978397c9be286d32237ec01342fcdf76b2489f59c3b470baea2ee5fb9f827", func := "spinney/spinneylaw01.ShaTwiceOver", spec := "shaTwiceOver", unfollowed := true, recurses := true, named := ["spinney/sha.initial", "spinney/sha.constants"], apart := false, laid := [("spinney/sha.initial", laid_spinney_sha_initial), ("spinney/sha.constants", laid_spinney_sha_constants)] }
def ShaTwiceOverSaid : Prop := shaTwiceOverRow.holds Tryd.pinned (OpenSpec.ofChange shaTwiceOverSpec)

/-- ITS FALSE NEIGHBOUR: 'it returns false'. Refute it at one input. -/
def shaTwiceOverWrong : ChangeSpec := { name := "shaTwiceOver", fn := fun _ => fun
  | [d] => { results := [.lit (.bool false)], args := [d] }
  | _ => none }
def ShaTwiceOverWrongFalsely : Prop := shaTwiceOverRow.holds Tryd.pinned (OpenSpec.ofChange shaTwiceOverWrong)

/-- 'spinneylaw01.ShaNamesOnce': WHATEVER THE INPUT: true; the input reads as it did. -/
def shaNamesOnceSpec : ChangeSpec := { name := "shaNamesOnce", fn := fun _ => fun
  | [d1, d2, d3] => { results := [.lit (.bool true)], args := [d1, d2, d3] }
  | _ => none }
def shaNamesOnceRow : OpenClaim := { program := "ytjbjkddgefiicaadoor", sum := "497978397c9be286d32237ec01342fcdf76b2489f59c3b470baea2ee5fb9f827", func := "spinney/spinneylaw01.ShaNamesOnce", spec := "shaNamesOnce", inPlace := ["internal/bytealg.IndexByteString"], unfollowed := true, recurses := true, named := ["spinney/sha.initial", "spinney/sha.constants"], apart := false, laid := [("spinney/sha.initial", laid_spinney_sha_initial), ("spinney/sha.constants", laid_spinney_sha_constants)] }
def ShaNamesOnceSaid : Prop := shaNamesOnceRow.holds Tryd.pinned (OpenSpec.ofChange shaNamesOnceSpec)

/-- ITS FALSE NEIGHBOUR: 'it returns false'. Refute it at one input. -/
def shaNamesOnceWrong : ChangeSpec := { name := "shaNamesOnce", fn := fun _ => fun
  | [d1, d2, d3] => { results := [.lit (.bool false)], args := [d1, d2, d3] }
  | _ => none }
def ShaNamesOnceWrongFalsely : Prop := shaNamesOnceRow.holds Tryd.pinned (OpenSpec.ofChange shaNamesOnceWrong)

/- THE SECOND FORM. 'bulk': how many values and letters a reading holds, each counted each time it is reached (what is shared counts as often as it is met; a slice's spare places count too). A statement '..UptoSaid' is the law's where the arguments, and the package variables that the reading takes, are together of bulk at most 1048576: NARROWER than '..Said'. Prove '..Said' where nothing that the law and all that it calls make is longer than what came in: it says more and counts as full. Else prove '..UptoSaid'. A law counts once. -/
mutual
def uptoBulk {H : Type} : DataW H → Nat
  | .lit (.string bytes) => bytes.length + 1
  | .lit _ => 1
  | .nil => 1
  | .ptr d => uptoBulk d + 1
  | .slice elems spare => uptoBulkAll elems + uptoBulkAll spare + 1
  | .agg parts => uptoBulkAll parts + 1
  | .iface _ d => uptoBulk d + 1
  | .map entries => uptoBulkEntries entries + 1
  | .held _ => 1
def uptoBulkAll {H : Type} : List (DataW H) → Nat
  | [] => 0
  | d :: r => uptoBulk d + uptoBulkAll r
def uptoBulkEntries {H : Type} : List (Lit × DataW H) → Nat
  | [] => 0
  | x :: r => uptoBulkEntry x + uptoBulkEntries r
def uptoBulkEntry {H : Type} : Lit × DataW H → Nat
  | (.string bytes, d) => bytes.length + uptoBulk d + 1
  | (_, d) => uptoBulk d + 1
 end
def uptoSmall : (H : Type) → List (DataW H) → Bool := fun _ ds => decide (uptoBulkAll ds ≤ 1048576)
def OpenSpec.upto (s : _root_.Go.ChangeSpec) : _root_.Go.OpenSpec := { _root_.Go.OpenSpec.ofChange s with cond := some uptoSmall }

/-- 'spinneylaw01.ShaNamesBytes', WHERE WHAT IT READS IS OF BULK AT MOST 1048576: true; the input reads as it did. -/
def shaNamesBytesUptoRow : OpenClaim := { program := "ytjbjkddgefiicaadoor", sum := "497978397c9be286d32237ec01342fcdf76b2489f59c3b470baea2ee5fb9f827", func := "spinney/spinneylaw01.ShaNamesBytes", spec := "shaNamesBytes", unfollowed := true, recurses := true, named := ["spinney/sha.initial", "spinney/sha.constants"], apart := false, laid := [("spinney/sha.initial", laid_spinney_sha_initial), ("spinney/sha.constants", laid_spinney_sha_constants)], narrowed := true }
def ShaNamesBytesUptoSaid : Prop := shaNamesBytesUptoRow.holds Tryd.pinned (OpenSpec.upto shaNamesBytesSpec)

/-- 'spinneylaw01.ShaHeaders', WHERE WHAT IT READS IS OF BULK AT MOST 1048576: true; the input reads as it did. -/
def shaHeadersUptoRow : OpenClaim := { program := "ytjbjkddgefiicaadoor", sum := "497978397c9be286d32237ec01342fcdf76b2489f59c3b470baea2ee5fb9f827", func := "spinney/spinneylaw01.ShaHeaders", spec := "shaHeaders", unfollowed := true, recurses := true, named := ["spinney/sha.initial", "spinney/sha.constants"], apart := false, laid := [("spinney/sha.initial", laid_spinney_sha_initial), ("spinney/sha.constants", laid_spinney_sha_constants)], narrowed := true }
def ShaHeadersUptoSaid : Prop := shaHeadersUptoRow.holds Tryd.pinned (OpenSpec.upto shaHeadersSpec)

/-- 'spinneylaw01.ShaSays', WHERE WHAT IT READS IS OF BULK AT MOST 1048576: true; the input reads as it did. -/
def shaSaysUptoRow : OpenClaim := { program := "ytjbjkddgefiicaadoor", sum := "497978397c9be286d32237ec01342fcdf76b2489f59c3b470baea2ee5fb9f827", func := "spinney/spinneylaw01.ShaSays", spec := "shaSays", inPlace := ["internal/bytealg.IndexByteString"], unfollowed := true, recurses := true, named := ["spinney/sha.initial", "spinney/sha.constants"], apart := false, laid := [("spinney/sha.initial", laid_spinney_sha_initial), ("spinney/sha.constants", laid_spinney_sha_constants)], narrowed := true }
def ShaSaysUptoSaid : Prop := shaSaysUptoRow.holds Tryd.pinned (OpenSpec.upto shaSaysSpec)

/-- 'spinneylaw01.ShaFractions', WHERE WHAT IT READS IS OF BULK AT MOST 1048576: true; the input reads as it did. -/
def shaFractionsUptoRow : OpenClaim := { program := "ytjbjkddgefiicaadoor", sum := "497978397c9be286d32237ec01342fcdf76b2489f59c3b470baea2ee5fb9f827", func := "spinney/spinneylaw01.ShaFractions", spec := "shaFractions", unfollowed := true, recurses := true, named := ["spinney/sha.initial", "spinney/sha.constants"], apart := false, laid := [("spinney/sha.initial", laid_spinney_sha_initial), ("spinney/sha.constants", laid_spinney_sha_constants)], narrowed := true }
def ShaFractionsUptoSaid : Prop := shaFractionsUptoRow.holds Tryd.pinned (OpenSpec.upto shaFractionsSpec)

/-- 'spinneylaw01.ShaKnown', WHERE WHAT IT READS IS OF BULK AT MOST 1048576: true; the input reads as it did. -/
def shaKnownUptoRow : OpenClaim := { program := "ytjbjkddgefiicaadoor", sum := "497978397c9be286d32237ec01342fcdf76b2489f59c3b470baea2ee5fb9f827", func := "spinney/spinneylaw01.ShaKnown", spec := "shaKnown", inPlace := ["internal/bytealg.IndexByteString"], unfollowed := true, recurses := true, named := ["spinney/sha.initial", "spinney/sha.constants"], apart := false, laid := [("spinney/sha.initial", laid_spinney_sha_initial), ("spinney/sha.constants", laid_spinney_sha_constants)], narrowed := true }
def ShaKnownUptoSaid : Prop := shaKnownUptoRow.holds Tryd.pinned (OpenSpec.upto shaKnownSpec)

/-- 'spinneylaw01.ShaTries', WHERE WHAT IT READS IS OF BULK AT MOST 1048576: true; the input reads as it did. -/
def shaTriesUptoRow : OpenClaim := { program := "ytjbjkddgefiicaadoor", sum := "497978397c9be286d32237ec01342fcdf76b2489f59c3b470baea2ee5fb9f827", func := "spinney/spinneylaw01.ShaTries", spec := "shaTries", unfollowed := true, recurses := true, named := ["spinney/sha.initial", "spinney/sha.constants"], apart := false, laid := [("spinney/sha.initial", laid_spinney_sha_initial), ("spinney/sha.constants", laid_spinney_sha_constants)], narrowed := true }
def ShaTriesUptoSaid : Prop := shaTriesUptoRow.holds Tryd.pinned (OpenSpec.upto shaTriesSpec)

/-- 'spinneylaw01.ShaTwiceOver', WHERE WHAT IT READS IS OF BULK AT MOST 1048576: true; the input reads as it did. -/
def shaTwiceOverUptoRow : OpenClaim := { program := "ytjbjkddgefiicaadoor", sum := "497978397c9be286d32237ec01342fcdf76b2489f59c3b470baea2ee5fb9f827", func := "spinney/spinneylaw01.ShaTwiceOver", spec := "shaTwiceOver", unfollowed := true, recurses := true, named := ["spinney/sha.initial", "spinney/sha.constants"], apart := false, laid := [("spinney/sha.initial", laid_spinney_sha_initial), ("spinney/sha.constants", laid_spinney_sha_constants)], narrowed := true }
def ShaTwiceOverUptoSaid : Prop := shaTwiceOverUptoRow.holds Tryd.pinned (OpenSpec.upto shaTwiceOverSpec)

/-- 'spinneylaw01.ShaNamesOnce', WHERE WHAT IT READS IS OF BULK AT MOST 1048576: true; the input reads as it did. -/
def shaNamesOnceUptoRow : OpenClaim := { program := "ytjbjkddgefiicaadoor", sum := "497978397c9be286d32237ec01342fcdf76b2489f59c3b470baea2ee5fb9f827", func := "spinney/spinneylaw01.ShaNamesOnce", spec := "shaNamesOnce", inPlace := ["internal/bytealg.IndexByteString"], unfollowed := true, recurses := true, named := ["spinney/sha.initial", "spinney/sha.constants"], apart := false, laid := [("spinney/sha.initial", laid_spinney_sha_initial), ("spinney/sha.constants", laid_spinney_sha_constants)], narrowed := true }
def ShaNamesOnceUptoSaid : Prop := shaNamesOnceUptoRow.holds Tryd.pinned (OpenSpec.upto shaNamesOnceSpec)

end Rows
end Go.Proofs.YtjbjkddgefiicaaDoor
