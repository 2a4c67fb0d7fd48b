/- The chapter's examples hold: the digests of 64 and of 32 bytes, of nothing and of abc, are the chapter's, and the last is not nought: the law 'spinneylaw02.Sha512Known' returns true; condition: the package variables initial and constants hold what the program's text lays, which the card ties. -/
import Derived.Test.YtffngfjbaimbhaaDoorSo
import Derived.Test.YtffngfjbaimbhaaDoorSn
import Derived.Test.YtffngfjbaimbhaaDoorCards
import Derived.Test.YtffngfjbaimbhaaDoorTie
import Derived.SevenTiedAt
namespace Go.Proofs.YtffngfjbaimbhaaDoor
open Go.ChangeShapes Go.WideShapes Go.ChangeAt Go.RowKit
set_option linter.unusedVariables false
set_option linter.unusedSimpArgs false
set_option maxRecDepth 100000
theorem textA : ((strB (hexs exA)).toList == [99, 102, 56, 51, 101, 49, 51, 53, 55, 101, 101, 102, 98, 56, 98, 100, 102, 49, 53, 52, 50, 56, 53, 48, 100, 54, 54, 100, 56, 48, 48, 55, 100, 54, 50, 48, 101, 52, 48, 53, 48, 98, 53, 55, 49, 53, 100, 99, 56, 51, 102, 52, 97, 57, 50, 49, 100, 51, 54, 99, 101, 57, 99, 101, 52, 55, 100, 48, 100, 49, 51, 99, 53, 100, 56, 53, 102, 50, 98, 48, 102, 102, 56, 51, 49, 56, 100, 50, 56, 55, 55, 101, 101, 99, 50, 102, 54, 51, 98, 57, 51, 49, 98, 100, 52, 55, 52, 49, 55, 97, 56, 49, 97, 53, 51, 56, 51, 50, 55, 97, 102, 57, 50, 55, 100, 97, 51, 101]) = true := by decide +kernel
theorem textB : ((strB (hexs exB)).toList == [100, 100, 97, 102, 51, 53, 97, 49, 57, 51, 54, 49, 55, 97, 98, 97, 99, 99, 52, 49, 55, 51, 52, 57, 97, 101, 50, 48, 52, 49, 51, 49, 49, 50, 101, 54, 102, 97, 52, 101, 56, 57, 97, 57, 55, 101, 97, 50, 48, 97, 57, 101, 101, 101, 101, 54, 52, 98, 53, 53, 100, 51, 57, 97, 50, 49, 57, 50, 57, 57, 50, 97, 50, 55, 52, 102, 99, 49, 97, 56, 51, 54, 98, 97, 51, 99, 50, 51, 97, 51, 102, 101, 101, 98, 98, 100, 52, 53, 52, 100, 52, 52, 50, 51, 54, 52, 51, 99, 101, 56, 48, 101, 50, 97, 57, 97, 99, 57, 52, 102, 97, 53, 52, 99, 97, 52, 57, 102]) = true := by decide +kernel
theorem textC : ((strB (hexs exC)).toList == [99, 54, 55, 50, 98, 56, 100, 49, 101, 102, 53, 54, 101, 100, 50, 56, 97, 98, 56, 55, 99, 51, 54, 50, 50, 99, 53, 49, 49, 52, 48, 54, 57, 98, 100, 100, 51, 97, 100, 55, 98, 56, 102, 57, 55, 51, 55, 52, 57, 56, 100, 48, 99, 48, 49, 101, 99, 101, 102, 48, 57, 54, 55, 97]) = true := by decide +kernel
theorem textD : ((strB (hexs exD)).toList == [53, 51, 48, 52, 56, 101, 50, 54, 56, 49, 57, 52, 49, 101, 102, 57, 57, 98, 50, 101, 50, 57, 98, 55, 54, 98, 52, 99, 55, 100, 97, 98, 101, 52, 99, 50, 100, 48, 99, 54, 51, 52, 102, 99, 54, 100, 52, 54, 101, 48, 101, 50, 102, 49, 51, 49, 48, 55, 101, 55, 97, 102, 50, 51]) = true := by decide +kernel
theorem neq_C (wq : World) : (binOp .neq 29 (.agg (vbs exC).toArray) (.agg (vbs Z32).toArray)).run Tryd.prog wq = .ok (.bool true) wq := by kernel_rfl
theorem known_walk (w : World) (hG : Glob w) : Calls Tryd.prog 4 #[] w fun e w' => e = .returned (.bool true) ∧ Below w.heap.size w w' :=
  known_gen w hG exA exB exC exD _ _ _ _ rfl rfl rfl rfl c7n c7a c10n c10a rfl rfl rfl rfl neq_C textA textB textC textD
set_option maxRecDepth 100000 in
theorem sha512Known_lifted (os : Os) (started : os.Started) (H : Type) (enc : TypeId × Value → H) :
    ReturnsInHanded {} Tryd.checked os 4 .any (fun w args => (Rows.sha512KnownSpec.pre enc Tryd.prog Tryd.f4 [] false w args ∧ laidMetH Tryd.prog laidL w) ∧ sizedMet enc Tryd.prog Tryd.f4 (OpenSpec.ofChange Rows.sha512KnownSpec) false w args)
      (Rows.sha512KnownSpec.post enc Tryd.prog Tryd.f4 false true false false) := by
  refine returnsInHanded_of_change_and (C := Tryd.checked) (X := fun w _ => laidMetH Tryd.prog laidL w) (fun _ _ _ hh h => h.of_heap hh) own started (by kernel_rfl) Tryd.func4
    (ChangeSpec.witness_shaped (enc := enc) (C := Tryd.checked) (os := os) (X := fun w _ => laidMetH Tryd.prog laidL w) false (World.doorLaid Tryd.prog 400 os) #[] 8 rfl (World.shaped_of_RefB (by kernel_rfl) (by kernel_rfl)) (by kernel_rfl) (by kernel_rfl) (by kernel_rfl) (door_met os _)) ?_
  intro W base args ds gs before hval0 hW _ _ hL _
  have hval : ∀ (j : Nat) t v, Tryd.f4.params[j]? = some t → args[j]? = some v → Value.okWide Tryd.prog W .any base t v := hval0
  have hW' := hW
  obtain ⟨p, q, hA0, hV, rfl, hfz, hnd⟩ := hW
  have hA : DataW.TrodAll enc Tryd.prog W 0 (fun _ => true) true Tryd.f4.params.toList args.toList ds p := hA0
  rw [Tryd.params4] at hA hval
  obtain ⟨hargs, rfl, rfl⟩ := trodAll_nil hA
  obtain rfl : args = #[] := by cases args; simp_all
  obtain ⟨rfl, rfl⟩ := trodVars_none hV
  refine (known_walk W (glob_of_laid hL)).mono fun e W' ⟨he, bel⟩ => ?_
  subst he
  exact ⟨_, rfl, _, _, _, [], _, [], hW', trodAll_mk1 (shut_bool Tryd.underlying4 _), trodAll_mk0, rfl, bel.frame _, fun h => by cases h⟩
theorem sha512Known_row : Rows.Sha512KnownSaid :=
  OpenClaim.holds_of_wide 4 Tryd.f4 rfl rfl rfl rfl rfl rfl rfl ⟨rfl, rfl, rfl, rfl, rfl⟩ rfl rfl rfl rfl rfl (by kernel_rfl) Tryd.func4 (by kernel_rfl)
    (of_decide_eq_true (by kernel_rfl)) (by unfold Func.isWrapper; first | (rw [if_pos (by decide +kernel)]; kernel_rfl) | (rw [if_neg (by decide +kernel)]; exact ⟨rfl, rfl⟩))
    (fun os started H enc _ => sha512Known_lifted os started H enc)
theorem sha512Known_holds : Rows.Sha512KnownCardSaid :=
  Claim7.holds_tied_plain_at .later [] [.data, .data] true (true, "b0099ac7a7e37ad102bb62fb4c613ce3fa243fa782262a31e67a3d0dca0af76a") false
    sha512Known_row (fun _ h => by cases h) (by kernel_rfl) (fun _ h => by cases h) sha512Known_row_tie rfl ⟨rfl, rfl⟩ (by kernel_rfl) rfl
    (fun f fn hf hfn => by
      obtain rfl : f = 4 := Option.some.inj ((show Tryd.prog.funcNamed "spinney/spinneylaw02.Sha512Known" = some 4 by kernel_rfl).symm.trans hf) |>.symm
      obtain rfl : fn = Tryd.f4 := (Option.some.inj (Tryd.func4.symm.trans hfn)).symm
      exact ⟨by kernel_rfl, fun j t ht => by
        rw [Tryd.params4] at ht
        simp at ht⟩)
    (by kernel_rfl)
end Go.Proofs.YtffngfjbaimbhaaDoor
