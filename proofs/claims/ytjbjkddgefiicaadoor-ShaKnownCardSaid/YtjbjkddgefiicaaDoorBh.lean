/- The chapter's examples hold: names of three digests, what Of tells of a name, of one cut short, of strange and great letters, of one too long, of none; and a Middle that is none tells noughts: the law 'spinneylaw01.ShaKnown' returns true; condition: the package variables initial and constants hold what the program's text lays, which the card ties. -/
import Derived.Test.YtjbjkddgefiicaaDoorBg
import Derived.Test.YtjbjkddgefiicaaDoorCards
import Derived.Test.YtjbjkddgefiicaaDoorTie
import Derived.SevenTiedAt
namespace Go.Proofs.YtjbjkddgefiicaaDoor
open Go.ChangeShapes Go.WideShapes Go.ChangeAt Go.RowKit
set_option linter.unusedVariables false
set_option linter.unusedSimpArgs false
def LITa : ByteArray := { data := #[98, 97, 55, 56, 49, 54, 98, 102, 56, 102, 48, 49, 99, 102, 101, 97, 52, 49, 52, 49, 52, 48, 100, 101, 53, 100, 97, 101, 50, 50, 50, 51, 98, 48, 48, 51, 54, 49, 97, 51, 57, 54, 49, 55, 55, 97, 57, 99, 98, 52, 49, 48, 102, 102, 54, 49, 102, 50, 48, 48, 49, 53, 97, 100] }
theorem lit_name : isName LITa := ⟨by decide +kernel, by
  have h : ∀ k : Fin 32, 0 ≤ hiOf LITa k.val ∧ 0 ≤ loOf LITa k.val := by decide +kernel
  exact fun j hj => h ⟨j, hj⟩⟩
theorem lit_hv : hv LITa 32 = sumB [97, 98, 99] := by decide +kernel
theorem non_b : ¬ isName { data := #[55, 56, 49, 54, 98, 102, 56, 102, 48, 49, 99, 102, 101, 97, 52, 49, 52, 49, 52, 48, 100, 101, 53, 100, 97, 101, 50, 50, 50, 51, 98, 48, 48, 51, 54, 49, 97, 51, 57, 54, 49, 55, 55, 97, 57, 99, 98, 52, 49, 48, 102, 102, 54, 49, 102, 50, 48, 48, 49, 53, 97, 100] } := fun h => absurd h.1 (by decide +kernel)
theorem non_c : ¬ isName ({ data := #[103] } ++ { data := #[97, 55, 56, 49, 54, 98, 102, 56, 102, 48, 49, 99, 102, 101, 97, 52, 49, 52, 49, 52, 48, 100, 101, 53, 100, 97, 101, 50, 50, 50, 51, 98, 48, 48, 51, 54, 49, 97, 51, 57, 54, 49, 55, 55, 97, 57, 99, 98, 52, 49, 48, 102, 102, 54, 49, 102, 50, 48, 48, 49, 53, 97, 100] }) := fun h => absurd (h.2 0 (by omega)).1 (by decide +kernel)
theorem non_d : ¬ isName ({ data := #[66] } ++ { data := #[97, 55, 56, 49, 54, 98, 102, 56, 102, 48, 49, 99, 102, 101, 97, 52, 49, 52, 49, 52, 48, 100, 101, 53, 100, 97, 101, 50, 50, 50, 51, 98, 48, 48, 51, 54, 49, 97, 51, 57, 54, 49, 55, 55, 97, 57, 99, 98, 52, 49, 48, 102, 102, 54, 49, 102, 50, 48, 48, 49, 53, 97, 100] }) := fun h => absurd (h.2 0 (by omega)).1 (by decide +kernel)
theorem non_f : ¬ isName { data := (List.append [98, 97, 55, 56, 49, 54, 98, 102, 56, 102, 48, 49, 99, 102, 101, 97, 52, 49, 52, 49, 52, 48, 100, 101, 53, 100, 97, 101, 50, 50, 50, 51, 98] [48, 48, 51, 54, 49, 97, 51, 57, 54, 49, 55, 55, 97, 57, 99, 98, 52, 49, 48, 102, 102, 54, 49, 102, 50, 48, 48, 49, 53, 97, 100, 48, 48]).toArray } := fun h => absurd h.1 (by decide +kernel)
theorem non_g : ¬ isName { data := #[] } := fun h => absurd h.1 (by decide +kernel)
theorem none_text : ((strB (hexs (sumB []))).toList == [101, 51, 98, 48, 99, 52, 52, 50, 57, 56, 102, 99, 49, 99, 49, 52, 57, 97, 102, 98, 102, 52, 99, 56, 57, 57, 54, 102, 98, 57, 50, 52, 50, 55, 97, 101, 52, 49, 101, 52, 54, 52, 57, 98, 57, 51, 52, 99, 97, 52, 57, 53, 57, 57, 49, 98, 55, 56, 53, 50, 98, 56, 53, 53]) = true := by decide +kernel
theorem of_lit (w' : World) : Calls Tryd.prog 18 #[.string LITa] w' fun e w'' => e = .returned (.tuple #[.agg (vbs (sumB [97, 98, 99])).toArray, .bool true]) ∧ Below w'.heap.size w' w'' := by
  have h := of_any LITa (by decide +kernel) w'
  obtain ⟨D, hD⟩ : ∃ D, D = sumB [97, 98, 99] := ⟨_, rfl⟩
  have e := lit_hv
  rw [← hD] at e ⊢
  refine h.mono fun e' w'' hp => ?_
  have h1 := hp.1 lit_name
  rw [e] at h1
  exact ⟨h1, hp.2.2⟩
theorem of_not (s : ByteArray) (hs : s.size ≤ 4611686018427387903) (hn : ¬ isName s) (w' : World) : Calls Tryd.prog 18 #[.string s] w' fun e w'' => e = .returned (.tuple #[.agg (vbs Z32).toArray, .bool false]) ∧ Below w'.heap.size w' w'' :=
  (of_any s hs w').mono fun e w'' hp => ⟨hp.2.1 hn, hp.2.2⟩
theorem name_e (w' : World) (hG : Glob w') : Calls Tryd.prog 23 #[.string { data := #[] }] w' fun e w'' => e = .returned (.string (strB (hexs (sumB [])))) ∧ Below w'.heap.size w' w'' := name_any { data := #[] } (by decide) w' hG
theorem known_walk (w : World) (hG : Glob w) : Calls Tryd.prog 7 #[] w fun e w' => e = .returned (.bool true) ∧ Below w.heap.size w w' := by
  have hS : ∀ (b : Nat) w', Below w.heap.size w w' → Rd w' w'.heap.size (some ⟨b, 0, none⟩) [97, 98, 99] → Calls Tryd.prog 12 #[.slice (some ⟨b, 0, none⟩) 3 3] w' fun e w'' => e = .returned (.agg (vbs (sumB [97, 98, 99])).toArray) ∧ Below w'.heap.size w' w'' :=
    fun b w' hb hr => sum_any (some ⟨b, 0, none⟩) 3 [97, 98, 99] w' (hG.below hb) hr (by decide) (by decide)
  have hA : ∀ w', Below w.heap.size w w' → Calls Tryd.prog 11 #[] w' fun e w'' => e = .returned (.bool true) ∧ Below w'.heap.size w' w'' := fun w' hb => awake_any w' (hG.below hb)
  have hN : ∀ w', Below w.heap.size w w' → Calls Tryd.prog 23 #[.string { data := #[] }] w' fun e w'' => e = .returned (.string (strB (hexs (sumB [])))) ∧ Below w'.heap.size w' w'' := fun w' hb => name_e w' (hG.below hb)
  have ha := of_lit
  have hl := sumB_len [97, 98, 99]
  have hn := none_text
  generalize sumB [97, 98, 99] = D at hS ha hl
  generalize strB (hexs (sumB [])) = tN at hN hn
  exact known_gen w D tN hl hn hA hN hS mid_zero ha (of_not _ (by decide +kernel) non_b) (of_not _ (by decide +kernel) non_c) (of_not _ (by decide +kernel) non_d) (of_not _ (by decide +kernel) non_f) (of_not _ (by decide +kernel) non_g)
set_option maxRecDepth 100000 in
theorem shaKnown_lifted (os : Os) (started : os.Started) (H : Type) (enc : TypeId × Value → H) :
    ReturnsInHanded {} Tryd.checked os 7 .any (fun w args => (Rows.shaKnownSpec.pre enc Tryd.prog Tryd.f7 [] false w args ∧ laidMetH Tryd.prog laidL w) ∧ sizedMet enc Tryd.prog Tryd.f7 (OpenSpec.ofChange Rows.shaKnownSpec) false w args)
      (Rows.shaKnownSpec.post enc Tryd.prog Tryd.f7 false true false false) := by
  refine returnsInHanded_of_change_and (C := Tryd.checked) (X := fun w _ => laidMetH Tryd.prog laidL w) (fun _ _ _ hh h => h.of_heap hh) own started (by kernel_rfl) Tryd.func7
    (ChangeSpec.witness_shaped (enc := enc) (C := Tryd.checked) (os := os) (X := fun w _ => laidMetH Tryd.prog laidL w) false (World.doorLaid Tryd.prog 400 os) #[] 8 rfl (World.shaped_of_RefB (by kernel_rfl) (by kernel_rfl)) (by kernel_rfl) (by kernel_rfl) (by kernel_rfl) (door_met os _)) ?_
  intro W base args ds gs before hval0 hW _ _ hL _
  have hval : ∀ (j : Nat) t v, Tryd.f7.params[j]? = some t → args[j]? = some v → Value.okWide Tryd.prog W .any base t v := hval0
  have hW' := hW
  obtain ⟨p, q, hA0, hV, rfl, hfz, hnd⟩ := hW
  have hA : DataW.TrodAll enc Tryd.prog W 0 (fun _ => true) true Tryd.f7.params.toList args.toList ds p := hA0
  rw [Tryd.params7] at hA hval
  obtain ⟨hargs, rfl, rfl⟩ := trodAll_nil hA
  obtain rfl : args = #[] := by cases args; simp_all
  obtain ⟨rfl, rfl⟩ := trodVars_none hV
  refine (known_walk W (glob_of_laid hL)).mono fun e W' ⟨he, bel⟩ => ?_
  subst he
  exact ⟨_, rfl, _, _, _, [], _, [], hW', trodAll_mk1 (shut_bool Tryd.underlying4 _), trodAll_mk0, rfl, bel.frame _, fun h => by cases h⟩
theorem shaKnown_row : Rows.ShaKnownSaid :=
  OpenClaim.holds_of_wide 7 Tryd.f7 rfl rfl rfl rfl rfl rfl rfl ⟨rfl, rfl, rfl, rfl, rfl⟩ rfl rfl rfl rfl rfl (by kernel_rfl) Tryd.func7 (by kernel_rfl)
    (of_decide_eq_true (by kernel_rfl)) (by unfold Func.isWrapper; first | (rw [if_pos (by decide +kernel)]; kernel_rfl) | (rw [if_neg (by decide +kernel)]; exact ⟨rfl, rfl⟩))
    (fun os started H enc _ => shaKnown_lifted os started H enc)
theorem shaKnown_holds : Rows.ShaKnownCardSaid :=
  Claim7.holds_tied_plain_at .later [] [.data, .data] true (true, "dab1dd911e5cda1db83f8f58287b57ca1cc07afd2902322517216c07d3957bb9") false
    shaKnown_row (fun _ h => by cases h) (by kernel_rfl) (fun _ h => by cases h) shaKnown_row_tie rfl ⟨rfl, rfl⟩ (by kernel_rfl) rfl
    (fun f fn hf hfn => by
      obtain rfl : f = 7 := Option.some.inj ((show Tryd.prog.funcNamed "spinney/spinneylaw01.ShaKnown" = some 7 by kernel_rfl).symm.trans hf) |>.symm
      obtain rfl : fn = Tryd.f7 := (Option.some.inj (Tryd.func7.symm.trans hfn)).symm
      exact ⟨by kernel_rfl, fun j t ht => by
        rw [Tryd.params7] at ht
        simp at ht⟩)
    (by kernel_rfl)
end Go.Proofs.YtjbjkddgefiicaaDoor
