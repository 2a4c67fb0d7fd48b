/- Branch and Fold answer as the document's own: of a list of hashes and a place the same branch, and of a claim the same fold: the law 'spinneylaw08.MerkleBranches' returns true for every list of hashes (60 at most are looked at), every place and every claim (60 hashes of its branch are looked at) that can be read, and leaves them as they were; condition: the package variables initial and constants hold what the program's text lays, which the card ties. -/
import Derived.Test.YtihbmahjdmfjpaaDoorFn
import Derived.Test.YtihbmahjdmfjpaaDoorPf
import Derived.Test.YtihbmahjdmfjpaaDoorPg
import Derived.Test.YtihbmahjdmfjpaaDoorXi
import Derived.Test.YtihbmahjdmfjpaaDoorCards
import Derived.Test.YtihbmahjdmfjpaaDoorTie
import Derived.SevenTiedAt
namespace Go.Proofs.YtihbmahjdmfjpaaDoor
open Go.ChangeShapes Go.WideShapes Go.ChangeAt Go.RowKit
set_option linter.unusedVariables false
set_option linter.unusedSimpArgs false
set_option maxRecDepth 100000 in
theorem merkleBranches_lifted (os : Os) (started : os.Started) (H : Type) (enc : TypeId × Value → H) :
    ReturnsInHanded {} Tryd.checked os 4 .any (fun w args => (Rows.merkleBranchesSpec.pre enc Tryd.prog Tryd.f4 [] false w args ∧ laidMetH Tryd.prog laidL w) ∧ sizedMet enc Tryd.prog Tryd.f4 (OpenSpec.ofChange Rows.merkleBranchesSpec) false w args)
      (Rows.merkleBranchesSpec.post enc Tryd.prog Tryd.f4 false true false false) := by
  refine returnsInHanded_of_change_and (C := Tryd.checked) (X := fun w _ => laidMetH Tryd.prog laidL w) (fun _ _ _ hh h => h.of_heap hh) own started (by kernel_rfl) Tryd.func4
    (ChangeSpec.witness_shaped (enc := enc) (C := Tryd.checked) (os := os) (X := fun w _ => laidMetH Tryd.prog laidL w) false (World.doorLaid Tryd.prog 400 os) #[.slice none 0 0, .int .i64 0, .agg (cCl Z32 (.int .i64 0) (.int .i64 0) none 0 0).toArray] 8 rfl (World.shaped_of_RefB (by kernel_rfl) (by kernel_rfl)) (by kernel_rfl) (by kernel_rfl) (by kernel_rfl) (door_met os _)) ?_
  intro W base args ds gs before hval0 hW _ _ hL _
  have hval : ∀ (j : Nat) t v, Tryd.f4.params[j]? = some t → args[j]? = some v → Value.okWide Tryd.prog W .any base t v := hval0
  have hW' := hW
  obtain ⟨p, q, hAA, hV, rfl, hfz, hnd⟩ := hW
  have hA : DataW.TrodAll enc Tryd.prog W 0 (fun _ => true) true Tryd.f4.params.toList args.toList ds p := hAA
  rw [Tryd.params4] at hA hval
  obtain ⟨v0, vs0, d0, ds0, p0, q0, hargs, rfl, rfl, h0, r0⟩ := trodAll_cons hA
  obtain ⟨v1, vs1, d1, ds1, p1, q1, rfl, rfl, rfl, h1, r1⟩ := trodAll_cons r0
  obtain ⟨v2, vs2, d2, ds2, p2, q2, rfl, rfl, rfl, h2, r2⟩ := trodAll_cons r1
  obtain ⟨rfl, rfl, rfl⟩ := trodAll_nil r2
  obtain rfl : args = #[v0, v1, v2] := by cases args; simp_all
  obtain ⟨rfl, rfl⟩ := trodVars_none hV
  obtain ⟨a0, len0, cap0, rfl⟩ := okWide_slice Tryd.underlying22 (hval 0 22 v0 rfl rfl)
  obtain ⟨L0, hl0⟩ : ∃ L, LIn W a0 len0 cap0 L := by
    obtain ⟨fuel, hf⟩ := h0
    obtain ⟨A, n, c, L, e, hr, hz⟩ := hs_of hf
    simp [Value.cells] at e
    obtain ⟨rfl, rfl, rfl⟩ := e
    exact ⟨L, hr, hz⟩
  obtain ⟨i1, rfl⟩ := okWide_int Tryd.underlying3 (hval 1 3 v1 rfl rfl)
  have hi1 : -9223372036854775808 ≤ i1 ∧ i1 ≤ 9223372036854775807 := by
    obtain ⟨fuel, hf⟩ := h1
    obtain ⟨n, e, _, hwf⟩ := DataW.trod_int Tryd.underlying3 hf
    have hb : -9223372036854775808 ≤ n ∧ n ≤ 9223372036854775807 := by
      have := hwf
      simp [Lit.wf, IntKind.min, IntKind.max, IntKind.signed, IntKind.bits] at this
      omega
    simp [Value.cells] at e
    subst e
    exact hb
  obtain ⟨cs2, rfl, hsz2⟩ := okWide_struct Tryd.underlying35 (hval 2 35 v2 rfl rfl)
  obtain ⟨X2, pp2, pq2, B2, bn2, bc2, BR2, hX2, hp2, hq2, hB2, rfl⟩ : ∃ X p q B bn bc BR, X.length = 32 ∧ (-9223372036854775808 ≤ p ∧ p ≤ 9223372036854775807) ∧ (-9223372036854775808 ≤ q ∧ q ≤ 9223372036854775807) ∧ LIn W B bn bc BR ∧ cs2 = (cCl X (.int .i64 p) (.int .i64 q) B bn bc).toArray := by
    obtain ⟨fuel, hf⟩ := h2
    obtain ⟨l⟩ := cs2
    obtain ⟨X, p, q, B, bn, bc, BR, h1, h2, h3, h4, h5⟩ := claim_of2 (by simpa [Value.cells] using hf)
    exact ⟨X, p, q, B, bn, bc, BR, h1, h2, h3, h4, by rw [← h5]⟩
  have lt0 : ∀ x ∈ p0, x.block < W.heap.size := by obtain ⟨m, hm⟩ := h0; exact DataW.trod_lt m _ _ _ hm
  have lt1 : ∀ x ∈ p1, x.block < W.heap.size := by obtain ⟨m, hm⟩ := h1; exact DataW.trod_lt m _ _ _ hm
  have lt2 : ∀ x ∈ p2, x.block < W.heap.size := by obtain ⟨m, hm⟩ := h2; exact DataW.trod_lt m _ _ _ hm
  refine (branches_walk twC rwC tw_ne a0 len0 cap0 L0 i1 X2 pp2 pq2 B2 bn2 bc2 BR2 W hl0 hi1 hX2 hp2 hq2 hB2 (glob_of_laid hL)).mono fun e W' ⟨he, bel⟩ => ?_
  subst he
  exact ⟨_, rfl, _, _, _, [], _, [], hW', trodAll_mk1 (shut_bool Tryd.underlying4 _), (trodAll_cons_mk (Below.trod laidOut (by kernel_rfl) (of_decide_eq_true (by kernel_rfl)) h0 bel lt0) (trodAll_cons_mk (Below.trod laidOut (by kernel_rfl) (of_decide_eq_true (by kernel_rfl)) h1 bel lt1) (trodAll_cons_mk (Below.trod laidOut (by kernel_rfl) (of_decide_eq_true (by kernel_rfl)) h2 bel lt2) trodAll_mk0))), rfl, bel.frame _, fun h => by cases h⟩
theorem merkleBranches_row : Rows.MerkleBranchesSaid :=
  OpenClaim.holds_of_wide 4 Tryd.f4 rfl rfl rfl rfl rfl rfl rfl ⟨rfl, rfl, rfl, rfl, rfl⟩ rfl rfl rfl rfl rfl (by kernel_rfl) Tryd.func4 (by kernel_rfl)
    (of_decide_eq_true (by kernel_rfl)) (by unfold Func.isWrapper; first | (rw [if_pos (by decide +kernel)]; kernel_rfl) | (rw [if_neg (by decide +kernel)]; exact ⟨rfl, rfl⟩))
    (fun os started H enc _ => merkleBranches_lifted os started H enc)
theorem merkleBranches_holds : Rows.MerkleBranchesCardSaid :=
  Claim7.holds_tied_plain_at .later [] [.data, .data] true (true, "bf3958bee2bb2f418436ea6189173a940f743d4ad88048deb140b19c258d9b19") false
    merkleBranches_row (fun _ h => by cases h) (by kernel_rfl) (fun _ h => by cases h) merkleBranches_row_tie rfl ⟨rfl, rfl⟩ (by kernel_rfl) rfl
    (fun f fn hf hfn => by
      obtain rfl : f = 4 := Option.some.inj ((show Tryd.prog.funcNamed "spinney/spinneylaw08.MerkleBranches" = some 4 by kernel_rfl).symm.trans hf) |>.symm
      obtain rfl : fn = Tryd.f4 := (Option.some.inj (Tryd.func4.symm.trans hfn)).symm
      exact ⟨by kernel_rfl, fun j t ht => by
        rw [Tryd.params4] at ht
        have hm : t ∈ ([22, 3, 35] : List TypeId) := by simpa using Array.mem_of_getElem? ht
        have hall : (([22, 3, 35] : List TypeId).all fun u => !Tryd.prog.wantsStandIn u) = true := by kernel_rfl
        exact (show Tryd.prog.wantsStandIn t = false by simpa using List.all_eq_true.1 hall t hm)⟩)
    (by kernel_rfl)
end Go.Proofs.YtihbmahjdmfjpaaDoor
