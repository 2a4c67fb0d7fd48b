/- Whether any transaction may be, its bytes behind others (at most 1000), full and bare, whether it has a witness, and both its names, are what the document's own Check, Put, Bare, Witnessed, ID and Full (package spinneyref05) are: the law 'spinneylaw05.TxPuts' returns true for every transaction and every slice of bytes that can be read, and leaves them as they were; condition: the package variables initial and constants hold what the program's text lays, which the card ties. -/
import Derived.Test.YtnkkhmgplpkjbaaDoorOk
import Derived.Test.YtnkkhmgplpkjbaaDoorNa
import Derived.Test.YtnkkhmgplpkjbaaDoorXi
import Derived.Test.YtnkkhmgplpkjbaaDoorCards
import Derived.Test.YtnkkhmgplpkjbaaDoorTie
import Derived.SevenTiedAt
namespace Go.Proofs.YtnkkhmgplpkjbaaDoor
open Go.ChangeShapes Go.WideShapes Go.ChangeAt Go.RowKit
set_option linter.unusedVariables false
set_option linter.unusedSimpArgs false
theorem puts_any (t : TTx) (i o : Value) (A : Option Addr) (cap : Nat) (R : List (BitVec 8)) (w : World) (h : TxOk w w.heap.size t i o) (hR : Rd w w.heap.size A R) (hl : R.length ≤ cap) (hm : cap ≤ 9223372036854775807) (hcn : A = none → cap = 0) (hG : Glob w) :
    Calls Tryd.prog 3 #[txV t i o, .slice A R.length cap] w fun e w' => e = .returned (.bool true) ∧ Below w.heap.size w w' := by
  have hlg : ∀ wq, Below w.heap.size w wq → Calls Tryd.prog 6 #[txV t i o] wq (SomePost wq) := fun wq hq => by
    obtain ⟨hi, ho, _, _⟩ := h
    have hi' := hi
    have ho' := ho
    obtain ⟨A1, c1, rfl, _⟩ := hi
    obtain ⟨A2, c2, rfl, _⟩ := ho
    exact large_at t.ins t.outs A1 A2 c1 c2 _ _ _ _ wq rfl rfl ((hi'.keep hq (Nat.le_refl _)).up hq.size) ((ho'.keep hq (Nat.le_refl _)).up hq.size)
  by_cases hc : chk t = 0
  · exact puts_ok t i o A cap R w h hR hl hm hcn hc hG hlg
  · exact puts_no t i o A cap R w h hR hl hm hcn hc hG hlg
set_option maxRecDepth 100000 in
theorem txPuts_lifted (os : Go.Os) (started : os.Started) (H : Type) (enc : TypeId × Value → H) :
    ReturnsInHanded {} Tryd.checked os 3 .any (fun w args => (Rows.txPutsSpec.pre enc Tryd.prog Tryd.f3 [] false w args ∧ laidMetH Tryd.prog laidL w) ∧ sizedMet enc Tryd.prog Tryd.f3 (OpenSpec.ofChange Rows.txPutsSpec) false w args)
      (Rows.txPutsSpec.post enc Tryd.prog Tryd.f3 false true false false) := by
  refine returnsInHanded_of_change_and (C := Tryd.checked) (X := fun w _ => laidMetH Tryd.prog laidL w) (fun _ _ _ hh h => h.of_heap hh) own started (by kernel_rfl) Tryd.func3
    (ChangeSpec.witness_shaped (enc := enc) (C := Tryd.checked) (os := os) (X := fun w _ => laidMetH Tryd.prog laidL w) false (World.doorLaid Tryd.prog 400 os) #[.agg #[.int .u32 0, .slice none 0 0, .slice none 0 0, .int .u32 0], .slice none 0 0] 8 rfl (World.shaped_of_RefB (by kernel_rfl) (by kernel_rfl)) (by kernel_rfl) (by kernel_rfl) (by kernel_rfl) (door_met os _)) ?_
  intro W base args ds gs before hval0 hW _ _ hL _
  have hval : ∀ (j : Nat) t v, Tryd.f3.params[j]? = some t → args[j]? = some v → Value.okWide Tryd.prog W .any base t v := hval0
  have hW' := hW
  obtain ⟨p, q, hAA, hV, rfl, hfz, hnd⟩ := hW
  have hA : DataW.TrodAll enc Tryd.prog W 0 (fun _ => true) true Tryd.f3.params.toList args.toList ds p := hAA
  rw [Tryd.params3] at hA hval
  obtain ⟨v0, vs0, d0, ds0, p0, q0, hargs, rfl, rfl, h0, r0⟩ := trodAll_cons hA
  obtain ⟨v1, vs1, d1, ds1, p1, q1, rfl, rfl, rfl, h1, r1⟩ := trodAll_cons r0
  obtain ⟨rfl, rfl, rfl⟩ := trodAll_nil r1
  obtain rfl : args = #[v0, v1] := by cases args; simp_all
  obtain ⟨rfl, rfl⟩ := trodVars_none hV
  obtain ⟨t0, i0, o0, rfl, ok0⟩ := tx_of (hval 0 26 v0 rfl rfl) h0
  obtain ⟨a1, len1, cap1, rfl⟩ := okWide_slice Tryd.underlying27 (hval 1 27 v1 rfl rfl)
  obtain ⟨zs1, w1⟩ : ∃ zs, IsRow W a1 len1 cap1 zs := by
    obtain ⟨fuel, hf⟩ := h1
    rcases open_ints Tryd.underlying27 Tryd.underlying5 (by kernel_rfl) hf with ⟨hcs, _⟩ | ⟨x, l, c, zs, hcs, _, hl, hm, hz, _, hcell, hwz⟩
    · simp [Value.cells] at hcs
      obtain ⟨rfl, rfl, rfl⟩ := hcs
      exact ⟨[], .inl ⟨rfl, rfl, rfl, rfl⟩⟩
    · simp [Value.cells] at hcs
      obtain ⟨rfl, rfl, rfl⟩ := hcs
      exact ⟨zs, .inr ⟨_, rfl, hl, hm, by simpa using hz, hcell, hwz⟩⟩
  have hn1 : a1 = none → cap1 = 0 := fun h => by
    rcases w1 with ⟨_, _, hc, _⟩ | ⟨x, hx, _⟩
    · exact hc
    · rw [hx] at h; cases h
  obtain ⟨R1, rfl, hR1, hcap1, hm1⟩ := rd_of_row w1
  have lt0 : ∀ x ∈ p0, x.block < W.heap.size := by obtain ⟨m, hm⟩ := h0; exact DataW.trod_lt m _ _ _ hm
  have lt1 : ∀ x ∈ p1, x.block < W.heap.size := by obtain ⟨m, hm⟩ := h1; exact DataW.trod_lt m _ _ _ hm
  refine (puts_any t0 i0 o0 a1 cap1 R1 W ok0 hR1 hcap1 hm1 hn1 (glob_of_laid hL)).mono fun e W' ⟨he, bel⟩ => ?_
  subst he
  exact ⟨_, rfl, _, _, _, [], _, [], hW', trodAll_mk1 (shut_bool Tryd.underlying4 _), (trodAll_cons_mk (Below.trod laidOut (by kernel_rfl) (of_decide_eq_true (by kernel_rfl)) h0 bel lt0) (trodAll_cons_mk (Below.trod laidOut (by kernel_rfl) (of_decide_eq_true (by kernel_rfl)) h1 bel lt1) trodAll_mk0)), rfl, bel.frame _, fun h => by cases h⟩
theorem txPuts_row : Rows.TxPutsSaid :=
  OpenClaim.holds_of_wide 3 Tryd.f3 rfl rfl rfl rfl rfl rfl rfl ⟨rfl, rfl, rfl, rfl, rfl⟩ rfl rfl rfl rfl rfl (by kernel_rfl) Tryd.func3 (by kernel_rfl)
    (of_decide_eq_true (by kernel_rfl)) (by unfold Func.isWrapper; first | (rw [if_pos (by decide +kernel)]; kernel_rfl) | (rw [if_neg (by decide +kernel)]; exact ⟨rfl, rfl⟩))
    (fun os started H enc _ => txPuts_lifted os started H enc)
theorem txPuts_holds : Rows.TxPutsCardSaid :=
  Claim7.holds_tied_plain_at .later [] [.data, .data] true (true, "c78b7ee41d6447728646f282b20a7a7c68ba27b8177adeccde4f11e30a555416") false
    txPuts_row (fun _ h => by cases h) (by kernel_rfl) (fun _ h => by cases h) txPuts_row_tie rfl ⟨rfl, rfl⟩ (by kernel_rfl) rfl
    (fun f fn hf hfn => by
      obtain rfl : f = 3 := Option.some.inj ((show Tryd.prog.funcNamed "spinney/spinneylaw05.TxPuts" = some 3 by kernel_rfl).symm.trans hf) |>.symm
      obtain rfl : fn = Tryd.f3 := (Option.some.inj (Tryd.func3.symm.trans hfn)).symm
      exact ⟨by kernel_rfl, fun j t ht => by
        rw [Tryd.params3] at ht
        have hm : t ∈ ([26, 27] : List TypeId) := by simpa using Array.mem_of_getElem? ht
        have hall : (([26, 27] : List TypeId).all fun u => !Tryd.prog.wantsStandIn u) = true := by kernel_rfl
        exact (show Tryd.prog.wantsStandIn t = false by simpa using List.all_eq_true.1 hall t hm)⟩)
    (by kernel_rfl)
end Go.Proofs.YtnkkhmgplpkjbaaDoor
