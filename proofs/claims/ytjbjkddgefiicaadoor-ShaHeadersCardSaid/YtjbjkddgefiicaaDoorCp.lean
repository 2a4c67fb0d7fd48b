/- The double digest that a chunk's middle tells with any rest (at most 3000 bytes are looked at) is what the document's own Twice (package spinneyref01) makes of the chunk and the rest, and the rest that is handed in stays: the law 'spinneylaw01.ShaHeaders' returns true for every chunk and every slice of bytes that can be read, and leaves them as they were; condition: the package variables initial and constants hold what the program's text lays, which the card ties. -/
import Derived.Test.YtjbjkddgefiicaaDoorCo
import Derived.Test.YtjbjkddgefiicaaDoorBb
import Derived.SevenTiedAt
namespace Go.Proofs.YtjbjkddgefiicaaDoor
open Go.ChangeShapes Go.WideShapes Go.ChangeAt Go.RowKit
set_option linter.unusedVariables false
set_option linter.unusedSimpArgs false
set_option maxRecDepth 100000 in
set_option maxHeartbeats 1000000 in
theorem headers_big (C : List (BitVec 8)) (hC : C.length = 64) (A : Option Addr) (cap n : Nat) (w : World) (hGl : Glob w) (h : 3000 < n) :
    Calls Tryd.prog 4 #[.agg (vbs C).toArray, .slice A n cap] w fun e w' => e = .returned (.bool true) ∧ Below w.heap.size w w' := by
  have h1 : (3000 : Int) < (n : Int) := by omega
  have hb0 : Below w.heap.size w (w.alloc (Obj.cells (vbs C).toArray 28)) := (Below.refl _ _).alloc (Nat.le_refl _) _
  have HA0 := Lib.hid (awake_any _ (hGl.below hb0))
  have HB := Lib.hid hb0
  clear hGl hb0
  go_enter Tryd.func4, Tryd.ntmps4
  go_wp2_with (go_at_call 11; (with_reducible refine HA0.out.mono ?_); rintro e w1 ⟨rfl, hb1⟩; dsimp only)
  go_ret
  exact ⟨rfl, HB.out.trans (hb1.mono HB.out.size)⟩
theorem headers_walk (C : List (BitVec 8)) (hC : C.length = 64) (A : Option Addr) (cap : Nat) (R : List (BitVec 8)) (w : World) (hG : Glob w) (hR : Rd w w.heap.size A R) (hcap : R.length ≤ cap) (hA : A = none → cap = 0) :
    Calls Tryd.prog 4 #[.agg (vbs C).toArray, .slice A R.length cap] w fun e w' => e = .returned (.bool true) ∧ Below w.heap.size w w' := by
  by_cases h : 3000 < R.length
  · exact headers_big C hC A cap R.length w hG h
  · exact headers_gen C hC (change ini C) (twiceB (C ++ R)) (sumB_len _) A cap R w hR hcap hA (by omega)
      (fun w' hb => halfway_any C hC w' (hG.below hb))
      (fun A' c' w' hb hr hc => by rw [← middle_whole C R hC]; exact mid_any _ A' c' R w' (hG.below hb) hr hc (by omega))
      (fun A' c' w' hb hr hc hn => rtwice_any A' c' (C ++ R) w' hr hc hn (by rw [List.length_append, hC]; omega))
      (fun w' hb => awake_any w' (hG.below hb))
set_option maxRecDepth 100000 in
theorem shaHeaders_lifted (os : Os) (started : os.Started) (H : Type) (enc : TypeId × Value → H) :
    ReturnsInHanded {} Tryd.checked os 4 .any (fun w args => (Rows.shaHeadersSpec.pre enc Tryd.prog Tryd.f4 [] false w args ∧ laidMetH Tryd.prog laidL w) ∧ sizedMet enc Tryd.prog Tryd.f4 (OpenSpec.ofChange Rows.shaHeadersSpec) false w args)
      (Rows.shaHeadersSpec.post enc Tryd.prog Tryd.f4 false true false false) := by
  refine returnsInHanded_of_change_and (C := Tryd.checked) (X := fun w _ => laidMetH Tryd.prog laidL w) (fun _ _ _ hh h => h.of_heap hh) own started (by kernel_rfl) Tryd.func4
    (ChangeSpec.witness_shaped (enc := enc) (C := Tryd.checked) (os := os) (X := fun w _ => laidMetH Tryd.prog laidL w) false (World.doorLaid Tryd.prog 400 os) #[.agg (vbs (List.replicate 64 0)).toArray, .slice none 0 0] 8 rfl (World.shaped_of_RefB (by kernel_rfl) (by kernel_rfl)) (by kernel_rfl) (by kernel_rfl) (by kernel_rfl) (door_met os _)) ?_
  intro W base args ds gs before hval0 hW _ _ hL _
  have hval : ∀ (j : Nat) t v, Tryd.f4.params[j]? = some t → args[j]? = some v → Value.okWide Tryd.prog W .any base t v := hval0
  have hW' := hW
  obtain ⟨p, q, hA0, hV, rfl, hfz, hnd⟩ := hW
  have hA : DataW.TrodAll enc Tryd.prog W 0 (fun _ => true) true Tryd.f4.params.toList args.toList ds p := hA0
  rw [Tryd.params4] at hA hval
  obtain ⟨v0, vs0, d0, ds0, p0, q0, hargs, rfl, rfl, h0, r0⟩ := trodAll_cons hA
  obtain ⟨v1, vs1, d1, ds1, p1, q1, rfl, rfl, rfl, h1, r1⟩ := trodAll_cons r0
  obtain ⟨rfl, rfl, rfl⟩ := trodAll_nil r1
  obtain rfl : args = #[v0, v1] := by cases args; simp_all
  obtain ⟨rfl, rfl⟩ := trodVars_none hV
  obtain ⟨C, hC, rfl⟩ := arr_any Tryd.underlying28 (by kernel_rfl) (by kernel_rfl) (hval 0 28 v0 rfl rfl)
  obtain ⟨a1, len1, cap1, rfl⟩ := okWide_slice Tryd.underlying22 (hval 1 22 v1 rfl rfl)
  obtain ⟨zs1, w1⟩ : ∃ zs, IsRow W a1 len1 cap1 zs := by
    obtain ⟨fuel, hf⟩ := h1
    rcases open_ints Tryd.underlying22 Tryd.underlying5 (by kernel_rfl) hf with ⟨hcs, _⟩ | ⟨x, l, c, zs, hcs, _, hl, hm, hz, _, hcell, hwz⟩
    · simp [Value.cells] at hcs
      obtain ⟨rfl, rfl, rfl⟩ := hcs
      exact ⟨[], .inl ⟨rfl, rfl, rfl, rfl⟩⟩
    · simp [Value.cells] at hcs
      obtain ⟨rfl, rfl, rfl⟩ := hcs
      exact ⟨zs, .inr ⟨_, rfl, hl, hm, by simpa using hz, hcell, hwz⟩⟩
  have hA1 : a1 = none → cap1 = 0 := fun h => by
    rcases w1 with ⟨_, _, hc, _⟩ | ⟨x, hx, _⟩
    · exact hc
    · rw [hx] at h; cases h
  obtain ⟨R1, rfl, hR1, hcap1, hm1⟩ := rd_of_row w1
  have lt0 : ∀ x ∈ p0, x.block < W.heap.size := by obtain ⟨m, hm⟩ := h0; exact DataW.trod_lt m _ _ _ hm
  have lt1 : ∀ x ∈ p1, x.block < W.heap.size := by obtain ⟨m, hm⟩ := h1; exact DataW.trod_lt m _ _ _ hm
  refine (headers_walk C hC a1 cap1 R1 W (glob_of_laid hL) hR1 hcap1 hA1).mono fun e W' ⟨he, bel⟩ => ?_
  subst he
  exact ⟨_, rfl, _, _, _, [], _, [], hW', trodAll_mk1 (shut_bool Tryd.underlying4 _), (trodAll_cons_mk (Below.trod laidOut (by kernel_rfl) (of_decide_eq_true (by kernel_rfl)) h0 bel lt0) (trodAll_cons_mk (Below.trod laidOut (by kernel_rfl) (of_decide_eq_true (by kernel_rfl)) h1 bel lt1) trodAll_mk0)), rfl, bel.frame _, fun h => by cases h⟩
theorem shaHeaders_row : Rows.ShaHeadersSaid :=
  OpenClaim.holds_of_wide 4 Tryd.f4 rfl rfl rfl rfl rfl rfl rfl ⟨rfl, rfl, rfl, rfl, rfl⟩ rfl rfl rfl rfl rfl (by kernel_rfl) Tryd.func4 (by kernel_rfl)
    (of_decide_eq_true (by kernel_rfl)) (by unfold Func.isWrapper; first | (rw [if_pos (by decide +kernel)]; kernel_rfl) | (rw [if_neg (by decide +kernel)]; exact ⟨rfl, rfl⟩))
    (fun os started H enc _ => shaHeaders_lifted os started H enc)
theorem shaHeaders_holds : Rows.ShaHeadersCardSaid :=
  Claim7.holds_tied_plain_at .later [] [.data, .data] true (true, "dab1dd911e5cda1db83f8f58287b57ca1cc07afd2902322517216c07d3957bb9") false
    shaHeaders_row (fun _ h => by cases h) (by kernel_rfl) (fun _ h => by cases h) shaHeaders_row_tie rfl ⟨rfl, rfl⟩ (by kernel_rfl) rfl
    (fun f fn hf hfn => by
      obtain rfl : f = 4 := Option.some.inj ((show Tryd.prog.funcNamed "spinney/spinneylaw01.ShaHeaders" = some 4 by kernel_rfl).symm.trans hf) |>.symm
      obtain rfl : fn = Tryd.f4 := (Option.some.inj (Tryd.func4.symm.trans hfn)).symm
      exact ⟨by kernel_rfl, fun j t ht => by
        rw [Tryd.params4] at ht
        have hm : t ∈ ([28, 22] : List TypeId) := by simpa using Array.mem_of_getElem? ht
        have hall : (([28, 22] : List TypeId).all fun u => !Tryd.prog.wantsStandIn u) = true := by kernel_rfl
        exact (show Tryd.prog.wantsStandIn t = false by simpa using List.all_eq_true.1 hall t hm)⟩)
    (by kernel_rfl)
end Go.Proofs.YtjbjkddgefiicaaDoor
