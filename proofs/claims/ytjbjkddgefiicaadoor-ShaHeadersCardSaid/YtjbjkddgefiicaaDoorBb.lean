/- The middle of a chunk, asked with whatever ends, one behind the other and once more from the first one on, tells sha.Twice of the whole each time: the law 'spinneylaw01.ShaTries' returns true for every chunk and every list of at most 30 ends (longer ends than 100 bytes stop it, as its text says), and leaves what came in as it was; condition: the package variables initial and constants hold what the program's text lays, which the card ties. -/
import Derived.Test.YtjbjkddgefiicaaDoorBa
import Derived.Test.YtjbjkddgefiicaaDoorCards
import Derived.Test.YtjbjkddgefiicaaDoorTie
import Derived.SevenTiedAt
import Derived.Deep.Matrix
namespace Go.Proofs.YtjbjkddgefiicaaDoor
open Go.ChangeShapes Go.WideShapes Go.ChangeAt Go.RowKit
set_option linter.unusedVariables false
set_option linter.unusedSimpArgs false
set_option maxRecDepth 100000 in
set_option maxHeartbeats 1000000 in
theorem tries_big (C : List (BitVec 8)) (hC : C.length = 64) (A : Option Addr) (n cap : Nat) (w : World) (hGl : Glob w) (h : 30 < n) :
    Calls Tryd.prog 8 #[.agg (vbs C).toArray, .slice A n cap] w fun e w' => e = .returned (.bool true) ∧ Below w.heap.size w w' := by
  have h1 : (30 : Int) < (n : Int) := by omega
  have hb0 : Below w.heap.size w (w.alloc (Obj.cells (vbs C).toArray 28)) := (Below.refl _ _).alloc (Nat.le_refl _) _
  have HA0 := Lib.hid (awake_any _ (hGl.below hb0))
  have HB := Lib.hid hb0
  clear hGl hb0
  go_enter Tryd.func8, Tryd.ntmps8
  go_wp2_with (go_at_call 11; (with_reducible refine HA0.out.mono ?_); rintro e w1 ⟨rfl, hb1⟩; dsimp only)
  go_ret
  exact ⟨rfl, HB.out.trans (hb1.mono HB.out.size)⟩
theorem tries_walk (C : List (BitVec 8)) (hC : C.length = 64) (n : Nat) (A0 : Option Addr) (cap : Nat) (E : Nat → List (BitVec 8)) (Ad : Nat → Option Addr) (Cp : Nat → Nat) (w : World) (hG : Glob w)
    (hr : Rows2 w w.heap.size n A0 E Ad Cp) (hcap : n ≤ cap) (hcm : cap ≤ 9223372036854775807) :
    Calls Tryd.prog 8 #[.agg (vbs C).toArray, .slice A0 n cap] w fun e w' => e = .returned (.bool true) ∧ Below w.heap.size w w' := by
  by_cases h : 30 < n
  · exact tries_big C hC A0 n cap w hG h
  · exact tries_gen C hC (change ini C) twiceB (fun R => sumB_len _) n A0 cap E Ad Cp w hG hr hcap hcm (by omega)
      (fun w' hg => halfway_any C hC w' hg)
      (fun A cap R w' hg hR hc hl => by rw [← middle_whole C R hC]; exact mid_any _ A cap R w' hg hR hc (by omega))
      (fun A cap R w' hg hR hc hl => twice_any A cap R w' hg hR hc (by omega))
      (fun w' hg => awake_any w' hg)
theorem arr_any {W : World} {r : Reach} {b0 : Nat} {v : Value} {T : TypeId} {m : Nat} (hu : Tryd.prog.underlying T = some (.array m 5)) (hn : Tryd.prog.cellsOf T = m) (hts : Tryd.prog.cellTypes Tryd.prog.depth T = some (List.replicate m 5)) (h : Value.okWide Tryd.prog W r b0 T v) : ∃ R : List (BitVec 8), R.length = m ∧ v = .agg (vbs R).toArray := by
  simp only [Value.okWide, hu] at h
  obtain ⟨cs, rfl, hn', ts, hts', _, hc⟩ := h
  have hs : cs.size = m := by rw [hn', hn]
  have ht : ts = List.replicate m 5 := Option.some.inj (hts'.symm.trans hts)
  subst ht
  have key : ∀ i, (hi : i < cs.size) → ∃ n : Int, cs[i] = .int .u8 n ∧ IntKind.u8.has n := fun i hi => by
    obtain ⟨u, hu, hk⟩ := hc i cs[i] (Array.getElem?_eq_getElem hi)
    have : u = 5 := by
      rw [List.getElem?_replicate] at hu
      split at hu
      · exact (Option.some.inj hu).symm
      · cases hu
    subst this
    generalize cs[i] = x at hk ⊢
    cases x <;> simp_all [Cell.okWide, Cell.ok, Tryd.underlying5]
  refine ⟨cs.toList.map fun v => BitVec.ofInt 8 (intOf v), by simp [hs], ?_⟩
  congr 1
  apply Array.ext
  · simp [vbs_len]
  · intro i h1 h2
    obtain ⟨n, e, hh⟩ := key i h1
    simp [vbs, e, intOf]
    have := byte_of (z := n) (by simpa [Lit.wf, IntKind.has] using hh)
    exact this.symm
theorem mid_none {w : World} {b o : Nat} {sp : Option _} {v : Value} (h : w.cell? ((⟨b, o, sp⟩ : Addr).add 0) = some v) : sp = none := by
  cases sp with
  | none => rfl
  | some q =>
    exfalso
    have e : (⟨b, o, some q⟩ : Addr).add 0 = ⟨b, o, some q⟩ := by unfold Addr.add; simp
    rw [e] at h
    unfold World.cell? at h
    revert h
    cases w.heap[b]? with
    | none => simp
    | some ob => cases ob <;> simp
set_option maxRecDepth 100000 in
theorem tries_lifted (os : Os) (started : os.Started) (H : Type) (enc : TypeId × Value → H) :
    ReturnsInHanded {} Tryd.checked os 8 .any (fun w args => (Rows.shaTriesSpec.pre enc Tryd.prog Tryd.f8 [] false w args ∧ laidMetH Tryd.prog laidL w) ∧ sizedMet enc Tryd.prog Tryd.f8 (OpenSpec.ofChange Rows.shaTriesSpec) false w args)
      (Rows.shaTriesSpec.post enc Tryd.prog Tryd.f8 false true false false) := by
  refine returnsInHanded_of_change_and (C := Tryd.checked) (X := fun w _ => laidMetH Tryd.prog laidL w) (fun _ _ _ hh h => h.of_heap hh) own started (by kernel_rfl) Tryd.func8
    (ChangeSpec.witness_shaped (enc := enc) (C := Tryd.checked) (os := os) (X := fun w _ => laidMetH Tryd.prog laidL w) false (World.doorLaid Tryd.prog 400 os) #[.agg (vbs (List.replicate 64 0)).toArray, .slice none 0 0] 8 rfl (World.shaped_of_RefB (by kernel_rfl) (by kernel_rfl)) (by kernel_rfl) (by kernel_rfl) (by kernel_rfl) (door_met os _)) ?_
  intro W base args ds gs before hval0 hW _ _ hL _
  have hval : ∀ (j : Nat) t v, Tryd.f8.params[j]? = some t → args[j]? = some v → Value.okWide Tryd.prog W .any base t v := hval0
  have hW' := hW
  obtain ⟨p, q, hA0, hV, rfl, hfz, hnd⟩ := hW
  have hA : DataW.TrodAll enc Tryd.prog W 0 (fun _ => true) true Tryd.f8.params.toList args.toList ds p := hA0
  rw [Tryd.params8] at hA hval
  obtain ⟨v0, vs0, d0, ds0, p0, q0, hargs, rfl, rfl, h0, r0⟩ := trodAll_cons hA
  obtain ⟨v1, vs1, d1, ds1, p1, q1, rfl, rfl, rfl, h1, r1⟩ := trodAll_cons r0
  obtain ⟨rfl, rfl, rfl⟩ := trodAll_nil r1
  obtain rfl : args = #[v0, v1] := by cases args; simp_all
  obtain ⟨rfl, rfl⟩ := trodVars_none hV
  obtain ⟨C, hC, rfl⟩ := arr_any Tryd.underlying28 (by kernel_rfl) (by kernel_rfl) (hval 0 28 v0 rfl rfl)
  obtain ⟨a1, len1, cap1, rfl⟩ := okWide_slice Tryd.underlying41 (hval 1 41 v1 rfl rfl)
  have lt0 : ∀ x ∈ p0, x.block < W.heap.size := by obtain ⟨m, hm⟩ := h0; exact DataW.trod_lt m _ _ _ hm
  have lt1 : ∀ x ∈ p1, x.block < W.heap.size := by obtain ⟨m, hm⟩ := h1; exact DataW.trod_lt m _ _ _ hm
  obtain ⟨E, Ad, Cp, hr, hcap, hcm⟩ : ∃ (E : Nat → List (BitVec 8)) (Ad : Nat → Option Addr) (Cp : Nat → Nat), Rows2 W W.heap.size len1 a1 E Ad Cp ∧ len1 ≤ cap1 ∧ cap1 ≤ 9223372036854775807 := by
    obtain ⟨fuel, hf⟩ := h1
    rcases Deep.open_int_rows Tryd.underlying41 Tryd.underlying22 Tryd.underlying5 (by kernel_rfl) (by kernel_rfl) hf with ⟨hcs, _⟩ | ⟨a, len, cap, A, L, Cq, Z, hcs, _, hl, hm, _, hx⟩
    · simp [Value.cells] at hcs
      obtain ⟨rfl, rfl, rfl⟩ := hcs
      exact ⟨fun _ => [], fun _ => none, fun _ => 0, ⟨fun h => by omega, fun i hi => by omega⟩, Nat.le_refl _, by omega⟩
    · simp [Value.cells] at hcs
      obtain ⟨rfl, rfl, rfl⟩ := hcs
      have each : ∀ r, r < cap1 → ∃ y : List (BitVec 8), y.length = L r ∧ Rd W W.heap.size (A r) y := fun r hr => by
        obtain ⟨_, r1, r2, r3, r4, r5, r6⟩ := hx r hr
        have hrow : IsRow W (A r) (L r) (Cq r) (Z r) := by
          cases hA : A r with
          | none =>
            have := r5 hA
            refine .inl ⟨rfl, by omega, by omega, List.eq_nil_of_length_eq_zero (by omega)⟩
          | some a' => exact .inr ⟨a', rfl, r1, r2, r3, fun i hi => (r6 a' hA).2 i (by omega), r4⟩
        obtain ⟨R, e, hR, _, _⟩ := rd_of_row hrow
        exact ⟨R, e, hR⟩
      obtain ⟨E, hE⟩ := Deep.choose_lt each
      refine ⟨E, A, Cq, ⟨fun hp => ?_, fun i hi => ?_⟩, hl, by unfold maxLen at hm; omega⟩
      · obtain ⟨b, o, sp⟩ := a
        have hc0 := (hx 0 (by omega)).1
        obtain rfl := mid_none hc0
        refine ⟨b, o, rfl, ?_, fun i hi => ?_⟩
        · rw [Addr.add_mid] at hc0; exact World.block_lt_of_cell? W _ hc0
        · have := (hx i (by omega)).1
          rw [Addr.add_mid] at this
          rw [this, (hE i (by omega)).1]
      · obtain ⟨_, r1, r2, r3, r4, r5, r6⟩ := hx i (by omega)
        exact ⟨(hE i (by omega)).2, by rw [(hE i (by omega)).1]; exact r1, by unfold maxLen at r2; omega, r5⟩
  refine (tries_walk C hC len1 a1 cap1 E Ad Cp W (glob_of_laid hL) hr hcap hcm).mono fun e W' ⟨he, bel⟩ => ?_
  subst he
  exact ⟨_, rfl, _, _, _, [], _, [], hW', trodAll_mk1 (shut_bool Tryd.underlying4 _), (trodAll_cons_mk (Below.trod laidOut (by kernel_rfl) (of_decide_eq_true (by kernel_rfl)) h0 bel lt0) (trodAll_cons_mk (Below.trod laidOut (by kernel_rfl) (of_decide_eq_true (by kernel_rfl)) h1 bel lt1) trodAll_mk0)), rfl, bel.frame _, fun h => by cases h⟩
theorem tries_row : Rows.ShaTriesSaid :=
  OpenClaim.holds_of_wide 8 Tryd.f8 rfl rfl rfl rfl rfl rfl rfl ⟨rfl, rfl, rfl, rfl, rfl⟩ rfl rfl rfl rfl rfl (by kernel_rfl) Tryd.func8 (by kernel_rfl)
    (of_decide_eq_true (by kernel_rfl)) (by unfold Func.isWrapper; first | (rw [if_pos (by decide +kernel)]; kernel_rfl) | (rw [if_neg (by decide +kernel)]; exact ⟨rfl, rfl⟩))
    (fun os started H enc _ => tries_lifted os started H enc)
theorem shaTries_holds : Rows.ShaTriesCardSaid :=
  Claim7.holds_tied_plain_at .later [] [.data, .data] true (true, "dab1dd911e5cda1db83f8f58287b57ca1cc07afd2902322517216c07d3957bb9") false
    tries_row (fun _ h => by cases h) (by kernel_rfl) (fun _ h => by cases h) shaTries_row_tie rfl ⟨rfl, rfl⟩ (by kernel_rfl) rfl
    (fun f fn hf hfn => by
      obtain rfl : f = 8 := Option.some.inj ((show Tryd.prog.funcNamed "spinney/spinneylaw01.ShaTries" = some 8 by kernel_rfl).symm.trans hf) |>.symm
      obtain rfl : fn = Tryd.f8 := (Option.some.inj (Tryd.func8.symm.trans hfn)).symm
      exact ⟨by kernel_rfl, fun j t ht => by
        rw [Tryd.params8] at ht
        have hm : t ∈ [28, 41] := by simpa using Array.mem_of_getElem? ht
        have hall : ([28, 41].all fun u => !Tryd.prog.wantsStandIn u) = true := by kernel_rfl
        exact (show Tryd.prog.wantsStandIn t = false by simpa using List.all_eq_true.1 hall t hm)⟩)
    (by kernel_rfl)
end Go.Proofs.YtjbjkddgefiicaaDoor
