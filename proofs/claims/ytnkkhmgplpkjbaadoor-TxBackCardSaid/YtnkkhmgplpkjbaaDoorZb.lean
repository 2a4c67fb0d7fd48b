/- Whatever transaction that may be put is parsed as it was of what is laid, with any bytes behind (at most 1000), which stay; its names are the same, and less its witnesses it has its name: the law 'spinneylaw05.TxBack' returns true for every transaction and every slice of bytes that can be read, and leaves them as they were; condition: the package variables initial and constants hold what the program's text lays, which the card ties. -/
import Derived.Test.YtnkkhmgplpkjbaaDoorZba
import Derived.Test.YtnkkhmgplpkjbaaDoorZbb
import Derived.Test.YtnkkhmgplpkjbaaDoorZbc
import Derived.Test.YtnkkhmgplpkjbaaDoorZbd
import Derived.Test.YtnkkhmgplpkjbaaDoorZbe
import Derived.Test.YtnkkhmgplpkjbaaDoorZbf
import Derived.Test.YtnkkhmgplpkjbaaDoorCards
import Derived.Test.YtnkkhmgplpkjbaaDoorTie
import Derived.SevenTiedAt
namespace Go.Proofs.YtnkkhmgplpkjbaaDoor
open Go.ChangeShapes Go.WideShapes Go.ChangeAt Go.RowKit
set_option linter.unusedVariables false
set_option linter.unusedSimpArgs false
theorem back_no (t : TTx) (i o : Value) (A : Option Addr) (n cap : Nat) (w : World) (h : TxOk w w.heap.size t i o) (hc : chk t ≠ 0)
    (hlg : ∀ wq, Below w.heap.size w wq → Calls Tryd.prog 6 #[txV t i o] wq (SomePost wq)) :
    Calls Tryd.prog 5 #[txV t i o, .slice A n cap] w (AwPost w) := by
  have h' := h
  obtain ⟨⟨A1, c1, rfl, _, _, _⟩, ⟨A2, c2, rfl, _, _, _⟩, _, _⟩ := h
  obtain ⟨n1, hn1⟩ : ∃ n, n = t.ins.length := ⟨_, rfl⟩
  obtain ⟨n2, hn2⟩ : ∃ n, n = t.outs.length := ⟨_, rfl⟩
  obtain ⟨ver, hv⟩ : ∃ n, n = t.ver := ⟨_, rfl⟩
  obtain ⟨lock, hlk⟩ : ∃ n, n = t.lock := ⟨_, rfl⟩
  have KAw := Lib.hid (fun wq => awake_any wq)
  have KL : Hid (∀ wq, Below w.heap.size w wq → Calls Tryd.prog 6 #[.agg #[.int .u32 (ver : Int), .slice A1 n1 c1, .slice A2 n2 c2, .int .u32 (lock : Int)]] wq (SomePost wq)) := fun wq hq => by
    have := hlg wq hq
    unfold txV at this
    rw [← hv, ← hlk, ← hn1, ← hn2] at this
    exact this
  obtain ⟨ce, hce⟩ : ∃ c, c = chk t := ⟨_, rfl⟩
  have KP : Hid (∀ wq, Below w.heap.size w wq → Calls Tryd.prog 8 #[.slice none 0 0, .agg #[.int .u32 (ver : Int), .slice A1 n1 c1, .slice A2 n2 c2, .int .u32 (lock : Int)]] wq (NonePost ce wq)) := fun wq hq => by
    have := Put_no t _ _ (.slice none 0 0) wq ((h'.keep hq (Nat.le_refl _)).up hq.size) hc
    unfold txV at this
    rw [← hv, ← hlk, ← hn1, ← hn2, ← hce] at this
    exact this
  have HB : Hid (Below w.heap.size w (w.alloc (.cells #[.int .u32 (ver : Int), .slice A1 n1 c1, .slice A2 n2 c2, .int .u32 (lock : Int)] 26))) := (Below.refl _ _).alloc (Nat.le_refl _) _
  have HT := Lib.hid (tx_box (ver : Int) (lock : Int) (.slice A1 n1 c1) (.slice A2 n2 c2) w 26)
  have hcne : (ce != 0) = true := by rw [hce]; simpa using hc
  unfold txV
  rw [← hv, ← hlk, ← hn1, ← hn2]
  clear h' hlg hn1 hn2 hv hlk hc hce
  obtain ⟨d0, d1, d2, d3⟩ := HT.out _ (SB.refl _)
  go_enter Tryd.func5, Tryd.ntmps5
  go_upto_region 1 with fail
  generalize (w.alloc (.cells #[.int .u32 (ver : Int), .slice A1 n1 c1, .slice A2 n2 c2, .int .u32 (lock : Int)] 26)) = W0 at HB HT d0 d1 d2 d3 ⊢
  have hnn : (0 : Int) ≤ (n : Int) := by omega
  by_cases hbig : 1000 < n
  · have hb1 : (1000 : Int) < (n : Int) := by omega
    clear hcne
    go_wp2_with (first
      | (go_at_call 6; (with_reducible refine (KL.out _ HB.out).mono ?_); rintro e w1 ⟨β, rfl, hb1⟩; have HB1 := Lib.hid hb1; clear hb1; cases β <;> dsimp only)
      | (go_at_call 7; (with_reducible refine (KAw.out _).mono ?_); rintro e w2 ⟨rfl, hb2⟩; have HB2 := Lib.hid hb2; clear hb2; dsimp only))
    all_goals go_ret
    all_goals exact ⟨rfl, HB.out.trans ((HB1.out.mono HB.out.size).trans (HB2.out.mono (Nat.le_trans HB.out.size HB1.out.size)))⟩
  have hb1 : ¬ (1000 : Int) < (n : Int) := by omega
  have KL0 := Lib.hid (KL.out _ HB.out)
  go_upto_region 3 with (first
    | (go_at_call 6; (with_reducible refine KL0.out.mono ?_); rintro e w1 ⟨β, rfl, hb1⟩; have HB1 := Lib.hid hb1; obtain ⟨d0, d1, d2, d3⟩ := HT.out _ hb1; clear hb1; cases β <;> dsimp only)
    | (go_at_call 7; (with_reducible refine (KAw.out _).mono ?_); rintro e w2 ⟨rfl, hb2⟩; have HB2 := Lib.hid hb2; clear hb2; dsimp only))
  rotate_left
  · go_ret
    exact ⟨rfl, HB.out.trans ((HB1.out.mono HB.out.size).trans (HB2.out.mono (Nat.le_trans HB.out.size HB1.out.size)))⟩
  have HZ1 : Hid (SB W0 w1) := HB1
  have HW1 : Hid (Below w.heap.size w w1) := HB.out.trans (Below.mono HZ1.out HB.out.size)
  clear KL0 d0 d1 d2 d3
  obtain ⟨d0, d1, d2, d3⟩ := HT.out _ HZ1.out
  go_wp2_with (first
    | (go_at_call 8; (with_reducible refine (KP.out _ HW1.out).mono ?_); rintro e w3 ⟨rfl, hb3⟩; have HB3 := Lib.hid hb3; clear hb3; dsimp only)
    | (go_at_call 7; (with_reducible refine (KAw.out _).mono ?_); rintro e w4 ⟨rfl, hb4⟩; have HB4 := Lib.hid hb4; clear hb4; dsimp only))
  go_ret
  exact ⟨rfl, HW1.out.trans ((HB3.out.mono HW1.out.size).trans (HB4.out.mono (Nat.le_trans HW1.out.size HB3.out.size)))⟩
theorem back_any (t : TTx) (i o : Value) (A : Option Addr) (cap : Nat) (R : List (BitVec 8)) (w : World) (h : TxOk w w.heap.size t i o) (hR : Rd w w.heap.size A R) (hl : R.length ≤ cap) (hm : cap ≤ 9223372036854775807) (hcn : A = none → cap = 0) (hG : Glob w) :
    Calls Tryd.prog 5 #[txV t i o, .slice A R.length cap] w fun e w' => e = .returned (.bool true) ∧ Below w.heap.size w w' := by
  have hlg : ∀ wq, Below w.heap.size w wq → Calls Tryd.prog 6 #[txV t i o] wq (SomePost wq) := fun wq hq => by
    obtain ⟨hi, ho, _, _⟩ := h
    have hi' := hi
    have ho' := ho
    obtain ⟨A1, c1, rfl, _⟩ := hi
    obtain ⟨A2, c2, rfl, _⟩ := ho
    exact large_at t.ins t.outs A1 A2 c1 c2 _ _ _ _ wq rfl rfl ((hi'.keep hq (Nat.le_refl _)).up hq.size) ((ho'.keep hq (Nat.le_refl _)).up hq.size)
  by_cases hc : chk t = 0
  · exact back_ok t i o A cap R w h hR hl hm hcn hc hG hlg
  · exact back_no t i o A R.length cap w h hc hlg
set_option maxRecDepth 100000 in
theorem txBack_lifted (os : Go.Os) (started : os.Started) (H : Type) (enc : TypeId × Value → H) :
    ReturnsInHanded {} Tryd.checked os 5 .any (fun w args => (Rows.txBackSpec.pre enc Tryd.prog Tryd.f5 [] false w args ∧ laidMetH Tryd.prog laidL w) ∧ sizedMet enc Tryd.prog Tryd.f5 (OpenSpec.ofChange Rows.txBackSpec) false w args)
      (Rows.txBackSpec.post enc Tryd.prog Tryd.f5 false true false false) := by
  refine returnsInHanded_of_change_and (C := Tryd.checked) (X := fun w _ => laidMetH Tryd.prog laidL w) (fun _ _ _ hh h => h.of_heap hh) own started (by kernel_rfl) Tryd.func5
    (ChangeSpec.witness_shaped (enc := enc) (C := Tryd.checked) (os := os) (X := fun w _ => laidMetH Tryd.prog laidL w) false (World.doorLaid Tryd.prog 400 os) #[.agg #[.int .u32 0, .slice none 0 0, .slice none 0 0, .int .u32 0], .slice none 0 0] 8 rfl (World.shaped_of_RefB (by kernel_rfl) (by kernel_rfl)) (by kernel_rfl) (by kernel_rfl) (by kernel_rfl) (door_met os _)) ?_
  intro W base args ds gs before hval0 hW _ _ hL _
  have hval : ∀ (j : Nat) t v, Tryd.f5.params[j]? = some t → args[j]? = some v → Value.okWide Tryd.prog W .any base t v := hval0
  have hW' := hW
  obtain ⟨p, q, hAA, hV, rfl, hfz, hnd⟩ := hW
  have hA : DataW.TrodAll enc Tryd.prog W 0 (fun _ => true) true Tryd.f5.params.toList args.toList ds p := hAA
  rw [Tryd.params5] at hA hval
  obtain ⟨v0, vs0, d0, ds0, p0, q0, hargs, rfl, rfl, h0, r0⟩ := trodAll_cons hA
  obtain ⟨v1, vs1, d1, ds1, p1, q1, rfl, rfl, rfl, h1, r1⟩ := trodAll_cons r0
  obtain ⟨rfl, rfl, rfl⟩ := trodAll_nil r1
  obtain rfl : args = #[v0, v1] := by cases args; simp_all
  obtain ⟨rfl, rfl⟩ := trodVars_none hV
  obtain ⟨t0, i0, o0, rfl, ok0⟩ := tx_of (hval 0 26 v0 rfl rfl) h0
  obtain ⟨a1, len1, cap1, rfl⟩ := okWide_slice Tryd.underlying27 (hval 1 27 v1 rfl rfl)
  obtain ⟨zs1, w1⟩ : ∃ zs, IsRow W a1 len1 cap1 zs := by
    obtain ⟨fuel, hf⟩ := h1
    rcases open_ints Tryd.underlying27 Tryd.underlying5 (by kernel_rfl) hf with ⟨hcs, _⟩ | ⟨x, l, c, zs, hcs, _, hl, hm, hz, _, hcell, hwz⟩
    · simp [Value.cells] at hcs
      obtain ⟨rfl, rfl, rfl⟩ := hcs
      exact ⟨[], .inl ⟨rfl, rfl, rfl, rfl⟩⟩
    · simp [Value.cells] at hcs
      obtain ⟨rfl, rfl, rfl⟩ := hcs
      exact ⟨zs, .inr ⟨_, rfl, hl, hm, by simpa using hz, hcell, hwz⟩⟩
  have hn1 : a1 = none → cap1 = 0 := fun h => by
    rcases w1 with ⟨_, _, hc, _⟩ | ⟨x, hx, _⟩
    · exact hc
    · rw [hx] at h; cases h
  obtain ⟨R1, rfl, hR1, hcap1, hm1⟩ := rd_of_row w1
  have lt0 : ∀ x ∈ p0, x.block < W.heap.size := by obtain ⟨m, hm⟩ := h0; exact DataW.trod_lt m _ _ _ hm
  have lt1 : ∀ x ∈ p1, x.block < W.heap.size := by obtain ⟨m, hm⟩ := h1; exact DataW.trod_lt m _ _ _ hm
  refine (back_any t0 i0 o0 a1 cap1 R1 W ok0 hR1 hcap1 hm1 hn1 (glob_of_laid hL)).mono fun e W' ⟨he, bel⟩ => ?_
  subst he
  exact ⟨_, rfl, _, _, _, [], _, [], hW', trodAll_mk1 (shut_bool Tryd.underlying4 _), (trodAll_cons_mk (Below.trod laidOut (by kernel_rfl) (of_decide_eq_true (by kernel_rfl)) h0 bel lt0) (trodAll_cons_mk (Below.trod laidOut (by kernel_rfl) (of_decide_eq_true (by kernel_rfl)) h1 bel lt1) trodAll_mk0)), rfl, bel.frame _, fun h => by cases h⟩
theorem txBack_row : Rows.TxBackSaid :=
  OpenClaim.holds_of_wide 5 Tryd.f5 rfl rfl rfl rfl rfl rfl rfl ⟨rfl, rfl, rfl, rfl, rfl⟩ rfl rfl rfl rfl rfl (by kernel_rfl) Tryd.func5 (by kernel_rfl)
    (of_decide_eq_true (by kernel_rfl)) (by unfold Func.isWrapper; first | (rw [if_pos (by decide +kernel)]; kernel_rfl) | (rw [if_neg (by decide +kernel)]; exact ⟨rfl, rfl⟩))
    (fun os started H enc _ => txBack_lifted os started H enc)
theorem txBack_holds : Rows.TxBackCardSaid :=
  Claim7.holds_tied_plain_at .later [] [.data, .data] true (true, "c78b7ee41d6447728646f282b20a7a7c68ba27b8177adeccde4f11e30a555416") false
    txBack_row (fun _ h => by cases h) (by kernel_rfl) (fun _ h => by cases h) txBack_row_tie rfl ⟨rfl, rfl⟩ (by kernel_rfl) rfl
    (fun f fn hf hfn => by
      obtain rfl : f = 5 := Option.some.inj ((show Tryd.prog.funcNamed "spinney/spinneylaw05.TxBack" = some 5 by kernel_rfl).symm.trans hf) |>.symm
      obtain rfl : fn = Tryd.f5 := (Option.some.inj (Tryd.func5.symm.trans hfn)).symm
      exact ⟨by kernel_rfl, fun j t ht => by
        rw [Tryd.params5] at ht
        have hm : t ∈ ([26, 27] : List TypeId) := by simpa using Array.mem_of_getElem? ht
        have hall : (([26, 27] : List TypeId).all fun u => !Tryd.prog.wantsStandIn u) = true := by kernel_rfl
        exact (show Tryd.prog.wantsStandIn t = false by simpa using List.all_eq_true.1 hall t hm)⟩)
    (by kernel_rfl)
end Go.Proofs.YtnkkhmgplpkjbaaDoor
