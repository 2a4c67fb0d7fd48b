/- What header.Text and the document's own Text return: the digits of a hash, those of its last byte first. -/
import Derived.Test.YtefiacnpbkancaaDoorHj
import Derived.Test.YtefiacnpbkancaaDoorXe
namespace Go.Proofs.YtefiacnpbkancaaDoor
open Go.RowKit
set_option linter.unusedVariables false
set_option linter.unusedSimpArgs false
set_option maxRecDepth 100000
theorem i24w {S : List (BitVec 8)} (h : S.length = 32) : (Tryd.prog.info? 24).map (·.size) = some (vbs S).length := i25 (by rw [vbs_len]; exact h)
theorem slice24z (b : Nat) (w : World) : (Instr.sliceAt 24 (.pointer (some ⟨b, 0, none⟩)) none none none).run Tryd.prog w = .ok (.slice (some ⟨b, 0, none⟩) 32 32) w := slice55all b 0 w
set_option maxHeartbeats 4000000 in
theorem htext_any (R : List (BitVec 8)) (hR : R.length = 32) (w : World) :
    Calls Tryd.prog 11 #[.agg (vbs R).toArray] w fun e w' => e = .returned (.string (strB (hexs R.reverse))) ∧ Below w.heap.size w w' := by
  have h0 := Blk.new w 24 (vbs R).toArray
  rw [List.toList_toArray] at h0
  have KR := Lib.hid (reverse_any w.heap.size 24 R _ h0 hR)
  have hl : R.reverse.length = 32 := by simp [hR]
  have KT := Lib.hid (fun wq => text_any R.reverse hl wq)
  have HB : Hid (Below w.heap.size w (w.alloc (.cells (vbs R).toArray 24))) := (Below.refl _ _).alloc (Nat.le_refl _) _
  obtain ⟨S, hS⟩ : ∃ S, S = R.reverse := ⟨_, rfl⟩
  rw [← hS] at KR KT hl ⊢
  have HI := Lib.hid (i24w hl)
  have hs24 := slice24z w.heap.size
  clear hS h0
  go_enter Tryd.func11, Tryd.ntmps11
  go_wp2_with (first
    | (go_at_call 21; (with_reducible refine KR.out.mono ?_); rintro e w1 ⟨rfl, hq⟩; have HQ := Lib.hid hq; clear hq; dsimp only)
    | (with_reducible refine wpList_load_mid rfl 24 (.tmp 1) rfl w.heap.size 0 rfl (vbs S) _ HQ.out.blk.range Tryd.underlying24 rfl HI.out ?_)
    | (go_at_call 22; (with_reducible refine (KT.out _).mono ?_); rintro e w2 ⟨rfl, hb2⟩; have HB2 := Lib.hid hb2; clear hb2; dsimp only))
  go_ret
  have hb1 : Below w.heap.size w w1 := HB.out.grown HQ.out.gr (by simp) (fun k hk => by cases hk; exact Nat.le_refl _)
  exact ⟨rfl, hb1.trans (HB2.out.mono hb1.size)⟩
theorem digs_next {R : List (BitVec 8)} (hR : R.length = 32) {k : Nat} (hk : k < 32) : hexs (R.reverse.take (k + 1)) = hexs (R.reverse.take k) ++ [dig ((R.getD (31 - k) 0).toNat / 16), dig ((R.getD (31 - k) 0).toNat % 16)] := by
  have hl : R.reverse.length = 32 := by simp [hR]
  rw [List.take_succ_eq_append_getElem (by omega), hexs_snoc]
  have e : R.getD (31 - k) 0 = R.reverse[k]'(by omega) := by
    rw [List.getElem_reverse]
    simp [List.getD, hR, show 31 - k < 32 by omega]
  rw [e]
theorem two_len (x y : BitVec 8) : [x, y].length = 2 := rfl
theorem src_two (w : World) (x y : BitVec 8) : Src22 (w.alloc (.cells #[.int .u8 (Bt x), .int .u8 (Bt y)] 5)) (some ⟨w.heap.size, 0, none⟩) 2 (vbs [x, y]) :=
  src_of_blk (R := [x, y]) (Blk.new w 5 #[.int .u8 (Bt x), .int .u8 (Bt y)])
set_option maxHeartbeats 4000000 in
theorem hrtext_any (R : List (BitVec 8)) (hR : R.length = 32) (w : World) :
    Calls Tryd.prog 12 #[.agg (vbs R).toArray] w fun e w' => e = .returned (.string (strB (hexs R.reverse))) ∧ Below w.heap.size w w' := by
  have hb0 : Below w.heap.size w (w.alloc (Obj.cells (vbs R).toArray 24)) := (Below.refl _ _).alloc (Nat.le_refl _) _
  have h0 := Blk.new w 24 (vbs R).toArray
  rw [List.toList_toArray] at h0
  have HST := Lib.hid (⟨hb0, h0, OB.nil _ _⟩ : XR w R [] (.slice none 0 0) (w.alloc (Obj.cells (vbs R).toArray 24)))
  have HR := Lib.hid hR
  clear hb0 h0 hR
  go_enter Tryd.func12, Tryd.ntmps12
  go_wp2_with fail
  generalize w.alloc (Obj.cells (vbs R).toArray 24) = w3 at HST ⊢
  go_loopw [4, 5] (fun v i wq => ∃ k : Nat, k ≤ 32 ∧ i = .int .i64 (31 - (k : Int)) ∧ XR w R (hexs (R.reverse.take k)) v wq) (fun _ i _ => (intOf i + 1).toNat)
  case atStart => exact ⟨0, Nat.zero_le _, by simp, HST.out⟩
  case round =>
    obtain ⟨k, hk, rfl, hX⟩ := hrel
    have HX := Lib.hid hX
    clear HST hX
    by_cases hlt : k < 32
    · have k0 : (31 : Int) - (k : Int) ≥ 0 := by omega
      have k0' : (0 : Int) ≤ 31 - (k : Int) := by omega
      have k1 : (31 : Int) - (k : Int) < 32 := by omega
      have kn : ((31 : Int) - (k : Int)).toNat = 31 - k := by omega
      have hnx := digs_next HR.out hlt
      have hL2 : (hexs (R.reverse.take k)).length = 2 * k := by rw [hexs_len, List.length_take, List.length_reverse, HR.out]; omega
      have hcc := vbs_at (l := R) (j := 31 - k) (by rw [HR.out]; omega)
      obtain ⟨x, hx⟩ : ∃ x, x = R.getD (31 - k) 0 := ⟨_, rfl⟩
      rw [← hx] at hnx hcc
      have d1 := Bt_tdiv x
      have d2 := Bt_tmod x
      have d3 := Bt_tmod' x
      rw [← IntKind.wrap_u8'] at d1 d2
      obtain ⟨q, hq⟩ : ∃ q, q = x.toNat / 16 := ⟨_, rfl⟩
      obtain ⟨r, hr⟩ : ∃ r, r = x.toNat % 16 := ⟨_, rfl⟩
      rw [← hq] at d1 hnx
      rw [← hr] at d2 d3 hnx
      have g1 := fun wz => digit_at q (by have := x.isLt; omega) wz
      have g2 := fun wz => digit_at r (by omega) wz
      have HNX := Lib.hid hnx
      obtain ⟨L0, hL0⟩ : ∃ L0, L0 = hexs (R.reverse.take k) := ⟨_, rfl⟩
      rw [← hL0] at HX hL2 HNX
      have HL2 := Lib.hid hL2
      have E0 : Hid (∀ wq, Blk wq w.heap.size 24 (vbs R) → wq.cell? ⟨w.heap.size, 31 - k, none⟩ = some (.int .u8 (Bt x))) := fun wq hq => hq.cell hcc
      clear hx hq hr hL0 hcc hnx hL2
      go_wp2_with fail
      refine wp_region_but (z := 999) (fun wq => Blk wq w.heap.size 24 (vbs R)) (by kernel_rfl) ?_
      have hS : Blk wr.drew w.heap.size 24 (vbs R) := HX.out.b0
      have HXd : Hid (XR w R L0 u4 wr.drew) := (⟨HX.out.bel.drew, HX.out.b0, HX.out.own⟩ : XR w R L0 u4 wr.drew)
      generalize wr.drew = Wd at hS HXd ⊢
      refine AnyBut.takeE (i := 0) (v := ?_) rfl (by kernel_rfl) (by kernel_rfl) (by kernel_rfl) (by kernel_rfl) (fun _ _ _ h => h) (Or.inl ⟨by rfl, ?_⟩) hS ?_
      rotate_left
      · (intro wq hq; go_simp; try with_reducible rfl)
      try simp only [Act.put, List.setIfInBounds_toArray, List.set_cons_zero, List.set_cons_succ, List.getElem_toArray, List.getElem_cons_zero, List.getElem_cons_succ]
      refine AnyBut.takeE (i := 1) (v := ?_) rfl (by kernel_rfl) (by kernel_rfl) (by kernel_rfl) (by kernel_rfl) (fun _ _ _ h => h) (Or.inl ⟨by rfl, ?_⟩) hS ?_
      rotate_left
      · (intro wq hq; go_simp; try with_reducible rfl)
      try simp only [Act.put, List.setIfInBounds_toArray, List.set_cons_zero, List.set_cons_succ, List.getElem_toArray, List.getElem_cons_zero, List.getElem_cons_succ]
      refine AnyBut.takeE (i := 2) (v := ?_) rfl (by kernel_rfl) (by kernel_rfl) (by kernel_rfl) (by kernel_rfl) (fun _ _ _ h => h) (Or.inl ⟨by rfl, ?_⟩) hS ?_
      rotate_left
      · (intro wq hq; go_simp; try with_reducible rfl)
      try simp only [Act.put, List.setIfInBounds_toArray, List.set_cons_zero, List.set_cons_succ, List.getElem_toArray, List.getElem_cons_zero, List.getElem_cons_succ]
      refine AnyBut.takeE (i := 3) (v := .pointer (some ⟨w.heap.size, 31 - k, none⟩)) rfl (by kernel_rfl) (by kernel_rfl) (by kernel_rfl) (by kernel_rfl) (fun _ _ _ h => h) (Or.inl ⟨by rfl, ?_⟩) hS ?_
      · intro wq hq
        go_simp
      try simp only [Act.put, List.setIfInBounds_toArray, List.set_cons_zero, List.set_cons_succ, List.getElem_toArray, List.getElem_cons_zero, List.getElem_cons_succ]
      refine AnyBut.takeE (i := 4) (v := .int .u8 (Bt x)) rfl (by kernel_rfl) (by kernel_rfl) (by kernel_rfl) (by kernel_rfl) (fun _ _ _ h => h) (Or.inl ⟨by rfl, ?_⟩) hS ?_
      · intro wq hq
        have dq0 := E0.out wq hq
        go_simp
      try simp only [Act.put, List.setIfInBounds_toArray, List.set_cons_zero, List.set_cons_succ, List.getElem_toArray, List.getElem_cons_zero, List.getElem_cons_succ]
      refine AnyBut.takeE (i := 5) (v := .int .u8 (q : Int)) rfl (by kernel_rfl) (by kernel_rfl) (by kernel_rfl) (by kernel_rfl) (fun _ _ _ h => h) (Or.inl ⟨by rfl, ?_⟩) hS ?_
      · intro wq hq
        go_simp
      try simp only [Act.put, List.setIfInBounds_toArray, List.set_cons_zero, List.set_cons_succ, List.getElem_toArray, List.getElem_cons_zero, List.getElem_cons_succ]
      refine AnyBut.takeE (i := 6) (v := .int .u8 (Bt (dig q))) rfl (by kernel_rfl) (by kernel_rfl) (by kernel_rfl) (by kernel_rfl) (fun _ _ _ h => h) (Or.inl ⟨by rfl, ?_⟩) hS ?_
      · intro wq hq
        have dg := g1 wq
        go_simp
      try simp only [Act.put, List.setIfInBounds_toArray, List.set_cons_zero, List.set_cons_succ, List.getElem_toArray, List.getElem_cons_zero, List.getElem_cons_succ]
      refine AnyBut.takeE (i := 7) (v := ?_) rfl (by kernel_rfl) (by kernel_rfl) (by kernel_rfl) (by kernel_rfl) (fun _ _ _ h => h) (Or.inl ⟨by rfl, ?_⟩) hS ?_
      rotate_left
      · (intro wq hq; go_simp; try with_reducible rfl)
      try simp only [Act.put, List.setIfInBounds_toArray, List.set_cons_zero, List.set_cons_succ, List.getElem_toArray, List.getElem_cons_zero, List.getElem_cons_succ]
      refine AnyBut.takeE (i := 8) (v := ?_) rfl (by kernel_rfl) (by kernel_rfl) (by kernel_rfl) (by kernel_rfl) (fun _ _ _ h => h) (Or.inl ⟨by rfl, ?_⟩) hS ?_
      rotate_left
      · (intro wq hq; go_simp; try with_reducible rfl)
      try simp only [Act.put, List.setIfInBounds_toArray, List.set_cons_zero, List.set_cons_succ, List.getElem_toArray, List.getElem_cons_zero, List.getElem_cons_succ]
      refine AnyBut.takeE (i := 9) (v := .pointer (some ⟨w.heap.size, 31 - k, none⟩)) rfl (by kernel_rfl) (by kernel_rfl) (by kernel_rfl) (by kernel_rfl) (fun _ _ _ h => h) (Or.inl ⟨by rfl, ?_⟩) hS ?_
      · intro wq hq
        go_simp
      try simp only [Act.put, List.setIfInBounds_toArray, List.set_cons_zero, List.set_cons_succ, List.getElem_toArray, List.getElem_cons_zero, List.getElem_cons_succ]
      refine AnyBut.takeE (i := 10) (v := .int .u8 (Bt x)) rfl (by kernel_rfl) (by kernel_rfl) (by kernel_rfl) (by kernel_rfl) (fun _ _ _ h => h) (Or.inl ⟨by rfl, ?_⟩) hS ?_
      · intro wq hq
        have dq0 := E0.out wq hq
        go_simp
      try simp only [Act.put, List.setIfInBounds_toArray, List.set_cons_zero, List.set_cons_succ, List.getElem_toArray, List.getElem_cons_zero, List.getElem_cons_succ]
      refine AnyBut.takeE (i := 11) (v := .int .u8 (r : Int)) rfl (by kernel_rfl) (by kernel_rfl) (by kernel_rfl) (by kernel_rfl) (fun _ _ _ h => h) (Or.inl ⟨by rfl, ?_⟩) hS ?_
      · intro wq hq
        go_simp
      try simp only [Act.put, List.setIfInBounds_toArray, List.set_cons_zero, List.set_cons_succ, List.getElem_toArray, List.getElem_cons_zero, List.getElem_cons_succ]
      refine AnyBut.takeE (i := 12) (v := .int .u8 (Bt (dig r))) rfl (by kernel_rfl) (by kernel_rfl) (by kernel_rfl) (by kernel_rfl) (fun _ _ _ h => h) (Or.inl ⟨by rfl, ?_⟩) hS ?_
      · intro wq hq
        have dg := g2 wq
        go_simp
      try simp only [Act.put, List.setIfInBounds_toArray, List.set_cons_zero, List.set_cons_succ, List.getElem_toArray, List.getElem_cons_zero, List.getElem_cons_succ]
      have hb5 := HXd.out.bel.alloc HXd.out.bel.size (.cells #[.int .u8 (Bt (dig q)), .int .u8 (Bt (dig r))] 5)
      have hS5 : Blk (Wd.alloc (.cells #[.int .u8 (Bt (dig q)), .int .u8 (Bt (dig r))] 5)) w.heap.size 24 (vbs R) := hS.alloc _
      have hs2 := src_two Wd (dig q) (dig r)
      have ho5 := HXd.out.own.alloc (.cells #[.int .u8 (Bt (dig q)), .int .u8 (Bt (dig r))] 5)
      refine AnyBut.gone (i := 13) (by kernel_rfl) rfl (by rfl) (fun K hK => ?_)
      go_simp
      refine hK _ _ (fun _ => hS5) ?_
      clear hK K
      try simp only [Act.put, List.setIfInBounds_toArray, List.set_cons_zero, List.set_cons_succ, List.getElem_toArray, List.getElem_cons_zero, List.getElem_cons_succ]
      generalize Wd.alloc (.cells #[.int .u8 (Bt (dig q)), .int .u8 (Bt (dig r))] 5) = w5 at hb5 hS5 hs2 ho5 ⊢
      refine AnyBut.gone (i := 14) (by kernel_rfl) rfl (by rfl) (fun K hK => ?_)
      refine wp_app (.tmp 10) (.tmp 23) rfl rfl (w.heap.size + 1) u4 L0.length (vbs L0) rfl ho5 (some ⟨Wd.heap.size, 0, none⟩) 2 2 (vbs [dig q, dig r]) rfl hs2 (fun h => by cases h) (by have := HL2.out; omega) hS5.lt ?_
      intro v6 w6 h2 h3
      have hA := OB.app (M := [dig q, dig r]) ho5 hb5 hS5.lt (Nat.le_succ _) h2 h3
      have hS6 : Blk w6 w.heap.size 24 (vbs R) := hS5.grown h3 (fun e => by have := (World.ownsRow.lt ho5 _ e.symm).1; omega)
      refine hK _ _ (fun _ => hS6) ?_
      clear hK K
      try simp only [Act.put, List.setIfInBounds_toArray, List.set_cons_zero, List.set_cons_succ, List.getElem_toArray, List.getElem_cons_zero, List.getElem_cons_succ]
      have HX6 : Hid (XR w R (L0 ++ [dig q, dig r]) v6 w6) := (⟨hA.2, hS6, hA.1⟩ : XR w R (L0 ++ [dig q, dig r]) v6 w6)
      have hS := hS6
      clear hA h2 h3 ho5 hb5 hs2 hS5 hS6 d1 d2 d3 g1 g2
      refine AnyBut.gone (i := 15) (by kernel_rfl) rfl (by rfl) (fun K hK => ?_)
      go_simp
      refine hK _ _ (fun _ => hS) ?_
      clear hK K
      refine AnyBut.done (by kernel_rfl) ?_ _
      try dsimp only [Exit.then]
      have m2 : IntKind.i64.wrap (31 - (k : Int) - 1) = 31 - (k : Int) - 1 := IntWalk.i64_in _ (by omega)
      clear kn k1 k0' hS
      go_wp2_with fail
      go_roundw
      case rel => exact ⟨k + 1, by omega, by go_num, by rw [HNX.out]; exact HX6.out⟩
      case measure => simp [intOf]; omega
    · obtain rfl : k = 32 := by omega
      have e32 : R.reverse.take 32 = R.reverse := List.take_of_length_le (by rw [List.length_reverse, HR.out]; omega)
      rw [e32] at HX
      obtain ⟨A, cap, rfl, hR2, h1, h2, h3⟩ := HX.out.own.rd
      obtain ⟨n, hn⟩ : ∃ n, n = (hexs R.reverse).length := ⟨_, rfl⟩
      have hcv := run_conv_slice (P := Tryd.prog) wr Tryd.underlying27 Tryd.underlying5 Tryd.underlying9 A (hexs R.reverse) n cap hn _ hR2
      have HB := Lib.hid HX.out.bel
      have ec : ((32 : Nat) : Int) = 32 := rfl
      rw [← hn, ec]
      clear h1 h2 h3 hR2 HX hn
      go_wp2
      go_ret
      exact ⟨rfl, HB.out⟩
end Go.Proofs.YtefiacnpbkancaaDoor
