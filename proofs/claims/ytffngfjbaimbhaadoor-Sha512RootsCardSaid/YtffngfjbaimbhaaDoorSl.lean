/- What spinneylaw02.text returns: the bytes' hex digits. -/
import Derived.Test.YtffngfjbaimbhaaDoorSj
import Derived.Outline
namespace Go.Proofs.YtffngfjbaimbhaaDoor
open Go.RowKit
set_option linter.unusedVariables false
set_option linter.unusedSimpArgs false
def dig (i : Nat) : BitVec 8 := BitVec.ofNat 8 (if i < 10 then 48 + i else 87 + i)
theorem digit_at (i : Nat) (hi : i < 16) (w : World) : (Instr.index 9 (.string { data := #[48, 49, 50, 51, 52, 53, 54, 55, 56, 57, 97, 98, 99, 100, 101, 102] }) (.int .u8 (i : Int))).run Tryd.prog w = .ok (.int .u8 (Bt (dig i))) w := by
  have : i = 0 ∨ i = 1 ∨ i = 2 ∨ i = 3 ∨ i = 4 ∨ i = 5 ∨ i = 6 ∨ i = 7 ∨ i = 8 ∨ i = 9 ∨ i = 10 ∨ i = 11 ∨ i = 12 ∨ i = 13 ∨ i = 14 ∨ i = 15 := by omega
  rcases this with rfl | rfl | rfl | rfl | rfl | rfl | rfl | rfl | rfl | rfl | rfl | rfl | rfl | rfl | rfl | rfl <;> rfl
/-- The digits of a text. -/
def hexs (R : List (BitVec 8)) : List (BitVec 8) := R.flatMap fun x => [dig (x.toNat / 16), dig (x.toNat % 16)]
theorem hexs_len (R : List (BitVec 8)) : (hexs R).length = 2 * R.length := by
  induction R with
  | nil => rfl
  | cons x R ih => simp [hexs] at ih ⊢; omega
theorem hexs_snoc (R : List (BitVec 8)) (x : BitVec 8) : hexs (R ++ [x]) = hexs R ++ [dig (x.toNat / 16), dig (x.toNat % 16)] := by simp [hexs]
theorem hexs_take (R : List (BitVec 8)) (k : Nat) (h : k < R.length) : hexs (R.take (k + 1)) = hexs (R.take k) ++ [dig ((R.getD k 0).toNat / 16), dig ((R.getD k 0).toNat % 16)] := by
  rw [List.take_succ_eq_append_getElem h, hexs_snoc]; simp [List.getD, h]
theorem Bt_tdiv (x : BitVec 8) : (Bt x).tdiv 16 % (256 : Int) = ((x.toNat / 16 : Nat) : Int) := by
  have := x.isLt
  unfold Bt
  rw [show ((x.toNat : Int).tdiv 16) = ((x.toNat / 16 : Nat) : Int) from rfl]
  omega
theorem Bt_tmod (x : BitVec 8) : (Bt x).tmod 16 % (256 : Int) = ((x.toNat % 16 : Nat) : Int) := by
  have := x.isLt
  unfold Bt
  rw [show ((x.toNat : Int).tmod 16) = ((x.toNat % 16 : Nat) : Int) from rfl]
  omega
theorem Bt_tmod' (x : BitVec 8) : (Bt x).tmod 16 = ((x.toNat % 16 : Nat) : Int) := rfl
theorem Bt_div (x : BitVec 8) : Bt x / (16 : Int) = ((x.toNat / 16 : Nat) : Int) := by unfold Bt; simp
theorem Bt_modi (x : BitVec 8) : Bt x % (16 : Int) = ((x.toNat % 16 : Nat) : Int) := by unfold Bt; simp
structure XR (w : World) (L : List (BitVec 8)) (v : Value) (wq : World) : Prop where
  bel : Below w.heap.size w wq
  own : OB wq w.heap.size v L
theorem src_two (w : World) (x y : BitVec 8) : Src22 (w.alloc (.cells #[.int .u8 (Bt x), .int .u8 (Bt y)] 5)) (some ⟨w.heap.size, 0, none⟩) 2 (vbs [x, y]) :=
  src_of_blk (Blk.new w 5 #[.int .u8 (Bt x), .int .u8 (Bt y)])
theorem two_len (x y : BitVec 8) : 2 = [x, y].length := rfl
set_option maxRecDepth 100000 in
set_option maxHeartbeats 2000000 in
theorem text_any (R : List (BitVec 8)) (b o cap : Nat) (hn : R.length ≤ 4096) (hc : R.length ≤ cap) (w : World) (hlt : b < w.heap.size)
    (hcell : ∀ j, j < R.length → w.cell? ⟨b, o + j, none⟩ = some (.int .u8 (Bt (R.getD j 0)))) :
    Calls Tryd.prog 11 #[.slice (some ⟨b, o, none⟩) R.length cap] w fun e w' => e = .returned (.string (strB (hexs R))) ∧ Below w.heap.size w w' := by
  have HC := Lib.hid hcell
  have Hlt := Lib.hid hlt
  have Hn := Lib.hid hn
  have Hc := Lib.hid hc
  obtain ⟨n, hN⟩ : ∃ n, n = R.length := ⟨_, rfl⟩
  have HN := Lib.hid hN
  rw [← hN]
  clear hcell hlt hn hc hN
  go_enter Tryd.func11, Tryd.ntmps11
  go_wp2_with fail
  go_loopw [4, 5] (fun v i wq => ∃ k : Nat, k ≤ n ∧ i = .int .i64 k ∧ XR w (hexs (R.take k)) v wq) (fun _ i _ => n - (intOf i).toNat)
  case atStart => exact ⟨0, Nat.zero_le _, rfl, Below.refl _ _, OB.nil _ _⟩
  case round =>
    obtain ⟨k, hk, rfl, hX⟩ := hrel
    have HX := Lib.hid hX
    by_cases hlt : k < n
    · have k1 : (k : Int) < n := by omega
      have k0 : (0 : Int) ≤ (k : Int) := by omega
      have kc : k < cap := by have := Hc.out; have := HN.out; omega
      have c0 : wr.cell? ⟨b, o + k, none⟩ = _ := (hX.bel.cell (p := ⟨b, o + k, none⟩) Hlt.out).trans (HC.out k (by have := HN.out; omega))
      have hst := hexs_take R k (by have := HN.out; omega)
      have hL : (hexs (R.take k)).length ≤ 8192 := by rw [hexs_len, List.length_take]; have := Hn.out; omega
      obtain ⟨L0, hL0⟩ : ∃ L0, L0 = hexs (R.take k) := ⟨_, rfl⟩
      rw [← hL0] at hst hL HX
      obtain ⟨x, hx⟩ : ∃ x, x = R.getD k 0 := ⟨_, rfl⟩
      rw [← hx] at c0 hst
      have HSt := Lib.hid hst
      have HL := Lib.hid hL
      have d1 := Bt_tdiv x
      have d2 := Bt_tmod x
      have d3 := Bt_tmod' x
      have d4 := Bt_div x
      have d5 := Bt_modi x
      obtain ⟨q, hq⟩ : ∃ q, q = x.toNat / 16 := ⟨_, rfl⟩
      obtain ⟨r, hr⟩ : ∃ r, r = x.toNat % 16 := ⟨_, rfl⟩
      have g1 := fun wz => digit_at q (by have := x.isLt; omega) wz
      have g2 := fun wz => digit_at r (by omega) wz
      rw [← hq] at d1 d4 HSt
      rw [← hr] at d2 d3 d5 HSt
      obtain ⟨y, hy⟩ : ∃ y, y = dig q := ⟨_, rfl⟩
      obtain ⟨z, hz⟩ : ∃ z, z = dig r := ⟨_, rfl⟩
      rw [← hy] at g1 HSt
      rw [← hz] at g2 HSt
      clear hX hst hL hL0 hx hq hr hy hz
      go_wp2_with fail
      refine wp_region_but (z := 17) (fun wq : World => wq.cell? ⟨b, o + k, none⟩ = some (.int .u8 (Bt x))) (by kernel_rfl) ?_
      have hS : (fun wq : World => wq.cell? ⟨b, o + k, none⟩ = some (.int .u8 (Bt x))) wr.drew := c0
      refine AnyBut.take (i := 0) (v := ?_) rfl (by kernel_rfl) (by kernel_rfl) (by kernel_rfl) (by kernel_rfl) (fun _ _ _ h => h) (Or.inl ⟨by rfl, ?_⟩) hS ?_
      rotate_left
      · (intro wq hq; go_simp; try with_reducible rfl)
      try simp only [Act.put, List.setIfInBounds_toArray, List.set_cons_zero, List.set_cons_succ, List.getElem_toArray, List.getElem_cons_zero, List.getElem_cons_succ]
      refine AnyBut.take (i := 1) (v := ?_) rfl (by kernel_rfl) (by kernel_rfl) (by kernel_rfl) (by kernel_rfl) (fun _ _ _ h => h) (Or.inl ⟨by rfl, ?_⟩) hS ?_
      rotate_left
      · (intro wq hq; go_simp; try with_reducible rfl)
      try simp only [Act.put, List.setIfInBounds_toArray, List.set_cons_zero, List.set_cons_succ, List.getElem_toArray, List.getElem_cons_zero, List.getElem_cons_succ]
      refine AnyBut.take (i := 2) (v := ?_) rfl (by kernel_rfl) (by kernel_rfl) (by kernel_rfl) (by kernel_rfl) (fun _ _ _ h => h) (Or.inl ⟨by rfl, ?_⟩) hS ?_
      rotate_left
      · (intro wq hq; go_simp; try with_reducible rfl)
      try simp only [Act.put, List.setIfInBounds_toArray, List.set_cons_zero, List.set_cons_succ, List.getElem_toArray, List.getElem_cons_zero, List.getElem_cons_succ]
      refine AnyBut.take (i := 3) (v := ?_) rfl (by kernel_rfl) (by kernel_rfl) (by kernel_rfl) (by kernel_rfl) (fun _ _ _ h => h) (Or.inl ⟨by rfl, ?_⟩) hS ?_
      rotate_left
      · (intro wq hq; go_simp; try with_reducible rfl)
      try simp only [Act.put, List.setIfInBounds_toArray, List.set_cons_zero, List.set_cons_succ, List.getElem_toArray, List.getElem_cons_zero, List.getElem_cons_succ]
      refine AnyBut.take (i := 4) (v := ?_) rfl (by kernel_rfl) (by kernel_rfl) (by kernel_rfl) (by kernel_rfl) (fun _ _ _ h => h) (Or.inl ⟨by rfl, ?_⟩) hS ?_
      rotate_left
      · (intro wq hq; go_simp; try with_reducible rfl)
      try simp only [Act.put, List.setIfInBounds_toArray, List.set_cons_zero, List.set_cons_succ, List.getElem_toArray, List.getElem_cons_zero, List.getElem_cons_succ]
      refine AnyBut.take (i := 5) (v := .int .u8 (Bt x)) rfl (by kernel_rfl) (by kernel_rfl) (by kernel_rfl) (by kernel_rfl) (fun _ _ _ h => h) (Or.inl ⟨by rfl, ?_⟩) hS ?_
      · intro wq hq
        have hq1 : wq.cell? ⟨b, o + k, none⟩ = some (.int .u8 (Bt x)) := hq
        go_simp
        try (first | with_reducible rfl | (rw [IntKind.wrap_u8']; exact d1))
      try simp only [Act.put, List.setIfInBounds_toArray, List.set_cons_zero, List.set_cons_succ, List.getElem_toArray, List.getElem_cons_zero, List.getElem_cons_succ]
      refine AnyBut.take (i := 6) (v := .int .u8 (q : Int)) rfl (by kernel_rfl) (by kernel_rfl) (by kernel_rfl) (by kernel_rfl) (fun _ _ _ h => h) (Or.inl ⟨by rfl, ?_⟩) hS ?_
      · intro wq hq
        go_simp
        try (first | with_reducible rfl | (rw [IntKind.wrap_u8']; exact d1))
      try simp only [Act.put, List.setIfInBounds_toArray, List.set_cons_zero, List.set_cons_succ, List.getElem_toArray, List.getElem_cons_zero, List.getElem_cons_succ]
      refine AnyBut.take (i := 7) (v := .int .u8 (Bt y)) rfl (by kernel_rfl) (by kernel_rfl) (by kernel_rfl) (by kernel_rfl) (fun _ _ _ h => h) (Or.inl ⟨by rfl, ?_⟩) hS ?_
      · intro wq hq
        go_simp
        try (first | with_reducible rfl | (rw [IntKind.wrap_u8']; exact d1))
      try simp only [Act.put, List.setIfInBounds_toArray, List.set_cons_zero, List.set_cons_succ, List.getElem_toArray, List.getElem_cons_zero, List.getElem_cons_succ]
      refine AnyBut.take (i := 8) (v := ?_) rfl (by kernel_rfl) (by kernel_rfl) (by kernel_rfl) (by kernel_rfl) (fun _ _ _ h => h) (Or.inl ⟨by rfl, ?_⟩) hS ?_
      rotate_left
      · (intro wq hq; go_simp; try with_reducible rfl)
      try simp only [Act.put, List.setIfInBounds_toArray, List.set_cons_zero, List.set_cons_succ, List.getElem_toArray, List.getElem_cons_zero, List.getElem_cons_succ]
      refine AnyBut.take (i := 9) (v := ?_) rfl (by kernel_rfl) (by kernel_rfl) (by kernel_rfl) (by kernel_rfl) (fun _ _ _ h => h) (Or.inl ⟨by rfl, ?_⟩) hS ?_
      rotate_left
      · (intro wq hq; go_simp; try with_reducible rfl)
      try simp only [Act.put, List.setIfInBounds_toArray, List.set_cons_zero, List.set_cons_succ, List.getElem_toArray, List.getElem_cons_zero, List.getElem_cons_succ]
      refine AnyBut.take (i := 10) (v := ?_) rfl (by kernel_rfl) (by kernel_rfl) (by kernel_rfl) (by kernel_rfl) (fun _ _ _ h => h) (Or.inl ⟨by rfl, ?_⟩) hS ?_
      rotate_left
      · (intro wq hq; go_simp; try with_reducible rfl)
      try simp only [Act.put, List.setIfInBounds_toArray, List.set_cons_zero, List.set_cons_succ, List.getElem_toArray, List.getElem_cons_zero, List.getElem_cons_succ]
      refine AnyBut.take (i := 11) (v := ?_) rfl (by kernel_rfl) (by kernel_rfl) (by kernel_rfl) (by kernel_rfl) (fun _ _ _ h => h) (Or.inl ⟨by rfl, ?_⟩) hS ?_
      rotate_left
      · (intro wq hq; go_simp; try with_reducible rfl)
      try simp only [Act.put, List.setIfInBounds_toArray, List.set_cons_zero, List.set_cons_succ, List.getElem_toArray, List.getElem_cons_zero, List.getElem_cons_succ]
      refine AnyBut.take (i := 12) (v := .int .u8 (Bt x)) rfl (by kernel_rfl) (by kernel_rfl) (by kernel_rfl) (by kernel_rfl) (fun _ _ _ h => h) (Or.inl ⟨by rfl, ?_⟩) hS ?_
      · intro wq hq
        have hq1 : wq.cell? ⟨b, o + k, none⟩ = some (.int .u8 (Bt x)) := hq
        go_simp
        try (first | with_reducible rfl | (rw [IntKind.wrap_u8']; exact d1))
      try simp only [Act.put, List.setIfInBounds_toArray, List.set_cons_zero, List.set_cons_succ, List.getElem_toArray, List.getElem_cons_zero, List.getElem_cons_succ]
      refine AnyBut.take (i := 13) (v := .int .u8 (r : Int)) rfl (by kernel_rfl) (by kernel_rfl) (by kernel_rfl) (by kernel_rfl) (fun _ _ _ h => h) (Or.inl ⟨by rfl, ?_⟩) hS ?_
      · intro wq hq
        go_simp
        try (first | with_reducible rfl | (rw [IntKind.wrap_u8']; exact d1))
      try simp only [Act.put, List.setIfInBounds_toArray, List.set_cons_zero, List.set_cons_succ, List.getElem_toArray, List.getElem_cons_zero, List.getElem_cons_succ]
      refine AnyBut.take (i := 14) (v := .int .u8 (Bt z)) rfl (by kernel_rfl) (by kernel_rfl) (by kernel_rfl) (by kernel_rfl) (fun _ _ _ h => h) (Or.inl ⟨by rfl, ?_⟩) hS ?_
      · intro wq hq
        go_simp
        try (first | with_reducible rfl | (rw [IntKind.wrap_u8']; exact d1))
      try simp only [Act.put, List.setIfInBounds_toArray, List.set_cons_zero, List.set_cons_succ, List.getElem_toArray, List.getElem_cons_zero, List.getElem_cons_succ]
      have hbw : Below w.heap.size w wr.drew := HX.out.bel.drew
      have hb2 : Below w.heap.size w ((wr.alloc (.cells #[.int .u8 (Bt y), .int .u8 (Bt z)] 5)).drew) := (HX.out.bel.alloc HX.out.bel.size _).drew
      have ho2 : OB ((wr.alloc (.cells #[.int .u8 (Bt y), .int .u8 (Bt z)] 5)).drew) w.heap.size u4 L0 := HX.out.own.alloc _
      have hs2 : Src22 (wr.alloc (.cells #[.int .u8 (Bt y), .int .u8 (Bt z)] 5)).drew (some ⟨wr.heap.size, 0, none⟩) 2 (vbs [y, z]) := src_two wr y z
      have hS2 : (fun wq : World => wq.cell? ⟨b, o + k, none⟩ = some (.int .u8 (Bt x))) ((wr.alloc (.cells #[.int .u8 (Bt y), .int .u8 (Bt z)] 5)).drew) := by
        have hbx : Below w.heap.size wr ((wr.alloc (.cells #[.int .u8 (Bt y), .int .u8 (Bt z)] 5)).drew) := ((Below.refl w.heap.size wr).alloc HX.out.bel.size _).drew
        exact (hbx.cell (p := ⟨b, o + k, none⟩) Hlt.out).trans hS
      refine AnyBut.gone (i := 15) (by kernel_rfl) rfl (by rfl) (fun K hK => ?_)
      go_simp
      refine hK _ _ (fun _ => hS2) ?_
      clear hK K hS
      try simp only [Act.put, List.setIfInBounds_toArray, List.set_cons_zero, List.set_cons_succ, List.getElem_toArray, List.getElem_cons_zero, List.getElem_cons_succ]
      have hsz : w.heap.size ≤ ((wr.alloc (.cells #[.int .u8 (Bt y), .int .u8 (Bt z)] 5)).drew).heap.size := hb2.size
      generalize (wr.alloc (.cells #[.int .u8 (Bt y), .int .u8 (Bt z)] 5)).drew = w2 at hb2 ho2 hs2 hS2 hsz ⊢
      refine AnyBut.gone (i := 16) (by kernel_rfl) rfl (by rfl) (fun K hK => ?_)
      refine wp_app (.tmp 12) (.tmp 27) rfl rfl w.heap.size u4 L0.length (vbs L0) rfl ho2 (some ⟨wr.heap.size, 0, none⟩) 2 2 (vbs [y, z]) rfl hs2 (fun h => by cases h) (by have := HL.out; omega) hsz ?_
      intro v3 w3 own3 hg3
      have hA := OB.app (M := [y, z]) ho2 hb2 hsz (Nat.le_refl _) own3 hg3
      have hb3 : Below w.heap.size w2 w3 := (Below.refl w.heap.size w2).grown hg3 hsz (fun k hk => (World.ownsRow.lt ho2 k hk).1)
      have hS : (fun wq : World => wq.cell? ⟨b, o + k, none⟩ = some (.int .u8 (Bt x))) w3 := (hb3.cell (p := ⟨b, o + k, none⟩) Hlt.out).trans hS2
      refine hK _ _ (fun _ => hS) ?_
      clear hK K own3 hg3 hs2 ho2 hb2
      have HA := Lib.hid hA
      clear hA
      try simp only [Act.put, List.setIfInBounds_toArray, List.set_cons_zero, List.set_cons_succ, List.getElem_toArray, List.getElem_cons_zero, List.getElem_cons_succ]
      refine AnyBut.gone (i := 17) (by kernel_rfl) rfl (by rfl) (fun K hK => ?_)
      go_simp
      refine hK _ _ (fun h => absurd rfl h) ?_
      clear hK K
      refine AnyBut.done (by kernel_rfl) ?_ _
      have hn4 : n ≤ 4096 := by rw [HN.out]; exact Hn.out
      have hk4 : (k : Int) < 4096 := by omega
      clear d1 d2 d3 d4 d5
      go_wp2_with fail
      go_roundw
      case rel => exact ⟨k + 1, by omega, by go_num, HA.out.2, by rw [HSt.out]; exact HA.out.1⟩
      case measure => simp [intOf]; omega
    · obtain rfl : k = n := by omega
      have e32 : R.take k = R := List.take_of_length_le (by rw [← HN.out]; exact Nat.le_refl _)
      rw [e32] at HX
      obtain ⟨A, cp, rfl, hR2, h1, h2, h3⟩ := HX.out.own.rd
      obtain ⟨n, hn⟩ : ∃ n, n = (hexs R).length := ⟨_, rfl⟩
      have hcv := run_conv_slice (P := Tryd.prog) wr Tryd.underlying22 Tryd.underlying5 Tryd.underlying9 A (hexs R) n cp hn _ hR2
      have HB := Lib.hid HX.out.bel
      rw [← hn]
      clear h1 h2 h3 hR2 HX hn hX
      go_wp2
      go_ret
      exact ⟨rfl, HB.out⟩
end Go.Proofs.YtffngfjbaimbhaaDoor
