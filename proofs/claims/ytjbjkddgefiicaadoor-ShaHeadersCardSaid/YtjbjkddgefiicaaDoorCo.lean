/- The law ShaHeaders returns true for every chunk and every rest, in a world whose two tables are as laid. -/
import Derived.Test.YtjbjkddgefiicaaDoorCm
namespace Go.Proofs.YtjbjkddgefiicaaDoor
open Go.RowKit
set_option linter.unusedVariables false
set_option linter.unusedSimpArgs false
theorem rd_grown {w w' : World} {row : Option Nat} {B : Nat} {A : Option Addr} {R : List (BitVec 8)} (h : Rd w B A R) (hg : w.grownBy w' row) (hne : ∀ a : Addr, A = some a → some a.block ≠ row) : Rd w' w'.heap.size A R := fun hp => by
  obtain ⟨b, o, e, hlt, hc⟩ := h hp
  have h0 := hc 0 hp
  have hl := World.block_lt_of_cell? w _ h0
  exact ⟨b, o, e, Nat.lt_of_lt_of_le hl hg.size, fun j hj => hg.cell (hc j hj) (by show some b ≠ row; exact hne ⟨b, o, none⟩ e)⟩
structure HQ (w : World) (C R : List (BitVec 8)) (A : Option Addr) (wq : World) : Prop where
  bel : Below w.heap.size w wq
  c : Blk wq w.heap.size 28 (vbs C)
theorem HQ.below {w : World} {C R : List (BitVec 8)} {A : Option Addr} {wq w' : World} (h : HQ w C R A wq) (hb : Below wq.heap.size wq w') : HQ w C R A w' :=
  ⟨h.bel.trans (hb.mono h.bel.size), h.c.below hb h.c.lt⟩
set_option maxRecDepth 100000 in
set_option maxHeartbeats 4000000 in
theorem headers_gen (C : List (BitVec 8)) (hC : C.length = 64) (s : St) (D2 : List (BitVec 8)) (hD2 : D2.length = 32) (A : Option Addr) (cap : Nat) (R : List (BitVec 8)) (w : World) (hR : Rd w w.heap.size A R) (hcap : R.length ≤ cap) (hA : A = none → cap = 0) (hl : R.length ≤ 3000)
    (h16 : ∀ w', Below w.heap.size w w' → Calls Tryd.prog 16 #[.agg (vbs C).toArray] w' fun e w'' => e = .returned (.agg (mdv s true).toArray) ∧ Below w'.heap.size w' w'')
    (h17 : ∀ (A' : Option Addr) (c' : Nat) w', Below w.heap.size w w' → Rd w' w'.heap.size A' R → R.length ≤ c' → Calls Tryd.prog 17 #[.agg (mdv s true).toArray, .slice A' R.length c'] w' fun e w'' => e = .returned (.agg (vbs D2).toArray) ∧ Below w'.heap.size w' w'')
    (h15 : ∀ (A' : Option Addr) (c' : Nat) w', Below w.heap.size w w' → Rd w' w'.heap.size A' (C ++ R) → (C ++ R).length ≤ c' → (A' = none → c' = 0) → Calls Tryd.prog 15 #[.slice A' (C ++ R).length c'] w' fun e w'' => e = .returned (.agg (vbs D2).toArray) ∧ Below w'.heap.size w' w'')
    (hAw : ∀ w', Below w.heap.size w w' → Calls Tryd.prog 11 #[] w' fun e w'' => e = .returned (.bool true) ∧ Below w'.heap.size w' w'') :
    Calls Tryd.prog 4 #[.agg (vbs C).toArray, .slice A R.length cap] w fun e w' => e = .returned (.bool true) ∧ Below w.heap.size w w' := by
  have hn : ¬ (3000 : Int) < (R.length : Int) := by omega
  have hb0 : Below w.heap.size w (w.alloc (Obj.cells (vbs C).toArray 28)) := (Below.refl _ _).alloc (Nat.le_refl _) _
  have hq0 : HQ w C R A (w.alloc (Obj.cells (vbs C).toArray 28)) := ⟨hb0, by
    have := Blk.new w 28 (vbs C).toArray
    rwa [List.toList_toArray] at this⟩
  have HQ0 := Lib.hid hq0
  have HA := Lib.hid hA
  have HRd := Lib.hid hR
  have HCl := Lib.hid hC
  have K15 := Lib.hid h15
  have K16 := Lib.hid h16
  have K17 := Lib.hid h17
  have KA := Lib.hid hAw
  have eD2 := fun wq => eql_same D2 hD2 wq
  have hs0 : Hid (w.heap.size + 1 ≤ (w.alloc (Obj.cells (vbs C).toArray 28)).heap.size) := by show w.heap.size + 1 ≤ _; simp
  have HNl := Lib.hid hl
  have HCp := Lib.hid hcap
  clear hR hA hb0 hq0 h15 h16 h17 hAw hD2 hC hcap
  go_enter Tryd.func4, Tryd.ntmps4
  go_wp2_with fail
  generalize w.alloc (Obj.cells (vbs C).toArray 28) = w1 at HQ0 hs0 ⊢
  go_loopw [5, 6] (fun v i wq => ∃ j : Nat, j ≤ 64 ∧ i = .int .i64 j ∧ HQ w C R A wq ∧ w.heap.size + 1 ≤ wq.heap.size ∧ OB wq (w.heap.size + 1) v (C.take j)) (fun _ i _ => 64 - (intOf i).toNat)
  case atStart => exact ⟨0, Nat.zero_le _, rfl, HQ0.out, hs0.out, OB.nil _ _⟩
  case round =>
    obtain ⟨j, hj, rfl, hX, hs, ho⟩ := hrel
    clear HQ0 hs0
    by_cases hj64 : j < 64
    · have j1 : (j : Int) < 64 := by omega
      have j0 : (0 : Int) ≤ (j : Int) := by omega
      have c0 := hX.c.cell (vbs_at (l := C) (j := j) (by rw [HCl.out]; omega))
      obtain ⟨x, hx⟩ : ∃ x, x = C.getD j 0 := ⟨_, rfl⟩
      have Hx := Lib.hid hx
      rw [← hx] at c0
      clear hx
      have HX := Lib.hid hX
      have HO := Lib.hid (ho.alloc (.cells #[.int .u8 (Bt x)] 5))
      have hs1 := Lib.hid (src_one wr x)
      have hB2 := Lib.hid (hX.bel.alloc hX.bel.size (.cells #[.int .u8 (Bt x)] 5))
      have hBs := Lib.hid (show w.heap.size + 1 ≤ (wr.alloc (.cells #[.int .u8 (Bt x)] 5)).heap.size from Nat.le_trans hs (by simp))
      have hLn : Hid ((C.take j).length + [x].length ≤ 140737488355328) := by
        show (C.take j).length + [x].length ≤ _
        rw [List.length_take]; simp; omega
      clear hX ho
      go_upto_region 6 with (refine wpList_push (o := ⟨some 21, _, _, _, _, _⟩) rfl (.tmp 16) (.tmp 20) rfl rfl (w.heap.size + 1) _ (C.take j) [x] rfl HO.out (some ⟨wr.heap.size, 0, none⟩) 1 1 rfl (one_len _) hs1.out (fun h => by cases h) hLn.out hB2.out hBs.out (Nat.le_succ _) ?_; intro v' w' h1 h2 h3)
      have e : C.take (j + 1) = C.take j ++ [x] := by
        rw [List.take_succ_eq_append_getElem (by rw [HCl.out]; omega), Hx.out]
        simp [List.getD, HCl.out, hj64]
      rw [← e] at h1
      have hX' : HQ w C R A w' := ⟨h2, (HX.out.c.alloc _).below h3 (by omega)⟩
      have HX' := Lib.hid hX'
      have H1 := Lib.hid h1
      have H3 := Lib.hid (Nat.le_trans hBs.out h3.size)
      clear hX' h1 h2 h3 e HO hs1 hB2 hBs hLn c0
      go_wp2_with fail
      go_roundw
      case rel => exact ⟨j + 1, by omega, by simp, HX'.out, H3.out, H1.out⟩
      case measure => simp [intOf]; omega
    · obtain rfl : j = 64 := by omega
      have e64 : C.take 64 = C := List.take_of_length_le (by rw [HCl.out]; omega)
      rw [e64] at ho
      have HXb := Lib.hid hX
      have HOb := Lib.hid ho
      have hbW : Below wr.heap.size wr (wr.alloc (Obj.cells #[] 5)) := (Below.refl _ _).alloc (Nat.le_refl _) _
      have HO0 := Lib.hid (show OB (wr.alloc (Obj.cells #[] 5)) wr.heap.size (.slice (some ⟨wr.heap.size, 0, none⟩) 0 0) [] from owns_empty wr wr.heap.size (Nat.le_refl _))
      have HS0 := Lib.hid (src_of_rd (up_to HRd.out (hX.bel.trans (hbW.mono hX.bel.size)) (Nat.le_trans hX.bel.size hbW.size)))
      have HLen : Hid (([] : List (BitVec 8)).length + R.length ≤ 140737488355328) := by show ([] : List (BitVec 8)).length + R.length ≤ _; have := HNl.out; simp; omega
      have HBs := Lib.hid hbW.size
      have HBW := Lib.hid hbW
      clear hX ho e64 hbW
      go_upto_region 9 with (refine wpList_push (o := ⟨some 24, _, _, _, _, _⟩) rfl (.tmp 22) (.tmp 23) rfl rfl wr.heap.size _ [] R rfl HO0.out A R.length cap rfl rfl HS0.out HA.out HLen.out HBW.out HBs.out (Nat.le_refl _) ?_; intro v3 w3 ho3 hb3 hb3')
      rw [List.nil_append] at ho3
      obtain ⟨A3, c3, rfl, hrd3, hl3, hm3, hn3⟩ := ho3.rd
      have hX3 := HXb.out.below hb3
      have ho4 : OB w3 (w.heap.size + 1) u5 C := OB.below (B' := 0) HOb.out hb3
      obtain ⟨A5, c5, rfl, hrd5, hl5, hm5, hn5⟩ := ho4.rd
      have HR28 := Lib.hid hX3.c.range
      have L16 : Hid (Calls Tryd.prog 16 #[.agg (vbs C).toArray] w3 fun e w'' => e = .returned (.agg (mdv s true).toArray) ∧ Below w3.heap.size w3 w'') := K16.out w3 hX3.bel
      have L17 : Hid (∀ w', Below w3.heap.size w3 w' → Calls Tryd.prog 17 #[.agg (mdv s true).toArray, .slice A3 R.length c3] w' fun e w'' => e = .returned (.agg (vbs D2).toArray) ∧ Below w'.heap.size w' w'') := fun w' hb => K17.out A3 c3 w' (hX3.bel.trans (hb.mono hX3.bel.size)) (up_to hrd3 hb hb.size) hl3
      have LA : Hid (∀ w', Below w3.heap.size w3 w' → Calls Tryd.prog 11 #[] w' fun e w'' => e = .returned (.bool true) ∧ Below w'.heap.size w' w'') := fun w' hb => KA.out w' (hX3.bel.trans (hb.mono hX3.bel.size))
      have LC1 : Hid (∀ w', Below w3.heap.size w3 w' → (convert 22 9 (.slice A3 R.length c3)).run Tryd.prog w' = .ok (.string (strB R)) w') := fun w' hb => run_conv_slice w' Tryd.underlying22 Tryd.underlying5 Tryd.underlying9 A3 R R.length c3 rfl _ (up_to hrd3 hb hb.size)
      have LC2 : Hid (∀ w', Below w3.heap.size w3 w' → (convert 22 9 (.slice A R.length cap)).run Tryd.prog w' = .ok (.string (strB R)) w') := fun w' hb => run_conv_slice w' Tryd.underlying22 Tryd.underlying5 Tryd.underlying9 A R R.length cap rfl _ (up_to HRd.out (hX3.bel.trans (hb.mono hX3.bel.size)) (Nat.le_trans hX3.bel.size hb.size))
      have LO : Hid (∀ w', Below w3.heap.size w3 w' → OB w' (w.heap.size + 1) (.slice A5 C.length c5) C) := fun w' hb => OB.below (B' := 0) ho4 hb
      have LS : Hid (∀ w', Below w3.heap.size w3 w' → Src22 w' A R.length (vbs R)) := fun w' hb => src_of_rd (up_to HRd.out (hX3.bel.trans (hb.mono hX3.bel.size)) (Nat.le_trans hX3.bel.size hb.size))
      have hg5 : ∀ a : Addr, A5 = some a → w.heap.size + 1 ≤ a.block ∧ a.block < wr.heap.size := fun a ha => by
        subst ha; exact World.ownsRow.lt HOb.out a.block rfl
      have hg3 : ∀ a : Addr, A3 = some a → wr.heap.size ≤ a.block := fun a ha => by
        subst ha; exact (World.ownsRow.lt ho3 a.block rfl).1
      have hR3 : Rd w3 w3.heap.size A3 R := hrd3
      obtain ⟨N, hN⟩ : ∃ N, N = (C ++ R).length := ⟨_, rfl⟩
      have HNN := Lib.hid hN
      have P6 : Hid (∀ v6 w5 w6, Below w3.heap.size w3 w5 → w6.ownsRow (w.heap.size + 1) 5 1 v6 (C.length + R.length) (vbs C ++ vbs R) → w5.grownBy w6 (Value.ownBlock (.slice A5 C.length c5)) →
          ∃ A6 c6, v6 = .slice A6 N c6 ∧ Rd w6 w6.heap.size A6 (C ++ R) ∧ (C ++ R).length ≤ c6 ∧ (A6 = none → c6 = 0) ∧ Below w.heap.size w w6 ∧ Rd w6 w6.heap.size A R ∧ Rd w6 w6.heap.size A3 R) := fun v6 w5 w6 hb5 own6 hg6 => by
        have ob6 : OB w6 (w.heap.size + 1) v6 (C ++ R) := by
          unfold OB
          rw [List.length_append, show vbs (C ++ R) = vbs C ++ vbs R by simp [vbs]]
          exact own6
        obtain ⟨A6, c6, e6, r6, l6, _, n6⟩ := ob6.rd
        have b5 : Below w.heap.size w w5 := hX3.bel.trans (hb5.mono hX3.bel.size)
        have row5 : ∀ k, Value.ownBlock (.slice A5 C.length c5) = some k → w.heap.size + 1 ≤ k ∧ k < wr.heap.size := fun k hk => by
          cases hA5 : A5 with
          | none => rw [hA5] at hk; cases hk
          | some a => rw [hA5] at hk; obtain rfl : a.block = k := by simpa [Value.ownBlock] using hk
                      exact hg5 a hA5
        refine ⟨A6, c6, by rw [e6, hN], r6, l6, n6, b5.grown hg6 b5.size (fun k hk => by have := (row5 k hk).1; omega), ?_, ?_⟩
        · intro hp
          obtain ⟨b, o, e, hlt, hc⟩ := HRd.out hp
          exact rd_grown (HRd.out.keep b5) hg6 (fun a ha h => by
            rw [e] at ha; cases ha
            have := (row5 _ h.symm).1; simp at this; omega) hp
        · exact rd_grown (hR3.keep hb5) hg6 (fun a ha h => by
            have h1 := (row5 _ h.symm).2
            have h2 := hg3 a ha
            omega)
      have LB : Hid (∀ w', Below w3.heap.size w3 w' → w.heap.size + 1 ≤ w'.heap.size) := fun w' hb => Nat.le_trans HXb.out.c.lt (Nat.le_trans hb3.size hb.size)
      have LL : Hid (C.length + R.length ≤ 140737488355328) := by show C.length + R.length ≤ _; have := HNl.out; rw [HCl.out]; omega
      have HX3 := Lib.hid hX3
      have LC : Hid ((Tryd.prog.info? 28).map (·.size) = some (vbs C).length) := info28 HCl.out
      have LS2 : Hid (∀ w', Below w3.heap.size w3 w' → Src22 w' A R.length (vbs R)) := LS
      have LL2 : Hid (C.length + R.length ≤ 140737488355328) := LL
      have eT : ((strB R).toList == (strB R).toList) = true := beq_self_eq_true _
      obtain ⟨n, hn⟩ : ∃ n, n = R.length := ⟨_, rfl⟩
      have HN := Lib.hid hn
      obtain ⟨tR, htR⟩ : ∃ tR, tR = strB R := ⟨_, rfl⟩
      have HTR := Lib.hid htR
      rw [← hn] at L17 LS2 LL2 ⊢
      rw [← htR] at eT
      clear hN hg5 hg3 hR3 ho3 hb3 hb3' hrd3 hl3 hm3 hn3 hX3 ho4 hrd5 hl5 hm5 hn5 HO0 HS0 HLen HBs HBW HOb hn htR
      go_wp2_with (first | (with_reducible refine wpList_load_mid rfl 28 (.tmp 2) rfl w.heap.size 0 rfl (vbs C) _ HR28.out Tryd.underlying28 rfl LC.out ?_) | (go_at_call 16; (with_reducible refine L16.out.mono ?_); rintro e w4 ⟨rfl, hb4⟩; dsimp only) | (go_at_call 17; (with_reducible refine (L17.out _ hb4).mono ?_); rintro e w5 ⟨rfl, hb5'⟩; dsimp only; have hb5 := hb4.trans (hb5'.mono hb4.size)) | (refine wpList_app (o := ⟨some 31, _, _, _, _, _⟩) (w := w5) (v := .slice A5 C.length c5) (n := C.length) (xs := vbs C) (news := vbs R) (base := w.heap.size + 1) (A := A) (m := n) (c := cap) rfl (.tmp 29) (.tmp 30) rfl rfl ?_ ?_ ?_ ?_ ?_ ?_ ?_ ?_; (rfl); (exact LO.out _ hb5); (rfl); (exact LS2.out _ hb5); (exact HA.out); (exact LL2.out); (exact LB.out _ hb5); intro v6 w6 own6 hg6; obtain ⟨A6, c6, rfl, hrd6, hl6, hn6, hb6, hra6, hra36⟩ := P6.out _ _ _ hb5 (by rw [← HN.out]; exact own6) hg6; have L15 : Hid (Calls Tryd.prog 15 #[.slice A6 N c6] w6 fun e w'' => e = .returned (.agg (vbs D2).toArray) ∧ Below w6.heap.size w6 w'') := (by rw [HNN.out]; exact K15.out A6 c6 w6 hb6 hrd6 hl6 hn6); have HRA := Lib.hid (show Rd w6 w6.heap.size A R ∧ Rd w6 w6.heap.size A3 R from ⟨hra6, hra36⟩); clear hrd6 hl6 hn6 hra6 hra36 own6 hg6) | (go_at_call 15; (with_reducible refine L15.out.mono ?_); rintro e w7 ⟨rfl, hb7⟩; dsimp only; have hc1 := run_conv_slice w7 Tryd.underlying22 Tryd.underlying5 Tryd.underlying9 A3 R n c3 HN.out _ (up_to HRA.out.2 hb7 hb7.size); have hc2 := run_conv_slice w7 Tryd.underlying22 Tryd.underlying5 Tryd.underlying9 A R n cap HN.out _ (up_to HRA.out.1 hb7 hb7.size); rw [← HTR.out] at hc1 hc2; have L11 := Lib.hid (KA.out w7 (hb6.trans (hb7.mono hb6.size)))) | (go_at_call 11; (with_reducible refine L11.out.mono ?_); rintro e w8 ⟨rfl, hb8⟩; dsimp only))
      go_ret
      exact ⟨rfl, (hb6.trans (hb7.mono hb6.size)).trans (hb8.mono (hb6.trans (hb7.mono hb6.size)).size)⟩
end Go.Proofs.YtjbjkddgefiicaaDoor
