/- What the document's own Put returns: a header's bytes. -/
import Derived.Test.YtefiacnpbkancaaDoorHc
namespace Go.Proofs.YtefiacnpbkancaaDoor
open Go.RowKit
set_option linter.unusedVariables false
set_option linter.unusedSimpArgs false
set_option maxRecDepth 100000
/-- The box of the header, and the call's row. -/
structure PutQ (w : World) (h : THd) (v : Value) (L : List (BitVec 8)) (wq : World) : Prop where
  bel : Below w.heap.size w wq
  hd : HdAt wq w.heap.size h
  ob : OB wq (w.heap.size + 1) v L
theorem PutQ.lt {w wq : World} {h : THd} {v : Value} {L : List (BitVec 8)} (H : PutQ w h v L wq) : w.heap.size + 1 ≤ wq.heap.size := H.hd.2
theorem PutQ.next {w wq w2 : World} {h : THd} {v : Value} {L : List (BitVec 8)} (H : PutQ w h v L wq) (hb : Below wq.heap.size wq w2) : PutQ w h v L w2 :=
  ⟨H.bel.trans (hb.mono H.bel.size), H.hd.keep hb H.hd.2 hb.size, H.ob.on hb⟩
theorem PutQ.push {w wq w2 : World} {h : THd} {v v' : Value} {L L' : List (BitVec 8)} (H : PutQ w h v L wq) (h1 : OB w2 (w.heap.size + 1) v' L') (h2 : Below w.heap.size w w2) (h3 : Below (w.heap.size + 1) wq w2) : PutQ w h v' L' w2 :=
  ⟨h2, H.hd.keep h3 (by omega) h3.size, h1⟩
set_option maxHeartbeats 4000000 in
theorem rput_any (h : THd) (k : HdOk h) (w : World) : Calls Tryd.prog 8 #[.agg (hdV h).toArray] w (LaidPost (hdB h) w) := by
  have K19 := Lib.hid (fun (n : Nat) (hn : n < 4294967296) (wq : World) => four_w n wq hn)
  have HK := Lib.hid k
  have HB : Hid (Below w.heap.size w (w.alloc (.cells (hdV h).toArray 26))) := (Below.refl w.heap.size w).alloc (Nat.le_refl _) _
  have HH : Hid (HdAt (w.alloc (.cells (hdV h).toArray 26)) w.heap.size h) := HdAt.new w h 26
  have E0 : Hid (∀ wq, HdAt wq w.heap.size h → wq.cell? ⟨w.heap.size, 0, none⟩ = some (.int .u32 (h.ver : Int)) ∧ wq.cell? ⟨w.heap.size, 65, none⟩ = some (.int .u32 (h.time : Int)) ∧ wq.cell? ⟨w.heap.size, 66, none⟩ = some (.int .u32 (h.bits : Int)) ∧ wq.cell? ⟨w.heap.size, 67, none⟩ = some (.int .u32 (h.nonce : Int))) := fun wq hq => hq.four HK.out
  obtain ⟨V, hV⟩ : ∃ V, V = (hdV h).toArray := ⟨_, rfl⟩
  rw [← hV] at HB HH ⊢
  clear hV k
  have c0 := (E0.out _ HH.out).1
  go_enter Tryd.func8, Tryd.ntmps8
  go_upto_region 2 with (go_at_call 19; (with_reducible refine (K19.out _ HK.out.ver _).mono ?_); rintro e w2 ⟨A2, c2, rfl, ho2, hb2⟩; dsimp only)
  have hQ : PutQ w h (.slice A2 4 c2) (les h.ver 4) w2 := ⟨HB.out.trans (hb2.mono HB.out.size), HH.out.keep hb2 HH.out.2 hb2.size, ho2.base (by simp)⟩
  have HQ := Lib.hid hQ
  clear hQ ho2 hb2 c0 HB HH
  go_wp2_with fail
  go_loopw [3, 4] (fun v i wq => ∃ j : Nat, j ≤ 32 ∧ i = .int .i64 j ∧ PutQ w h v (les h.ver 4 ++ h.prev.take j) wq) (fun _ i _ => 32 - (intOf i).toNat)
  case atStart => exact ⟨0, Nat.zero_le _, rfl, by simpa using HQ.out⟩
  case round =>
    obtain ⟨j, hj, rfl, hq⟩ := hrel
    clear HQ
    by_cases hlt : j < 32
    · have j1 : (j : Int) < 32 := by omega
      have j0 : (0 : Int) ≤ (j : Int) := by omega
      have c0 := hq.hd.cell (hdV_prev HK.out hlt)
      have e : h.prev.take (j + 1) = h.prev.take j ++ [h.prev.getD j 0] := by
        have := HK.out.prev
        rw [List.take_succ_eq_append_getElem (by omega)]; simp [List.getD, this, hlt]
      obtain ⟨x, hx⟩ : ∃ x, x = h.prev.getD j 0 := ⟨_, rfl⟩
      rw [← hx] at c0 e
      have He := Lib.hid e
      have hb1 : Below wr.heap.size wr (wr.alloc (.cells #[.int .u8 (Bt x)] 5)) := (Below.refl _ _).alloc (Nat.le_refl _) _
      have hq1 := hq.next hb1
      have HQ1 := Lib.hid hq1
      have hs := Lib.hid (src_one wr x)
      have HLe : Hid ((les h.ver 4 ++ h.prev.take j).length + [x].length ≤ 140737488355328) := show (les h.ver 4 ++ h.prev.take j).length + [x].length ≤ 140737488355328 by rw [List.length_append, les_len, List.length_take]; simp; omega
      clear hq hq1 hb1 hx e
      go_wp2_with (refine wpList_push (o := ⟨some 19, _, _, _, _, _⟩) rfl (.tmp 13) (.tmp 18) rfl rfl (w.heap.size + 1) _ _ [x] rfl HQ1.out.ob (some ⟨wr.heap.size, 0, none⟩) 1 1 rfl (one_len _) hs.out (fun h => by cases h) HLe.out HQ1.out.bel HQ1.out.lt (by omega) ?_; intro v' w' h1 h2 h3)
      go_roundw
      case rel => exact ⟨j + 1, by omega, by go_num, HQ1.out.push (by rw [He.out, ← List.append_assoc]; exact h1) h2 h3⟩
      case measure => simp [intOf]; omega
    · obtain rfl : j = 32 := by omega
      have e32 : h.prev.take 32 = h.prev := List.take_of_length_le (by have := HK.out.prev; omega)
      rw [e32] at hq
      have HQ := Lib.hid hq
      clear hq e32
      have ec : ((32 : Nat) : Int) = 32 := rfl
      rw [ec]
      clear ec
      go_wp2_with fail
      go_loopw [3, 5] (fun v i wq => ∃ j : Nat, j ≤ 32 ∧ i = .int .i64 j ∧ PutQ w h v (les h.ver 4 ++ h.prev ++ h.root.take j) wq) (fun _ i _ => 32 - (intOf i).toNat)
      case atStart => exact ⟨0, Nat.zero_le _, rfl, by simpa using HQ.out⟩
      case round =>
        obtain ⟨j, hj, rfl, hq⟩ := hrel
        clear HQ
        by_cases hlt : j < 32
        · have j1 : (j : Int) < 32 := by omega
          have j0 : (0 : Int) ≤ (j : Int) := by omega
          have c0 := hq.hd.cell (hdV_root HK.out hlt)
          have e : h.root.take (j + 1) = h.root.take j ++ [h.root.getD j 0] := by
            have := HK.out.root
            rw [List.take_succ_eq_append_getElem (by omega)]; simp [List.getD, this, hlt]
          obtain ⟨x, hx⟩ : ∃ x, x = h.root.getD j 0 := ⟨_, rfl⟩
          rw [← hx] at c0 e
          have He := Lib.hid e
          have hb1 : Below wr.heap.size wr (wr.alloc (.cells #[.int .u8 (Bt x)] 5)) := (Below.refl _ _).alloc (Nat.le_refl _) _
          have hq1 := hq.next hb1
          have HQ1 := Lib.hid hq1
          have hs := Lib.hid (src_one wr x)
          have HLe : Hid ((les h.ver 4 ++ h.prev ++ h.root.take j).length + [x].length ≤ 140737488355328) := show (les h.ver 4 ++ h.prev ++ h.root.take j).length + [x].length ≤ 140737488355328 by have := HK.out.prev; rw [List.length_append, List.length_append, les_len, List.length_take]; simp; omega
          clear hq hq1 hb1 hx e
          go_wp2_with (refine wpList_push (o := ⟨some 30, _, _, _, _, _⟩) rfl (.tmp 24) (.tmp 29) rfl rfl (w.heap.size + 1) _ _ [x] rfl HQ1.out.ob (some ⟨wr.heap.size, 0, none⟩) 1 1 rfl (one_len _) hs.out (fun h => by cases h) HLe.out HQ1.out.bel HQ1.out.lt (by omega) ?_; intro v' w' h1 h2 h3)
          go_roundw
          case rel => exact ⟨j + 1, by omega, by go_num, HQ1.out.push (by rw [He.out, ← List.append_assoc]; exact h1) h2 h3⟩
          case measure => simp [intOf]; omega
        · obtain rfl : j = 32 := by omega
          have e32 : h.root.take 32 = h.root := List.take_of_length_le (by have := HK.out.root; omega)
          rw [e32] at hq
          obtain ⟨L, hL⟩ : ∃ L, L = les h.ver 4 ++ h.prev ++ h.root := ⟨_, rfl⟩
          have hLl : L.length = 68 := by rw [hL]; simp [les_len, HK.out.prev, HK.out.root]
          have HL := Lib.hid hL
          rw [← hL] at hq
          clear hL e32
          have c65 := (E0.out _ hq.hd).2.1
          have HQ := Lib.hid hq
          have HLl := Lib.hid hLl
          clear hq hLl
          go_upto_region 11 with (first | (go_at_call 19; (with_reducible refine (K19.out _ HK.out.time _).mono ?_); rintro e w2 ⟨A2, c2, rfl, ho2, hb2⟩; have HQ2 := Lib.hid (HQ.out.next hb2); have HS2 : Hid (Src22 w2 A2 (les h.time 4).length (vbs (les h.time 4))) := (by obtain ⟨A', c', e', hr, _⟩ := slice_form ho2; rw [les_len] at e'; cases e'; exact src_of_rd hr); have HN2 : Hid (A2 = none → c2 = 0) := (by obtain ⟨A', c', e', _, hc⟩ := slice_form ho2; rw [les_len] at e'; cases e'; exact hc); clear hb2 ho2; dsimp only) | ((with_reducible show wpList _ _ _ ((⟨some 35, _, _, _, _, _⟩ : Oper) :: _) _ _); refine wpList_push (o := ⟨some 35, _, _, _, _, _⟩) rfl (.tmp 31) (.tmp 34) rfl rfl (w.heap.size + 1) _ _ (les h.time 4) rfl HQ2.out.ob A2 4 c2 rfl (by rw [les_len]) HS2.out HN2.out (by rw [les_len, HLl.out]; omega) HQ2.out.bel HQ2.out.lt (by omega) ?_; intro v' w' h1 h2 h3))
          have hq : PutQ w h v' (L ++ les h.time 4) w' := HQ2.out.push h1 h2 h3
          have hLl : (L ++ les h.time 4).length = 72 := by rw [List.length_append, les_len, HLl.out]
          have HL2 := Lib.hid HL.out
          obtain ⟨L2, hL2⟩ : ∃ L2, L2 = L ++ les h.time 4 := ⟨_, rfl⟩
          rw [← hL2] at hq hLl
          have HL72 := Lib.hid hL2
          clear hL2 h1 h2 h3 HLl HQ HQ2 HS2 HN2 c65
          have c66 := (E0.out _ hq.hd).2.2.1
          have HQ := Lib.hid hq
          have HLl := Lib.hid hLl
          clear hq hLl
          go_upto_region 12 with (first | (go_at_call 19; (with_reducible refine (K19.out _ HK.out.bits _).mono ?_); rintro e w2 ⟨A2, c2, rfl, ho2, hb2⟩; have HQ2 := Lib.hid (HQ.out.next hb2); have HS2 : Hid (Src22 w2 A2 (les h.bits 4).length (vbs (les h.bits 4))) := (by obtain ⟨A', c', e', hr, _⟩ := slice_form ho2; rw [les_len] at e'; cases e'; exact src_of_rd hr); have HN2 : Hid (A2 = none → c2 = 0) := (by obtain ⟨A', c', e', _, hc⟩ := slice_form ho2; rw [les_len] at e'; cases e'; exact hc); clear hb2 ho2; dsimp only) | ((with_reducible show wpList _ _ _ ((⟨some 40, _, _, _, _, _⟩ : Oper) :: _) _ _); refine wpList_push (o := ⟨some 40, _, _, _, _, _⟩) rfl (.tmp 36) (.tmp 39) rfl rfl (w.heap.size + 1) _ _ (les h.bits 4) rfl HQ2.out.ob A2 4 c2 rfl (by rw [les_len]) HS2.out HN2.out (by rw [les_len, HLl.out]; omega) HQ2.out.bel HQ2.out.lt (by omega) ?_; intro v' w' h1 h2 h3))
          have hq : PutQ w h v' (L2 ++ les h.bits 4) w' := HQ2.out.push h1 h2 h3
          have hLl : (L2 ++ les h.bits 4).length = 76 := by rw [List.length_append, les_len, HLl.out]
          have HL2 := Lib.hid HL.out
          obtain ⟨L3, hL3⟩ : ∃ L3, L3 = L2 ++ les h.bits 4 := ⟨_, rfl⟩
          rw [← hL3] at hq hLl
          have HL76 := Lib.hid hL3
          clear hL3 h1 h2 h3 HLl HQ HQ2 HS2 HN2 c66
          have c67 := (E0.out _ hq.hd).2.2.2
          have HQ := Lib.hid hq
          have HLl := Lib.hid hLl
          clear hq hLl
          go_wp2_with (first | (go_at_call 19; (with_reducible refine (K19.out _ HK.out.nonce _).mono ?_); rintro e w2 ⟨A2, c2, rfl, ho2, hb2⟩; have HQ2 := Lib.hid (HQ.out.next hb2); have HS2 : Hid (Src22 w2 A2 (les h.nonce 4).length (vbs (les h.nonce 4))) := (by obtain ⟨A', c', e', hr, _⟩ := slice_form ho2; rw [les_len] at e'; cases e'; exact src_of_rd hr); have HN2 : Hid (A2 = none → c2 = 0) := (by obtain ⟨A', c', e', _, hc⟩ := slice_form ho2; rw [les_len] at e'; cases e'; exact hc); clear hb2 ho2; dsimp only) | ((with_reducible show wpList _ _ _ ((⟨some 45, _, _, _, _, _⟩ : Oper) :: _) _ _); refine wpList_push (o := ⟨some 45, _, _, _, _, _⟩) rfl (.tmp 41) (.tmp 44) rfl rfl (w.heap.size + 1) _ _ (les h.nonce 4) rfl HQ2.out.ob A2 4 c2 rfl (by rw [les_len]) HS2.out HN2.out (by rw [les_len, HLl.out]; omega) HQ2.out.bel HQ2.out.lt (by omega) ?_; intro v' w' h1 h2 h3))
          have hq : PutQ w h v' (L3 ++ les h.nonce 4) w' := HQ2.out.push h1 h2 h3
          have HQ9 := Lib.hid hq
          clear hq h1 h2 h3
          go_ret
          have e : hdB h = L3 ++ les h.nonce 4 := by rw [HL76.out, HL72.out, HL.out]; simp [hdB]
          exact ⟨v', rfl, by rw [e]; exact HQ9.out.ob.base (by omega), HQ9.out.bel⟩
end Go.Proofs.YtefiacnpbkancaaDoor
