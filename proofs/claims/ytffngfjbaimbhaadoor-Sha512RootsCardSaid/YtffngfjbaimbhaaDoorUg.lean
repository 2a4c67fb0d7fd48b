/- What the document's own Roots and the law package's same return. -/
import Derived.Test.YtffngfjbaimbhaaDoorUe
import Derived.Test.YtffngfjbaimbhaaDoorUf
import Derived.Outline
namespace Go.Proofs.YtffngfjbaimbhaaDoor
open Go.RowKit
set_option linter.unusedVariables false
set_option linter.unusedSimpArgs false
set_option maxRecDepth 100000
/-- A slice of n words that read as M, and nothing that was has changed. -/
def WsPost (M : List (BitVec 64)) (n : Nat) (w : World) (e : Ending) (w' : World) : Prop :=
  ∃ A c, e = .returned (.slice A n c) ∧ RdV w' w'.heap.size A M ∧ Below w.heap.size w w'
theorem root_v (p k : Nat) (y : BitVec 64) (hp : p < 65536) (hk : k ≤ 3) (hk1 : 1 ≤ k) (hx : rootN p k = some y.toNat) (w : World) :
    Calls Tryd.prog 21 #[.int .u64 (p : Int), .int .i64 (k : Int)] w fun e w' => e = .returned (.int .u64 (V y)) ∧ Below w.heap.size w w' := root_any p k y.toNat hp hk hk1 hx w
theorem ON.toRd {w : World} {B : Nat} {v : Value} {L : List Nat} (h : ON w B v L) : ∃ A cap, v = .slice A L.length cap ∧ RdN w w.heap.size A L := by
  obtain ⟨A, cap, e, hr, _⟩ := h.rd
  exact ⟨A, cap, e, hr⟩
set_option maxHeartbeats 4000000 in
theorem roots_any (many k N : Nat) (M : List (BitVec 64)) (hN : N ≤ 900) (hk : k ≤ 3) (hk1 : 1 ≤ k) (hlen : (prl N).length = many) (hless : ∀ n, n < N → (prl n).length < many) (hm : many ≤ 1000) (hM : (prl N).map (fun p => rootN p k) = M.map fun y => some y.toNat) (w : World) :
    Calls Tryd.prog 13 #[.int .i64 (many : Int), .int .i64 (k : Int)] w (WsPost M many w) := by
  have K20 := Lib.hid (primes_any many N hN hlen hless hm w)
  have hMl : M.length = many := by have := congrArg List.length hM; rw [List.length_map, List.length_map] at this; omega
  have hroot : ∀ i, i < many → rootN ((prl N).getD i 0) k = some (M.getD i 0).toNat ∧ (prl N).getD i 0 < 65536 := fun i hi => by
    have h1 : ((prl N).map (fun p => rootN p k))[i]? = (M.map fun y => some y.toNat)[i]? := by rw [hM]
    have hi1 : i < (prl N).length := by omega
    have hi2 : i < M.length := by omega
    rw [List.getElem?_map, List.getElem?_map, List.getElem?_eq_getElem hi1, List.getElem?_eq_getElem hi2] at h1
    have e1 : (prl N).getD i 0 = (prl N)[i] := by simp [List.getD, hi1]
    have e2 : M.getD i 0 = M[i] := by simp [List.getD, hi2]
    rw [e1, e2]
    exact ⟨by simpa using h1, by have := (prl_ge N _ (List.getElem_mem hi1)).2; omega⟩
  obtain ⟨L, hL⟩ : ∃ L, L = prl N := ⟨_, rfl⟩
  rw [← hL] at K20 hroot hlen
  have HRt := Lib.hid hroot
  have HMl := Lib.hid hMl
  have HLl := Lib.hid hlen
  clear hless hM hMl hroot hL hlen
  go_enter Tryd.func13, Tryd.ntmps13
  go_wp2_with (go_at_call 20; (with_reducible refine K20.out.mono ?_); rintro e w1 ⟨v, rfl, ho, hb⟩; obtain ⟨A, cap, rfl, hr⟩ := ho.toRd; rw [HLl.out]; dsimp only)
  have Hr := Lib.hid hr
  have Hb := Lib.hid hb
  clear ho hr hb K20
  go_loopw [6, 7] (fun v iv wq => ∃ i : Nat, i ≤ many ∧ iv = .int .i64 (i : Int) ∧ OV wq w1.heap.size v (M.take i) ∧ Below w1.heap.size w1 wq) (fun _ iv _ => many - (intOf iv).toNat)
  case atStart => exact ⟨0, Nat.zero_le _, rfl, OV.nil _ _, Below.refl _ _⟩
  case round =>
    obtain ⟨i, hi, rfl, ho, hb⟩ := hrel
    by_cases hlt : i < many
    · have hlt' : (i : Int) < (many : Int) := by omega
      obtain ⟨b, o, rfl, hbl, hc⟩ := Hr.out (by rw [HLl.out]; omega)
      obtain ⟨p, hp⟩ : ∃ p, p = L.getD i 0 := ⟨_, rfl⟩
      obtain ⟨y, hy⟩ : ∃ y, y = M.getD i 0 := ⟨_, rfl⟩
      have hrt := HRt.out i hlt
      rw [← hp, ← hy] at hrt
      have c0 : wr.cell? ⟨b, o + i, none⟩ = some (.int .i64 ((p : Nat) : Int)) := by rw [hb.cell (p := ⟨b, o + i, none⟩) hbl, hp]; exact hc i (by rw [HLl.out]; exact hlt)
      have hp9 := hrt.2
      have K21 := Lib.hid (root_v p k y hrt.2 hk hk1 hrt.1 wr)
      have hcv : IntKind.u64.wrap (p : Int) = (p : Int) := by rw [IntKind.wrap_u64]; omega
      have Hy := Lib.hid hy
      have HO := Lib.hid ho
      have HB := Lib.hid hb
      clear hrt hp hy hc hbl ho hb
      go_upto_region 6 with fail
      obtain ⟨Ai, ci, hvi, hri, hli, hmi, hci⟩ := HO.out.rd
      go_wp2_with (first
        | (go_at_call 21; (with_reducible refine K21.out.mono ?_); rintro e w2 ⟨rfl, hb2⟩; have HO2 := Lib.hid ((OV.below (B' := 0) HO.out hb2).alloc (.cells #[.int .u64 (V y)] 37)); have HB2 : Hid (Below w1.heap.size w1 w2) := HB.out.trans (hb2.mono HB.out.size); have HB3 := Lib.hid (HB2.out.alloc HB2.out.size (.cells #[.int .u64 (V y)] 37)); have HS := Lib.hid (src33_one w2 y); have HLe : Hid ((M.take i).length + [y].length ≤ 17592186044416) := (show (M.take i).length + [y].length ≤ 17592186044416 by rw [List.length_take]; simp; omega); clear hb2 K21; dsimp only)
        | (refine wpList_push33 (o := ⟨some 25, _, _, _, _, _⟩) rfl (.tmp 16) (.tmp 24) rfl rfl w1.heap.size _ (M.take i) [y] rfl HO2.out (some ⟨w2.heap.size, 0, none⟩) 1 1 rfl (one_len33 _) HS.out (fun h => by cases h) HLe.out HB3.out HB3.out.size (Nat.le_refl _) ?_; intro v3 w3 ho3 hb4 hb4'))
      go_roundw
      case rel => exact ⟨i + 1, by omega, by go_num, by
        have e : M.take (i + 1) = M.take i ++ [y] := by rw [List.take_succ_eq_append_getElem (by rw [HMl.out]; exact hlt), Hy.out]; simp [List.getD, show i < M.length by rw [HMl.out]; exact hlt]
        rw [e]; exact ho3, hb4⟩
      case measure => simp [intOf]; omega
    · obtain rfl : i = many := by omega
      have hlt' : ¬ (i : Int) < (i : Int) := by omega
      rw [List.take_of_length_le (by rw [HMl.out]; exact Nat.le_refl _)] at ho
      obtain ⟨Ai, ci, rfl, hri, hli, hmi, hci⟩ := ho.rd
      rw [HMl.out]
      have Hri := Lib.hid hri
      clear ho hri hli hmi hci
      go_wp2_with fail
      go_ret
      exact ⟨_, _, rfl, Hri.out, Hb.out.trans (hb.mono Hb.out.size)⟩
set_option maxHeartbeats 4000000 in
theorem same_any (X : List (BitVec 64)) (n : Nat) (hn : X.length = n) (hl : n ≤ 1000) (A B : Option Addr) (c c2 : Nat) (w : World) (hA : RdV w w.heap.size A X) (hB : RdV w w.heap.size B X) :
    Calls Tryd.prog 12 #[.slice A n c, .slice B n c2] w fun e w' => e = .returned (.bool true) ∧ Below w.heap.size w w' := by
  have HA := Lib.hid hA
  have HB := Lib.hid hB
  have Hn := Lib.hid hn
  clear hA hB hn
  go_enter Tryd.func12, Tryd.ntmps12
  go_wp2_with fail
  go_loopw [5] (fun iv wq => ∃ i : Nat, i ≤ n ∧ iv = .int .i64 (i : Int) ∧ Below w.heap.size w wq) (fun iv _ => n - (intOf iv).toNat)
  case atStart => exact ⟨0, Nat.zero_le _, rfl, Below.refl _ _⟩
  case round =>
    obtain ⟨i, hi, rfl, hb⟩ := hrel
    by_cases hlt : i < n
    · have hlt' : (i : Int) < (n : Int) := by omega
      obtain ⟨b, o, rfl, hbl, hc⟩ := HA.out (by rw [Hn.out]; omega)
      obtain ⟨b2, o2, rfl, hbl2, hc2⟩ := HB.out (by rw [Hn.out]; omega)
      obtain ⟨y, hy⟩ : ∃ y, y = X.getD i 0 := ⟨_, rfl⟩
      have c0 : wr.cell? ⟨b, o + i, none⟩ = some (.int .u64 (V y)) := by rw [hb.cell (p := ⟨b, o + i, none⟩) hbl, hy]; exact hc i (by rw [Hn.out]; exact hlt)
      have c1 : wr.cell? ⟨b2, o2 + i, none⟩ = some (.int .u64 (V y)) := by rw [hb.cell (p := ⟨b2, o2 + i, none⟩) hbl2, hy]; exact hc2 i (by rw [Hn.out]; exact hlt)
      have Hb := Lib.hid hb
      clear hc hc2 hy hbl hbl2 hb
      go_wp2_with fail
      go_quiet (fail)
      go_wp2_with fail
      go_roundw
      case rel => exact ⟨i + 1, by omega, by go_num, below_dN Hb.out _⟩
      case measure => simp [intOf]; omega
    · obtain rfl : i = n := by omega
      have hlt' : ¬ (i : Int) < (i : Int) := by omega
      go_wp2_with fail
      go_ret
      exact ⟨rfl, hb⟩
end Go.Proofs.YtffngfjbaimbhaaDoor
