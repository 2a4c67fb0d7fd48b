/- What slices.Grow of nil, and slices.Concat, return. -/
import Derived.Test.YtnkkhmgplpkjbaaDoorLl
import Derived.Lib.AppendZeros
import Derived.Outline
namespace Go.Proofs.YtnkkhmgplpkjbaaDoor
open Go.RowKit
set_option linter.unusedVariables false
set_option linter.unusedSimpArgs false
set_option maxRecDepth 100000
theorem int3 : Tryd.prog.underlying 3 = some (.int .i64) := by kernel_rfl
theorem run_grow (w : World) (n : Nat) (h0 : 0 < n) (hn : n ≤ 100000000) : ∃ C G, (Builtin.append_ #[27, 3] 27 #[.slice none 0 0, .int .i64 (n : Int)]).run Tryd.prog w = .ok (.slice (some ⟨w.heap.size, 0, none⟩) n G) (w.drew.alloc (.cells C 5)) ∧
    OB (w.drew.alloc (.cells C 5)) w.heap.size (.slice (some ⟨w.heap.size, 0, none⟩) 0 G) [] ∧ n ≤ G ∧ G ≤ 9223372036854775807 := by
  obtain ⟨i0, hi, hz0, hz1, hz2⟩ := info_parts info5
  have hr := Lib.run_append_nil_zeros (P := Tryd.prog) w 27 3 27 5 i0 (.int .u8 0) .i64 .i64 Tryd.underlying27 int3 hi hz0 n h0 (by omega) (by omega) (by rw [hz2]; omega)
  refine ⟨_, _, hr, ?_, grownCap_ge w n 0 5, by have := grownCap_le_maxLen w n 0 5 (by unfold maxLen; omega); unfold maxLen at this; omega⟩
  have hge := grownCap_ge w n 0 5
  have hcm := grownCap_le_maxLen w n 0 5 (by unfold maxLen; omega)
  generalize grownCap w n 0 5 = G at hge hcm ⊢
  refine ⟨rfl, .inr ⟨w.heap.size, G, _, rfl, Nat.le_refl _, heap_alloc_new w.drew _, by simp, hcm, ?_, ?_⟩⟩
  · simp [size_zeroCells, Value.cells]; omega
  · simp [vbs]
set_option maxHeartbeats 4000000 in
theorem grow_any (n : Nat) (hn : n ≤ 100000000) (w : World) : Calls Tryd.prog 66 #[.slice none 0 0, .int .i64 (n : Int)] w (LaidPost [] w) := by
  by_cases h0 : 0 < n
  · obtain ⟨C, G, hr, ho, hg, hg2⟩ := run_grow w n h0 hn
    have HR := Lib.hid hr
    have HO := Lib.hid ho
    have h1 : (0 : Int) < (n : Int) := by omega
    have h2 : ¬ (n : Int) < 0 := by omega
    have hb : Hid (Below w.heap.size w (w.drew.alloc (.cells C 5))) := ((Below.refl w.heap.size w).drew).alloc (by simp) _
    clear hr ho
    go_enter Tryd.func66, Tryd.ntmps66
    go_wp2_with (refine Lib.wpList_append_run (o := ⟨some 22, _, _, _, _, _⟩) _ rfl (.tmp 20) (.tmp 21) 27 3 rfl (.slice none 0 0) (.int .i64 (n : Int)) rfl rfl _ _ HR.out ?_)
    go_ret
    exact ⟨_, rfl, HO.out, hb.out⟩
  · obtain rfl : n = 0 := by omega
    have hb : Hid (Below w.heap.size w w) := Below.refl _ _
    show Calls Tryd.prog 66 #[.slice none 0 0, .int .i64 0] w (LaidPost [] w)
    go_enter Tryd.func66, Tryd.ntmps66
    go_wp2_with fail
    go_ret
    exact ⟨_, rfl, OB.nil _ _, hb.out⟩
set_option maxHeartbeats 4000000 in
theorem concat_any (Ls : List (List (BitVec 8))) (v : Value) (w : World) (h : Ws w w.heap.size v Ls) (hn1 : Ls.length ≤ 100) (hl : ∀ L ∈ Ls, L.length ≤ 100000) :
    Calls Tryd.prog 47 #[v] w (LaidPost Ls.flatten w) := by
  obtain ⟨A, cap, b, o, rfl, hA, hj⟩ := Row.open h
  obtain ⟨n, hn⟩ : ∃ n, n = Ls.length := ⟨_, rfl⟩
  have hbd : ∀ i, i ≤ n → (Ls.take i).flatten.length ≤ i * 100000 := fun i hi => by
    have := flat_le (fun x => x) 100000 (Ls.take i) (take_sub hl)
    rw [List.map_id'] at this
    rw [List.length_take, Nat.min_eq_left (by omega)] at this
    exact this
  have hsucc : ∀ i, i < n → (Ls.take (i + 1)).flatten = (Ls.take i).flatten ++ Ls.getD i [] := fun i hi => by
    have := flat_succ (fun x => x) Ls [] i (by omega)
    simpa using this
  have hJ : Hid (∀ i, i < n → ∃ Ai ci, A = some ⟨b, o, none⟩ ∧ b < w.heap.size ∧ w.cell? ⟨b, o + i, none⟩ = some (.slice Ai (Ls.getD i []).length ci) ∧ Rd w w.heap.size Ai (Ls.getD i []) ∧ (Ai = none → ci = 0)) := fun i hi => by
    obtain ⟨hlt, u, hc, Ai, ci, rfl, hrd, _, _, hcn⟩ := hj i (by omega)
    rw [Nat.mul_one] at hc
    exact ⟨Ai, ci, hA (by omega), hlt, hc, hrd, hcn⟩
  have HBd := Lib.hid hbd
  have HSu := Lib.hid hsucc
  have Hn := Lib.hid hn
  have hn100 : n ≤ 100 := by omega
  have KG := Lib.hid grow_any
  have HF : Hid ((Ls.take n).flatten = Ls.flatten) := show (Ls.take n).flatten = Ls.flatten by rw [List.take_of_length_le (by omega)]
  rw [← hn]
  clear h hA hj hbd hsucc hn hl hn1
  go_enter Tryd.func47, Tryd.ntmps47
  go_wp2_with fail
  go_loopw [3, 11] (fun sv iv wq => ∃ i : Nat, i ≤ n ∧ iv = .int .i64 (i : Int) ∧ sv = .int .i64 (((Ls.take i).flatten.length : Nat) : Int) ∧ wq = w) (fun _ iv _ => n - (intOf iv).toNat)
  case atStart => exact ⟨0, Nat.zero_le _, rfl, rfl, rfl⟩
  case round =>
    obtain ⟨i, hi, rfl, rfl, hw⟩ := hrel
    have hw' := hw.symm
    subst hw'
    clear hw
    by_cases hlt : i < n
    · have hlt' : (i : Int) < (n : Int) := by omega
      obtain ⟨Ai, ci, rfl, hbl, hc, _, _⟩ := hJ.out i hlt
      have hb1 := HBd.out i hi
      have hb2 := HBd.out (i + 1) hlt
      have hs := HSu.out i hlt
      have hs2 : (Ls.take (i + 1)).flatten.length = (Ls.take i).flatten.length + (Ls.getD i []).length := by rw [hs, List.length_append]
      obtain ⟨a, ha⟩ : ∃ a, a = (Ls.take i).flatten.length := ⟨_, rfl⟩
      obtain ⟨l, hl⟩ : ∃ l, l = (Ls.getD i []).length := ⟨_, rfl⟩
      obtain ⟨a2, ha2⟩ : ∃ a, a = (Ls.take (i + 1)).flatten.length := ⟨_, rfl⟩
      rw [← ha] at hb1 hs2 ⊢
      rw [← hl] at hs2 hc
      rw [← ha2] at hb2 hs2
      have hsum : (a : Int) + (l : Int) = (a2 : Int) := by omega
      have hng : ¬ (a2 : Int) < 0 := by omega
      have ha2l : a2 ≤ 10100000 := by omega
      have Ha2 := Lib.hid ha2
      clear hs hs2 ha hl ha2
      go_wp2_with fail
      go_roundw
      case rel => exact ⟨i + 1, by omega, by go_num, by rw [← Ha2.out], by first | trivial | rfl⟩
      case measure => simp [intOf]; omega
    · obtain rfl : i = n := by omega
      have hlt' : ¬ (i : Int) < (i : Int) := by omega
      have hb1 := HBd.out i (Nat.le_refl _)
      have K := Lib.hid (KG.out (Ls.take i).flatten.length (by omega) w)
      obtain ⟨a, ha⟩ : ∃ a, a = (Ls.take i).flatten.length := ⟨_, rfl⟩
      rw [← ha] at K ⊢
      clear ha hb1 KG
      go_wp2_with (go_at_call 66; (refine K.out.mono ?_); rintro e w1 ⟨v1, rfl, ho1, hb1⟩; dsimp only)
      go_loopw [6, 27] (fun vv iv wq => ∃ j : Nat, j ≤ i ∧ iv = .int .i64 (j : Int) ∧ OB wq w.heap.size vv (Ls.take j).flatten ∧ Below w.heap.size w wq) (fun _ iv _ => i - (intOf iv).toNat)
      case atStart => exact ⟨0, Nat.zero_le _, rfl, ho1, hb1⟩
      case round =>
        clear ho1 hb1 K
        obtain ⟨j, hj, rfl, ho, hb⟩ := hrel
        by_cases hjt : j < i
        · have hjt' : (j : Int) < (i : Int) := by omega
          obtain ⟨Ai, ci, rfl, hbl, hc, hrd, hcn⟩ := hJ.out j hjt
          have c0 : wr.cell? ⟨b, o + j, none⟩ = some (.slice Ai (Ls.getD j []).length ci) := by rw [hb.cell (p := ⟨b, o + j, none⟩) hbl]; exact hc
          have hbd := HBd.out j hj
          have hbd2 := HBd.out (j + 1) hjt
          have hs := HSu.out j hjt
          have hs2 : (Ls.take (j + 1)).flatten.length = (Ls.take j).flatten.length + (Ls.getD j []).length := by rw [hs, List.length_append]
          obtain ⟨X, hX⟩ : ∃ X, X = (Ls.take j).flatten := ⟨_, rfl⟩
          obtain ⟨Y, hY⟩ : ∃ Y, Y = Ls.getD j [] := ⟨_, rfl⟩
          rw [← hX] at ho hbd hs hs2
          rw [← hY] at c0 hrd hs hs2
          obtain ⟨l, hl⟩ : ∃ l, l = Y.length := ⟨_, rfl⟩
          have HSr : Hid (Src22 wr Ai l (vbs Y)) := show Src22 wr Ai l (vbs Y) by rw [hl]; exact src_of_rd (hrd.keep hb)
          have Hsr2 : Hid (Src22 wr Ai Y.length (vbs Y)) := show Src22 wr Ai Y.length (vbs Y) from src_of_rd (hrd.keep hb)
          have HLe : Hid (X.length + Y.length ≤ 140737488355328) := show X.length + Y.length ≤ 140737488355328 by omega
          have HO := Lib.hid ho
          have HB := Lib.hid hb
          have Hs := Lib.hid hs
          have Hl := Lib.hid hl
          have Hcn := Lib.hid hcn
          rw [← hl] at c0
          clear hc hrd hbd hbd2 hs hs2 hX hY hl ho hb hbl hcn
          go_wp2_with (refine wpList_push (o := ⟨some 33, _, _, _, _, _⟩) rfl (.tmp 31) (.tmp 32) rfl rfl w.heap.size _ X Y rfl HO.out Ai l ci rfl Hl.out Hsr2.out Hcn.out HLe.out HB.out HB.out.size (Nat.le_refl _) ?_; intro v3 w3 h1 h2 h3)
          go_roundw
          case rel => exact ⟨j + 1, by omega, by go_num, by rw [Hs.out]; exact h1, h2⟩
          case measure => simp [intOf]; omega
        · obtain rfl : j = i := by omega
          have hjt' : ¬ (j : Int) < (j : Int) := by omega
          rw [HF.out] at ho
          have HO := Lib.hid ho
          have HB := Lib.hid hb
          clear ho hb
          go_wp2_with fail
          go_ret
          exact ⟨_, rfl, HO.out, HB.out⟩
end Go.Proofs.YtnkkhmgplpkjbaaDoor
