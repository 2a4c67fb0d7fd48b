/- The law BytesTorn returns true for every input that can be read. -/
import Derived.Test.YtnnceicjooahmaaPc
import Derived.Outline
namespace Go.Proofs.Ytnnceicjooahmaa
open Go.RowKit
set_option linter.unusedVariables false
set_option linter.unusedSimpArgs false
/-- The acts that lie at A, below block B. -/
def Acts (w : World) (B : Nat) (A : Option Addr) (L : List (Int × Int)) : Prop :=
  0 < L.length → ∃ b o, A = some ⟨b, o, none⟩ ∧ b < B ∧ ∀ i, i < L.length → w.cell? ⟨b, o + i * 2, none⟩ = some (.int .i64 (L.getD i (0, 0)).1) ∧ w.cell? ⟨b, o + i * 2 + 1, none⟩ = some (.int .i64 (L.getD i (0, 0)).2)
theorem Acts.keep {w w' : World} {B B' : Nat} {A : Option Addr} {L : List (Int × Int)} (h : Acts w B A L) (hb : Below B' w w') (hB : B ≤ B') : Acts w' B A L := fun hp => by
  obtain ⟨b, o, e, hlt, hc⟩ := h hp
  refine ⟨b, o, e, hlt, fun i hi => ?_⟩
  rw [hb.cell (p := ⟨b, o + i * 2, none⟩) (by show b < _; omega), hb.cell (p := ⟨b, o + i * 2 + 1, none⟩) (by show b < _; omega)]
  exact hc i hi
theorem neq_same (X : List (BitVec 8)) (hX : X.length = 32) (w : World) : (binOp .neq 42 (.agg (vbs X).toArray) (.agg (vbs X).toArray)).run Try.prog w = .ok (.bool false) w := by
  have h := eql_same X hX w
  rw [run_eql_struct] at h
  rw [run_neq_struct]
  revert h
  cases (Op.equalIn 10000 42 (.agg (vbs X).toArray) (.agg (vbs X).toArray)).run Try.prog w with
  | ok b w' => intro h; simp [Result.andThen] at h ⊢; obtain ⟨rfl, rfl⟩ := h; exact ⟨rfl, rfl⟩
  | _ => intro h; simp [Result.andThen] at h
theorem torn_big (A A2 : Option Addr) (n cap n2 cap2 : Nat) (z : Int) (w : World) (h : 5000 < n ∨ 20 < n2) :
    Calls Try.prog 7 #[.slice A n cap, .int .u8 z, .slice A2 n2 cap2] w fun e w' => e = .returned (.bool true) ∧ Below w.heap.size w w' := by
  have KA := Lib.hid (awake_any w)
  by_cases h1 : 5000 < n
  · have h1' : (5000 : Int) < (n : Int) := by omega
    clear h
    go_enter Try.func7, Try.ntmps7
    go_wp2_with (go_at_call 8; (with_reducible refine KA.out.mono ?_); rintro e w1 ⟨rfl, hb⟩; dsimp only)
    go_ret
    exact ⟨rfl, hb⟩
  · have h1' : ¬ (5000 : Int) < (n : Int) := by omega
    have h2 : (20 : Int) < (n2 : Int) := by omega
    clear h
    go_enter Try.func7, Try.ntmps7
    go_wp2_with (go_at_call 8; (with_reducible refine KA.out.mono ?_); rintro e w1 ⟨rfl, hb⟩; dsimp only)
    go_ret
    exact ⟨rfl, hb⟩
theorem open_n (A : Option Addr) (L : List (BitVec 8)) (n cap B : Nat) (w : World) (hn : L.length = n) (hR : Rd w B A L) (hB : B ≤ w.heap.size) (hc : A = none → cap = 0) (hl : L.length ≤ 100000000) :
    Calls Try.prog 11 #[.slice A n cap] w fun e w' => ∃ g, e = .returned (ptr (some g)) ∧ IsR w' (g + 1) (some g) (some L) ∧ w.heap.size ≤ g ∧ g < w'.heap.size ∧ Below w.heap.size w w' := by
  subst hn; exact open_any A L cap B w hR hB hc hl
theorem over_end {L : List (BitVec 8)} {k : Int} (h : (L.length : Int) < k) : takeL (some L) k = [] ∧ cutS (some L) k = none := by
  have : hasB (some L) k = false := by simp [hasB]; omega
  exact cut_no this
set_option maxHeartbeats 1000000 in
theorem torn_walk (A A2 : Option Addr) (cap cap2 : Nat) (L : List (BitVec 8)) (M : List (Int × Int)) (z : Int) (w : World) (hR : Rd w w.heap.size A L) (hc : A = none → cap = 0) (hM : Acts w w.heap.size A2 M) (hz : 0 ≤ z ∧ z ≤ 255) :
    Calls Try.prog 7 #[.slice A L.length cap, .int .u8 z, .slice A2 M.length cap2] w fun e w' => e = .returned (.bool true) ∧ Below w.heap.size w w' := by
  by_cases hbig : 5000 < L.length ∨ 20 < M.length
  · exact torn_big A A2 L.length cap M.length cap2 z w hbig
  · obtain ⟨n, hn⟩ : ∃ n, n = L.length := ⟨_, rfl⟩
    obtain ⟨m, hm⟩ : ∃ m, m = M.length := ⟨_, rfl⟩
    have h1 : n ≤ 5000 := by omega
    have h2 : m ≤ 20 := by omega
    obtain ⟨hz0, hz1⟩ := hz
    have KO := Lib.hid (open_n A L n cap _ w hn.symm hR (Nat.le_refl _) hc (by omega))
    have HN := Lib.hid hn
    have HM := Lib.hid hm
    have HAc := Lib.hid hM
    rw [← hn, ← hm]
    clear hbig hn hm hM hR hc
    go_enter Try.func7, Try.ntmps7
    go_upto_region 4 with (go_at_call 11; (with_reducible refine KO.out.mono ?_); rintro e w1 ⟨g, rfl, hi, hg1, hg2, hb1⟩; dsimp only)
    have hov := over_end (L := L) (k := (n : Int) + 1 + z) (by have := HN.out; omega)
    have HT := Lib.hid (take_w w1 g (g + 1) L ((n : Int) + 1 + z) [] none hov.1 hov.2 hi (by omega) (by have := HN.out; omega))
    have HB1 := Lib.hid hb1
    have Hg1 := Lib.hid hg1
    have Hg2 := Lib.hid hg2
    clear hov hi hb1 hg1 hg2 KO
    go_upto_region 7 with (first
      | (go_at_call 14; (with_reducible refine HT.out.mono ?_); rintro e w2 ⟨v, rfl, ho, hi, hg⟩; obtain ⟨A', cap', rfl, _, _, _, _⟩ := ho.rd; have HI := Lib.hid hi; have HB2 : Hid (Below w.heap.size w w2) := HB1.out.grown hg HB1.out.size (fun k e => by cases e; exact Hg1.out); have Hs2 : Hid (g < w2.heap.size) := Nat.lt_of_lt_of_le Hg2.out hg.size; have K22 := Lib.hid (torn_any _ _ _ _ hi); clear ho hi hg HB1 Hg2 HT; dsimp only [List.length])
      | (go_at_call 22; (with_reducible refine K22.out.mono ?_); rintro e wt ⟨rfl, rfl⟩; dsimp only [Option.isNone]))
    have HZ32 := zero42
    have heq := fun wx => neq_same Z32 rfl wx
    have h2i : (m : Int) ≤ 20 := by omega
    have hm20 : m ≤ 20 := h2
    go_loopw [8] (fun i wr => ∃ k : Nat, k ≤ m ∧ i = .int .i64 k ∧ IsR wr (g + 1) (some g) none ∧ Below w.heap.size w wr ∧ g < wr.heap.size) (fun i _ => m - (intOf i).toNat)
    case atStart => exact ⟨0, Nat.zero_le _, rfl, HI.out, HB2.out, Hs2.out⟩
    case round =>
      obtain ⟨k, hk, rfl, hI, hB, hs⟩ := hrel
      have HBr := Lib.hid hB
      have Hsr := Lib.hid hs
      have HIr := Lib.hid hI
      clear HI HB2 Hs2
      by_cases hlt : k < m
      · obtain ⟨b, o, rfl, hbl, hcell⟩ := HAc.out (by have := HM.out; omega)
        have c1 := (hcell k (by have := HM.out; omega)).2
        rw [← hB.cell (p := ⟨b, o + k * 2 + 1, none⟩) hbl] at c1
        have k0 : (0 : Int) ≤ (k : Int) := by omega
        obtain ⟨N, hN⟩ : ∃ N, N = (M.getD k (0, 0)).2 := ⟨_, rfl⟩
        rw [← hN] at c1
        have K12 : Hid (Calls Try.prog 12 #[ptr (some g), .int .i64 1] wr (NumPost 0 none (g + 1) (some g) wr)) := num_any (some g) none 1 _ _ hI (by omega)
        clear hcell hI hB hs hN
        have Hbl := Lib.hid hbl
        clear hbl
        go_wp2_with (first
          | (go_at_call 12; (with_reducible refine K12.out.mono ?_); rintro e w3 ⟨rfl, hi, hg⟩; have d1 := hg.cell c1 (fun e => absurd (Option.some.inj e) (by show b ≠ g; have := Hbl.out; have := Hg1.out; omega)); have HB3 : Hid (Below w.heap.size w w3) := HBr.out.grown hg HBr.out.size (fun k e => by cases e; exact Hg1.out); have Hs3 : Hid (g < w3.heap.size) := Nat.lt_of_lt_of_le Hsr.out hg.size; have K14 : Hid (Calls Try.prog 14 #[ptr (some g), .int .i64 N] w3 (NewPost [] none (g + 1) (some g) w3)) := take_any (some g) none N _ _ hi Hs3.out (fun _ e => by cases e); clear hi hg c1; dsimp only)
          | (go_at_call 14; (with_reducible refine K14.out.mono ?_); rintro e w4 ⟨v, rfl, ho, hi, hg⟩; obtain ⟨A4, cap4, rfl, _, _, _, _⟩ := ho.rd; have HB4 : Hid (Below w.heap.size w w4) := HB3.out.grown hg HB3.out.size (fun k e => by cases e; exact Hg1.out); have Hs4 : Hid (g < w4.heap.size) := Nat.lt_of_lt_of_le Hs3.out hg.size; have K18 : Hid (Calls Try.prog 18 #[ptr (some g), .int .i64 0] w4 (NewPost [] none (g + 1) (some g) w4)) := peek_any (some g) none 0 _ _ hi Hs4.out (fun _ e => by cases e); clear ho hi hg; dsimp only [List.length])
          | (go_at_call 18; (with_reducible refine K18.out.mono ?_); rintro e w5 ⟨v, rfl, ho, hi, hg⟩; obtain ⟨A5, cap5, rfl, _, _, _, _⟩ := ho.rd; have HB5 : Hid (Below w.heap.size w w5) := HB4.out.grown hg HB4.out.size (fun k e => by cases e; exact Hg1.out); have Hs5 : Hid (g < w5.heap.size) := Nat.lt_of_lt_of_le Hs4.out hg.size; have K16 : Hid (Calls Try.prog 16 #[ptr (some g)] w5 (HashPost Z32 none (g + 1) (some g) w5)) := hash_any (some g) none _ _ hi Hs5.out; clear ho hi hg; dsimp only [List.length])
          | (go_at_call 16; (with_reducible refine K16.out.mono ?_); rintro e w6 ⟨rfl, hi, hg⟩; have HI6 := Lib.hid hi; have HB6 : Hid (Below w.heap.size w w6) := HB5.out.grown hg HB5.out.size (fun k e => by cases e; exact Hg1.out); have Hs6 : Hid (g < w6.heap.size) := Nat.lt_of_lt_of_le Hs5.out hg.size; have K22 := Lib.hid (torn_any _ _ _ _ hi); have K23 := Lib.hid (end_any _ _ _ _ hi); have K20 := Lib.hid (left_any _ _ _ _ hi); clear hi hg; dsimp only)
          | (go_at_call 22; (with_reducible refine K22.out.mono ?_); rintro e wt ⟨rfl, rfl⟩; dsimp only [Option.isNone])
          | (go_at_call 23; (with_reducible refine K23.out.mono ?_); rintro e wt ⟨rfl, rfl⟩; dsimp only [endS])
          | (go_at_call 20; (with_reducible refine K20.out.mono ?_); rintro e wt ⟨rfl, rfl⟩; dsimp only [leftS]))
        go_roundw
        case rel => exact ⟨k + 1, by omega, by go_num, HI6.out, HB6.out, Hs6.out⟩
        case measure => simp [intOf]; omega
      · obtain rfl : k = m := by omega
        have KA := Lib.hid (awake_any wr)
        clear hI hB hs
        go_wp2_with (go_at_call 8; (with_reducible refine KA.out.mono ?_); rintro e w3 ⟨rfl, hb3⟩; dsimp only)
        go_ret
        exact ⟨rfl, HBr.out.trans (hb3.mono HBr.out.size)⟩
end Go.Proofs.Ytnnceicjooahmaa
