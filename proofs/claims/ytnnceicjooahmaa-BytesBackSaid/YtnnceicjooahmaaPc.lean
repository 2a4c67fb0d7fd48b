/- The law BytesKnown returns true. -/
import Derived.Test.YtnnceicjooahmaaPb
import Derived.Stop.BytesEq
import Derived.Outline
namespace Go.Proofs.Ytnnceicjooahmaa
open Go.RowKit
set_option linter.unusedVariables false
set_option linter.unusedSimpArgs false
theorem below_none {w w' : World} (h : w.grownBy w' none) : Below w.heap.size w w' := ⟨h.os, h.tape, h.output, h.size, fun k hk => h.block k hk (by simp)⟩
theorem IsR.other {w w' : World} {B B' g z : Nat} {s s' : Option (List (BitVec 8))} (h : IsR w B (some g) s) (hz : IsR w B' (some z) s') (hg : w.grownBy w' (some z)) (hne : g ≠ z) : IsR w' B (some g) s := by
  obtain ⟨vs, hb⟩ : ∃ vs, Blk w z 47 vs := by
    cases s' with
    | none => exact ⟨_, (hz z rfl).2⟩
    | some L => obtain ⟨g', A, cap, e, _, hb, _⟩ := hz; cases e; exact ⟨_, hb⟩
  have hk : ∀ b T (cur : Array Value), w.heap[b]? = some (.cells cur T (0, 0)) → b ≠ z → w'.heap[b]? = w.heap[b]? := fun b T cur hh hn =>
    hg.block b (Array.getElem?_eq_some_iff.1 hh).1 (fun e => hn (by cases e; rfl))
  cases s with
  | none =>
    intro g' e
    cases e
    exact ⟨(h g rfl).1, (h g rfl).2.same (hk g 47 _ (h g rfl).2 hne)⟩
  | some L =>
    obtain ⟨g', A, cap, e, hgB, hb', ho, r⟩ := h
    cases e
    refine ⟨g, A, cap, rfl, hgB, hb'.same (hk g 47 _ hb' hne), ho.heap fun b cur _ hh => hk b 5 cur hh (fun e => ?_), r⟩
    subst e
    unfold Blk at hb
    rw [hb] at hh
    injection hh with hh
    injection hh with _ hh
    exact absurd hh (by decide)
theorem size5 (w : World) : (sizeOf 5).run Try.prog w = .ok 1 w := by kernel_rfl
theorem eql_same (X : List (BitVec 8)) (hX : X.length = 32) (w : World) : (binOp .eql 42 (.agg (vbs X).toArray) (.agg (vbs X).toArray)).run Try.prog w = .ok (.bool true) w := by
  have e : vbs X = (X.map UInt8.ofBitVec).map Extern.Stop.cell := by simp [vbs, Extern.Stop.cell, Bt]
  have := run_eql_bytes (P := Try.prog) w 42 5 32 Try.underlying42 Try.underlying5 size5 (X.map UInt8.ofBitVec) (X.map UInt8.ofBitVec) (by simpa using hX) (by simpa using hX)
  rw [← e] at this
  rw [this]
  simp
theorem put_bad (w : World) (k : Int) (n : Nat) (hn : n < 18446744073709551616) (h : ¬ (isW k = true ∧ n < 2 ^ (8 * k.toNat))) : Calls Try.prog 9 #[.slice none 0 0, .int .i64 k, .int .u64 n] w fun e w' => e = .returned (.tuple #[.slice none 0 0, .int .i64 2]) ∧ Below w.heap.size w w' :=
  (put_any none [] 0 0 k n w (fun h => by simp at h) (Nat.zero_le _) hn (by decide)).mono fun e w' hp => ⟨hp.2.2 h, hp.1⟩
theorem open_two (w : World) : Calls Try.prog 11 #[.slice (some ⟨w.heap.size, 0, none⟩) 2 2] (w.alloc (.cells #[.int .u8 2, .int .u8 1] 5)) fun e w' => ∃ g, e = .returned (ptr (some g)) ∧ IsR w' (g + 1) (some g) (some [2, 1]) ∧ w.heap.size < g ∧ g < w'.heap.size ∧ Below w.heap.size w w' :=
  (open_any (some ⟨w.heap.size, 0, none⟩) [2, 1] 2 _ _ (rd_of_blk (Blk.new w 5 #[.int .u8 2, .int .u8 1])) (Nat.le_refl _) (fun h => by cases h) (by decide)).mono fun e w' ⟨g, he, hi, h1, h2, h3⟩ =>
    ⟨g, he, hi, by simp at h1; omega, h2, ((Below.refl _ _).alloc (Nat.le_refl _) _).trans (h3.mono (by simp))⟩
theorem open_odd (w : World) : Calls Try.prog 11 #[.slice (some ⟨w.heap.size, 0, none⟩) 3 3] (w.alloc (.cells #[.int .u8 1, .int .u8 2, .int .u8 3] 5)) fun e w' => ∃ g, e = .returned (ptr (some g)) ∧ IsR w' (g + 1) (some g) (some [1, 2, 3]) ∧ w.heap.size < g ∧ g < w'.heap.size ∧ Below w.heap.size w w' :=
  (open_any (some ⟨w.heap.size, 0, none⟩) [1, 2, 3] 3 _ _ (rd_of_blk (Blk.new w 5 #[.int .u8 1, .int .u8 2, .int .u8 3])) (Nat.le_refl _) (fun h => by cases h) (by decide)).mono fun e w' ⟨g, he, hi, h1, h2, h3⟩ =>
    ⟨g, he, hi, by simp at h1; omega, h2, ((Below.refl _ _).alloc (Nat.le_refl _) _).trans (h3.mono (by simp))⟩
set_option maxHeartbeats 1000000 in
theorem known_any (w : World) : Calls Try.prog 5 #[] w fun e w' => e = .returned (.bool true) ∧ Below w.heap.size w w' := by
  have KP1 : Hid (Calls Try.prog 9 #[.slice none 0 0, .int .i64 1, .int .u64 256] w fun e w' => e = .returned (.tuple #[.slice none 0 0, .int .i64 2]) ∧ Below w.heap.size w w') := put_bad w 1 256 (by decide) (by decide)
  have KP2 : Hid (∀ w, Calls Try.prog 9 #[.slice none 0 0, .int .i64 3, .int .u64 1] w fun e w' => e = .returned (.tuple #[.slice none 0 0, .int .i64 2]) ∧ Below w.heap.size w w') := fun w => put_bad w 3 1 (by decide) (by decide)
  have KO := Lib.hid open_two
  have KO3 := Lib.hid open_odd
  have KA := Lib.hid awake_any
  go_enter Try.func5, Try.ntmps5
  go_upto_region 2 with (go_at_call 9; (with_reducible refine KP1.out.mono ?_); rintro e w1 ⟨rfl, hb1⟩; dsimp only)
  go_upto_region 3 with (go_at_call 9; (with_reducible refine (KP2.out _).mono ?_); rintro e w2 ⟨rfl, hb2⟩; dsimp only)
  have HB2 : Hid (Below w.heap.size w w2) := hb1.trans (hb2.mono hb1.size)
  clear hb1 hb2 KP1 KP2
  go_upto_region 4 with (go_at_call 11; (with_reducible refine (KO.out _).mono ?_); rintro e w3 ⟨g, rfl, hi, hg1, hg2, hb3⟩; dsimp only)
  have HB3 : Hid (Below w.heap.size w w3) := HB2.out.trans (hb3.mono HB2.out.size)
  have Hg : Hid (w.heap.size ≤ g) := show w.heap.size ≤ g by have := HB2.out.size; omega
  have Hg2 := Lib.hid hg2
  have HI := Lib.hid hi
  clear hi hg1 hg2 hb3 HB2 KO
  go_upto_region 8 with (first
    | (go_at_call 8; (with_reducible refine (KA.out _).mono ?_); rintro e w4 ⟨rfl, hb4⟩; have HB4 : Hid (Below w.heap.size w w4) := HB3.out.trans (hb4.mono HB3.out.size); have Hg4 : Hid (g < w4.heap.size) := show g < w4.heap.size from (by have := Hg2.out; have := hb4.size; omega); have K12 := Lib.hid (num_w w4 g (g + 1) [2, 1] 4 0 none (by decide) (by decide) (HI.out.below hb4 (by have := Hg2.out; omega)) (by have := Hg4.out; omega)); clear hb4 HB3 HI; dsimp only)
    | (go_at_call 12; (with_reducible refine K12.out.mono ?_); rintro e w5 ⟨rfl, hi5, hg5⟩; have HB5 : Hid (Below w.heap.size w w5) := HB4.out.grown hg5 HB4.out.size (fun k e => by cases e; exact Hg.out); have Hg5 : Hid (g < w5.heap.size) := show g < w5.heap.size from (by have := Hg4.out; have := hg5.size; omega); have K22 := Lib.hid (torn_any _ _ _ _ hi5); have K12' := Lib.hid (num_any (some g) none 1 _ _ hi5 (by have := Hg5.out; omega)); clear hi5 hg5 HB4 K12; dsimp only)
    | (go_at_call 22; (with_reducible refine K22.out.mono ?_); rintro e w5' ⟨rfl, rfl⟩; dsimp only [Option.isNone])
    | (go_at_call 12; (with_reducible refine K12'.out.mono ?_); rintro e w6 ⟨rfl, hi6, hg6⟩; have HB6 : Hid (Below w.heap.size w w6) := HB5.out.grown hg6 HB5.out.size (fun k e => by cases e; exact Hg.out); have K20 := Lib.hid (left_any _ _ _ _ hi6); have K23 := Lib.hid (end_any _ _ _ _ hi6); clear hi6 hg6 HB5; dsimp only [numV, isW, takeL])
    | (go_at_call 20; (with_reducible refine K20.out.mono ?_); rintro e w6' ⟨rfl, rfl⟩; dsimp only [leftS, numS, isW, cutS])
    | (go_at_call 23; (with_reducible refine K23.out.mono ?_); rintro e w6'' ⟨rfl, rfl⟩; dsimp only [endS, numS, isW, cutS]))
  have HZ := Lib.hid (IsR.torn (show w6.heap.size < w6.heap.size + 1 by omega) (Blk.new w6 47 #[.slice none 0 0, .bool false]))
  have HB7 : Hid (Below w.heap.size w (w6.alloc (.cells #[.slice none 0 0, .bool false] 47))) := HB6.out.alloc HB6.out.size _
  have Hz1 : Hid (w.heap.size ≤ w6.heap.size) := HB6.out.size
  have Hz2 : Hid (w6.heap.size < (w6.alloc (.cells #[.slice none 0 0, .bool false] 47)).heap.size) := show w6.heap.size < (w6.alloc (.cells #[.slice none 0 0, .bool false] 47)).heap.size by simp
  clear HB6 K20 K23 K22 K12' KA
  have hk := KO3.out (w6.alloc (.cells #[.slice none 0 0, .bool false] 47))
  rw [show (w6.alloc (.cells #[.slice none 0 0, .bool false] 47)).heap.size = w6.heap.size + 1 by simp] at hk
  have HK := Lib.hid hk
  clear hk
  go_upto_region 9 with (go_at_call 11; (with_reducible refine HK.out.mono ?_); rintro e w8 ⟨g8, rfl, hi8, hg8, hs8, hb8⟩; dsimp only)
  have HB8 : Hid (Below w.heap.size w w8) := HB7.out.trans (hb8.mono (Nat.le_trans HB7.out.size (by simp)))
  have HI8 := Lib.hid hi8
  have HZ8 := Lib.hid (HZ.out.below hb8 (Nat.le_refl _))
  have Hg8 := Lib.hid hg8
  have Hs8 := Lib.hid hs8
  clear hi8 hg8 hs8 hb8 HB7 HZ Hz2 HK KO3
  generalize hzz : w6.heap.size = z at HZ8 Hz1 Hg8 ⊢
  clear hzz
  have hN : ∀ wx, IsR wx 0 none none := fun wx g e => by cases e
  have K12 : Hid (∀ wx, Calls Try.prog 12 #[.pointer none, .int .i64 1] wx (NumPost 0 none 0 none wx)) := fun wx => num_any none none 1 0 wx (hN wx) (Nat.zero_le _)
  have K14 : Hid (∀ wx, Calls Try.prog 14 #[.pointer none, .int .i64 0] wx (NewPost [] none 0 none wx)) := fun wx => take_any none none 0 0 wx (hN wx) (Nat.zero_le _) (fun _ e => by cases e)
  have K18 : Hid (∀ wx, Calls Try.prog 18 #[.pointer none, .int .i64 1] wx (NewPost [] none 0 none wx)) := fun wx => peek_any none none 1 0 wx (hN wx) (Nat.zero_le _) (fun _ e => by cases e)
  have K22 : Hid (∀ wx, Calls Try.prog 22 #[.pointer none] wx fun e w' => e = .returned (.bool true) ∧ wx = w') := fun wx => torn_nil wx
  have K23 : Hid (∀ wx, Calls Try.prog 23 #[.pointer none] wx fun e w' => e = .returned (.bool false) ∧ wx = w') := fun wx => end_any none none 0 wx (hN wx)
  have hz42 := zero42
  have heq := fun wx => eql_same Z32 rfl wx
  clear hN
  go_wp2_with (first
    | (go_at_call 22; (with_reducible refine KZ22.out.mono ?_); rintro e wt ⟨rfl, rfl⟩; dsimp only)
    | (go_at_call 20; (with_reducible refine KZ20.out.mono ?_); rintro e wt ⟨rfl, rfl⟩; dsimp only)
    | (go_at_call 16; (with_reducible refine KZ16.out.mono ?_); rintro e w11 ⟨rfl, hi11, hg11⟩; have HI11 := Lib.hid (HI10.out.other HZ10.out hg11 (by have := Hg8.out; omega)); have Hs11 : Hid (g8 < w11.heap.size) := show g8 < w11.heap.size from (by have := Hs8.out; have := HB10.out.size; have := hg11.size; omega); have HG11 := Lib.hid hg11; clear hi11 hg11; dsimp only)
    | (go_at_call 12; (with_reducible refine (K12.out _).mono ?_); rintro e w9 ⟨rfl, hi9, hg9⟩; have HB9 := Lib.hid (below_none hg9); clear hi9 hg9; dsimp only)
    | (go_at_call 14; (with_reducible refine (K14.out _).mono ?_); rintro e w10 ⟨v10, rfl, ho10, hi10, hg10⟩; obtain ⟨A10, cap10, rfl, _, _, _, _⟩ := ho10.rd; have HB10 := Lib.hid (HB9.out.trans ((below_none hg10).mono HB9.out.size)); have HZ10 := Lib.hid (HZ8.out.below HB10.out (by have := Hg8.out; have := Hs8.out; omega)); have HI10 := Lib.hid (HI8.out.below HB10.out Hs8.out); have KZ22 : Hid (Calls Try.prog 22 #[.pointer (some ⟨z, 0, none⟩)] w10 fun e w' => e = .returned (.bool true) ∧ w10 = w') := torn_any _ _ _ _ HZ10.out; have KZ20 : Hid (Calls Try.prog 20 #[.pointer (some ⟨z, 0, none⟩)] w10 fun e w' => e = .returned (.int .i64 0) ∧ w10 = w') := left_any _ _ _ _ HZ10.out; have KZ16 : Hid (Calls Try.prog 16 #[.pointer (some ⟨z, 0, none⟩)] w10 (HashPost Z32 none (z + 1) (some z) w10)) := hash_any _ _ _ _ HZ10.out (by have := Hg8.out; have := Hs8.out; have := HB10.out.size; omega); clear HB9 ho10 hi10 hg10; dsimp only [List.length])
    | (go_at_call 18; (with_reducible refine (K18.out _).mono ?_); rintro e w12 ⟨v12, rfl, ho12, hi12, hg12⟩; obtain ⟨A12, cap12, rfl, _, _, _, _⟩ := ho12.rd; have HB12 := Lib.hid (below_none hg12); have K12o := Lib.hid (num_w w12 g8 (g8 + 1) [1, 2, 3] 3 0 none (by decide) (by decide) (HI11.out.below HB12.out Hs11.out) (by have := Hs11.out; have := HB12.out.size; omega)); clear ho12 hi12 hg12; dsimp only [List.length])
    | (go_at_call 12; (with_reducible refine K12o.out.mono ?_); rintro e w13 ⟨rfl, hi13, hg13⟩; have K22o := Lib.hid (torn_any _ _ _ _ hi13); have HG13 := Lib.hid hg13; clear hi13 hg13; dsimp only)
    | (go_at_call 22; (with_reducible refine K22o.out.mono ?_); rintro e wt ⟨rfl, rfl⟩; dsimp only [Option.isNone])
    | (go_at_call 22; (with_reducible refine (K22.out _).mono ?_); rintro e wt ⟨rfl, rfl⟩; dsimp only)
    | (go_at_call 23; (with_reducible refine (K23.out _).mono ?_); rintro e wt ⟨rfl, rfl⟩; dsimp only))
  go_ret
  refine ⟨rfl, ?_⟩
  have h10 := HB8.out.trans (HB10.out.mono HB8.out.size)
  have h11 := h10.grown HG11.out h10.size (fun k e => by cases e; exact Hz1.out)
  have h12 := h11.trans (HB12.out.mono h11.size)
  exact h12.grown HG13.out h12.size (fun k e => by cases e; have := Hz1.out; have := Hg8.out; omega)
end Go.Proofs.Ytnnceicjooahmaa
