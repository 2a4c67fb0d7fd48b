/- The law package's awake returns true. -/
import Derived.Test.YtnnceicjooahmaaPa
import Derived.Test.YtnnceicjooahmaaRg
import Derived.Outline
namespace Go.Proofs.Ytnnceicjooahmaa
open Go.RowKit
set_option linter.unusedVariables false
set_option linter.unusedSimpArgs false
theorem rd_of_blk {w : World} {b T : Nat} {R : List (BitVec 8)} (h : Blk w b T (vbs R)) : Rd w w.heap.size (some ⟨b, 0, none⟩) R := fun hp => ⟨b, 0, rfl, h.lt, fun j hj => by rw [Nat.zero_add]; exact h.cell (vbs_at hj)⟩
theorem put_known (w : World) : Calls Try.prog 9 #[.slice (some ⟨w.heap.size, 0, none⟩) 1 1, .int .i64 2, .int .u64 258] (w.alloc (.cells #[.int .u8 7] 5)) (PutPost [7] 2 258 (w.alloc (.cells #[.int .u8 7] 5))) :=
  put_any (some ⟨w.heap.size, 0, none⟩) [7] 1 _ 2 258 _ (rd_of_blk (Blk.new w 5 #[.int .u8 7])) (Nat.le_refl _) (by decide) (by decide)
theorem open_known (w : World) : Calls Try.prog 11 #[.slice (some ⟨w.heap.size, 0, none⟩) 3 3] (w.alloc (.cells #[.int .u8 2, .int .u8 1, .int .u8 5] 5)) fun e w' => ∃ g, e = .returned (ptr (some g)) ∧ IsR w' (g + 1) (some g) (some [2, 1, 5]) ∧ w.heap.size < g ∧ g < w'.heap.size ∧ Below w.heap.size w w' :=
  (open_any (some ⟨w.heap.size, 0, none⟩) [2, 1, 5] 3 _ _ (rd_of_blk (Blk.new w 5 #[.int .u8 2, .int .u8 1, .int .u8 5])) (Nat.le_refl _) (fun h => by cases h) (by decide)).mono fun e w' ⟨g, he, hi, h1, h2, h3⟩ =>
    ⟨g, he, hi, by simp at h1; omega, h2, ((Below.refl _ _).alloc (Nat.le_refl _) _).trans (h3.mono (by simp))⟩
theorem conv_lit {w : World} {A : Option Addr} {L : List (BitVec 8)} {n c B : Nat} (h : Rd w B A L) (hn : n = L.length) (s : ByteArray) (hs : strB L = s) : (convert 22 9 (.slice A n c)).run Try.prog w = .ok (.string s) w := by
  rw [← hs]
  exact run_conv_slice w Try.underlying22 Try.underlying5 Try.underlying9 A L n c hn B h
theorem num_w (w : World) (g B : Nat) (L : List (BitVec 8)) (n : Int) (x : Nat) (s : Option (List (BitVec 8))) (hx : numV (some L) n = x) (hs : numS (some L) n = s) (h : IsR w B (some g) (some L)) (hB : B ≤ w.heap.size) :
    Calls Try.prog 12 #[ptr (some g), .int .i64 n] w (NumPost x s B (some g) w) := by
  rw [← hx, ← hs]; exact num_any _ _ n B w h hB
theorem take_w (w : World) (g B : Nat) (L : List (BitVec 8)) (n : Int) (X : List (BitVec 8)) (s : Option (List (BitVec 8))) (hx : takeL (some L) n = X) (hs : cutS (some L) n = s) (h : IsR w B (some g) (some L)) (hB : B ≤ w.heap.size) (hl : L.length ≤ 100000000) :
    Calls Try.prog 14 #[ptr (some g), .int .i64 n] w (NewPost X s B (some g) w) := by
  rw [← hx, ← hs]; exact take_any _ _ n B w h hB (fun M e => by cases e; exact hl)
theorem peek_w (w : World) (g B : Nat) (L : List (BitVec 8)) (n : Int) (X : List (BitVec 8)) (hx : takeL (some L) n = X) (h : IsR w B (some g) (some L)) (hB : B ≤ w.heap.size) (hl : L.length ≤ 100000000) :
    Calls Try.prog 18 #[ptr (some g), .int .i64 n] w (NewPost X (some L) B (some g) w) := by
  rw [← hx]; exact peek_any _ _ n B w h hB (fun M e => by cases e; exact hl)
set_option maxHeartbeats 1000000 in
theorem awake_any (w : World) : Calls Try.prog 8 #[] w fun e w' => e = .returned (.bool true) ∧ Below w.heap.size w w' := by
  have HP := Lib.hid (put_known w)
  have HO := Lib.hid open_known
  go_enter Try.func8, Try.ntmps8
  go_upto_region 2 with (go_at_call 9; (with_reducible refine HP.out.mono ?_); rintro e w1 hPP; obtain ⟨hb1, hy, _⟩ := hPP; obtain ⟨v, rfl, hv⟩ := hy (by decide); clear hy; dsimp only)
  have hv' : OB w1 _ v [7, 2, 1] := hv
  obtain ⟨A, cap, rfl, hrd, hl, hm, hz⟩ := hv'.rd
  have HB1 : Hid (Below w.heap.size w w1) := ((Below.refl _ _).alloc (Nat.le_refl _) _).trans (hb1.mono (by simp))
  have HRd := Lib.hid hrd
  clear hl hm hz hv hv' hb1 hrd HP
  go_upto_region 3 with (go_at_call 11; (with_reducible refine (HO.out _).mono ?_); rintro e w2 ⟨g, rfl, hi, hg1, hg2, hb2⟩; dsimp only)
  have HR2 := Lib.hid (HRd.out.keep hb2)
  have hc1 := conv_lit (c := cap) HR2.out (show 3 = [(7 : BitVec 8), 2, 1].length from rfl) { data := #[7, 2, 1] } (by decide +kernel)
  have K12 := Lib.hid (num_w w2 g (g + 1) [2, 1, 5] 2 258 (some [5]) (by decide) (by decide) hi (by omega))
  have HW2 : Hid (Below w.heap.size w w2) := HB1.out.trans (hb2.mono HB1.out.size)
  have Hg : Hid (w.heap.size ≤ g) := show w.heap.size ≤ g by have := HB1.out.size; omega
  have Hg2 := Lib.hid hg2
  clear hi hg1 hg2 hb2 HB1 HRd HR2 HO
  go_wp2_with (first
    | (go_at_call 12; (with_reducible refine K12.out.mono ?_); rintro e w3 ⟨rfl, hi3, hg3⟩; have K20 := Lib.hid (left_any _ _ _ _ hi3); have K18 := Lib.hid (peek_w w3 g (g + 1) [5] 1 [5] (by decide) hi3 (by have := Hg2.out; have := hg3.size; omega) (by decide)); have HG3 := Lib.hid hg3; clear hi3 hg3; dsimp only)
    | (go_at_call 20; (with_reducible refine K20.out.mono ?_); rintro e w3' ⟨rfl, rfl⟩; dsimp only [leftS])
    | (go_at_call 18; (with_reducible refine K18.out.mono ?_); rintro e w4 ⟨v4, rfl, ho4, hi4, hg4⟩; obtain ⟨A4, cap4, rfl, hr4, _, _, _⟩ := ho4.rd; have hc4 := conv_lit (c := cap4) hr4 (show 1 = [(5 : BitVec 8)].length from rfl) { data := #[5] } (by decide +kernel); have HG4 := Lib.hid (hg4 : w3.grownBy w4 (some g)); have K14 := Lib.hid (take_w w4 g (g + 1) [5] 1 [5] (some []) (by decide) (by decide) hi4 (by have := Hg2.out; have := HG3.out.size; have := HG4.out.size; omega) (by decide)); clear ho4 hi4 hg4 hr4; dsimp only)
    | (go_at_call 14; (with_reducible refine K14.out.mono ?_); rintro e w5 ⟨v5, rfl, ho5, hi5, hg5⟩; obtain ⟨A5, cap5, rfl, hr5, _, _, _⟩ := ho5.rd; have hc5 := conv_lit (c := cap5) hr5 (show 1 = [(5 : BitVec 8)].length from rfl) { data := #[5] } (by decide +kernel); have HG5 := Lib.hid hg5; have K23 := Lib.hid (end_any _ _ _ _ hi5); clear ho5 hi5 hg5 hr5; dsimp only)
    | (go_at_call 23; (with_reducible refine K23.out.mono ?_); rintro e w5' ⟨rfl, rfl⟩; dsimp only [endS, List.isEmpty]))
  go_ret
  exact ⟨rfl, ((HW2.out.grown HG3.out HW2.out.size (fun k e => by cases e; exact Hg.out)).grown HG4.out (Nat.le_trans HW2.out.size HG3.out.size) (fun k e => by cases e; exact Hg.out)).grown HG5.out (Nat.le_trans HW2.out.size (Nat.le_trans HG3.out.size HG4.out.size)) (fun k e => by cases e; exact Hg.out)⟩
end Go.Proofs.Ytnnceicjooahmaa
