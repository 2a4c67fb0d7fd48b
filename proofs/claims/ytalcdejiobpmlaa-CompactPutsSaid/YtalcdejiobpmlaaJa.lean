/- The law CompactKnown returns true. -/
import Derived.Test.YtalcdejiobpmlaaIb
import Derived.Lib.SlBytesConst
import Derived.Outline
namespace Go.Proofs.Ytalcdejiobpmlaa
open Go.RowKit
set_option linter.unusedVariables false
set_option linter.unusedSimpArgs false
set_option maxRecDepth 100000
theorem lit_rd (w : World) (X : List (BitVec 8)) (C : Array Value) (m : Nat × Nat) (hC : C = (vbs X).toArray) : Rd (w.alloc (.cells C 5 m)) (w.alloc (.cells C 5 m)).heap.size (some ⟨w.heap.size, 0, none⟩) X := fun _ =>
  ⟨w.heap.size, 0, rfl, by simp, fun j hj => by
    rw [Nat.zero_add]
    subst hC
    exact cell_new rfl (by simpa using vbs_at hj)⟩
theorem open_lit (w : World) (X : List (BitVec 8)) (C : Array Value) (m : Nat × Nat) (n : Nat) (hC : C = (vbs X).toArray) (hn : X.length = n) (hl : n ≤ 1000) :
    Calls Try.prog 17 #[.slice (some ⟨w.heap.size, 0, none⟩) n n] (w.alloc (.cells C 5 m)) fun e w' => ∃ g, e = .returned (ptr (some g)) ∧ IsR w' (g + 1) (some g) (some X) ∧ w.heap.size ≤ g ∧ g < w'.heap.size ∧ Below w.heap.size w w' :=
  (open_w _ X n n _ _ hn (lit_rd w X C m hC) (Nat.le_refl _) (fun h => by cases h) (by omega)).mono fun e w' ⟨g, he, hi, h1, h2, h3⟩ =>
    ⟨g, he, hi, by simp at h1; omega, h2, ((Below.refl _ _).alloc (Nat.le_refl _) _).trans (h3.mono (by simp))⟩
theorem put_k (n : Nat) (M : Int) (X : List (BitVec 8)) (hM : (n : Int) = M) (hX : form n = X) (w : World) : Calls Try.prog 10 #[.slice none 0 0, .int .u64 M] w (LaidPost X w) := by
  rw [← hM, ← hX]; exact put_nil n w
theorem text_w (w : World) (p : Option Nat) (B : Nat) (s s' : Option (List (BitVec 8))) (most : Int) (X : List (BitVec 8)) (c : Int) (hx : tL s most.toNat = X) (hc : tE s most.toNat = c) (hs : tS s most.toNat = s') (h : IsR w B p s) (hB : B ≤ w.heap.size) (hl : Short s 100000000) (hm : most ≤ 9223372036854775807) :
    Calls Try.prog 20 #[ptr p, .int .i64 most] w (TextPost X c s' B p w) := by
  rw [← hx, ← hc, ← hs]; exact text_any p s most B w h hB hl hm
theorem short_lit {X : List (BitVec 8)} {k : Nat} (h : X.length ≤ k) : Short (some X) k := fun L e => by cases e; exact h
/-- What an opened literal's reader leaves: nothing below has changed. -/
theorem lit_below {w w1 w2 : World} {g : Nat} (hb : Below w.heap.size w w1) (hg : w1.grownBy w2 (some g)) (h : w.heap.size ≤ g) : Below w.heap.size w w2 :=
  hb.grown hg hb.size (fun k e => by cases e; exact h)
theorem putText_lit (w : World) : Calls Try.prog 11 #[.slice (some ⟨w.heap.size, 0, none⟩) 1 1, .slice (some ⟨w.heap.size + 1, 0, none⟩) 2 2] ((w.alloc (.cells #[.int .u8 7] 5)).alloc (.cells #[.int .u8 97, .int .u8 98] 5 (2, 3))) fun e w' => ∃ v, e = .returned v ∧ OB w' w.heap.size v [7, 2, 97, 98] ∧ Below w.heap.size w w' := by
  have h2 := lit_rd (w.alloc (.cells #[.int .u8 7] 5)) [97, 98] #[.int .u8 97, .int .u8 98] (2, 3) rfl
  have hb : Below w.heap.size w ((w.alloc (.cells #[.int .u8 7] 5)).alloc (.cells #[.int .u8 97, .int .u8 98] 5 (2, 3))) := ((Below.refl _ _).alloc (Nat.le_refl _) _).alloc (by simp) _
  have h1 := (lit_rd w [7] #[.int .u8 7] (0, 0) rfl).keep ((Below.refl (w.alloc (.cells #[.int .u8 7] 5)).heap.size (w.alloc (.cells #[.int .u8 7] 5))).alloc (Nat.le_refl _) (.cells #[.int .u8 97, .int .u8 98] 5 (2, 3)))
  rw [show (w.alloc (.cells #[.int .u8 7] 5)).heap.size = w.heap.size + 1 by simp] at h2
  exact (putText_any _ _ [7] [97, 98] 1 2 _ _ (h1.up (by simp)) h2 (Nat.le_refl _) (fun h => by cases h) (by decide) (by decide)).mono fun e w' ⟨v, he, ho, hb'⟩ =>
    ⟨v, he, ho.base hb.size, hb.trans (hb'.mono hb.size)⟩
set_option maxHeartbeats 2000000 in
theorem known_walk (w : World) : Calls Try.prog 8 #[] w fun e w' => e = .returned (.bool true) ∧ Below w.heap.size w w' := by
  have kc := fun (w : World) (C : Array Value) (n c : Nat) => Lib.run_convert_bytes_const (P := Try.prog) w 22 5 C n c Try.underlying22 Try.underlying5
  have kc2 : ∀ (w : World) (C1 C : Array Value) (n c : Nat), (convert 22 22 (.slice (some ⟨w.heap.size + 1, 0, none⟩) n c)).run Try.prog ((w.alloc (.cells C1 5)).alloc (.cells C 5)) = .ok (.slice (some ⟨w.heap.size + 1, 0, none⟩) n c) ((w.alloc (.cells C1 5)).alloc (.cells C 5 (C.size, C.size + 1))) := fun w C1 C n c => by
    have := kc (w.alloc (.cells C1 5)) C n c
    rwa [show (w.alloc (.cells C1 5)).heap.size = w.heap.size + 1 by simp] at this
  have HT11 := Lib.hid putText_lit
  have KW := Lib.hid (fun w => works_any w)
  have KP0 := Lib.hid (put_k 252 252 [252] rfl (by decide))
  have KP1 := Lib.hid (put_k 253 253 [253, 253, 0] rfl (by decide))
  have KP2 := Lib.hid (put_k 65536 65536 [254, 0, 0, 1, 0] rfl (by decide))
  have KP3 := Lib.hid (put_k 4294967296 4294967296 [255, 0, 0, 0, 0, 1, 0, 0, 0] rfl (by decide))
  go_enter Try.func8, Try.ntmps8
  go_upto_region 2 with (first
    | (go_at_call 10; (with_reducible refine (KP0.out _).mono ?_); rintro e p0 ⟨v0, rfl, hv, hb⟩; obtain ⟨A0, k0, rfl, hr, _, _, _⟩ := hv.rd; have HR0 := Lib.hid hr; have HP0 := Lib.hid hb; clear hv hb hr KP0; dsimp only)
    | (go_at_call 10; (with_reducible refine (KP1.out _).mono ?_); rintro e p1 ⟨v1, rfl, hv, hb⟩; obtain ⟨A1, k1, rfl, hr, _, _, _⟩ := hv.rd; have HR1 := Lib.hid hr; have HP1 := Lib.hid hb; clear hv hb hr KP1; dsimp only)
    | (go_at_call 10; (with_reducible refine (KP2.out _).mono ?_); rintro e p2 ⟨v2, rfl, hv, hb⟩; obtain ⟨A2, k2, rfl, hr, _, _, _⟩ := hv.rd; have HR2 := Lib.hid hr; have HP2 := Lib.hid hb; clear hv hb hr KP2; dsimp only)
    | (go_at_call 10; (with_reducible refine (KP3.out _).mono ?_); rintro e p3 ⟨v3, rfl, hv, hb⟩; obtain ⟨A3, k3, rfl, hr, _, _, _⟩ := hv.rd; have HR3 := Lib.hid hr; have HP3 := Lib.hid hb; clear hv hb hr KP3; dsimp only))
  have b0 := HP0.out
  have b1 : Below w.heap.size w p1 := HP0.out.trans (HP1.out.mono HP0.out.size)
  have b2 : Below w.heap.size w p2 := b1.trans (HP2.out.mono b1.size)
  have b3 : Below w.heap.size w p3 := b2.trans (HP3.out.mono b2.size)
  have q2 : Below p1.heap.size p1 p3 := HP2.out.trans (HP3.out.mono HP2.out.size)
  have q1 : Below p0.heap.size p0 p3 := HP1.out.trans (q2.mono HP1.out.size)
  have HB3 := Lib.hid b3
  have e0 := conv_lit (c := k0) (HR0.out.keep q1) (show 1 = ([252] : List (BitVec 8)).length from rfl) { data := #[252] } (by decide +kernel)
  have e1 := conv_lit (c := k1) (HR1.out.keep q2) (show 3 = ([253, 253, 0] : List (BitVec 8)).length from rfl) { data := #[253, 253, 0] } (by decide +kernel)
  have e2 := conv_lit (c := k2) (HR2.out.keep HP3.out) (show 5 = ([254, 0, 0, 1, 0] : List (BitVec 8)).length from rfl) { data := #[254, 0, 0, 1, 0] } (by decide +kernel)
  have e3 := conv_lit (c := k3) (HR3.out) (show 9 = ([255, 0, 0, 0, 0, 1, 0, 0, 0] : List (BitVec 8)).length from rfl) { data := #[255, 0, 0, 0, 0, 1, 0, 0, 0] } (by decide +kernel)
  clear b0 b1 b2 b3 q1 q2 HP0 HP1 HP2 HP3 HR0 HR1 HR2 HR3
  go_upto_region 4 with fail
  clear e0 e1 e2 e3
  have KO4 := Lib.hid (open_lit p3 [252] #[.int .u8 252] (0, 0) 1 rfl rfl (by decide))
  go_upto_region 5 with (first
    | (go_at_call 17; (with_reducible refine KO4.out.mono ?_); rintro e a4 ⟨g4, rfl, hi, h1, h2, hb⟩; have KG4 := Lib.hid (get_w a4 (some g4) (g4 + 1) (some [252]) (some []) 300 252 300 0 rfl (by decide) (by decide) (by decide) hi (by omega)); have HA4 := Lib.hid hb; have HL4 := Lib.hid h1; clear hi h1 h2 hb KO4; dsimp only)
    | (go_at_call 18; (with_reducible refine KG4.out.mono ?_); rintro e w4 ⟨rfl, hi, hg⟩; have HB4' := Lib.hid (lit_below HA4.out hg HL4.out); clear hi hg KG4; dsimp only))
  have HB5 : Hid (Below w.heap.size w w4) := HB3.out.trans (HB4'.out.mono HB3.out.size)
  have KO5 := Lib.hid (open_lit w4 [253, 252, 0] #[.int .u8 253, .int .u8 252, .int .u8 0] (0, 0) 3 rfl rfl (by decide))
  go_upto_region 6 with (first
    | (go_at_call 17; (with_reducible refine KO5.out.mono ?_); rintro e a5 ⟨g5, rfl, hi, h1, h2, hb⟩; have KG5 := Lib.hid (get_w a5 (some g5) (g5 + 1) (some [253, 252, 0]) (some []) 300 0 300 4 rfl (by decide) (by decide) (by decide) hi (by omega)); have HA5 := Lib.hid hb; have HL5 := Lib.hid h1; clear hi h1 h2 hb KO5; dsimp only)
    | (go_at_call 18; (with_reducible refine KG5.out.mono ?_); rintro e w5 ⟨rfl, hi, hg⟩; have HB5' := Lib.hid (lit_below HA5.out hg HL5.out); clear hi hg KG5; dsimp only))
  have HB6 : Hid (Below w.heap.size w w5) := HB5.out.trans (HB5'.out.mono HB5.out.size)
  have KO6 := Lib.hid (open_lit w5 [253, 253] #[.int .u8 253, .int .u8 253] (0, 0) 2 rfl rfl (by decide))
  go_upto_region 7 with (first
    | (go_at_call 17; (with_reducible refine KO6.out.mono ?_); rintro e a6 ⟨g6, rfl, hi, h1, h2, hb⟩; have KG6 := Lib.hid (get_w a6 (some g6) (g6 + 1) (some [253, 253]) (none) 300 0 300 4 rfl (by decide) (by decide) (by decide) hi (by omega)); have HA6 := Lib.hid hb; have HL6 := Lib.hid h1; clear hi h1 h2 hb KO6; dsimp only)
    | (go_at_call 18; (with_reducible refine KG6.out.mono ?_); rintro e w6 ⟨rfl, hi, hg⟩; have HB6' := Lib.hid (lit_below HA6.out hg HL6.out); clear hi hg KG6; dsimp only))
  have HB7 : Hid (Below w.heap.size w w6) := HB6.out.trans (HB6'.out.mono HB6.out.size)
  have KO7 := Lib.hid (open_lit w6 [253, 253, 0] #[.int .u8 253, .int .u8 253, .int .u8 0] (0, 0) 3 rfl rfl (by decide))
  go_upto_region 8 with (first
    | (go_at_call 17; (with_reducible refine KO7.out.mono ?_); rintro e a7 ⟨g7, rfl, hi, h1, h2, hb⟩; have KG7 := Lib.hid (get_w a7 (some g7) (g7 + 1) (some [253, 253, 0]) (some []) 252 0 252 3 rfl (by decide) (by decide) (by decide) hi (by omega)); have HA7 := Lib.hid hb; have HL7 := Lib.hid h1; clear hi h1 h2 hb KO7; dsimp only)
    | (go_at_call 18; (with_reducible refine KG7.out.mono ?_); rintro e w7 ⟨rfl, hi, hg⟩; have HB7' := Lib.hid (lit_below HA7.out hg HL7.out); clear hi hg KG7; dsimp only))
  have HB8 : Hid (Below w.heap.size w w7) := HB7.out.trans (HB7'.out.mono HB7.out.size)
  have K11 := Lib.hid (HT11.out w7)
  go_upto_region 9 with (go_at_call 11; (with_reducible refine K11.out.mono ?_); rintro e w8 ⟨v, rfl, ho, hb⟩; obtain ⟨T8, d8, rfl, hr, _, _, _⟩ := ho.rd; have HT8 := Lib.hid hr; have HB8' := Lib.hid hb; clear ho hr hb K11; dsimp only)
  have HB9 : Hid (Below w.heap.size w w8) := HB8.out.trans (HB8'.out.mono HB8.out.size)
  have KO9 := Lib.hid (open_lit w8 [2, 97, 98, 99] #[.int .u8 2, .int .u8 97, .int .u8 98, .int .u8 99] (4, 5) 4 rfl rfl (by decide))
  go_upto_region 10 with (first
    | (go_at_call 17; (with_reducible refine KO9.out.mono ?_); rintro e a9 ⟨g9, rfl, hi, h1, h2, hb⟩; have KG9 := Lib.hid (text_w a9 (some g9) (g9 + 1) (some [2, 97, 98, 99]) (some [99]) (2) [97, 98] 0 (by decide) (by decide) (by decide) hi (by omega) (short_lit (by decide)) (by decide)); have HA9 := Lib.hid hb; have HL9 := Lib.hid h1; clear hi h1 h2 hb KO9; dsimp only)
    | (go_at_call 20; (with_reducible refine KG9.out.mono ?_); rintro e w9 ⟨v, rfl, ho, hi, hg⟩; obtain ⟨T9, d9, rfl, hr, _, _, _⟩ := ho.rd; have HT9 := Lib.hid hr; have HB9' := Lib.hid (lit_below HA9.out hg HL9.out); clear ho hr hi hg KG9; dsimp only))
  have HB10 : Hid (Below w.heap.size w w9) := HB9.out.trans (HB9'.out.mono HB9.out.size)
  have HX9 : Hid (Below w8.heap.size w8 w9) := HB9'.out
  have KO10 := Lib.hid (open_lit w9 [2, 97, 98, 99] #[.int .u8 2, .int .u8 97, .int .u8 98, .int .u8 99] (4, 5) 4 rfl rfl (by decide))
  go_upto_region 11 with (first
    | (go_at_call 17; (with_reducible refine KO10.out.mono ?_); rintro e a10 ⟨g10, rfl, hi, h1, h2, hb⟩; have KG10 := Lib.hid (text_w a10 (some g10) (g10 + 1) (some [2, 97, 98, 99]) (some [97, 98, 99]) (1) [] 3 (by decide) (by decide) (by decide) hi (by omega) (short_lit (by decide)) (by decide)); have HA10 := Lib.hid hb; have HL10 := Lib.hid h1; clear hi h1 h2 hb KO10; dsimp only)
    | (go_at_call 20; (with_reducible refine KG10.out.mono ?_); rintro e w10 ⟨v, rfl, ho, hi, hg⟩; obtain ⟨T10, d10, rfl, hr, _, _, _⟩ := ho.rd; have HT10 := Lib.hid hr; have HB10' := Lib.hid (lit_below HA10.out hg HL10.out); clear ho hr hi hg KG10; dsimp only))
  have HB11 : Hid (Below w.heap.size w w10) := HB10.out.trans (HB10'.out.mono HB10.out.size)
  have HX10 : Hid (Below w8.heap.size w8 w10) := HX9.out.trans (HB10'.out.mono HX9.out.size)
  have HY10 : Hid (Below w9.heap.size w9 w10) := HB10'.out
  clear HT10
  have KO11 := Lib.hid (open_lit w10 [3, 97, 98] #[.int .u8 3, .int .u8 97, .int .u8 98] (3, 4) 3 rfl rfl (by decide))
  go_upto_region 12 with (first
    | (go_at_call 17; (with_reducible refine KO11.out.mono ?_); rintro e a11 ⟨g11, rfl, hi, h1, h2, hb⟩; have KG11 := Lib.hid (text_w a11 (some g11) (g11 + 1) (some [3, 97, 98]) (none) (9) [] 4 (by decide) (by decide) (by decide) hi (by omega) (short_lit (by decide)) (by decide)); have HA11 := Lib.hid hb; have HL11 := Lib.hid h1; clear hi h1 h2 hb KO11; dsimp only)
    | (go_at_call 20; (with_reducible refine KG11.out.mono ?_); rintro e w11 ⟨v, rfl, ho, hi, hg⟩; obtain ⟨T11, d11, rfl, hr, _, _, _⟩ := ho.rd; have HT11 := Lib.hid hr; have HB11' := Lib.hid (lit_below HA11.out hg HL11.out); clear ho hr hi hg KG11; dsimp only))
  have HB12 : Hid (Below w.heap.size w w11) := HB11.out.trans (HB11'.out.mono HB11.out.size)
  have HX11 : Hid (Below w8.heap.size w8 w11) := HX10.out.trans (HB11'.out.mono HX10.out.size)
  have HY11 : Hid (Below w9.heap.size w9 w11) := HY10.out.trans (HB11'.out.mono HY10.out.size)
  clear HT11
  have KN : Hid (Calls Try.prog 18 #[.pointer none, .int .u64 1] w11 (GetPost 0 4 none 0 none w11)) := get_w w11 none 0 none none 1 0 1 4 rfl (by decide) (by decide) (by decide) (fun g e => by cases e) (Nat.zero_le _)
  go_upto_region 13 with (go_at_call 18; (with_reducible refine KN.out.mono ?_); rintro e w12 ⟨rfl, hi, hg⟩; have HB12' : Hid (Below w11.heap.size w11 w12) := ⟨hg.os, hg.tape, hg.output, hg.size, fun k hk => hg.block k hk (by simp)⟩; clear hi hg KN; dsimp only)
  have HB13 : Hid (Below w.heap.size w w12) := HB12.out.trans (HB12'.out.mono HB12.out.size)
  have HX12 : Hid (Below w8.heap.size w8 w12) := HX11.out.trans (HB12'.out.mono HX11.out.size)
  have HY12 : Hid (Below w9.heap.size w9 w12) := HY11.out.trans (HB12'.out.mono HY11.out.size)
  have KO13 := Lib.hid (open_lit w12 [0] #[.int .u8 0] (0, 0) 1 rfl rfl (by decide))
  go_upto_region 14 with (first
    | (go_at_call 17; (with_reducible refine KO13.out.mono ?_); rintro e a13 ⟨g13, rfl, hi, h1, h2, hb⟩; have KG13 := Lib.hid (text_w a13 (some g13) (g13 + 1) (some [0]) (some []) (-5) [] 0 (by decide) (by decide) (by decide) hi (by omega) (short_lit (by decide)) (by decide)); have HA13 := Lib.hid hb; have HL13 := Lib.hid h1; clear hi h1 h2 hb KO13; dsimp only)
    | (go_at_call 20; (with_reducible refine KG13.out.mono ?_); rintro e w13 ⟨v, rfl, ho, hi, hg⟩; obtain ⟨T13, d13, rfl, hr, _, _, _⟩ := ho.rd; have HT13 := Lib.hid hr; have HB13' := Lib.hid (lit_below HA13.out hg HL13.out); clear ho hr hi hg KG13; dsimp only))
  have HB14 : Hid (Below w.heap.size w w13) := HB13.out.trans (HB13'.out.mono HB13.out.size)
  have HX13 : Hid (Below w8.heap.size w8 w13) := HX12.out.trans (HB13'.out.mono HX12.out.size)
  have HY13 : Hid (Below w9.heap.size w9 w13) := HY12.out.trans (HB13'.out.mono HY12.out.size)
  have e8 := conv_lit (c := d8) (HT8.out.keep HX13.out) (show 4 = ([7, 2, 97, 98] : List (BitVec 8)).length from rfl) { data := #[7, 2, 97, 98] } (by decide +kernel)
  have e9 := conv_lit (c := d9) (HT9.out.keep HY13.out) (show 2 = ([97, 98] : List (BitVec 8)).length from rfl) { data := #[97, 98] } (by decide +kernel)
  clear HX9 HX10 HX11 HX12 HX13 HY10 HY11 HY12 HY13 kc kc2
  go_wp2_with (go_at_call 16; (with_reducible refine (KW.out _).mono ?_); rintro e w14 ⟨rfl, hb⟩; dsimp only)
  go_ret
  exact ⟨rfl, HB14.out.trans (hb.mono HB14.out.size)⟩
end Go.Proofs.Ytalcdejiobpmlaa
