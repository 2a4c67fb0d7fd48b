/- What the document's own Put, PutText and Size return. -/
import Derived.Test.YtalcdejiobpmlaaGa
import Derived.Outline
namespace Go.Proofs.Ytalcdejiobpmlaa
open Go.RowKit
set_option linter.unusedVariables false
set_option linter.unusedSimpArgs false
set_option maxRecDepth 100000
theorem form_short (n : Nat) : (form n).length ≤ 9 := by rw [form_len]; have := wid_le n; omega
theorem rsize_any (n : Nat) (w : World) (hn : n < 18446744073709551616) : Calls Try.prog 15 #[.int .u64 n] w fun e w' => e = .returned (.int .i64 ((1 + wid n : Nat) : Int)) ∧ Below w.heap.size w w' := by
  have K := Lib.hid (form_any n w hn)
  rw [← form_len]
  obtain ⟨F, hF⟩ : ∃ F, F = form n := ⟨_, rfl⟩
  rw [← hF] at K ⊢
  clear hF hn
  go_enter Try.func15, Try.ntmps15
  go_wp2_with (go_at_call 27; (with_reducible refine K.out.mono ?_); rintro e w1 ⟨v, rfl, hv, hb⟩; obtain ⟨A, cap, rfl, _, _, _, _⟩ := hv.rd; have HB := Lib.hid hb; clear hv hb; dsimp only)
  go_ret
  exact ⟨rfl, HB.out⟩
theorem rput_any (A : Option Addr) (L : List (BitVec 8)) (l cap B n : Nat) (w : World) (hL : L.length = l) (hR : Rd w B A L) (hB : B ≤ w.heap.size) (hc : A = none → cap = 0) (hn : n < 18446744073709551616) (hl : L.length ≤ 100000000) :
    Calls Try.prog 12 #[.slice A l cap, .int .u64 n] w (LaidPost (L ++ form n) w) := by
  have K := Lib.hid (fun w => form_any n w hn)
  have HR := Lib.hid hR
  have HB := Lib.hid hB
  have Hc := Lib.hid hc
  have Hl := Lib.hid hl
  have HL := Lib.hid hL.symm
  have HF := Lib.hid (form_short n)
  have HS := Lib.hid (src_of_rd hR)
  obtain ⟨F, hF⟩ : ∃ F, F = form n := ⟨_, rfl⟩
  rw [← hF] at K HF ⊢
  clear hF hn hR hB hc hl hL
  go_enter Try.func12, Try.ntmps12
  go_upto_region 3 with (refine wpList_push (o := ⟨some 8, _, _, _, _, _⟩) rfl (.tmp 6) (.tmp 7) rfl rfl w.heap.size _ [] L rfl (OB.nil _ _) A l cap rfl HL.out HS.out Hc.out (by have := Hl.out; simp; omega) (Below.refl w.heap.size w) (Nat.le_refl _) (Nat.le_refl _) ?_; intro v1 w1 h1 h2 h3)
  rw [List.nil_append] at h1
  have H1 := Lib.hid h1
  have H2 := Lib.hid h2
  clear h1 h2 h3
  go_wp2_with (first
    | (go_at_call 27; (with_reducible refine (K.out _).mono ?_); rintro e w2 ⟨v, rfl, hv, hb⟩; obtain ⟨A2, cap2, rfl, hr, _, _, hz⟩ := hv.rd; have HO2 := Lib.hid (H1.out.below (B' := 0) hb); have HB2 : Hid (Below w.heap.size w w2) := H2.out.trans (hb.mono H2.out.size); have HS2 := Lib.hid (src_of_rd hr); have HZ := Lib.hid hz; clear hv hb hr hz; dsimp only)
    | (refine wpList_push (o := ⟨some 12, _, _, _, _, _⟩) rfl (.tmp 9) (.tmp 11) rfl rfl w.heap.size _ L F rfl HO2.out A2 F.length cap2 rfl rfl HS2.out HZ.out (by have := Hl.out; have := HF.out; omega) HB2.out HB2.out.size (Nat.le_refl _) ?_; intro v3 w3 h4 h5 h6))
  go_ret
  exact ⟨_, rfl, h4, h5⟩
theorem rputText_any (A A2 : Option Addr) (L T : List (BitVec 8)) (l m cap cap2 B : Nat) (w : World) (hL : L.length = l) (hT : T.length = m) (hR : Rd w B A L) (hR2 : Rd w B A2 T) (hB : B ≤ w.heap.size) (hc : A = none → cap = 0) (hc2 : A2 = none → cap2 = 0) (hl : L.length ≤ 100000000) (hl2 : T.length ≤ 100000000) :
    Calls Try.prog 13 #[.slice A l cap, .slice A2 m cap2] w (LaidPost (L ++ form m ++ T) w) := by
  have K := Lib.hid (rput_any A L l cap B m w hL hR hB hc (by omega) hl)
  have hm8 : m ≤ 100000000 := by omega
  have HR2 := Lib.hid hR2
  have HB := Lib.hid hB
  have Hc2 := Lib.hid hc2
  have Hl := Lib.hid hl
  have HT := Lib.hid hT.symm
  have HF := Lib.hid (form_short m)
  clear hR hR2 hB hc hc2 hl hl2 hL hT
  go_enter Try.func13, Try.ntmps13
  go_upto_region 2 with (go_at_call 12; (with_reducible refine K.out.mono ?_); rintro e w1 ⟨v, rfl, hv, hb⟩; have HV := Lib.hid hv; have HB1 := Lib.hid hb; have HS := Lib.hid (src_of_rd (HR2.out.keep (hb.mono HB.out))); clear hv hb; dsimp only)
  go_wp2_with (refine wpList_push (o := ⟨some 13, _, _, _, _, _⟩) rfl (.tmp 11) (.tmp 12) rfl rfl w.heap.size _ _ T rfl HV.out A2 m cap2 rfl HT.out HS.out Hc2.out (by have := HT.out; have := HF.out; have := Hl.out; rw [List.length_append]; omega) HB1.out HB1.out.size (Nat.le_refl _) ?_; intro v3 w3 h1 h2 h3)
  go_ret
  exact ⟨_, rfl, h1, h2⟩
end Go.Proofs.Ytalcdejiobpmlaa
