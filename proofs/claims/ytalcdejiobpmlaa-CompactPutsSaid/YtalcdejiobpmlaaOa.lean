/- The law CompactBack returns true for every number and all bytes that can be read. -/
import Derived.Test.YtalcdejiobpmlaaNa
import Derived.Test.YtalcdejiobpmlaaJa
import Derived.Outline
namespace Go.Proofs.Ytalcdejiobpmlaa
open Go.RowKit
set_option linter.unusedVariables false
set_option linter.unusedSimpArgs false
set_option maxRecDepth 100000
theorem takeL_app (T Y : List (BitVec 8)) : takeL (some (T ++ Y)) T.length = T ∧ cutS (some (T ++ Y)) T.length = some Y := by
  have hb : hasB (some (T ++ Y)) T.length = true := by simp [hasB]; omega
  obtain ⟨h1, h2, _⟩ := cut_yes hb
  rw [h1, h2]
  constructor
  · simp
  · simp
/-- Text of a text's form tells the text, and leaves what lies behind. -/
theorem text_of_form (T Y : List (BitVec 8)) (hT : T.length ≤ 3000) : tE (some (form T.length ++ (T ++ Y))) T.length = 0 ∧ tL (some (form T.length ++ (T ++ Y))) T.length = T ∧ tS (some (form T.length ++ (T ++ Y))) T.length = some Y := by
  obtain ⟨h1, h2, h3⟩ := get_of_form T.length (by omega) (T ++ Y)
  have e0 : gE (some (form T.length ++ (T ++ Y))) T.length = 0 := by rw [h3, if_neg (Nat.lt_irrefl _)]
  obtain ⟨h4, h5⟩ := takeL_app T Y
  have eE : tE (some (form T.length ++ (T ++ Y))) T.length = 0 := by
    unfold tE; rw [if_pos e0, h2, h1, h5]; rfl
  refine ⟨eE, ?_, ?_⟩
  · unfold tL; rw [if_pos eE, h2, h1, h4]
  · unfold tS; rw [if_pos e0, h2, h1, h5]
theorem putText_w (A A2 : Option Addr) (L T : List (BitVec 8)) (l m cap cap2 B : Nat) (w : World) (hL : L.length = l) (hT : T.length = m) (hR : Rd w B A L) (hR2 : Rd w B A2 T) (hB : B ≤ w.heap.size) (hc2 : A2 = none → cap2 = 0) (hl : L.length ≤ 100000000) (hl2 : T.length ≤ 100000000) :
    Calls Try.prog 11 #[.slice A l cap, .slice A2 m cap2] w (LaidPost (L ++ form m ++ T) w) := by
  subst hL hT; exact putText_any A A2 L T cap cap2 B w hR hR2 hB hc2 hl hl2
set_option maxHeartbeats 2000000 in
theorem back_walk (n : Nat) (A1 A2 : Option Addr) (cap1 cap2 : Nat) (R1 R2 : List (BitVec 8)) (w : World) (hn64 : n < 18446744073709551616) (hR1 : Rd w w.heap.size A1 R1) (hR2 : Rd w w.heap.size A2 R2) (hc1 : A1 = none → cap1 = 0) (hc2 : A2 = none → cap2 = 0) (hl1 : R1.length ≤ cap1) (hl2 : R2.length ≤ cap2) (hm1 : cap1 ≤ 9223372036854775807) (hm2 : cap2 ≤ 9223372036854775807) :
    Calls Try.prog 5 #[.int .u64 n, .slice A1 R1.length cap1, .slice A2 R2.length cap2] w fun e w' => e = .returned (.bool true) ∧ Below w.heap.size w w' := by
  have KC1 := Lib.hid (cut_row A1 R1.length cap1 w hl1 hm1)
  have KC2 := Lib.hid (cut_row A2 R2.length cap2 w hl2 hm2)
  obtain ⟨m1, hmm1⟩ : ∃ m, m = min R1.length 3000 := ⟨_, rfl⟩
  obtain ⟨m2, hmm2⟩ : ∃ m, m = min R2.length 3000 := ⟨_, rfl⟩
  obtain ⟨T, hT⟩ : ∃ X, X = R1.take m1 := ⟨_, rfl⟩
  obtain ⟨Y, hY⟩ : ∃ X, X = R2.take m2 := ⟨_, rfl⟩
  have hTl : T.length = m1 := by rw [hT, List.length_take]; omega
  have hYl : Y.length = m2 := by rw [hY, List.length_take]; omega
  have hRT : Rd w w.heap.size A1 T := by rw [hT]; exact hR1.take m1 (by omega)
  have hRY : Rd w w.heap.size A2 Y := by rw [hY]; exact hR2.take m2 (by omega)
  have hm13 : m1 ≤ 3000 := by omega
  have hm23 : m2 ≤ 3000 := by omega
  have HRT := Lib.hid hRT
  have HRY := Lib.hid hRY
  have HTl := Lib.hid hTl
  have HYl := Lib.hid hYl
  have Hc1 := Lib.hid hc1
  have Hc2 := Lib.hid hc2
  rw [← hmm1] at KC1
  rw [← hmm2] at KC2
  obtain ⟨n1, hn1⟩ : ∃ n, n = R1.length := ⟨_, rfl⟩
  obtain ⟨n2, hn2⟩ : ∃ n, n = R2.length := ⟨_, rfl⟩
  rw [← hn1] at KC1 ⊢
  rw [← hn2] at KC2 ⊢
  have KP := Lib.hid (put_nil n w)
  obtain ⟨sz, hsz⟩ : ∃ s, s = (form n).length := ⟨_, rfl⟩
  obtain ⟨sm, hsm⟩ : ∃ s, s = (form m1).length := ⟨_, rfl⟩
  have K14 := Lib.hid (size_l n sz hsz.symm)
  have K14m := Lib.hid (size_l m1 sm hsm.symm)
  have hsz9 : sz ≤ 9 := by rw [hsz]; exact form_short n
  have hsm9 : sm ≤ 9 := by rw [hsm]; exact form_short m1
  have Hsz9 := Lib.hid hsz9
  have Hsm9 := Lib.hid hsm9
  have Hsz := Lib.hid hsz
  have KT := Lib.hid (text_of_form T Y (by omega))
  have KF := Lib.hid (get_of_form n hn64)
  have KZ := Lib.hid (get_cut n)
  have KW := Lib.hid (fun w => works_any w)
  obtain ⟨F, hF⟩ : ∃ F, F = form n := ⟨_, rfl⟩
  have Hm13 := Lib.hid hm13
  have Hm23 := Lib.hid hm23
  rw [← hF] at KP KF KZ Hsz
  obtain ⟨G, hG⟩ : ∃ G, G = form m1 := ⟨_, rfl⟩
  have hGl : G.length = sm := by rw [hG, hsm]
  have HGl := Lib.hid hGl
  rw [HTl.out, ← hG] at KT
  have HGe := Lib.hid hG
  have Hn64 := Lib.hid hn64
  clear hR1 hR2 hc1 hc2 hl1 hl2 hm1 hm2 hT hY hTl hYl hRT hRY hn1 hn2 hmm1 hmm2 hsz hsm hF hG hGl hn64
  go_enter Try.func5, Try.ntmps5
  go_upto_region 2 with (first
    | (go_at_call 9; (with_reducible refine KC1.out.mono ?_); rintro e w' ⟨rfl, rfl⟩; dsimp only)
    | (go_at_call 9; (with_reducible refine KC2.out.mono ?_); rintro e w' ⟨rfl, rfl⟩; dsimp only))
  clear KC1 KC2
  go_upto_region 3 with (first
    | (go_at_call 10; (with_reducible refine KP.out.mono ?_); rintro e w1 ⟨v1, rfl, hv1, hb1⟩; obtain ⟨Af, cf, rfl, hrf, _, _, _⟩ := hv1.rd; have KT11 := Lib.hid (putText_w Af A1 F T F.length m1 cf cap1 _ w1 rfl HTl.out hrf ((HRT.out.keep hb1).up hb1.size) (Nat.le_refl _) Hc1.out (by have := Hsz.out; have := Hsz9.out; omega) (by have := HTl.out; have := Hm13.out; omega)); have HB1 := Lib.hid hb1; clear hv1 hb1 hrf KP; dsimp only)
    | (go_at_call 11; (with_reducible refine KT11.out.mono ?_); rintro e w2 ⟨v2, rfl, hv2, hb2⟩; have HV2 := Lib.hid hv2; have HB2 : Hid (Below w.heap.size w w2) := HB1.out.trans (hb2.mono HB1.out.size); clear hv2 hb2 KT11; dsimp only))
  rw [← HGe.out] at HV2
  obtain ⟨D, hD⟩ : ∃ D, D = F ++ G ++ T := ⟨_, rfl⟩
  rw [← hD] at HV2
  obtain ⟨Ab, cb, rfl, hrb, hlb, hmb, hzb⟩ := HV2.out.rd
  obtain ⟨lb, hlbe⟩ : ∃ l, l = D.length := ⟨_, rfl⟩
  have hlbv : lb = sz + sm + m1 := by rw [hlbe, hD, List.length_append, List.length_append, HGl.out, HTl.out, ← Hsz.out]
  rw [← hlbe] at hlb ⊢
  have HRb := Lib.hid hrb
  have HD := Lib.hid hD
  have HDl := Lib.hid hlbe
  have Hlbv := Lib.hid hlbv
  have Hzb := Lib.hid hzb
  have hs1 : ((lb : Int) != (sz : Int) + (sm : Int) + (m1 : Int)) = false := by simp; omega
  have hlb9 : lb ≤ 100000 := by omega
  clear hrb hD hlbe hlbv hzb HV2
  go_upto_region 6 with (first
    | (go_at_call 14; (with_reducible refine (K14.out _).mono ?_); rintro e w' ⟨rfl, rfl⟩; dsimp only)
    | (go_at_call 14; (with_reducible refine (K14m.out _).mono ?_); rintro e w' ⟨rfl, rfl⟩; dsimp only))
  have hO0 : OB (w2.alloc (Obj.cells #[] 5)) w2.heap.size (.slice (some ⟨w2.heap.size, 0, none⟩) 0 0) [] := owns_empty w2 w2.heap.size (Nat.le_refl _)
  have hb0 : Below w2.heap.size w2 (w2.alloc (Obj.cells #[] 5)) := (Below.refl _ _).alloc (Nat.le_refl _) _
  have HO0 := Lib.hid hO0
  have HB0 := Lib.hid hb0
  have HS0 := Lib.hid (src_of_rd (HRb.out.keep hb0))
  have Hle1 : Hid (([] : List (BitVec 8)).length + D.length ≤ 140737488355328) := show ([] : List (BitVec 8)).length + D.length ≤ 140737488355328 by rw [← HDl.out]; simp; omega
  have HSz0 : Hid (w2.heap.size ≤ (w2.alloc (Obj.cells #[] 5)).heap.size) := hb0.size
  clear hO0 hb0 hs1 K14 K14m
  go_upto_region 7 with (first
    | (refine wpList_push (o := ⟨some 44, _, _, _, _, _⟩) rfl (.tmp 42) (.tmp 43) rfl rfl w2.heap.size _ [] D rfl HO0.out Ab lb cb rfl HDl.out HS0.out Hzb.out Hle1.out HB0.out HSz0.out (Nat.le_refl _) ?_; intro v3 w3 ho3 hb3 hb3'; rw [List.nil_append] at ho3; have HO3 := Lib.hid ho3; have HB3 := Lib.hid hb3; have HS3 := Lib.hid (src_of_rd (HRY.out.keep (HB2.out.trans (hb3.mono HB2.out.size)))); clear ho3 hb3 hb3' HO0 HB0 HS0 HSz0)
    | (refine wpList_push (o := ⟨some 46, _, _, _, _, _⟩) rfl (.tmp 44) (.tmp 45) rfl rfl w2.heap.size _ D Y rfl HO3.out A2 m2 cap2 rfl HYl.out.symm HS3.out Hc2.out (by rw [← HDl.out, HYl.out]; have := Hlbv.out; omega) HB3.out HB3.out.size (Nat.le_refl _) ?_; intro v4 w4 ho4 hb4 hb4'; obtain ⟨A4, c4, rfl, hr4, _, _, hz4⟩ := ho4.rd; have HB4 := Lib.hid hb4; have K17 := Lib.hid (open_w A4 (D ++ Y) (D.length + Y.length) c4 _ w4 List.length_append hr4 (Nat.le_refl _) hz4 (by rw [List.length_append, ← HDl.out, HYl.out]; omega)); clear ho4 hb4 hb4' hr4 hz4)
    | (go_at_call 17; (with_reducible refine K17.out.mono ?_); rintro e w5 ⟨g, rfl, hi5, hg1, hg2, hb5⟩; have HI5 := Lib.hid hi5; have HG1 := Lib.hid hg1; have HG2 := Lib.hid hg2; have HB5 : Hid (Below w2.heap.size w2 w5) := HB4.out.trans (hb5.mono HB4.out.size); clear hi5 hg1 hg2 hb5 K17; dsimp only))
  have hDY : D ++ Y = F ++ (G ++ (T ++ Y)) := by rw [HD.out]; simp [List.append_assoc]
  obtain ⟨k1, k2, k3⟩ := KF.out (G ++ (T ++ Y))
  have k4 : gE (some (F ++ (G ++ (T ++ Y)))) n = 0 := by rw [k3, if_neg (Nat.lt_irrefl _)]
  have hi5 := HI5.out
  rw [hDY] at hi5
  have K18 := Lib.hid (get_w w5 (some g) (g + 1) (some (F ++ (G ++ (T ++ Y)))) (some (G ++ (T ++ Y))) n n (n : Int) 0 rfl (by unfold gV; rw [if_pos k4, k1]) k4 k2 hi5 (by have := HG2.out; omega))
  have Hgw2 : Hid (w2.heap.size ≤ g) := show w2.heap.size ≤ g by have := HG1.out; have := HB4.out.size; omega
  clear hi5 hDY k1 k2 k3 k4 HI5 HO3 HB3 HS3 Hle1
  go_upto_region 8 with (go_at_call 18; (with_reducible refine K18.out.mono ?_); rintro e w6 ⟨rfl, hi6, hg6⟩; have HI6 := Lib.hid hi6; have HB6 : Hid (Below w2.heap.size w2 w6) := HB5.out.grown hg6 HB5.out.size (fun k e => by cases e; exact Hgw2.out); have Hs6 : Hid (g < w6.heap.size) := Nat.lt_of_lt_of_le HG2.out hg6.size; clear hi6 hg6 K18; dsimp only)
  have K20 := Lib.hid (text_w w6 (some g) (g + 1) (some (G ++ (T ++ Y))) (some Y) (m1 : Int) T 0 (by rw [Int.toNat_natCast]; exact KT.out.2.1) (by rw [Int.toNat_natCast]; exact KT.out.1) (by rw [Int.toNat_natCast]; exact KT.out.2.2) HI6.out (by have := Hs6.out; omega) (short_lit (by rw [List.length_append, List.length_append, HGl.out, HTl.out, HYl.out]; have := Hsm9.out; have := Hm13.out; have := Hm23.out; omega)) (by have := Hm13.out; omega))
  go_upto_region 9 with (go_at_call 20; (with_reducible refine K20.out.mono ?_); rintro e w7 ⟨v7, rfl, ho7, hi7, hg7⟩; obtain ⟨A7, c7, rfl, hr7, _, _, _⟩ := ho7.rd; have HR7 := Lib.hid hr7; have HI7 := Lib.hid hi7; have HB7 : Hid (Below w2.heap.size w2 w7) := HB6.out.grown hg7 HB6.out.size (fun k e => by cases e; exact Hgw2.out); clear ho7 hr7 hi7 hg7 K20; dsimp only)
  have HB7w : Hid (Below w.heap.size w w7) := HB2.out.trans (HB7.out.mono HB2.out.size)
  have e1 := conv_n (c := c7) HR7.out rfl
  have e2 := conv_n (c := cap1) (HRT.out.keep HB7w.out) HTl.out.symm
  obtain ⟨s, hs⟩ : ∃ s, s = strB T := ⟨_, rfl⟩
  rw [← hs] at e1 e2
  have es : (s.toList != s.toList) = false := by simp
  have K22 : Hid (Calls Try.prog 22 #[ptr (some g)] w7 fun e w' => e = .returned (.int .i64 (m2 : Int)) ∧ w7 = w') := by
    have := left_any _ _ _ _ HI7.out
    rw [show leftS (some Y) = m2 from HYl.out] at this; exact this
  clear hs
  go_upto_region 11 with (go_at_call 22; (with_reducible refine K22.out.mono ?_); rintro e w' ⟨rfl, rfl⟩; dsimp only)
  clear e1 e2 es K22 HR7 HI7 HI6 HB6 HB5 HB4 HG1 HG2 Hgw2 Hs6
  by_cases h0 : n = 0
  · have hn0 : ¬ (0 : Int) < (n : Int) := by omega
    clear h0
    clear KT KF HRY HYl
    go_upto_region 16 with fail
    go_loopw [16] (fun i wr => ∃ j : Nat, j ≤ sz ∧ i = .int .i64 j ∧ Below w2.heap.size w2 wr ∧ Below w.heap.size w wr) (fun i _ => sz - (intOf i).toNat)
    case atStart => exact ⟨0, Nat.zero_le _, rfl, HB7.out, HB7w.out⟩
    case round =>
      obtain ⟨j, hj, rfl, hbA, hbB⟩ := hrel
      have HbA := Lib.hid hbA
      have HbB := Lib.hid hbB
      by_cases hlt : j < sz
      · have hjD : D.take j = F.take j := by
          rw [HD.out, List.append_assoc, List.take_append_of_le_length (by rw [← Hsz.out]; omega)]
        have hjl : (D.take j).length = j := by rw [List.length_take, ← HDl.out, Hlbv.out]; omega
        have K17 := Lib.hid (open_w Ab (D.take j) j cb w2.heap.size wr hjl ((HRb.out.keep hbA).take j (by rw [← HDl.out, Hlbv.out]; omega)) hbA.size Hzb.out (by omega))
        have hcut := KZ.out j (by rw [← Hsz.out]; exact hlt)
        rw [← hjD] at hcut
        have hE := gE_cut hcut n
        have HCut := Lib.hid hcut
        have HE := Lib.hid hE
        have j1 : (j : Int) < (sz : Int) := by omega
        have j2 : (j : Int) ≤ (cb : Int) := by have := Hlbv.out; omega
        have j3 : j ≤ cb := by omega
        clear hbA hbB hjD hjl hcut hE
        go_wp2_with (first
          | (go_at_call 17; (with_reducible refine K17.out.mono ?_); rintro e wa ⟨g', rfl, hi', h1', h2', hb'⟩; have K18 := Lib.hid (get_w wa (some g') (g' + 1) (some (D.take j)) none n 0 (n : Int) 4 rfl (by unfold gV; rw [HE.out]; exact if_neg (by decide)) HE.out HCut.out hi' (by omega)); have HA' := Lib.hid hb'; have HL' := Lib.hid h1'; clear hi' h1' h2' hb' K17; dsimp only)
          | (go_at_call 18; (with_reducible refine K18.out.mono ?_); rintro e wb ⟨rfl, hi', hg'⟩; have K24 := Lib.hid (torn_any (some g') none (g' + 1) wb hi'); have HC' := Lib.hid (lit_below HA'.out hg' HL'.out); clear hi' hg' K18; dsimp only)
          | (go_at_call 24; (with_reducible refine K24.out.mono ?_); rintro e w' ⟨rfl, rfl⟩; dsimp only [Option.isNone]))
        go_roundw
        case rel => exact ⟨j + 1, by omega, by go_num, HbA.out.trans (HC'.out.mono HbA.out.size), HbB.out.trans (HC'.out.mono HbB.out.size)⟩
        case measure => simp [intOf]; omega
      · obtain rfl : j = sz := by omega
        clear hbA hbB
        go_wp2_with (go_at_call 16; (with_reducible refine (KW.out _).mono ?_); rintro e wz ⟨rfl, hb⟩; dsimp only)
        go_ret
        exact ⟨rfl, HbB.out.trans (hb.mono HbB.out.size)⟩
  · have hn0 : (0 : Int) < (n : Int) := by omega
    have hnw : IntKind.u64.wrap ((n : Int) - 1) = (n : Int) - 1 := by rw [IntKind.wrap_u64]; have := Hn64.out; omega
    have hDe : D = F ++ (G ++ T) := by rw [HD.out]; simp [List.append_assoc]
    have K17 := Lib.hid (open_w Ab D lb cb w2.heap.size w7 HDl.out.symm (HRb.out.keep HB7.out) HB7.out.size Hzb.out (by rw [← HDl.out]; omega))
    obtain ⟨k1, k2, k3⟩ := KF.out (G ++ T)
    have k4 : gE (some D) (n - 1) = 3 := by rw [hDe, k3, if_pos (by omega)]
    rw [← hDe] at k2
    have K4 := Lib.hid k4
    have K2 := Lib.hid k2
    have HM : Hid (((n - 1 : Nat) : Int) = (n : Int) - 1) := show ((n - 1 : Nat) : Int) = (n : Int) - 1 by omega
    clear k1 k2 k3 k4 hDe
    go_upto_region 15 with (first
      | (go_at_call 17; (with_reducible refine K17.out.mono ?_); rintro e w8 ⟨g8, rfl, hi8, h81, h82, hb8⟩; have K18 := Lib.hid (get_w w8 (some g8) (g8 + 1) (some D) (some (G ++ T)) (n - 1) 0 ((n : Int) - 1) 3 HM.out (by unfold gV; rw [K4.out]; exact if_neg (by decide)) K4.out K2.out hi8 (by omega)); have HA8 := Lib.hid hb8; have HL8 := Lib.hid h81; clear hi8 h81 h82 hb8 K17; dsimp only)
      | (go_at_call 18; (with_reducible refine K18.out.mono ?_); rintro e w9 ⟨rfl, hi9, hg9⟩; have HC9 := Lib.hid (lit_below HA8.out hg9 HL8.out); clear hi9 hg9 K18; dsimp only))
    have HB9 : Hid (Below w2.heap.size w2 w9) := HB7.out.trans (HC9.out.mono HB7.out.size)
    have HB9w : Hid (Below w.heap.size w w9) := HB7w.out.trans (HC9.out.mono HB7w.out.size)
    clear hn0 hnw
    clear KT KF HRY HYl
    go_upto_region 16 with fail
    go_loopw [16] (fun i wr => ∃ j : Nat, j ≤ sz ∧ i = .int .i64 j ∧ Below w2.heap.size w2 wr ∧ Below w.heap.size w wr) (fun i _ => sz - (intOf i).toNat)
    case atStart => exact ⟨0, Nat.zero_le _, rfl, HB9.out, HB9w.out⟩
    case round =>
      obtain ⟨j, hj, rfl, hbA, hbB⟩ := hrel
      have HbA := Lib.hid hbA
      have HbB := Lib.hid hbB
      by_cases hlt : j < sz
      · have hjD : D.take j = F.take j := by
          rw [HD.out, List.append_assoc, List.take_append_of_le_length (by rw [← Hsz.out]; omega)]
        have hjl : (D.take j).length = j := by rw [List.length_take, ← HDl.out, Hlbv.out]; omega
        have K17 := Lib.hid (open_w Ab (D.take j) j cb w2.heap.size wr hjl ((HRb.out.keep hbA).take j (by rw [← HDl.out, Hlbv.out]; omega)) hbA.size Hzb.out (by omega))
        have hcut := KZ.out j (by rw [← Hsz.out]; exact hlt)
        rw [← hjD] at hcut
        have hE := gE_cut hcut n
        have HCut := Lib.hid hcut
        have HE := Lib.hid hE
        have j1 : (j : Int) < (sz : Int) := by omega
        have j2 : (j : Int) ≤ (cb : Int) := by have := Hlbv.out; omega
        have j3 : j ≤ cb := by omega
        clear hbA hbB hjD hjl hcut hE
        go_wp2_with (first
          | (go_at_call 17; (with_reducible refine K17.out.mono ?_); rintro e wa ⟨g', rfl, hi', h1', h2', hb'⟩; have K18 := Lib.hid (get_w wa (some g') (g' + 1) (some (D.take j)) none n 0 (n : Int) 4 rfl (by unfold gV; rw [HE.out]; exact if_neg (by decide)) HE.out HCut.out hi' (by omega)); have HA' := Lib.hid hb'; have HL' := Lib.hid h1'; clear hi' h1' h2' hb' K17; dsimp only)
          | (go_at_call 18; (with_reducible refine K18.out.mono ?_); rintro e wb ⟨rfl, hi', hg'⟩; have K24 := Lib.hid (torn_any (some g') none (g' + 1) wb hi'); have HC' := Lib.hid (lit_below HA'.out hg' HL'.out); clear hi' hg' K18; dsimp only)
          | (go_at_call 24; (with_reducible refine K24.out.mono ?_); rintro e w' ⟨rfl, rfl⟩; dsimp only [Option.isNone]))
        go_roundw
        case rel => exact ⟨j + 1, by omega, by go_num, HbA.out.trans (HC'.out.mono HbA.out.size), HbB.out.trans (HC'.out.mono HbB.out.size)⟩
        case measure => simp [intOf]; omega
      · obtain rfl : j = sz := by omega
        clear hbA hbB
        go_wp2_with (go_at_call 16; (with_reducible refine (KW.out _).mono ?_); rintro e wz ⟨rfl, hb⟩; dsimp only)
        go_ret
        exact ⟨rfl, HbB.out.trans (hb.mono HbB.out.size)⟩
end Go.Proofs.Ytalcdejiobpmlaa
