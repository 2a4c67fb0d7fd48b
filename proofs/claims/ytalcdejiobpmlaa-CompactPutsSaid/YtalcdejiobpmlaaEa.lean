/- The law CompactPuts returns true for all bytes and numbers that can be read. -/
import Derived.Test.YtalcdejiobpmlaaOa
import Derived.Test.YtalcdejiobpmlaaKb
import Derived.Outline
namespace Go.Proofs.Ytalcdejiobpmlaa
open Go.RowKit
set_option linter.unusedVariables false
set_option linter.unusedSimpArgs false
set_option maxRecDepth 100000
/-- Nothing that lay there in W0 has changed. -/
def SB (W0 w : World) : Prop := Below W0.heap.size W0 w
theorem SB.size {W0 w : World} (h : SB W0 w) : W0.heap.size ≤ w.heap.size := Below.size h
theorem SB.rd {W0 w : World} {A : Option Addr} {R : List (BitVec 8)} (h : SB W0 w) (hr : Rd W0 W0.heap.size A R) : Rd w W0.heap.size A R := hr.keep h
theorem SB.next {W0 w w' : World} (h : SB W0 w) (hb : Below w.heap.size w w') : SB W0 w' := Below.trans h (hb.mono h.size)
set_option maxHeartbeats 4000000 in
theorem puts_walk (n : Nat) (A1 A2 : Option Addr) (cap1 cap2 : Nat) (R1 R2 : List (BitVec 8)) (w : World) (hn64 : n < 18446744073709551616) (hR1 : Rd w w.heap.size A1 R1) (hR2 : Rd w w.heap.size A2 R2) (hc1 : A1 = none → cap1 = 0) (hc2 : A2 = none → cap2 = 0) (hl1 : R1.length ≤ cap1) (hl2 : R2.length ≤ cap2) (hm1 : cap1 ≤ 9223372036854775807) (hm2 : cap2 ≤ 9223372036854775807) :
    Calls Try.prog 3 #[.slice A1 R1.length cap1, .slice A2 R2.length cap2, .int .u64 n] w fun e w' => e = .returned (.bool true) ∧ Below w.heap.size w w' := by
  have KC1 := Lib.hid (cut_row A1 R1.length cap1 w hl1 hm1)
  have KC2 := Lib.hid (cut_row A2 R2.length cap2 w hl2 hm2)
  obtain ⟨m1, hmm1⟩ : ∃ m, m = min R1.length 3000 := ⟨_, rfl⟩
  obtain ⟨m2, hmm2⟩ : ∃ m, m = min R2.length 3000 := ⟨_, rfl⟩
  obtain ⟨L, hL⟩ : ∃ X, X = R1.take m1 := ⟨_, rfl⟩
  obtain ⟨T, hT⟩ : ∃ X, X = R2.take m2 := ⟨_, rfl⟩
  have hLl : L.length = m1 := by rw [hL, List.length_take]; omega
  have hTl : T.length = m2 := by rw [hT, List.length_take]; omega
  have hRL : Rd w w.heap.size A1 L := by rw [hL]; exact hR1.take m1 (by omega)
  have hRT : Rd w w.heap.size A2 T := by rw [hT]; exact hR2.take m2 (by omega)
  have hm13 : m1 ≤ 3000 := by omega
  have hm23 : m2 ≤ 3000 := by omega
  have HRL := Lib.hid hRL
  have HRT := Lib.hid hRT
  have HLl := Lib.hid hLl
  have HTl := Lib.hid hTl
  have Hc1 := Lib.hid hc1
  have Hc2 := Lib.hid hc2
  have Hn64 := Lib.hid hn64
  have Hm13 := Lib.hid hm13
  have Hm23 := Lib.hid hm23
  rw [← hmm1] at KC1
  rw [← hmm2] at KC2
  obtain ⟨n1, hn1⟩ : ∃ n, n = R1.length := ⟨_, rfl⟩
  obtain ⟨n2, hn2⟩ : ∃ n, n = R2.length := ⟨_, rfl⟩
  rw [← hn1] at KC1 ⊢
  rw [← hn2] at KC2 ⊢
  have KW := Lib.hid (fun w => works_any w)
  have hb0 : Below w.heap.size w (w.alloc (Obj.cells #[] 5)) := (Below.refl _ _).alloc (Nat.le_refl _) _
  have HO0 := Lib.hid (show OB (w.alloc (Obj.cells #[] 5)) w.heap.size (.slice (some ⟨w.heap.size, 0, none⟩) 0 0) [] from owns_empty w w.heap.size (Nat.le_refl _))
  have HB0 := Lib.hid hb0
  have HS0 := Lib.hid (src_of_rd (hRL.keep hb0))
  have Hle1 : Hid (([] : List (BitVec 8)).length + L.length ≤ 140737488355328) := show ([] : List (BitVec 8)).length + L.length ≤ 140737488355328 by rw [hLl]; simp; omega
  have HSz0 : Hid (w.heap.size ≤ (w.alloc (Obj.cells #[] 5)).heap.size) := hb0.size
  have hcapm1 : m1 ≤ cap1 := by omega
  clear hR1 hR2 hc1 hc2 hl1 hl2 hm1 hm2 hL hT hLl hTl hRL hRT hn1 hn2 hmm1 hmm2 hn64 hb0
  go_enter Try.func3, Try.ntmps3
  go_upto_region 2 with (first
    | (go_at_call 9; (with_reducible refine KC1.out.mono ?_); rintro e w' ⟨rfl, rfl⟩; dsimp only)
    | (go_at_call 9; (with_reducible refine KC2.out.mono ?_); rintro e w' ⟨rfl, rfl⟩; dsimp only))
  clear KC1 KC2
  go_upto_region 3 with (first
    | (refine wpList_push (o := ⟨some 16, _, _, _, _, _⟩) rfl (.tmp 14) (.tmp 15) rfl rfl w.heap.size _ [] L rfl HO0.out A1 m1 cap1 rfl HLl.out.symm HS0.out Hc1.out Hle1.out HB0.out HSz0.out (Nat.le_refl _) ?_; intro v1 w1 ho1 hb1 hb1'; rw [List.nil_append] at ho1; have HO1 := Lib.hid (ho1.alloc (.cells #[.int .u8 7, .int .u8 7, .int .u8 7] 5)); have HB1 := Lib.hid (hb1.alloc hb1.size (.cells #[.int .u8 7, .int .u8 7, .int .u8 7] 5)); have HS1 : Hid (Src22 (w1.alloc (.cells #[.int .u8 7, .int .u8 7, .int .u8 7] 5)) (some ⟨w1.heap.size, 0, none⟩) [(7 : BitVec 8), 7, 7].length (vbs [7, 7, 7])) := src_of_rd (lit_rd w1 [7, 7, 7] #[.int .u8 7, .int .u8 7, .int .u8 7] (0, 0) rfl); clear ho1 hb1 hb1' HO0 HB0 HS0 HSz0)
    | (refine wpList_push (o := ⟨some 18, _, _, _, _, _⟩) rfl (.tmp 16) (.tmp 17) rfl rfl w.heap.size _ L [7, 7, 7] rfl HO1.out (some ⟨w1.heap.size, 0, none⟩) 3 3 rfl rfl HS1.out (fun h => by cases h) (by rw [HLl.out]; have := Hm13.out; simp; omega) HB1.out HB1.out.size (Nat.le_refl _) ?_; intro v2 w2 ho2 hb2 hb2'))
  obtain ⟨g, cr, rfl, hBg, hg, hlr, hmr, hcr⟩ := ho2.shape (by simp)
  obtain ⟨lr, hlre⟩ : ∃ l, l = (L ++ [7, 7, 7]).length := ⟨_, rfl⟩
  have hlrv : lr = m1 + 3 := by rw [hlre, List.length_append, HLl.out]; rfl
  obtain ⟨Ax, cx, ex, hrd2, _, _, _⟩ := ho2.rd
  cases ex
  rw [← hlre] at hlr ⊢
  have hRL2 : Rd w2 w2.heap.size (some ⟨g, 0, none⟩) L := by
    have := hrd2.take m1 (by rw [← hlre, hlrv]; omega)
    rw [List.take_append_of_le_length (by rw [HLl.out]; omega), List.take_of_length_le (by rw [HLl.out]; omega)] at this
    exact this
  have hc7 : w2.cell? ⟨g, m1, none⟩ = some (.int .u8 7) := by
    have := hcr m1 (by rw [← hlre, hlrv]; omega)
    have e7 : (L ++ [7, 7, 7]).getD m1 0 = (7 : BitVec 8) := by
      unfold List.getD
      rw [List.getElem?_append_right (by rw [HLl.out]; omega), HLl.out, Nat.sub_self]
      rfl
    rw [this, e7]
    rfl
  have HRL2 := Lib.hid hRL2
  have HC7 := Lib.hid hc7
  have HB2 := Lib.hid hb2
  have Hg := Lib.hid hg
  have i1 : m1 ≤ cr := by omega
  have i2 : m1 ≤ lr := by omega
  have i3 : (m1 : Int) < (lr : Int) := by omega
  have K10 := Lib.hid (put_n (some ⟨g, 0, none⟩) L m1 cr w2.heap.size n w2 HLl.out hRL2 (Nat.le_refl _) (by rw [HLl.out]; omega))
  clear ho2 hb2 hb2' hBg hg hlr hmr hcr hlre hlrv hrd2 hRL2 hc7 HO1 HB1 HS1 Hle1
  go_upto_region 4 with (go_at_call 10; (with_reducible refine K10.out.mono ?_); rintro e w3 ⟨v3, rfl, hv3, hb3⟩; obtain ⟨Ap, cp, rfl, hrp, _, _, _⟩ := hv3.rd; have HRp := Lib.hid hrp; have HB3 := Lib.hid hb3; have K11 := Lib.hid (putText_w (some ⟨g, 0, none⟩) A2 L T m1 m2 cr cap2 w2.heap.size w3 HLl.out HTl.out (HRL2.out.keep hb3) ((HRT.out.keep (HB2.out.trans (hb3.mono HB2.out.size))).up (Nat.le_trans HB2.out.size (Nat.le_refl _))) hb3.size Hc2.out (by rw [HLl.out]; have := Hm13.out; omega) (by rw [HTl.out]; have := Hm23.out; omega)); clear hv3 hb3 hrp K10; dsimp only)
  go_upto_region 5 with (go_at_call 11; (with_reducible refine K11.out.mono ?_); rintro e w4 ⟨v4, rfl, hv4, hb4⟩; obtain ⟨Aq, cq, rfl, hrq, _, _, _⟩ := hv4.rd; have HRq := Lib.hid hrq; have HB4 := Lib.hid hb4; clear hv4 hb4 hrq K11; dsimp only)
  obtain ⟨P, hP⟩ : ∃ P, P = L ++ form n := ⟨_, rfl⟩
  obtain ⟨Q, hQ⟩ : ∃ Q, Q = L ++ form m2 ++ T := ⟨_, rfl⟩
  have hB24 : Below w2.heap.size w2 w4 := HB3.out.trans (HB4.out.mono HB3.out.size)
  have hBw4 : Below w.heap.size w w4 := HB2.out.trans (hB24.mono HB2.out.size)
  have K14 := Lib.hid (size_any n)
  have hw14 : ((1 + wid n : Nat) : Int) = ((1 + wid n : Nat) : Int) := rfl
  generalize hW0 : w4.drew = W0
  have hd : Below w4.heap.size w4 W0 := by rw [← hW0]; exact below_drew (Below.refl _ _)
  have h0 : W0.heap.size = w4.heap.size := by rw [← hW0]; rfl
  have hBwW : Below w.heap.size w W0 := hBw4.trans (hd.mono hBw4.size)
  have hB2W : Below w2.heap.size w2 W0 := hB24.trans (hd.mono hB24.size)
  have hRLW : Rd W0 W0.heap.size A1 L := (HRL.out.keep hBwW).up hBwW.size
  have hRTW : Rd W0 W0.heap.size A2 T := (HRT.out.keep hBwW).up hBwW.size
  have hRL2W : Rd W0 W0.heap.size (some ⟨g, 0, none⟩) L := (HRL2.out.keep hB2W).up hB2W.size
  have hpW : Rd W0 W0.heap.size Ap P := by rw [hP]; exact (HRp.out.keep (HB4.out.trans (hd.mono HB4.out.size))).up (Nat.le_trans HB4.out.size hd.size)
  have hqW : Rd W0 W0.heap.size Aq Q := by rw [hQ]; exact (HRq.out.keep hd).up hd.size
  have h7W : ∀ wq, SB W0 wq → wq.cell? ⟨g, m1, none⟩ = some (.int .u8 7) := fun wq hq => by
    rw [World.cell?_of_block (a := ⟨g, m1, none⟩) (Below.block hq g (Nat.lt_of_lt_of_le Hg.out hB2W.size)), World.cell?_of_block (a := ⟨g, m1, none⟩) (hB2W.block g Hg.out)]
    exact HC7.out
  have EP : Hid (∀ wq, SB W0 wq → (convert 22 9 (.slice Ap P.length cp)).run Try.prog wq = .ok (.string (strB P)) wq) := fun wq hq => conv_n (hq.rd hpW) rfl
  have EQ : Hid (∀ wq, SB W0 wq → (convert 22 9 (.slice Aq Q.length cq)).run Try.prog wq = .ok (.string (strB Q)) wq) := fun wq hq => conv_n (hq.rd hqW) rfl
  have EL : Hid (∀ wq, SB W0 wq → (convert 22 9 (.slice A1 m1 cap1)).run Try.prog wq = .ok (.string (strB L)) wq) := fun wq hq => conv_n (hq.rd hRLW) HLl.out.symm
  have ER : Hid (∀ wq, SB W0 wq → (convert 22 9 (.slice (some ⟨g, 0, none⟩) m1 cr)).run Try.prog wq = .ok (.string (strB L)) wq) := fun wq hq => conv_n (hq.rd hRL2W) HLl.out.symm
  have E7 := Lib.hid h7W
  have K12 : Hid (∀ wq, SB W0 wq → Calls Try.prog 12 #[.slice A1 m1 cap1, .int .u64 n] wq fun e w' => ∃ A c, e = .returned (.slice A P.length c) ∧ (convert 22 9 (.slice A P.length c)).run Try.prog w' = .ok (.string (strB P)) w' ∧ SB W0 w') := fun wq hq =>
    (rput_any A1 L m1 cap1 W0.heap.size n wq HLl.out (hq.rd hRLW) hq.size Hc1.out Hn64.out (by rw [HLl.out]; have := Hm13.out; omega)).mono fun e w' ⟨v, he, ho, hb⟩ => by
      rw [← hP] at ho
      obtain ⟨A, c, rfl, hr, _⟩ := ho.rd
      exact ⟨A, c, he, conv_n hr rfl, hq.next hb⟩
  have K13 : Hid (∀ wq, SB W0 wq → Calls Try.prog 13 #[.slice A1 m1 cap1, .slice A2 m2 cap2] wq fun e w' => ∃ A c, e = .returned (.slice A Q.length c) ∧ (convert 22 9 (.slice A Q.length c)).run Try.prog w' = .ok (.string (strB Q)) w' ∧ SB W0 w') := fun wq hq =>
    (rputText_any A1 A2 L T m1 m2 cap1 cap2 W0.heap.size wq HLl.out HTl.out (hq.rd hRLW) (hq.rd hRTW) hq.size Hc1.out Hc2.out (by rw [HLl.out]; have := Hm13.out; omega) (by rw [HTl.out]; have := Hm23.out; omega)).mono fun e w' ⟨v, he, ho, hb⟩ => by
      rw [← hQ] at ho
      obtain ⟨A, c, rfl, hr, _⟩ := ho.rd
      exact ⟨A, c, he, conv_n hr rfl, hq.next hb⟩
  have K15 : Hid (∀ wq, SB W0 wq → Calls Try.prog 15 #[.int .u64 n] wq fun e w' => e = .returned (.int .i64 ((1 + wid n : Nat) : Int)) ∧ SB W0 w') := fun wq hq =>
    (rsize_any n wq Hn64.out).mono fun e w' ⟨he, hb⟩ => ⟨he, hq.next hb⟩
  have KX : Hid (∀ wq, SB W0 wq → Calls Try.prog 16 #[] wq fun e w' => e = .returned (.bool true) ∧ SB W0 w') := fun wq hq =>
    (works_any wq).mono fun e w' ⟨he, hb⟩ => ⟨he, hq.next hb⟩
  obtain ⟨lp, hlp⟩ : ∃ l, l = P.length := ⟨_, rfl⟩
  obtain ⟨lq, hlq⟩ : ∃ l, l = Q.length := ⟨_, rfl⟩
  obtain ⟨sp, hsp⟩ : ∃ s, s = strB P := ⟨_, rfl⟩
  obtain ⟨sq, hsq⟩ : ∃ s, s = strB Q := ⟨_, rfl⟩
  obtain ⟨sl, hsl⟩ : ∃ s, s = strB L := ⟨_, rfl⟩
  obtain ⟨z, hz⟩ : ∃ z, z = ((1 + wid n : Nat) : Int) := ⟨_, rfl⟩
  rw [← hP, ← hQ]
  rw [← hlp, ← hsp] at EP K12
  rw [← hlq, ← hsq] at EQ K13
  rw [← hsl] at EL ER
  rw [← hz] at K14 K15
  rw [← hlp, ← hlq]
  have HBW := Lib.hid hBwW
  have HS0 : Hid (SB W0 W0) := Below.refl _ _
  have HW0 := Lib.hid hW0
  clear hP hQ hB24 hBw4 hd h0 hBwW hB2W hRLW hRTW hRL2W hpW hqW h7W hlp hlq hsp hsq hsl hz hw14 KW HRp HRq HRL2 HC7 HB2 HB3 HB4 Hg HRL HRT Hc1 Hc2 HLl HTl
  refine wp_region_but (z := 999) (SB W0) (by kernel_rfl) ?_
  rw [hW0]
  have hS : SB W0 W0 := HS0.out
  clear hW0
  refine AnyBut.takeE (i := 0) (v := ?_) rfl (by kernel_rfl) (by kernel_rfl) (by kernel_rfl) (by kernel_rfl) (fun _ _ _ h => h) (Or.inl ⟨by rfl, ?_⟩) hS ?_
  rotate_left
  · (intro wq hq; go_simp; try with_reducible rfl)
  try simp only [Act.put, List.setIfInBounds_toArray, List.set_cons_zero, List.set_cons_succ, List.getElem_toArray, List.getElem_cons_zero, List.getElem_cons_succ]
  refine AnyBut.takeE (i := 1) (v := .string sp) rfl (by kernel_rfl) (by kernel_rfl) (by kernel_rfl) (by kernel_rfl) (fun _ _ _ h => h) (Or.inl ⟨by rfl, ?_⟩) hS ?_
  · intro wq hq
    go_simp
    rw [EP.out wq hq]
    rfl
  try simp only [Act.put, List.setIfInBounds_toArray, List.set_cons_zero, List.set_cons_succ, List.getElem_toArray, List.getElem_cons_zero, List.getElem_cons_succ]
  refine AnyBut.takeE (i := 2) (v := ?_) rfl (by kernel_rfl) (by kernel_rfl) (by kernel_rfl) (by kernel_rfl) (fun _ _ _ h => h) (Or.inl ⟨by rfl, ?_⟩) hS ?_
  rotate_left
  · (intro wq hq; go_simp; try with_reducible rfl)
  try simp only [Act.put, List.setIfInBounds_toArray, List.set_cons_zero, List.set_cons_succ, List.getElem_toArray, List.getElem_cons_zero, List.getElem_cons_succ]
  refine AnyBut.takeE (i := 3) (v := ?_) rfl (by kernel_rfl) (by kernel_rfl) (by kernel_rfl) (by kernel_rfl) (fun _ _ _ h => h) (Or.inl ⟨by rfl, ?_⟩) hS ?_
  rotate_left
  · (intro wq hq; go_simp; try with_reducible rfl)
  try simp only [Act.put, List.setIfInBounds_toArray, List.set_cons_zero, List.set_cons_succ, List.getElem_toArray, List.getElem_cons_zero, List.getElem_cons_succ]
  refine AnyBut.gone (i := 4) (by kernel_rfl) rfl (by rfl) (fun K hK => ?_)
  go_simp
  (with_reducible refine (K12.out _ hS).mono ?_)
  rintro e w5 ⟨A5, c5, rfl, e5, hS⟩
  dsimp only
  refine hK _ _ (fun _ => hS) ?_
  clear hK K
  try simp only [Act.put, List.setIfInBounds_toArray, List.set_cons_zero, List.set_cons_succ, List.getElem_toArray, List.getElem_cons_zero, List.getElem_cons_succ]
  refine AnyBut.gone (i := 5) (by kernel_rfl) rfl (by rfl) (fun K hK => ?_)
  go_simp
  refine hK _ _ (fun _ => hS) ?_
  clear hK K
  try simp only [Act.put, List.setIfInBounds_toArray, List.set_cons_zero, List.set_cons_succ, List.getElem_toArray, List.getElem_cons_zero, List.getElem_cons_succ]
  clear e5
  refine AnyBut.gone (i := 6) (by kernel_rfl) rfl (by rfl) (fun K hK => ?_)
  go_simp
  refine hK _ _ (fun _ => hS) ?_
  clear hK K
  try simp only [Act.put, List.setIfInBounds_toArray, List.set_cons_zero, List.set_cons_succ, List.getElem_toArray, List.getElem_cons_zero, List.getElem_cons_succ]
  refine AnyBut.gone (i := 7) (by kernel_rfl) rfl (by rfl) (fun K hK => ?_)
  go_simp
  refine hK _ _ (fun _ => hS) ?_
  clear hK K
  try simp only [Act.put, List.setIfInBounds_toArray, List.set_cons_zero, List.set_cons_succ, List.getElem_toArray, List.getElem_cons_zero, List.getElem_cons_succ]
  refine AnyBut.takeE (i := 8) (v := ?_) rfl (by kernel_rfl) (by kernel_rfl) (by kernel_rfl) (by kernel_rfl) (fun _ _ _ h => h) (Or.inl ⟨by rfl, ?_⟩) hS ?_
  rotate_left
  · (intro wq hq; go_simp; try with_reducible rfl)
  try simp only [Act.put, List.setIfInBounds_toArray, List.set_cons_zero, List.set_cons_succ, List.getElem_toArray, List.getElem_cons_zero, List.getElem_cons_succ]
  refine AnyBut.takeE (i := 9) (v := .string sq) rfl (by kernel_rfl) (by kernel_rfl) (by kernel_rfl) (by kernel_rfl) (fun _ _ _ h => h) (Or.inl ⟨by rfl, ?_⟩) hS ?_
  · intro wq hq
    go_simp
    rw [EQ.out wq hq]
    rfl
  try simp only [Act.put, List.setIfInBounds_toArray, List.set_cons_zero, List.set_cons_succ, List.getElem_toArray, List.getElem_cons_zero, List.getElem_cons_succ]
  refine AnyBut.takeE (i := 10) (v := ?_) rfl (by kernel_rfl) (by kernel_rfl) (by kernel_rfl) (by kernel_rfl) (fun _ _ _ h => h) (Or.inl ⟨by rfl, ?_⟩) hS ?_
  rotate_left
  · (intro wq hq; go_simp; try with_reducible rfl)
  try simp only [Act.put, List.setIfInBounds_toArray, List.set_cons_zero, List.set_cons_succ, List.getElem_toArray, List.getElem_cons_zero, List.getElem_cons_succ]
  refine AnyBut.takeE (i := 11) (v := ?_) rfl (by kernel_rfl) (by kernel_rfl) (by kernel_rfl) (by kernel_rfl) (fun _ _ _ h => h) (Or.inl ⟨by rfl, ?_⟩) hS ?_
  rotate_left
  · (intro wq hq; go_simp; try with_reducible rfl)
  try simp only [Act.put, List.setIfInBounds_toArray, List.set_cons_zero, List.set_cons_succ, List.getElem_toArray, List.getElem_cons_zero, List.getElem_cons_succ]
  refine AnyBut.gone (i := 12) (by kernel_rfl) rfl (by rfl) (fun K hK => ?_)
  go_simp
  (with_reducible refine (K13.out _ hS).mono ?_)
  rintro e w6 ⟨A6, c6, rfl, e6, hS⟩
  dsimp only
  refine hK _ _ (fun _ => hS) ?_
  clear hK K
  try simp only [Act.put, List.setIfInBounds_toArray, List.set_cons_zero, List.set_cons_succ, List.getElem_toArray, List.getElem_cons_zero, List.getElem_cons_succ]
  refine AnyBut.gone (i := 13) (by kernel_rfl) rfl (by rfl) (fun K hK => ?_)
  go_simp
  refine hK _ _ (fun _ => hS) ?_
  clear hK K
  try simp only [Act.put, List.setIfInBounds_toArray, List.set_cons_zero, List.set_cons_succ, List.getElem_toArray, List.getElem_cons_zero, List.getElem_cons_succ]
  clear e6
  refine AnyBut.gone (i := 14) (by kernel_rfl) rfl (by rfl) (fun K hK => ?_)
  go_simp
  refine hK _ _ (fun _ => hS) ?_
  clear hK K
  try simp only [Act.put, List.setIfInBounds_toArray, List.set_cons_zero, List.set_cons_succ, List.getElem_toArray, List.getElem_cons_zero, List.getElem_cons_succ]
  refine AnyBut.gone (i := 15) (by kernel_rfl) rfl (by rfl) (fun K hK => ?_)
  go_simp
  refine hK _ _ (fun _ => hS) ?_
  clear hK K
  try simp only [Act.put, List.setIfInBounds_toArray, List.set_cons_zero, List.set_cons_succ, List.getElem_toArray, List.getElem_cons_zero, List.getElem_cons_succ]
  refine AnyBut.gone (i := 16) (by kernel_rfl) rfl (by rfl) (fun K hK => ?_)
  go_simp
  refine hK _ _ (fun _ => hS) ?_
  clear hK K
  try simp only [Act.put, List.setIfInBounds_toArray, List.set_cons_zero, List.set_cons_succ, List.getElem_toArray, List.getElem_cons_zero, List.getElem_cons_succ]
  refine AnyBut.takeE (i := 17) (v := ?_) rfl (by kernel_rfl) (by kernel_rfl) (by kernel_rfl) (by kernel_rfl) (fun _ _ _ h => h) (Or.inl ⟨by rfl, ?_⟩) hS ?_
  rotate_left
  · (intro wq hq; go_simp; try with_reducible rfl)
  try simp only [Act.put, List.setIfInBounds_toArray, List.set_cons_zero, List.set_cons_succ, List.getElem_toArray, List.getElem_cons_zero, List.getElem_cons_succ]
  refine AnyBut.takeE (i := 19) (v := ?_) rfl (by kernel_rfl) (by kernel_rfl) (by kernel_rfl) (by kernel_rfl) (fun _ _ _ h => h) (Or.inl ⟨by rfl, ?_⟩) hS ?_
  rotate_left
  · (intro wq hq; go_simp; try with_reducible rfl)
  try simp only [Act.put, List.setIfInBounds_toArray, List.set_cons_zero, List.set_cons_succ, List.getElem_toArray, List.getElem_cons_zero, List.getElem_cons_succ]
  refine AnyBut.gone (i := 18) (by kernel_rfl) rfl (by rfl) (fun K hK => ?_)
  go_simp
  (with_reducible refine (K14.out _).mono ?_)
  rintro e wz ⟨rfl, rfl⟩
  dsimp only
  refine hK _ _ (fun _ => hS) ?_
  clear hK K
  try simp only [Act.put, List.setIfInBounds_toArray, List.set_cons_zero, List.set_cons_succ, List.getElem_toArray, List.getElem_cons_zero, List.getElem_cons_succ]
  refine AnyBut.gone (i := 20) (by kernel_rfl) rfl (by rfl) (fun K hK => ?_)
  go_simp
  (with_reducible refine (K15.out _ hS).mono ?_)
  rintro e w7 ⟨rfl, hS⟩
  dsimp only
  refine hK _ _ (fun _ => hS) ?_
  clear hK K
  try simp only [Act.put, List.setIfInBounds_toArray, List.set_cons_zero, List.set_cons_succ, List.getElem_toArray, List.getElem_cons_zero, List.getElem_cons_succ]
  refine AnyBut.gone (i := 21) (by kernel_rfl) rfl (by rfl) (fun K hK => ?_)
  go_simp
  refine hK _ _ (fun _ => hS) ?_
  clear hK K
  try simp only [Act.put, List.setIfInBounds_toArray, List.set_cons_zero, List.set_cons_succ, List.getElem_toArray, List.getElem_cons_zero, List.getElem_cons_succ]
  refine AnyBut.gone (i := 22) (by kernel_rfl) rfl (by rfl) (fun K hK => ?_)
  go_simp
  refine hK _ _ (fun _ => hS) ?_
  clear hK K
  try simp only [Act.put, List.setIfInBounds_toArray, List.set_cons_zero, List.set_cons_succ, List.getElem_toArray, List.getElem_cons_zero, List.getElem_cons_succ]
  refine AnyBut.gone (i := 23) (by kernel_rfl) rfl (by rfl) (fun K hK => ?_)
  go_simp
  refine hK _ _ (fun _ => hS) ?_
  clear hK K
  try simp only [Act.put, List.setIfInBounds_toArray, List.set_cons_zero, List.set_cons_succ, List.getElem_toArray, List.getElem_cons_zero, List.getElem_cons_succ]
  refine AnyBut.takeE (i := 24) (v := ?_) rfl (by kernel_rfl) (by kernel_rfl) (by kernel_rfl) (by kernel_rfl) (fun _ _ _ h => h) (Or.inl ⟨by rfl, ?_⟩) hS ?_
  rotate_left
  · (intro wq hq; go_simp; try with_reducible rfl)
  try simp only [Act.put, List.setIfInBounds_toArray, List.set_cons_zero, List.set_cons_succ, List.getElem_toArray, List.getElem_cons_zero, List.getElem_cons_succ]
  refine AnyBut.takeE (i := 25) (v := ?_) rfl (by kernel_rfl) (by kernel_rfl) (by kernel_rfl) (by kernel_rfl) (fun _ _ _ h => h) (Or.inl ⟨by rfl, ?_⟩) hS ?_
  rotate_left
  · (intro wq hq; go_simp; try with_reducible rfl)
  try simp only [Act.put, List.setIfInBounds_toArray, List.set_cons_zero, List.set_cons_succ, List.getElem_toArray, List.getElem_cons_zero, List.getElem_cons_succ]
  refine AnyBut.takeE (i := 26) (v := ?_) rfl (by kernel_rfl) (by kernel_rfl) (by kernel_rfl) (by kernel_rfl) (fun _ _ _ h => h) (Or.inl ⟨by rfl, ?_⟩) hS ?_
  rotate_left
  · (intro wq hq; go_simp; try with_reducible rfl)
  try simp only [Act.put, List.setIfInBounds_toArray, List.set_cons_zero, List.set_cons_succ, List.getElem_toArray, List.getElem_cons_zero, List.getElem_cons_succ]
  refine AnyBut.takeE (i := 27) (v := ?_) rfl (by kernel_rfl) (by kernel_rfl) (by kernel_rfl) (by kernel_rfl) (fun _ _ _ h => h) (Or.inl ⟨by rfl, ?_⟩) hS ?_
  rotate_left
  · (intro wq hq; go_simp; try with_reducible rfl)
  try simp only [Act.put, List.setIfInBounds_toArray, List.set_cons_zero, List.set_cons_succ, List.getElem_toArray, List.getElem_cons_zero, List.getElem_cons_succ]
  refine AnyBut.takeE (i := 28) (v := .int .u8 7) rfl (by kernel_rfl) (by kernel_rfl) (by kernel_rfl) (by kernel_rfl) (fun _ _ _ h => h) (Or.inl ⟨by rfl, ?_⟩) hS ?_
  · intro wq hq
    have d7 := E7.out wq hq
    go_simp
  try simp only [Act.put, List.setIfInBounds_toArray, List.set_cons_zero, List.set_cons_succ, List.getElem_toArray, List.getElem_cons_zero, List.getElem_cons_succ]
  refine AnyBut.gone (i := 29) (by kernel_rfl) rfl (by rfl) (fun K hK => ?_)
  go_simp
  refine hK _ _ (fun _ => hS) ?_
  clear hK K
  try simp only [Act.put, List.setIfInBounds_toArray, List.set_cons_zero, List.set_cons_succ, List.getElem_toArray, List.getElem_cons_zero, List.getElem_cons_succ]
  refine AnyBut.gone (i := 30) (by kernel_rfl) rfl (by rfl) (fun K hK => ?_)
  go_simp
  refine hK _ _ (fun _ => hS) ?_
  clear hK K
  try simp only [Act.put, List.setIfInBounds_toArray, List.set_cons_zero, List.set_cons_succ, List.getElem_toArray, List.getElem_cons_zero, List.getElem_cons_succ]
  refine AnyBut.gone (i := 31) (by kernel_rfl) rfl (by rfl) (fun K hK => ?_)
  go_simp
  refine hK _ _ (fun _ => hS) ?_
  clear hK K
  try simp only [Act.put, List.setIfInBounds_toArray, List.set_cons_zero, List.set_cons_succ, List.getElem_toArray, List.getElem_cons_zero, List.getElem_cons_succ]
  refine AnyBut.takeE (i := 32) (v := ?_) rfl (by kernel_rfl) (by kernel_rfl) (by kernel_rfl) (by kernel_rfl) (fun _ _ _ h => h) (Or.inl ⟨by rfl, ?_⟩) hS ?_
  rotate_left
  · (intro wq hq; go_simp; try with_reducible rfl)
  try simp only [Act.put, List.setIfInBounds_toArray, List.set_cons_zero, List.set_cons_succ, List.getElem_toArray, List.getElem_cons_zero, List.getElem_cons_succ]
  refine AnyBut.takeE (i := 33) (v := ?_) rfl (by kernel_rfl) (by kernel_rfl) (by kernel_rfl) (by kernel_rfl) (fun _ _ _ h => h) (Or.inl ⟨by rfl, ?_⟩) hS ?_
  rotate_left
  · (intro wq hq; go_simp; try with_reducible rfl)
  try simp only [Act.put, List.setIfInBounds_toArray, List.set_cons_zero, List.set_cons_succ, List.getElem_toArray, List.getElem_cons_zero, List.getElem_cons_succ]
  refine AnyBut.takeE (i := 34) (v := ?_) rfl (by kernel_rfl) (by kernel_rfl) (by kernel_rfl) (by kernel_rfl) (fun _ _ _ h => h) (Or.inl ⟨by rfl, ?_⟩) hS ?_
  rotate_left
  · (intro wq hq; go_simp; try with_reducible rfl)
  try simp only [Act.put, List.setIfInBounds_toArray, List.set_cons_zero, List.set_cons_succ, List.getElem_toArray, List.getElem_cons_zero, List.getElem_cons_succ]
  refine AnyBut.takeE (i := 35) (v := ?_) rfl (by kernel_rfl) (by kernel_rfl) (by kernel_rfl) (by kernel_rfl) (fun _ _ _ h => h) (Or.inl ⟨by rfl, ?_⟩) hS ?_
  rotate_left
  · (intro wq hq; go_simp; try with_reducible rfl)
  try simp only [Act.put, List.setIfInBounds_toArray, List.set_cons_zero, List.set_cons_succ, List.getElem_toArray, List.getElem_cons_zero, List.getElem_cons_succ]
  refine AnyBut.takeE (i := 36) (v := .string sl) rfl (by kernel_rfl) (by kernel_rfl) (by kernel_rfl) (by kernel_rfl) (fun _ _ _ h => h) (Or.inl ⟨by rfl, ?_⟩) hS ?_
  · intro wq hq
    go_simp
    rw [ER.out wq hq]
    rfl
  try simp only [Act.put, List.setIfInBounds_toArray, List.set_cons_zero, List.set_cons_succ, List.getElem_toArray, List.getElem_cons_zero, List.getElem_cons_succ]
  refine AnyBut.takeE (i := 37) (v := ?_) rfl (by kernel_rfl) (by kernel_rfl) (by kernel_rfl) (by kernel_rfl) (fun _ _ _ h => h) (Or.inl ⟨by rfl, ?_⟩) hS ?_
  rotate_left
  · (intro wq hq; go_simp; try with_reducible rfl)
  try simp only [Act.put, List.setIfInBounds_toArray, List.set_cons_zero, List.set_cons_succ, List.getElem_toArray, List.getElem_cons_zero, List.getElem_cons_succ]
  refine AnyBut.takeE (i := 38) (v := .string sl) rfl (by kernel_rfl) (by kernel_rfl) (by kernel_rfl) (by kernel_rfl) (fun _ _ _ h => h) (Or.inl ⟨by rfl, ?_⟩) hS ?_
  · intro wq hq
    go_simp
    rw [EL.out wq hq]
    rfl
  try simp only [Act.put, List.setIfInBounds_toArray, List.set_cons_zero, List.set_cons_succ, List.getElem_toArray, List.getElem_cons_zero, List.getElem_cons_succ]
  refine AnyBut.gone (i := 39) (by kernel_rfl) rfl (by rfl) (fun K hK => ?_)
  go_simp
  refine hK _ _ (fun _ => hS) ?_
  clear hK K
  try simp only [Act.put, List.setIfInBounds_toArray, List.set_cons_zero, List.set_cons_succ, List.getElem_toArray, List.getElem_cons_zero, List.getElem_cons_succ]
  refine AnyBut.gone (i := 40) (by kernel_rfl) rfl (by rfl) (fun K hK => ?_)
  go_simp
  refine hK _ _ (fun _ => hS) ?_
  clear hK K
  try simp only [Act.put, List.setIfInBounds_toArray, List.set_cons_zero, List.set_cons_succ, List.getElem_toArray, List.getElem_cons_zero, List.getElem_cons_succ]
  refine AnyBut.gone (i := 41) (by kernel_rfl) rfl (by rfl) (fun K hK => ?_)
  go_simp
  refine hK _ _ (fun _ => hS) ?_
  clear hK K
  try simp only [Act.put, List.setIfInBounds_toArray, List.set_cons_zero, List.set_cons_succ, List.getElem_toArray, List.getElem_cons_zero, List.getElem_cons_succ]
  refine AnyBut.gone (i := 42) (by kernel_rfl) rfl (by rfl) (fun K hK => ?_)
  go_simp
  (with_reducible refine (KX.out _ hS).mono ?_)
  rintro e w8 ⟨rfl, hS⟩
  dsimp only
  refine hK _ _ (fun _ => hS) ?_
  clear hK K
  try simp only [Act.put, List.setIfInBounds_toArray, List.set_cons_zero, List.set_cons_succ, List.getElem_toArray, List.getElem_cons_zero, List.getElem_cons_succ]
  refine AnyBut.gone (i := 43) (by kernel_rfl) rfl (by rfl) (fun K hK => ?_)
  go_simp
  refine hK _ _ (fun _ => hS) ?_
  clear hK K
  try simp only [Act.put, List.setIfInBounds_toArray, List.set_cons_zero, List.set_cons_succ, List.getElem_toArray, List.getElem_cons_zero, List.getElem_cons_succ]
  refine AnyBut.gone (i := 44) (by kernel_rfl) rfl (by rfl) (fun K hK => ?_)
  go_simp
  refine hK _ _ (fun _ => hS) ?_
  clear hK K
  refine AnyBut.done (by kernel_rfl) ?_ _
  dsimp only [Exit.then]
  have HS8 := Lib.hid hS
  clear hS
  go_wp2
  go_ret
  exact ⟨rfl, HBW.out.trans (Below.mono HS8.out HBW.out.size)⟩
end Go.Proofs.Ytalcdejiobpmlaa
