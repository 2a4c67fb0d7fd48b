/- The law TxPuts returns true for every transaction and all bytes ahead, in a world whose two tables are as laid. -/
import Derived.Test.YtnkkhmgplpkjbaaDoorOh
import Derived.Test.YtnkkhmgplpkjbaaDoorLp
import Derived.Stop.BytesEq
import Derived.Laws.StructEq
import Derived.Outline
namespace Go.Proofs.YtnkkhmgplpkjbaaDoor
open Go.RowKit
set_option linter.unusedVariables false
set_option linter.unusedSimpArgs false
set_option maxRecDepth 100000
theorem conv_ob {w wq : World} {B n c : Nat} {A : Option Addr} {L : List (BitVec 8)} (h : OB w B (.slice A n c) L) (hq : SB w wq) : (convert 27 9 (.slice A n c)).run Tryd.prog wq = .ok (.string (strB L)) wq := by
  obtain ⟨A', c', e, hr, _⟩ := slice_form h
  cases e
  exact conv_n (up_to hr hq (Nat.le_refl _)) rfl
theorem eqIn38 (d : Nat) (X Y : List (BitVec 8)) (hX : X.length = 32) (hY : Y.length = 32) (w : World) : (Op.equalIn (d + 2) 38 (.agg (vbs X).toArray) (.agg (vbs Y).toArray)).run Tryd.prog w = .ok (decide (X = Y)) w := by
  have eX : vbs X = (X.map UInt8.ofBitVec).map Extern.Stop.cell := by simp [vbs, Extern.Stop.cell, Bt]
  have eY : vbs Y = (Y.map UInt8.ofBitVec).map Extern.Stop.cell := by simp [vbs, Extern.Stop.cell, Bt]
  have := run_equalIn_bytes (P := Tryd.prog) w d 38 5 32 Tryd.underlying38 Tryd.underlying5 (fun _ => by kernel_rfl) (X.map UInt8.ofBitVec) (Y.map UInt8.ofBitVec) (by simpa using hX) (by simpa using hY)
  rw [← eX, ← eY] at this
  rw [this]
  congr 1
  rw [Bool.eq_iff_iff]
  simp only [beq_iff_eq, decide_eq_true_eq]
  constructor
  · intro h
    have := congrArg (List.map UInt8.toBitVec) h
    simpa [List.map_map, Function.comp_def] using this
  · intro h
    rw [h]
theorem strB_cat (X Y : List (BitVec 8)) : ((strB (X ++ Y)).toList == (strB X ++ strB Y).toList) = true := by
  have e : (strB X ++ strB Y).toList = (strB X).toList ++ (strB Y).toList := by
    rw [tol_data, tol_data, tol_data]
    simp
  rw [e, strB_list, strB_list, strB_list]
  simp
set_option maxHeartbeats 16000000 in
theorem puts_ok (t : TTx) (i o : Value) (A : Option Addr) (cap : Nat) (R : List (BitVec 8)) (w : World) (h : TxOk w w.heap.size t i o) (hR : Rd w w.heap.size A R) (hl : R.length ≤ cap) (hm : cap ≤ 9223372036854775807) (hcn : A = none → cap = 0) (hc : chk t = 0) (hG : Glob w)
    (hlg : ∀ wq, Below w.heap.size w wq → Calls Tryd.prog 6 #[txV t i o] wq (SomePost wq)) :
    Calls Tryd.prog 3 #[txV t i o, .slice A R.length cap] w fun e w' => e = .returned (.bool true) ∧ Below w.heap.size w w' := by
  have h' := h
  obtain ⟨⟨A1, c1, rfl, _, _, _⟩, ⟨A2, c2, rfl, _, _, _⟩, _, _⟩ := h
  obtain ⟨n1, hn1⟩ : ∃ n, n = t.ins.length := ⟨_, rfl⟩
  obtain ⟨n2, hn2⟩ : ∃ n, n = t.outs.length := ⟨_, rfl⟩
  obtain ⟨ver, hv⟩ : ∃ n, n = t.ver := ⟨_, rfl⟩
  obtain ⟨lock, hlk⟩ : ∃ n, n = t.lock := ⟨_, rfl⟩
  have hlg' : ∀ wq, Below w.heap.size w wq → Calls Tryd.prog 6 #[.agg #[.int .u32 (ver : Int), .slice A1 n1 c1, .slice A2 n2 c2, .int .u32 (lock : Int)]] wq (SomePost wq) := fun wq hq => by
    have := hlg wq hq
    unfold txV at this
    rw [← hv, ← hlk, ← hn1, ← hn2] at this
    exact this
  have KL := Lib.hid hlg'
  have KAw := Lib.hid (fun wq => awake_any wq)

  obtain ⟨X1, hX1⟩ : ∃ X, X = layB t (witd t) := ⟨_, rfl⟩
  obtain ⟨X2, hX2⟩ : ∃ X, X = layB t false := ⟨_, rfl⟩
  have hX1l : X1.length ≤ 100000 := by rw [hX1]; exact lay_len _ h' hc
  have hX2l : X2.length ≤ 100000 := by rw [hX2]; exact lay_len _ h' hc
  have HXl := Lib.hid (⟨hX1l, hX2l⟩ : _ ∧ _)
  clear hX1l hX2l
  obtain ⟨Y1, hY1⟩ : ∃ Y, Y = R ++ X1 := ⟨_, rfl⟩
  obtain ⟨Y2, hY2⟩ : ∃ Y, Y = R ++ X2 := ⟨_, rfl⟩
  have hcat1 := strB_cat R X1
  have hcat2 := strB_cat R X2
  rw [← hY1] at hcat1
  rw [← hY2] at hcat2
  have HCat := Lib.hid (⟨hcat1, hcat2⟩ : _ ∧ _)
  obtain ⟨ce, hce⟩ : ∃ c : Int, c = 0 := ⟨_, rfl⟩
  have KP : Hid (∀ (b : Value) (wq : World), Below w.heap.size w wq → Sl wq wq.heap.size b R → R.length ≤ 100000 → Calls Tryd.prog 8 #[b, .agg #[.int .u32 (ver : Int), .slice A1 n1 c1, .slice A2 n2 c2, .int .u32 (lock : Int)]] wq (GavePost Y1 wq)) := fun b wq hq hs hl => by
    have := Put_ok t _ _ b R wq ((h'.keep hq (Nat.le_refl _)).up hq.size) hs hl hc
    unfold txV at this
    rw [← hv, ← hlk, ← hn1, ← hn2, ← hX1, ← hY1] at this
    exact this
  have KB : Hid (∀ (b : Value) (wq : World), Below w.heap.size w wq → Sl wq wq.heap.size b R → R.length ≤ 100000 → Calls Tryd.prog 10 #[b, .agg #[.int .u32 (ver : Int), .slice A1 n1 c1, .slice A2 n2 c2, .int .u32 (lock : Int)]] wq (GavePost Y2 wq)) := fun b wq hq hs hl => by
    have := bare_ok t _ _ b R wq ((h'.keep hq (Nat.le_refl _)).up hq.size) hs hl hc
    unfold txV at this
    rw [← hv, ← hlk, ← hn1, ← hn2, ← hX2, ← hY2] at this
    exact this
  have KRP : Hid (∀ wq, Below w.heap.size w wq → Calls Tryd.prog 9 #[.agg #[.int .u32 (ver : Int), .slice A1 n1 c1, .slice A2 n2 c2, .int .u32 (lock : Int)]] wq (GavePost X1 wq)) := fun wq hq => by
    have := rput_ok5 t _ _ wq ((h'.keep hq (Nat.le_refl _)).up hq.size) hc
    unfold txV at this
    rw [← hv, ← hlk, ← hn1, ← hn2, ← hX1] at this
    exact this
  have KRB : Hid (∀ wq, Below w.heap.size w wq → Calls Tryd.prog 11 #[.agg #[.int .u32 (ver : Int), .slice A1 n1 c1, .slice A2 n2 c2, .int .u32 (lock : Int)]] wq (GavePost X2 wq)) := fun wq hq => by
    have := rbare_ok t _ _ wq ((h'.keep hq (Nat.le_refl _)).up hq.size) hc
    unfold txV at this
    rw [← hv, ← hlk, ← hn1, ← hn2, ← hX2] at this
    exact this
  obtain ⟨D1, hD1⟩ : ∃ D, D = twiceB X2 := ⟨_, rfl⟩
  obtain ⟨D2, hD2⟩ : ∃ D, D = twiceB X1 := ⟨_, rfl⟩
  have hD1l : D1.length = 32 := by rw [hD1]; exact sumB_len _
  have hD2l : D2.length = 32 := by rw [hD2]; exact sumB_len _
  have KI : Hid (∀ wq, Below w.heap.size w wq → Calls Tryd.prog 16 #[.agg #[.int .u32 (ver : Int), .slice A1 n1 c1, .slice A2 n2 c2, .int .u32 (lock : Int)]] wq (HashP D1 wq)) := fun wq hq => by
    have := id5_ok t _ _ wq ((h'.keep hq (Nat.le_refl _)).up hq.size) hc (hG.below hq)
    unfold txV at this
    rw [← hv, ← hlk, ← hn1, ← hn2, ← hX2, ← hD1] at this
    exact this
  have KRI : Hid (∀ wq, Below w.heap.size w wq → Calls Tryd.prog 17 #[.agg #[.int .u32 (ver : Int), .slice A1 n1 c1, .slice A2 n2 c2, .int .u32 (lock : Int)]] wq (HashP D1 wq)) := fun wq hq => by
    have := rid5_ok t _ _ wq ((h'.keep hq (Nat.le_refl _)).up hq.size) hc
    unfold txV at this
    rw [← hv, ← hlk, ← hn1, ← hn2, ← hX2, ← hD1] at this
    exact this
  have KF : Hid (∀ wq, Below w.heap.size w wq → Calls Tryd.prog 18 #[.agg #[.int .u32 (ver : Int), .slice A1 n1 c1, .slice A2 n2 c2, .int .u32 (lock : Int)]] wq (HashP D2 wq)) := fun wq hq => by
    have := full5_ok t _ _ wq ((h'.keep hq (Nat.le_refl _)).up hq.size) hc (hG.below hq)
    unfold txV at this
    rw [← hv, ← hlk, ← hn1, ← hn2, ← hX1, ← hD2] at this
    exact this
  have KRF : Hid (∀ wq, Below w.heap.size w wq → Calls Tryd.prog 19 #[.agg #[.int .u32 (ver : Int), .slice A1 n1 c1, .slice A2 n2 c2, .int .u32 (lock : Int)]] wq (HashP D2 wq)) := fun wq hq => by
    have := rfull5_ok t _ _ wq ((h'.keep hq (Nat.le_refl _)).up hq.size) hc
    unfold txV at this
    rw [← hv, ← hlk, ← hn1, ← hn2, ← hX1, ← hD2] at this
    exact this
  obtain ⟨wd, hwd⟩ : ∃ b, b = witd t := ⟨_, rfl⟩
  have KC : Hid (∀ wq, Below w.heap.size w wq → Calls Tryd.prog 12 #[.agg #[.int .u32 (ver : Int), .slice A1 n1 c1, .slice A2 n2 c2, .int .u32 (lock : Int)]] wq (IntPost ce wq)) := fun wq hq => by
    have := check_any t _ _ wq ((h'.keep hq (Nat.le_refl _)).up hq.size)
    rw [hc, ← hce] at this
    unfold txV at this
    rw [← hv, ← hlk, ← hn1, ← hn2] at this
    exact this
  have KRC : Hid (∀ wq, Below w.heap.size w wq → Calls Tryd.prog 13 #[.agg #[.int .u32 (ver : Int), .slice A1 n1 c1, .slice A2 n2 c2, .int .u32 (lock : Int)]] wq (IntPost ce wq)) := fun wq hq => by
    have := rcheck_any t _ _ wq ((h'.keep hq (Nat.le_refl _)).up hq.size)
    rw [hc, ← hce] at this
    unfold txV at this
    rw [← hv, ← hlk, ← hn1, ← hn2] at this
    exact this
  have KWt : Hid (∀ wq, Below w.heap.size w wq → Calls Tryd.prog 14 #[.agg #[.int .u32 (ver : Int), .slice A1 n1 c1, .slice A2 n2 c2, .int .u32 (lock : Int)]] wq (BoolPost wd wq)) := fun wq hq => by
    have := witnessed_any t _ _ wq ((h'.keep hq (Nat.le_refl _)).up hq.size)
    unfold txV at this
    rw [← hv, ← hlk, ← hn1, ← hn2, ← hwd] at this
    exact this
  have KRW : Hid (∀ wq, Below w.heap.size w wq → Calls Tryd.prog 15 #[.agg #[.int .u32 (ver : Int), .slice A1 n1 c1, .slice A2 n2 c2, .int .u32 (lock : Int)]] wq (BoolPost wd wq)) := fun wq hq => by
    have := rwit_any t _ _ wq ((h'.keep hq (Nat.le_refl _)).up hq.size)
    unfold txV at this
    rw [← hv, ← hlk, ← hn1, ← hn2, ← hwd] at this
    exact this
  have e1 := Lib.hid (fun w => (eqIn38 9998 D1 D1 hD1l hD1l w).trans (by simp : _ = Result.ok true w))
  have e2 := Lib.hid (fun w => (eqIn38 9998 D2 D2 hD2l hD2l w).trans (by simp : _ = Result.ok true w))
  have HB : Hid (Below w.heap.size w (w.alloc (.cells #[.int .u32 (ver : Int), .slice A1 n1 c1, .slice A2 n2 c2, .int .u32 (lock : Int)] 26))) := (Below.refl _ _).alloc (Nat.le_refl _) _
  have HT := Lib.hid (tx_box (ver : Int) (lock : Int) (.slice A1 n1 c1) (.slice A2 n2 c2) w 26)
  have HR := Lib.hid hR
  have HG := Lib.hid hG
  have Hcn := Lib.hid hcn
  obtain ⟨n, hn⟩ : ∃ n, n = R.length := ⟨_, rfl⟩
  have HN := Lib.hid hn
  have hceb : (ce == ce) = true := by simp
  unfold txV
  rw [← hv, ← hlk, ← hn1, ← hn2, ← hn]
  rw [← hn] at hl
  clear h' hlg hlg' hn1 hn2 hv hlk hX1 hX2 hY1 hY2 hcat1 hcat2 hc hD1 hD2 hD1l hD2l hwd hR hG hcn hn
  obtain ⟨d0, d1, d2, d3⟩ := HT.out _ (SB.refl _)
  go_enter Tryd.func3, Tryd.ntmps3
  go_upto_region 1 with fail
  generalize (w.alloc (.cells #[.int .u32 (ver : Int), .slice A1 n1 c1, .slice A2 n2 c2, .int .u32 (lock : Int)] 26)) = W0 at HB HT d0 d1 d2 d3 ⊢
  have hnn : (0 : Int) ≤ (n : Int) := by omega
  by_cases hbig : 1000 < n
  · have hb1 : (1000 : Int) < (n : Int) := by omega
    go_wp2_with (first
      | (go_at_call 6; (with_reducible refine (KL.out _ HB.out).mono ?_); rintro e w1 ⟨β, rfl, hb1⟩; have HB1 := Lib.hid hb1; clear hb1; cases β <;> dsimp only)
      | (go_at_call 7; (with_reducible refine (KAw.out _).mono ?_); rintro e w2 ⟨rfl, hb2⟩; have HB2 := Lib.hid hb2; clear hb2; dsimp only))
    all_goals go_ret
    all_goals exact ⟨rfl, HB.out.trans ((HB1.out.mono HB.out.size).trans (HB2.out.mono (Nat.le_trans HB.out.size HB1.out.size)))⟩
  · have hb1 : ¬ (1000 : Int) < (n : Int) := by omega
    have KL0 := Lib.hid (KL.out _ HB.out)
    go_upto_region 3 with (first
      | (go_at_call 6; (with_reducible refine KL0.out.mono ?_); rintro e w1 ⟨β, rfl, hb1⟩; have HB1 := Lib.hid hb1; obtain ⟨d0, d1, d2, d3⟩ := HT.out _ hb1; clear hb1; cases β <;> dsimp only)
      | (go_at_call 7; (with_reducible refine (KAw.out _).mono ?_); rintro e w2 ⟨rfl, hb2⟩; have HB2 := Lib.hid hb2; clear hb2; dsimp only))
    rotate_left
    · go_ret
      exact ⟨rfl, HB.out.trans ((HB1.out.mono HB.out.size).trans (HB2.out.mono (Nat.le_trans HB.out.size HB1.out.size)))⟩
    have HZ1 : Hid (SB W0 w1) := HB1
    have HO0 := Lib.hid (show OB (w1.alloc (Obj.cells #[] 5)) w1.heap.size (.slice (some ⟨w1.heap.size, 0, none⟩) 0 0) [] from owns_empty w1 w1.heap.size (Nat.le_refl _))
    have hb0 : Below w1.heap.size w1 (w1.alloc (Obj.cells #[] 5)) := (Below.refl _ _).alloc (Nat.le_refl _) _
    have HB0 := Lib.hid hb0
    have HS0 : Hid (Src22 (w1.alloc (Obj.cells #[] 5)) A R.length (vbs R)) := src_of_rd (HR.out.keep (HB.out.trans ((HB1.out.mono HB.out.size).trans (hb0.mono (Nat.le_trans HB.out.size HB1.out.size)))))
    have hn1000 : n ≤ 1000 := by omega
    clear hb0 d0 d1 d2 d3 KL0
    go_upto_region 4 with (refine wpList_push (o := ⟨some 24, _, _, _, _, _⟩) rfl (.tmp 22) (.tmp 23) rfl rfl w1.heap.size _ [] R rfl HO0.out A n cap rfl HN.out HS0.out Hcn.out (by rw [← HN.out]; simp; omega) HB0.out HB0.out.size (Nat.le_refl _) ?_; intro v5 w5 h1 h2 h3; rw [List.nil_append] at h1; obtain ⟨A5, c5, rfl, _, _⟩ := slice_form h1; have HO5 := Lib.hid h1; have HZ5 : Hid (SB W0 w5) := SB.next HZ1.out h2; clear h1 h2 h3)
    have HN' : Hid (R.length = n) := HN.out.symm
    rw [HN'.out] at HO5 ⊢
    obtain ⟨d0, d1, d2, d3⟩ := HT.out _ HZ5.out
    have HW5 : Hid (Below w.heap.size w w5) := HB.out.trans (Below.mono HZ5.out HB.out.size)
    have HSl5 : Hid (Sl w5 w5.heap.size (.slice A5 n c5) R) := HO5.out.sl (Nat.le_refl _)
    have hR1000 : R.length ≤ 100000 := by rw [HN'.out]; omega
    have HRl := Lib.hid hR1000
    clear hR1000
    go_upto_region 5 with (go_at_call 8; (with_reducible refine (KP.out _ _ HW5.out HSl5.out HRl.out).mono ?_); rintro e w6 ⟨A6, c6, rfl, ho6, hb6⟩; have HO6 := Lib.hid ho6; have HZ6 : Hid (SB W0 w6) := SB.next HZ5.out hb6; have HU56 : Hid (SB w5 w6) := hb6; clear ho6 hb6; dsimp only)
    clear d0 d1 d2 d3
    obtain ⟨d0, d1, d2, d3⟩ := HT.out _ HZ6.out
    have HW6 : Hid (Below w.heap.size w w6) := HB.out.trans (Below.mono HZ6.out HB.out.size)
    go_upto_region 6 with (go_at_call 9; (with_reducible refine (KRP.out _ HW6.out).mono ?_); rintro e w7 ⟨A7, c7, rfl, ho7, hb7⟩; have HO7 := Lib.hid ho7; have HZ7 : Hid (SB W0 w7) := SB.next HZ6.out hb7; have HU67 : Hid (SB w6 w7) := hb7; clear ho7 hb7; dsimp only)
    clear d0 d1 d2 d3
    obtain ⟨d0, d1, d2, d3⟩ := HT.out _ HZ7.out
    have HW7 : Hid (Below w.heap.size w w7) := HB.out.trans (Below.mono HZ7.out HB.out.size)
    have HU57 : Hid (SB w5 w7) := SB.trans HU56.out HU67.out
    have hsl57 : Sl w7 w7.heap.size (.slice A5 n c5) R := ((HO5.out.sl (Nat.le_refl _)).keep HU57.out (Nat.le_refl _)).up HU57.out.size
    have HSl57 := Lib.hid hsl57
    clear hsl57
    go_upto_region 7 with (go_at_call 10; (with_reducible refine (KB.out _ _ HW7.out HSl57.out HRl.out).mono ?_); rintro e w8 ⟨A8, c8, rfl, ho8, hb8⟩; have HO8 := Lib.hid ho8; have HZ8 : Hid (SB W0 w8) := SB.next HZ7.out hb8; have HU78 : Hid (SB w7 w8) := hb8; clear ho8 hb8; dsimp only)
    clear d0 d1 d2 d3
    obtain ⟨d0, d1, d2, d3⟩ := HT.out _ HZ8.out
    have HW8 : Hid (Below w.heap.size w w8) := HB.out.trans (Below.mono HZ8.out HB.out.size)
    go_upto_region 8 with (go_at_call 11; (with_reducible refine (KRB.out _ HW8.out).mono ?_); rintro e w9 ⟨A9, c9, rfl, ho9, hb9⟩; have HO9 := Lib.hid ho9; have HZ9 : Hid (SB W0 w9) := SB.next HZ8.out hb9; have HU89 : Hid (SB w8 w9) := hb9; clear ho9 hb9; dsimp only)
    clear d0 d1 d2 d3
    have HU69 : Hid (SB w6 w9) := SB.trans HU67.out (SB.trans HU78.out HU89.out)
    have HU79 : Hid (SB w7 w9) := SB.trans HU78.out HU89.out
    have HU59 : Hid (SB w5 w9) := SB.trans HU57.out HU79.out
    generalize hWd : w9.drew = Wd
    have HZd : Hid (SB w9 Wd) := (hWd ▸ SB.drew w9 : SB w9 Wd)
    have HZ0d : Hid (SB W0 Wd) := SB.trans HZ9.out HZd.out
    have HWd : Hid (Below w.heap.size w Wd) := HB.out.trans (Below.mono HZ0d.out HB.out.size)
    have BW : Hid (∀ wq, SB Wd wq → Below w.heap.size w wq) := fun wq hq => HWd.out.trans (Below.mono hq HWd.out.size)
    have E0 : Hid (∀ wq, SB Wd wq → wq.cell? ⟨w.heap.size, 0, none⟩ = some (.int .u32 (ver : Int)) ∧ wq.cell? ⟨w.heap.size, 1, none⟩ = some (.slice A1 n1 c1) ∧ wq.cell? ⟨w.heap.size, 2, none⟩ = some (.slice A2 n2 c2) ∧ wq.cell? ⟨w.heap.size, 3, none⟩ = some (.int .u32 (lock : Int))) := fun wq hq => HT.out wq (SB.trans HZ0d.out hq)
    have CA : Hid (∀ wq, SB w9 wq → (convert 27 9 (.slice A6 Y1.length c6)).run Tryd.prog wq = .ok (.string (strB Y1)) wq) := fun wq hq => conv_ob HO6.out (SB.trans HU69.out hq)
    have CB : Hid (∀ wq, SB w9 wq → (convert 27 9 (.slice A7 X1.length c7)).run Tryd.prog wq = .ok (.string (strB X1)) wq) := fun wq hq => conv_ob HO7.out (SB.trans HU79.out hq)
    have CC : Hid (∀ wq, SB w9 wq → (convert 27 9 (.slice A8 Y2.length c8)).run Tryd.prog wq = .ok (.string (strB Y2)) wq) := fun wq hq => conv_ob HO8.out (SB.trans HU89.out hq)
    have CD : Hid (∀ wq, SB w9 wq → (convert 27 9 (.slice A9 X2.length c9)).run Tryd.prog wq = .ok (.string (strB X2)) wq) := fun wq hq => conv_ob HO9.out hq
    have CO : Hid (∀ wq, SB w9 wq → (convert 27 9 (.slice A5 n c5)).run Tryd.prog wq = .ok (.string (strB R)) wq) := fun wq hq => conv_ob HO5.out (SB.trans HU59.out hq)
    have CR : Hid (∀ wq, SB w9 wq → (convert 27 9 (.slice A n cap)).run Tryd.prog wq = .ok (.string (strB R)) wq) := fun wq hq => conv_n (HR.out.keep (HB.out.trans (Below.mono (SB.trans HZ9.out hq) HB.out.size))) HN.out
    refine wp_region_but (z := 999) (SB Wd) (by kernel_rfl) ?_
    rw [hWd]
    have hS : SB Wd Wd := SB.refl Wd
    clear hWd
    have HSd : Hid (SB Wd Wd) := hS
    refine AnyBut.takeE (i := 0) (v := ?_) rfl (by kernel_rfl) (by kernel_rfl) (by kernel_rfl) (by kernel_rfl) (fun _ _ _ h => h) (Or.inl ⟨by rfl, ?_⟩) hS ?_
    rotate_left
    · (intro wq hq; go_simp; try with_reducible rfl)
    try simp only [Act.put, List.setIfInBounds_toArray, List.set_cons_zero, List.set_cons_succ, List.getElem_toArray, List.getElem_cons_zero, List.getElem_cons_succ]
    refine AnyBut.takeE (i := 1) (v := ?_) rfl (by kernel_rfl) (by kernel_rfl) (by kernel_rfl) (by kernel_rfl) (fun _ _ _ h => h) (Or.inl ⟨by rfl, ?_⟩) hS ?_
    rotate_left
    · (intro wq hq; go_simp; try with_reducible rfl)
    try simp only [Act.put, List.setIfInBounds_toArray, List.set_cons_zero, List.set_cons_succ, List.getElem_toArray, List.getElem_cons_zero, List.getElem_cons_succ]
    refine AnyBut.takeE (i := 2) (v := .bool false) rfl (by kernel_rfl) (by kernel_rfl) (by kernel_rfl) (by kernel_rfl) (fun _ _ _ h => h) (Or.inl ⟨by rfl, ?_⟩) hS ?_
    · intro wq hq
      have hbq : (ce != ce) = false := by simp
      go_simp
    try simp only [Act.put, List.setIfInBounds_toArray, List.set_cons_zero, List.set_cons_succ, List.getElem_toArray, List.getElem_cons_zero, List.getElem_cons_succ]
    refine AnyBut.takeE (i := 3) (v := ?_) rfl (by kernel_rfl) (by kernel_rfl) (by kernel_rfl) (by kernel_rfl) (fun _ _ _ h => h) (Or.inl ⟨by rfl, ?_⟩) hS ?_
    rotate_left
    · (intro wq hq; go_simp; try with_reducible rfl)
    try simp only [Act.put, List.setIfInBounds_toArray, List.set_cons_zero, List.set_cons_succ, List.getElem_toArray, List.getElem_cons_zero, List.getElem_cons_succ]
    refine AnyBut.takeE (i := 4) (v := ?_) rfl (by kernel_rfl) (by kernel_rfl) (by kernel_rfl) (by kernel_rfl) (fun _ _ _ h => h) (Or.inl ⟨by rfl, ?_⟩) hS ?_
    rotate_left
    · (intro wq hq; go_simp; try with_reducible rfl)
    try simp only [Act.put, List.setIfInBounds_toArray, List.set_cons_zero, List.set_cons_succ, List.getElem_toArray, List.getElem_cons_zero, List.getElem_cons_succ]
    refine AnyBut.takeE (i := 5) (v := ?_) rfl (by kernel_rfl) (by kernel_rfl) (by kernel_rfl) (by kernel_rfl) (fun _ _ _ h => h) (Or.inl ⟨by rfl, ?_⟩) hS ?_
    rotate_left
    · (intro wq hq; go_simp; try with_reducible rfl)
    try simp only [Act.put, List.setIfInBounds_toArray, List.set_cons_zero, List.set_cons_succ, List.getElem_toArray, List.getElem_cons_zero, List.getElem_cons_succ]
    refine AnyBut.takeE (i := 6) (v := .bool false) rfl (by kernel_rfl) (by kernel_rfl) (by kernel_rfl) (by kernel_rfl) (fun _ _ _ h => h) (Or.inl ⟨by rfl, ?_⟩) hS ?_
    · intro wq hq
      have hbq : (ce != ce) = false := by simp
      go_simp
    try simp only [Act.put, List.setIfInBounds_toArray, List.set_cons_zero, List.set_cons_succ, List.getElem_toArray, List.getElem_cons_zero, List.getElem_cons_succ]
    refine AnyBut.takeE (i := 7) (v := ?_) rfl (by kernel_rfl) (by kernel_rfl) (by kernel_rfl) (by kernel_rfl) (fun _ _ _ h => h) (Or.inl ⟨by rfl, ?_⟩) hS ?_
    rotate_left
    · (intro wq hq; go_simp; try with_reducible rfl)
    try simp only [Act.put, List.setIfInBounds_toArray, List.set_cons_zero, List.set_cons_succ, List.getElem_toArray, List.getElem_cons_zero, List.getElem_cons_succ]
    refine AnyBut.takeE (i := 8) (v := ?_) rfl (by kernel_rfl) (by kernel_rfl) (by kernel_rfl) (by kernel_rfl) (fun _ _ _ h => h) (Or.inl ⟨by rfl, ?_⟩) hS ?_
    rotate_left
    · (intro wq hq; go_simp; try with_reducible rfl)
    try simp only [Act.put, List.setIfInBounds_toArray, List.set_cons_zero, List.set_cons_succ, List.getElem_toArray, List.getElem_cons_zero, List.getElem_cons_succ]
    refine AnyBut.takeE (i := 9) (v := .agg #[.int .u32 (ver : Int), .slice A1 n1 c1, .slice A2 n2 c2, .int .u32 (lock : Int)]) rfl (by kernel_rfl) (by kernel_rfl) (by kernel_rfl) (by kernel_rfl) (fun _ _ _ h => h) (Or.inl ⟨by rfl, ?_⟩) hS ?_
    · intro wq hq
      obtain ⟨dq0, dq1, dq2, dq3⟩ := E0.out wq (SB.trans HSd.out hq)
      go_simp
    try simp only [Act.put, List.setIfInBounds_toArray, List.set_cons_zero, List.set_cons_succ, List.getElem_toArray, List.getElem_cons_zero, List.getElem_cons_succ]
    refine AnyBut.takeE (i := 11) (v := .agg #[.int .u32 (ver : Int), .slice A1 n1 c1, .slice A2 n2 c2, .int .u32 (lock : Int)]) rfl (by kernel_rfl) (by kernel_rfl) (by kernel_rfl) (by kernel_rfl) (fun _ _ _ h => h) (Or.inl ⟨by rfl, ?_⟩) hS ?_
    · intro wq hq
      obtain ⟨dq0, dq1, dq2, dq3⟩ := E0.out wq (SB.trans HSd.out hq)
      go_simp
    try simp only [Act.put, List.setIfInBounds_toArray, List.set_cons_zero, List.set_cons_succ, List.getElem_toArray, List.getElem_cons_zero, List.getElem_cons_succ]
    refine AnyBut.gone (i := 10) (by kernel_rfl) rfl (by rfl) (fun K hK => ?_)
    go_simp
    (with_reducible refine (KC.out _ (BW.out _ HSd.out)).mono ?_)
    rintro e w11 ⟨rfl, hb⟩
    have hS11 : SB Wd w11 := SB.next hS hb
    have HS11 := Lib.hid hS11
    have HBl11 := Lib.hid hb
    clear hb
    dsimp only
    refine hK _ _ (fun _ => hS11) ?_
    clear hK K hS
    try simp only [Act.put, List.setIfInBounds_toArray, List.set_cons_zero, List.set_cons_succ, List.getElem_toArray, List.getElem_cons_zero, List.getElem_cons_succ]
    refine AnyBut.stronger (S' := SB w11) (fun _ h => Below.trans hS11 (Below.mono h hS11.size)) ?_
    clear hS11
    have hS : SB w11 w11 := SB.refl w11
    have HX11 : Hid (SB Wd w11) := SB.trans HSd.out HS11.out
    refine AnyBut.gone (i := 12) (by kernel_rfl) rfl (by rfl) (fun K hK => ?_)
    go_simp
    (with_reducible refine (KRC.out _ (BW.out _ HX11.out)).mono ?_)
    rintro e w12 ⟨rfl, hb⟩
    have hS12 : SB w11 w12 := SB.next hS hb
    have HS12 := Lib.hid hS12
    have HBl12 := Lib.hid hb
    clear hb
    dsimp only
    refine hK _ _ (fun _ => hS12) ?_
    clear hK K hS
    try simp only [Act.put, List.setIfInBounds_toArray, List.set_cons_zero, List.set_cons_succ, List.getElem_toArray, List.getElem_cons_zero, List.getElem_cons_succ]
    refine AnyBut.stronger (S' := SB w12) (fun _ h => Below.trans hS12 (Below.mono h hS12.size)) ?_
    clear hS12
    have hS : SB w12 w12 := SB.refl w12
    have HX12 : Hid (SB Wd w12) := SB.trans HX11.out HS12.out
    refine AnyBut.takeE (i := 13) (v := .bool false) rfl (by kernel_rfl) (by kernel_rfl) (by kernel_rfl) (by kernel_rfl) (fun _ _ _ h => h) (Or.inl ⟨by rfl, ?_⟩) hS ?_
    · intro wq hq
      have hbq : (ce != ce) = false := by simp
      go_simp
    try simp only [Act.put, List.setIfInBounds_toArray, List.set_cons_zero, List.set_cons_succ, List.getElem_toArray, List.getElem_cons_zero, List.getElem_cons_succ]
    refine AnyBut.takeE (i := 14) (v := ?_) rfl (by kernel_rfl) (by kernel_rfl) (by kernel_rfl) (by kernel_rfl) (fun _ _ _ h => h) (Or.inl ⟨by rfl, ?_⟩) hS ?_
    rotate_left
    · (intro wq hq; go_simp; try with_reducible rfl)
    try simp only [Act.put, List.setIfInBounds_toArray, List.set_cons_zero, List.set_cons_succ, List.getElem_toArray, List.getElem_cons_zero, List.getElem_cons_succ]
    refine AnyBut.takeE (i := 15) (v := ?_) rfl (by kernel_rfl) (by kernel_rfl) (by kernel_rfl) (by kernel_rfl) (fun _ _ _ h => h) (Or.inl ⟨by rfl, ?_⟩) hS ?_
    rotate_left
    · (intro wq hq; go_simp; try with_reducible rfl)
    try simp only [Act.put, List.setIfInBounds_toArray, List.set_cons_zero, List.set_cons_succ, List.getElem_toArray, List.getElem_cons_zero, List.getElem_cons_succ]
    refine AnyBut.takeE (i := 16) (v := .agg #[.int .u32 (ver : Int), .slice A1 n1 c1, .slice A2 n2 c2, .int .u32 (lock : Int)]) rfl (by kernel_rfl) (by kernel_rfl) (by kernel_rfl) (by kernel_rfl) (fun _ _ _ h => h) (Or.inl ⟨by rfl, ?_⟩) hS ?_
    · intro wq hq
      obtain ⟨dq0, dq1, dq2, dq3⟩ := E0.out wq (SB.trans HX12.out hq)
      go_simp
    try simp only [Act.put, List.setIfInBounds_toArray, List.set_cons_zero, List.set_cons_succ, List.getElem_toArray, List.getElem_cons_zero, List.getElem_cons_succ]
    refine AnyBut.takeE (i := 18) (v := .agg #[.int .u32 (ver : Int), .slice A1 n1 c1, .slice A2 n2 c2, .int .u32 (lock : Int)]) rfl (by kernel_rfl) (by kernel_rfl) (by kernel_rfl) (by kernel_rfl) (fun _ _ _ h => h) (Or.inl ⟨by rfl, ?_⟩) hS ?_
    · intro wq hq
      obtain ⟨dq0, dq1, dq2, dq3⟩ := E0.out wq (SB.trans HX12.out hq)
      go_simp
    try simp only [Act.put, List.setIfInBounds_toArray, List.set_cons_zero, List.set_cons_succ, List.getElem_toArray, List.getElem_cons_zero, List.getElem_cons_succ]
    refine AnyBut.gone (i := 17) (by kernel_rfl) rfl (by rfl) (fun K hK => ?_)
    go_simp
    (with_reducible refine (KWt.out _ (BW.out _ HX12.out)).mono ?_)
    rintro e w13 ⟨rfl, hb⟩
    have hS13 : SB w12 w13 := SB.next hS hb
    have HS13 := Lib.hid hS13
    have HBl13 := Lib.hid hb
    clear hb
    dsimp only
    refine hK _ _ (fun _ => hS13) ?_
    clear hK K hS
    try simp only [Act.put, List.setIfInBounds_toArray, List.set_cons_zero, List.set_cons_succ, List.getElem_toArray, List.getElem_cons_zero, List.getElem_cons_succ]
    refine AnyBut.stronger (S' := SB w13) (fun _ h => Below.trans hS13 (Below.mono h hS13.size)) ?_
    clear hS13
    have hS : SB w13 w13 := SB.refl w13
    have HX13 : Hid (SB Wd w13) := SB.trans HX12.out HS13.out
    refine AnyBut.gone (i := 19) (by kernel_rfl) rfl (by rfl) (fun K hK => ?_)
    go_simp
    (with_reducible refine (KRW.out _ (BW.out _ HX13.out)).mono ?_)
    rintro e w14 ⟨rfl, hb⟩
    have hS14 : SB w13 w14 := SB.next hS hb
    have HS14 := Lib.hid hS14
    have HBl14 := Lib.hid hb
    clear hb
    dsimp only
    refine hK _ _ (fun _ => hS14) ?_
    clear hK K hS
    try simp only [Act.put, List.setIfInBounds_toArray, List.set_cons_zero, List.set_cons_succ, List.getElem_toArray, List.getElem_cons_zero, List.getElem_cons_succ]
    refine AnyBut.stronger (S' := SB w14) (fun _ h => Below.trans hS14 (Below.mono h hS14.size)) ?_
    clear hS14
    have hS : SB w14 w14 := SB.refl w14
    have HX14 : Hid (SB Wd w14) := SB.trans HX13.out HS14.out
    refine AnyBut.takeE (i := 20) (v := .bool false) rfl (by kernel_rfl) (by kernel_rfl) (by kernel_rfl) (by kernel_rfl) (fun _ _ _ h => h) (Or.inl ⟨by rfl, ?_⟩) hS ?_
    · intro wq hq
      have hbq : (wd != wd) = false := by simp
      go_simp
    try simp only [Act.put, List.setIfInBounds_toArray, List.set_cons_zero, List.set_cons_succ, List.getElem_toArray, List.getElem_cons_zero, List.getElem_cons_succ]
    refine AnyBut.gone (i := 21) (by kernel_rfl) rfl (by rfl) (fun K hK => ?_)
    go_simp
    refine hK _ _ (fun _ => hS) ?_
    clear hK K
    refine AnyBut.done (by kernel_rfl) ?_ _
    try dsimp only [Exit.then]
    clear hS
    have HY14 : Hid (SB w9 w14) := SB.trans HZd.out HX14.out
    have hcr := CR.out _ HY14.out
    have hca := CA.out _ HY14.out
    have hcb := CB.out _ HY14.out
    have hcc := CC.out _ HY14.out
    have hcd := CD.out _ HY14.out
    obtain ⟨hcat1, hcat2⟩ := HCat.out
    have hsz1 : ¬ 9223372036854775807 < (strB R).size + (strB X1).size := by rw [strB_size, strB_size, HN'.out]; have := HXl.out.1; omega
    have hsz2 : ¬ 9223372036854775807 < (strB R).size + (strB X2).size := by rw [strB_size, strB_size, HN'.out]; have := HXl.out.2; omega
    go_upto_region 12 with fail
    clear hcr hca hcb hcc hcd hcat1 hcat2 hsz1 hsz2
    generalize hWd : w14.drew = We
    have HZe : Hid (SB w14 We) := (hWd ▸ SB.drew w14 : SB w14 We)
    have HY9 : Hid (SB w9 We) := SB.trans HY14.out HZe.out
    have HZd : Hid (SB Wd We) := SB.trans HX14.out HZe.out
    have HWe : Hid (Below w.heap.size w We) := HWd.out.trans (Below.mono HZd.out HWd.out.size)
    have BW : Hid (∀ wq, SB We wq → Below w.heap.size w wq) := fun wq hq => HWe.out.trans (Below.mono hq HWe.out.size)
    have E0 : Hid (∀ wq, SB We wq → wq.cell? ⟨w.heap.size, 0, none⟩ = some (.int .u32 (ver : Int)) ∧ wq.cell? ⟨w.heap.size, 1, none⟩ = some (.slice A1 n1 c1) ∧ wq.cell? ⟨w.heap.size, 2, none⟩ = some (.slice A2 n2 c2) ∧ wq.cell? ⟨w.heap.size, 3, none⟩ = some (.int .u32 (lock : Int))) := fun wq hq => E0.out wq (SB.trans HZd.out hq)
    have CO : Hid (∀ wq, SB We wq → (convert 27 9 (.slice A5 n c5)).run Tryd.prog wq = .ok (.string (strB R)) wq) := fun wq hq => CO.out wq (SB.trans HY9.out hq)
    have CR : Hid (∀ wq, SB We wq → (convert 27 9 (.slice A n cap)).run Tryd.prog wq = .ok (.string (strB R)) wq) := fun wq hq => CR.out wq (SB.trans HY9.out hq)
    refine wp_region_but (z := 999) (SB We) (by kernel_rfl) ?_
    rw [hWd]
    have hS : SB We We := SB.refl We
    clear hWd
    have HSe : Hid (SB We We) := hS
    refine AnyBut.takeE (i := 0) (v := ?_) rfl (by kernel_rfl) (by kernel_rfl) (by kernel_rfl) (by kernel_rfl) (fun _ _ _ h => h) (Or.inl ⟨by rfl, ?_⟩) hS ?_
    rotate_left
    · (intro wq hq; go_simp; try with_reducible rfl)
    try simp only [Act.put, List.setIfInBounds_toArray, List.set_cons_zero, List.set_cons_succ, List.getElem_toArray, List.getElem_cons_zero, List.getElem_cons_succ]
    refine AnyBut.takeE (i := 1) (v := .string (strB R)) rfl (by kernel_rfl) (by kernel_rfl) (by kernel_rfl) (by kernel_rfl) (fun _ _ _ h => h) (Or.inl ⟨by rfl, ?_⟩) hS ?_
    · intro wq hq
      have hc := CO.out wq hq
      go_simp
    try simp only [Act.put, List.setIfInBounds_toArray, List.set_cons_zero, List.set_cons_succ, List.getElem_toArray, List.getElem_cons_zero, List.getElem_cons_succ]
    refine AnyBut.takeE (i := 2) (v := ?_) rfl (by kernel_rfl) (by kernel_rfl) (by kernel_rfl) (by kernel_rfl) (fun _ _ _ h => h) (Or.inl ⟨by rfl, ?_⟩) hS ?_
    rotate_left
    · (intro wq hq; go_simp; try with_reducible rfl)
    try simp only [Act.put, List.setIfInBounds_toArray, List.set_cons_zero, List.set_cons_succ, List.getElem_toArray, List.getElem_cons_zero, List.getElem_cons_succ]
    refine AnyBut.takeE (i := 3) (v := .string (strB R)) rfl (by kernel_rfl) (by kernel_rfl) (by kernel_rfl) (by kernel_rfl) (fun _ _ _ h => h) (Or.inl ⟨by rfl, ?_⟩) hS ?_
    · intro wq hq
      have hc := CR.out wq hq
      go_simp
    try simp only [Act.put, List.setIfInBounds_toArray, List.set_cons_zero, List.set_cons_succ, List.getElem_toArray, List.getElem_cons_zero, List.getElem_cons_succ]
    refine AnyBut.takeE (i := 4) (v := .bool true) rfl (by kernel_rfl) (by kernel_rfl) (by kernel_rfl) (by kernel_rfl) (fun _ _ _ h => h) (Or.inl ⟨by rfl, ?_⟩) hS ?_
    · intro wq hq
      have hss : ((strB R).toList == (strB R).toList) = true := by simp
      go_simp
    try simp only [Act.put, List.setIfInBounds_toArray, List.set_cons_zero, List.set_cons_succ, List.getElem_toArray, List.getElem_cons_zero, List.getElem_cons_succ]
    refine AnyBut.takeE (i := 5) (v := ?_) rfl (by kernel_rfl) (by kernel_rfl) (by kernel_rfl) (by kernel_rfl) (fun _ _ _ h => h) (Or.inl ⟨by rfl, ?_⟩) hS ?_
    rotate_left
    · (intro wq hq; go_simp; try with_reducible rfl)
    try simp only [Act.put, List.setIfInBounds_toArray, List.set_cons_zero, List.set_cons_succ, List.getElem_toArray, List.getElem_cons_zero, List.getElem_cons_succ]
    refine AnyBut.takeE (i := 6) (v := .agg #[.int .u32 (ver : Int), .slice A1 n1 c1, .slice A2 n2 c2, .int .u32 (lock : Int)]) rfl (by kernel_rfl) (by kernel_rfl) (by kernel_rfl) (by kernel_rfl) (fun _ _ _ h => h) (Or.inl ⟨by rfl, ?_⟩) hS ?_
    · intro wq hq
      obtain ⟨dq0, dq1, dq2, dq3⟩ := E0.out wq (SB.trans HSe.out hq)
      go_simp
    try simp only [Act.put, List.setIfInBounds_toArray, List.set_cons_zero, List.set_cons_succ, List.getElem_toArray, List.getElem_cons_zero, List.getElem_cons_succ]
    refine AnyBut.takeE (i := 8) (v := .agg #[.int .u32 (ver : Int), .slice A1 n1 c1, .slice A2 n2 c2, .int .u32 (lock : Int)]) rfl (by kernel_rfl) (by kernel_rfl) (by kernel_rfl) (by kernel_rfl) (fun _ _ _ h => h) (Or.inl ⟨by rfl, ?_⟩) hS ?_
    · intro wq hq
      obtain ⟨dq0, dq1, dq2, dq3⟩ := E0.out wq (SB.trans HSe.out hq)
      go_simp
    try simp only [Act.put, List.setIfInBounds_toArray, List.set_cons_zero, List.set_cons_succ, List.getElem_toArray, List.getElem_cons_zero, List.getElem_cons_succ]
    refine AnyBut.gone (i := 7) (by kernel_rfl) rfl (by rfl) (fun K hK => ?_)
    go_simp
    (with_reducible refine (KI.out _ (BW.out _ HSe.out)).mono ?_)
    rintro e w21 ⟨rfl, hb⟩
    have hS21 : SB We w21 := SB.next hS hb
    have HS21 := Lib.hid hS21
    have HBl21 := Lib.hid hb
    clear hb
    dsimp only
    refine hK _ _ (fun _ => hS21) ?_
    clear hK K hS
    try simp only [Act.put, List.setIfInBounds_toArray, List.set_cons_zero, List.set_cons_succ, List.getElem_toArray, List.getElem_cons_zero, List.getElem_cons_succ]
    refine AnyBut.stronger (S' := SB w21) (fun _ h => Below.trans hS21 (Below.mono h hS21.size)) ?_
    clear hS21
    have hS : SB w21 w21 := SB.refl w21
    have HX21 : Hid (SB We w21) := SB.trans HSe.out HS21.out
    refine AnyBut.gone (i := 9) (by kernel_rfl) rfl (by rfl) (fun K hK => ?_)
    go_simp
    (with_reducible refine (KRI.out _ (BW.out _ HX21.out)).mono ?_)
    rintro e w22 ⟨rfl, hb⟩
    have hS22 : SB w21 w22 := SB.next hS hb
    have HS22 := Lib.hid hS22
    have HBl22 := Lib.hid hb
    clear hb
    dsimp only
    refine hK _ _ (fun _ => hS22) ?_
    clear hK K hS
    try simp only [Act.put, List.setIfInBounds_toArray, List.set_cons_zero, List.set_cons_succ, List.getElem_toArray, List.getElem_cons_zero, List.getElem_cons_succ]
    refine AnyBut.stronger (S' := SB w22) (fun _ h => Below.trans hS22 (Below.mono h hS22.size)) ?_
    clear hS22
    have hS : SB w22 w22 := SB.refl w22
    have HX22 : Hid (SB We w22) := SB.trans HX21.out HS22.out
    refine AnyBut.takeE (i := 10) (v := .bool true) rfl (by kernel_rfl) (by kernel_rfl) (by kernel_rfl) (by kernel_rfl) (fun _ _ _ h => h) (Or.inl ⟨by rfl, ?_⟩) hS ?_
    · intro wq hq
      have he := e1.out wq
      go_simp
    try simp only [Act.put, List.setIfInBounds_toArray, List.set_cons_zero, List.set_cons_succ, List.getElem_toArray, List.getElem_cons_zero, List.getElem_cons_succ]
    refine AnyBut.takeE (i := 11) (v := ?_) rfl (by kernel_rfl) (by kernel_rfl) (by kernel_rfl) (by kernel_rfl) (fun _ _ _ h => h) (Or.inl ⟨by rfl, ?_⟩) hS ?_
    rotate_left
    · (intro wq hq; go_simp; try with_reducible rfl)
    try simp only [Act.put, List.setIfInBounds_toArray, List.set_cons_zero, List.set_cons_succ, List.getElem_toArray, List.getElem_cons_zero, List.getElem_cons_succ]
    refine AnyBut.takeE (i := 12) (v := ?_) rfl (by kernel_rfl) (by kernel_rfl) (by kernel_rfl) (by kernel_rfl) (fun _ _ _ h => h) (Or.inl ⟨by rfl, ?_⟩) hS ?_
    rotate_left
    · (intro wq hq; go_simp; try with_reducible rfl)
    try simp only [Act.put, List.setIfInBounds_toArray, List.set_cons_zero, List.set_cons_succ, List.getElem_toArray, List.getElem_cons_zero, List.getElem_cons_succ]
    refine AnyBut.takeE (i := 13) (v := .agg #[.int .u32 (ver : Int), .slice A1 n1 c1, .slice A2 n2 c2, .int .u32 (lock : Int)]) rfl (by kernel_rfl) (by kernel_rfl) (by kernel_rfl) (by kernel_rfl) (fun _ _ _ h => h) (Or.inl ⟨by rfl, ?_⟩) hS ?_
    · intro wq hq
      obtain ⟨dq0, dq1, dq2, dq3⟩ := E0.out wq (SB.trans HX22.out hq)
      go_simp
    try simp only [Act.put, List.setIfInBounds_toArray, List.set_cons_zero, List.set_cons_succ, List.getElem_toArray, List.getElem_cons_zero, List.getElem_cons_succ]
    refine AnyBut.takeE (i := 15) (v := .agg #[.int .u32 (ver : Int), .slice A1 n1 c1, .slice A2 n2 c2, .int .u32 (lock : Int)]) rfl (by kernel_rfl) (by kernel_rfl) (by kernel_rfl) (by kernel_rfl) (fun _ _ _ h => h) (Or.inl ⟨by rfl, ?_⟩) hS ?_
    · intro wq hq
      obtain ⟨dq0, dq1, dq2, dq3⟩ := E0.out wq (SB.trans HX22.out hq)
      go_simp
    try simp only [Act.put, List.setIfInBounds_toArray, List.set_cons_zero, List.set_cons_succ, List.getElem_toArray, List.getElem_cons_zero, List.getElem_cons_succ]
    refine AnyBut.gone (i := 14) (by kernel_rfl) rfl (by rfl) (fun K hK => ?_)
    go_simp
    (with_reducible refine (KF.out _ (BW.out _ HX22.out)).mono ?_)
    rintro e w23 ⟨rfl, hb⟩
    have hS23 : SB w22 w23 := SB.next hS hb
    have HS23 := Lib.hid hS23
    have HBl23 := Lib.hid hb
    clear hb
    dsimp only
    refine hK _ _ (fun _ => hS23) ?_
    clear hK K hS
    try simp only [Act.put, List.setIfInBounds_toArray, List.set_cons_zero, List.set_cons_succ, List.getElem_toArray, List.getElem_cons_zero, List.getElem_cons_succ]
    refine AnyBut.stronger (S' := SB w23) (fun _ h => Below.trans hS23 (Below.mono h hS23.size)) ?_
    clear hS23
    have hS : SB w23 w23 := SB.refl w23
    have HX23 : Hid (SB We w23) := SB.trans HX22.out HS23.out
    refine AnyBut.gone (i := 16) (by kernel_rfl) rfl (by rfl) (fun K hK => ?_)
    go_simp
    (with_reducible refine (KRF.out _ (BW.out _ HX23.out)).mono ?_)
    rintro e w24 ⟨rfl, hb⟩
    have hS24 : SB w23 w24 := SB.next hS hb
    have HS24 := Lib.hid hS24
    have HBl24 := Lib.hid hb
    clear hb
    dsimp only
    refine hK _ _ (fun _ => hS24) ?_
    clear hK K hS
    try simp only [Act.put, List.setIfInBounds_toArray, List.set_cons_zero, List.set_cons_succ, List.getElem_toArray, List.getElem_cons_zero, List.getElem_cons_succ]
    refine AnyBut.stronger (S' := SB w24) (fun _ h => Below.trans hS24 (Below.mono h hS24.size)) ?_
    clear hS24
    have hS : SB w24 w24 := SB.refl w24
    have HX24 : Hid (SB We w24) := SB.trans HX23.out HS24.out
    refine AnyBut.takeE (i := 17) (v := .bool true) rfl (by kernel_rfl) (by kernel_rfl) (by kernel_rfl) (by kernel_rfl) (fun _ _ _ h => h) (Or.inl ⟨by rfl, ?_⟩) hS ?_
    · intro wq hq
      have he := e2.out wq
      go_simp
    try simp only [Act.put, List.setIfInBounds_toArray, List.set_cons_zero, List.set_cons_succ, List.getElem_toArray, List.getElem_cons_zero, List.getElem_cons_succ]
    refine AnyBut.takeE (i := 18) (v := ?_) rfl (by kernel_rfl) (by kernel_rfl) (by kernel_rfl) (by kernel_rfl) (fun _ _ _ h => h) (Or.inl ⟨by rfl, ?_⟩) hS ?_
    rotate_left
    · (intro wq hq; go_simp; try with_reducible rfl)
    try simp only [Act.put, List.setIfInBounds_toArray, List.set_cons_zero, List.set_cons_succ, List.getElem_toArray, List.getElem_cons_zero, List.getElem_cons_succ]
    refine AnyBut.takeE (i := 19) (v := ?_) rfl (by kernel_rfl) (by kernel_rfl) (by kernel_rfl) (by kernel_rfl) (fun _ _ _ h => h) (Or.inl ⟨by rfl, ?_⟩) hS ?_
    rotate_left
    · (intro wq hq; go_simp; try with_reducible rfl)
    try simp only [Act.put, List.setIfInBounds_toArray, List.set_cons_zero, List.set_cons_succ, List.getElem_toArray, List.getElem_cons_zero, List.getElem_cons_succ]
    refine AnyBut.gone (i := 20) (by kernel_rfl) rfl (by rfl) (fun K hK => ?_)
    go_simp
    (with_reducible refine (KAw.out _).mono ?_)
    rintro e w25 ⟨rfl, hb⟩
    have hS25 : SB w24 w25 := SB.next hS hb
    have HS25 := Lib.hid hS25
    have HBl25 := Lib.hid hb
    clear hb
    dsimp only
    refine hK _ _ (fun _ => hS25) ?_
    clear hK K hS
    try simp only [Act.put, List.setIfInBounds_toArray, List.set_cons_zero, List.set_cons_succ, List.getElem_toArray, List.getElem_cons_zero, List.getElem_cons_succ]
    refine AnyBut.stronger (S' := SB w25) (fun _ h => Below.trans hS25 (Below.mono h hS25.size)) ?_
    clear hS25
    have hS : SB w25 w25 := SB.refl w25
    have HX25 : Hid (SB We w25) := SB.trans HX24.out HS25.out
    refine AnyBut.takeE (i := 21) (v := ?_) rfl (by kernel_rfl) (by kernel_rfl) (by kernel_rfl) (by kernel_rfl) (fun _ _ _ h => h) (Or.inl ⟨by rfl, ?_⟩) hS ?_
    rotate_left
    · (intro wq hq; go_simp; try with_reducible rfl)
    try simp only [Act.put, List.setIfInBounds_toArray, List.set_cons_zero, List.set_cons_succ, List.getElem_toArray, List.getElem_cons_zero, List.getElem_cons_succ]
    refine AnyBut.gone (i := 22) (by kernel_rfl) rfl (by rfl) (fun K hK => ?_)
    go_simp
    refine hK _ _ (fun _ => hS) ?_
    clear hK K
    refine AnyBut.done (by kernel_rfl) ?_ _
    try dsimp only [Exit.then]
    clear hS
    go_wp2_with fail
    go_ret
    exact ⟨rfl, BW.out _ HX25.out⟩

open Go.RowKit
set_option linter.unusedVariables false
set_option linter.unusedSimpArgs false
set_option maxRecDepth 100000
set_option maxHeartbeats 16000000 in
theorem puts_no (t : TTx) (i o : Value) (A : Option Addr) (cap : Nat) (R : List (BitVec 8)) (w : World) (h : TxOk w w.heap.size t i o) (hR : Rd w w.heap.size A R) (hl : R.length ≤ cap) (hm : cap ≤ 9223372036854775807) (hcn : A = none → cap = 0) (hc : chk t ≠ 0) (hG : Glob w)
    (hlg : ∀ wq, Below w.heap.size w wq → Calls Tryd.prog 6 #[txV t i o] wq (SomePost wq)) :
    Calls Tryd.prog 3 #[txV t i o, .slice A R.length cap] w fun e w' => e = .returned (.bool true) ∧ Below w.heap.size w w' := by
  have h' := h
  obtain ⟨⟨A1, c1, rfl, _, _, _⟩, ⟨A2, c2, rfl, _, _, _⟩, _, _⟩ := h
  obtain ⟨n1, hn1⟩ : ∃ n, n = t.ins.length := ⟨_, rfl⟩
  obtain ⟨n2, hn2⟩ : ∃ n, n = t.outs.length := ⟨_, rfl⟩
  obtain ⟨ver, hv⟩ : ∃ n, n = t.ver := ⟨_, rfl⟩
  obtain ⟨lock, hlk⟩ : ∃ n, n = t.lock := ⟨_, rfl⟩
  have hlg' : ∀ wq, Below w.heap.size w wq → Calls Tryd.prog 6 #[.agg #[.int .u32 (ver : Int), .slice A1 n1 c1, .slice A2 n2 c2, .int .u32 (lock : Int)]] wq (SomePost wq) := fun wq hq => by
    have := hlg wq hq
    unfold txV at this
    rw [← hv, ← hlk, ← hn1, ← hn2] at this
    exact this
  have KL := Lib.hid hlg'
  have KAw := Lib.hid (fun wq => awake_any wq)

  obtain ⟨ce, hce⟩ : ∃ c, c = chk t := ⟨_, rfl⟩
  have KP : Hid (∀ (b : Value) (wq : World), Below w.heap.size w wq → Calls Tryd.prog 8 #[b, .agg #[.int .u32 (ver : Int), .slice A1 n1 c1, .slice A2 n2 c2, .int .u32 (lock : Int)]] wq (NonePost ce wq)) := fun b wq hq => by
    have := Put_no t _ _ b wq ((h'.keep hq (Nat.le_refl _)).up hq.size) hc
    unfold txV at this
    rw [← hv, ← hlk, ← hn1, ← hn2, ← hce] at this
    exact this
  have KB : Hid (∀ (b : Value) (wq : World), Below w.heap.size w wq → Calls Tryd.prog 10 #[b, .agg #[.int .u32 (ver : Int), .slice A1 n1 c1, .slice A2 n2 c2, .int .u32 (lock : Int)]] wq (NonePost ce wq)) := fun b wq hq => by
    have := bare_no t _ _ b wq ((h'.keep hq (Nat.le_refl _)).up hq.size) hc
    unfold txV at this
    rw [← hv, ← hlk, ← hn1, ← hn2, ← hce] at this
    exact this
  have KRP : Hid (∀ wq, Below w.heap.size w wq → Calls Tryd.prog 9 #[.agg #[.int .u32 (ver : Int), .slice A1 n1 c1, .slice A2 n2 c2, .int .u32 (lock : Int)]] wq (NonePost ce wq)) := fun wq hq => by
    have := rput_no5 t _ _ wq ((h'.keep hq (Nat.le_refl _)).up hq.size) hc
    unfold txV at this
    rw [← hv, ← hlk, ← hn1, ← hn2, ← hce] at this
    exact this
  have KRB : Hid (∀ wq, Below w.heap.size w wq → Calls Tryd.prog 11 #[.agg #[.int .u32 (ver : Int), .slice A1 n1 c1, .slice A2 n2 c2, .int .u32 (lock : Int)]] wq (NonePost ce wq)) := fun wq hq => by
    have := rbare_no t _ _ wq ((h'.keep hq (Nat.le_refl _)).up hq.size) hc
    unfold txV at this
    rw [← hv, ← hlk, ← hn1, ← hn2, ← hce] at this
    exact this
  obtain ⟨D1, hD1⟩ : ∃ D, D = Z32 := ⟨_, rfl⟩
  obtain ⟨D2, hD2⟩ : ∃ D, D = Z32 := ⟨_, rfl⟩
  have hD1l : D1.length = 32 := by rw [hD1]; rfl
  have hD2l : D2.length = 32 := by rw [hD2]; rfl
  have KI : Hid (∀ wq, Below w.heap.size w wq → Calls Tryd.prog 16 #[.agg #[.int .u32 (ver : Int), .slice A1 n1 c1, .slice A2 n2 c2, .int .u32 (lock : Int)]] wq (HashP D1 wq)) := fun wq hq => by
    have := id5_no t _ _ wq ((h'.keep hq (Nat.le_refl _)).up hq.size) hc (hG.below hq)
    unfold txV at this
    rw [← hv, ← hlk, ← hn1, ← hn2, ← hD1] at this
    exact this
  have KRI : Hid (∀ wq, Below w.heap.size w wq → Calls Tryd.prog 17 #[.agg #[.int .u32 (ver : Int), .slice A1 n1 c1, .slice A2 n2 c2, .int .u32 (lock : Int)]] wq (HashP D1 wq)) := fun wq hq => by
    have := rid5_no t _ _ wq ((h'.keep hq (Nat.le_refl _)).up hq.size) hc
    unfold txV at this
    rw [← hv, ← hlk, ← hn1, ← hn2, ← hD1] at this
    exact this
  have KF : Hid (∀ wq, Below w.heap.size w wq → Calls Tryd.prog 18 #[.agg #[.int .u32 (ver : Int), .slice A1 n1 c1, .slice A2 n2 c2, .int .u32 (lock : Int)]] wq (HashP D2 wq)) := fun wq hq => by
    have := full5_no t _ _ wq ((h'.keep hq (Nat.le_refl _)).up hq.size) hc (hG.below hq)
    unfold txV at this
    rw [← hv, ← hlk, ← hn1, ← hn2, ← hD2] at this
    exact this
  have KRF : Hid (∀ wq, Below w.heap.size w wq → Calls Tryd.prog 19 #[.agg #[.int .u32 (ver : Int), .slice A1 n1 c1, .slice A2 n2 c2, .int .u32 (lock : Int)]] wq (HashP D2 wq)) := fun wq hq => by
    have := rfull5_no t _ _ wq ((h'.keep hq (Nat.le_refl _)).up hq.size) hc
    unfold txV at this
    rw [← hv, ← hlk, ← hn1, ← hn2, ← hD2] at this
    exact this
  obtain ⟨wd, hwd⟩ : ∃ b, b = witd t := ⟨_, rfl⟩
  have KC : Hid (∀ wq, Below w.heap.size w wq → Calls Tryd.prog 12 #[.agg #[.int .u32 (ver : Int), .slice A1 n1 c1, .slice A2 n2 c2, .int .u32 (lock : Int)]] wq (IntPost ce wq)) := fun wq hq => by
    have := check_any t _ _ wq ((h'.keep hq (Nat.le_refl _)).up hq.size)
    rw [← hce] at this
    unfold txV at this
    rw [← hv, ← hlk, ← hn1, ← hn2] at this
    exact this
  have KRC : Hid (∀ wq, Below w.heap.size w wq → Calls Tryd.prog 13 #[.agg #[.int .u32 (ver : Int), .slice A1 n1 c1, .slice A2 n2 c2, .int .u32 (lock : Int)]] wq (IntPost ce wq)) := fun wq hq => by
    have := rcheck_any t _ _ wq ((h'.keep hq (Nat.le_refl _)).up hq.size)
    rw [← hce] at this
    unfold txV at this
    rw [← hv, ← hlk, ← hn1, ← hn2] at this
    exact this
  have KWt : Hid (∀ wq, Below w.heap.size w wq → Calls Tryd.prog 14 #[.agg #[.int .u32 (ver : Int), .slice A1 n1 c1, .slice A2 n2 c2, .int .u32 (lock : Int)]] wq (BoolPost wd wq)) := fun wq hq => by
    have := witnessed_any t _ _ wq ((h'.keep hq (Nat.le_refl _)).up hq.size)
    unfold txV at this
    rw [← hv, ← hlk, ← hn1, ← hn2, ← hwd] at this
    exact this
  have KRW : Hid (∀ wq, Below w.heap.size w wq → Calls Tryd.prog 15 #[.agg #[.int .u32 (ver : Int), .slice A1 n1 c1, .slice A2 n2 c2, .int .u32 (lock : Int)]] wq (BoolPost wd wq)) := fun wq hq => by
    have := rwit_any t _ _ wq ((h'.keep hq (Nat.le_refl _)).up hq.size)
    unfold txV at this
    rw [← hv, ← hlk, ← hn1, ← hn2, ← hwd] at this
    exact this
  have e1 := Lib.hid (fun w => (eqIn38 9998 D1 D1 hD1l hD1l w).trans (by simp : _ = Result.ok true w))
  have e2 := Lib.hid (fun w => (eqIn38 9998 D2 D2 hD2l hD2l w).trans (by simp : _ = Result.ok true w))
  have HB : Hid (Below w.heap.size w (w.alloc (.cells #[.int .u32 (ver : Int), .slice A1 n1 c1, .slice A2 n2 c2, .int .u32 (lock : Int)] 26))) := (Below.refl _ _).alloc (Nat.le_refl _) _
  have HT := Lib.hid (tx_box (ver : Int) (lock : Int) (.slice A1 n1 c1) (.slice A2 n2 c2) w 26)
  have HR := Lib.hid hR
  have HG := Lib.hid hG
  have Hcn := Lib.hid hcn
  obtain ⟨n, hn⟩ : ∃ n, n = R.length := ⟨_, rfl⟩
  have HN := Lib.hid hn
  have hcne : ce ≠ 0 := by rw [hce]; exact hc
  unfold txV
  rw [← hv, ← hlk, ← hn1, ← hn2, ← hn]
  rw [← hn] at hl
  clear h' hlg hlg' hn1 hn2 hv hlk hc hce hD1 hD2 hD1l hD2l hwd hR hG hcn hn
  obtain ⟨d0, d1, d2, d3⟩ := HT.out _ (SB.refl _)
  go_enter Tryd.func3, Tryd.ntmps3
  go_upto_region 1 with fail
  generalize (w.alloc (.cells #[.int .u32 (ver : Int), .slice A1 n1 c1, .slice A2 n2 c2, .int .u32 (lock : Int)] 26)) = W0 at HB HT d0 d1 d2 d3 ⊢
  have hnn : (0 : Int) ≤ (n : Int) := by omega
  by_cases hbig : 1000 < n
  · have hb1 : (1000 : Int) < (n : Int) := by omega
    go_wp2_with (first
      | (go_at_call 6; (with_reducible refine (KL.out _ HB.out).mono ?_); rintro e w1 ⟨β, rfl, hb1⟩; have HB1 := Lib.hid hb1; clear hb1; cases β <;> dsimp only)
      | (go_at_call 7; (with_reducible refine (KAw.out _).mono ?_); rintro e w2 ⟨rfl, hb2⟩; have HB2 := Lib.hid hb2; clear hb2; dsimp only))
    all_goals go_ret
    all_goals exact ⟨rfl, HB.out.trans ((HB1.out.mono HB.out.size).trans (HB2.out.mono (Nat.le_trans HB.out.size HB1.out.size)))⟩
  · have hb1 : ¬ (1000 : Int) < (n : Int) := by omega
    have KL0 := Lib.hid (KL.out _ HB.out)
    go_upto_region 3 with (first
      | (go_at_call 6; (with_reducible refine KL0.out.mono ?_); rintro e w1 ⟨β, rfl, hb1⟩; have HB1 := Lib.hid hb1; obtain ⟨d0, d1, d2, d3⟩ := HT.out _ hb1; clear hb1; cases β <;> dsimp only)
      | (go_at_call 7; (with_reducible refine (KAw.out _).mono ?_); rintro e w2 ⟨rfl, hb2⟩; have HB2 := Lib.hid hb2; clear hb2; dsimp only))
    rotate_left
    · go_ret
      exact ⟨rfl, HB.out.trans ((HB1.out.mono HB.out.size).trans (HB2.out.mono (Nat.le_trans HB.out.size HB1.out.size)))⟩
    have HZ1 : Hid (SB W0 w1) := HB1
    have HO0 := Lib.hid (show OB (w1.alloc (Obj.cells #[] 5)) w1.heap.size (.slice (some ⟨w1.heap.size, 0, none⟩) 0 0) [] from owns_empty w1 w1.heap.size (Nat.le_refl _))
    have hb0 : Below w1.heap.size w1 (w1.alloc (Obj.cells #[] 5)) := (Below.refl _ _).alloc (Nat.le_refl _) _
    have HB0 := Lib.hid hb0
    have HS0 : Hid (Src22 (w1.alloc (Obj.cells #[] 5)) A R.length (vbs R)) := src_of_rd (HR.out.keep (HB.out.trans ((HB1.out.mono HB.out.size).trans (hb0.mono (Nat.le_trans HB.out.size HB1.out.size)))))
    have hn1000 : n ≤ 1000 := by omega
    clear hb0 d0 d1 d2 d3 KL0
    go_upto_region 4 with (refine wpList_push (o := ⟨some 24, _, _, _, _, _⟩) rfl (.tmp 22) (.tmp 23) rfl rfl w1.heap.size _ [] R rfl HO0.out A n cap rfl HN.out HS0.out Hcn.out (by rw [← HN.out]; simp; omega) HB0.out HB0.out.size (Nat.le_refl _) ?_; intro v5 w5 h1 h2 h3; rw [List.nil_append] at h1; obtain ⟨A5, c5, rfl, _, _⟩ := slice_form h1; have HO5 := Lib.hid h1; have HZ5 : Hid (SB W0 w5) := SB.next HZ1.out h2; clear h1 h2 h3)
    have HN' : Hid (R.length = n) := HN.out.symm
    rw [HN'.out] at HO5 ⊢
    obtain ⟨d0, d1, d2, d3⟩ := HT.out _ HZ5.out
    have HW5 : Hid (Below w.heap.size w w5) := HB.out.trans (Below.mono HZ5.out HB.out.size)
    have HSl5 : Hid (Sl w5 w5.heap.size (.slice A5 n c5) R) := HO5.out.sl (Nat.le_refl _)
    have hR1000 : R.length ≤ 100000 := by rw [HN'.out]; omega
    have HRl := Lib.hid hR1000
    clear hR1000
    go_upto_region 5 with (go_at_call 8; (with_reducible refine (KP.out _ _ HW5.out).mono ?_); rintro e w6 ⟨rfl, hb6⟩; have HZ6 : Hid (SB W0 w6) := SB.next HZ5.out hb6; have HU56 : Hid (SB w5 w6) := hb6; clear hb6; dsimp only)
    clear d0 d1 d2 d3
    obtain ⟨d0, d1, d2, d3⟩ := HT.out _ HZ6.out
    have HW6 : Hid (Below w.heap.size w w6) := HB.out.trans (Below.mono HZ6.out HB.out.size)
    go_upto_region 6 with (go_at_call 9; (with_reducible refine (KRP.out _ HW6.out).mono ?_); rintro e w7 ⟨rfl, hb7⟩; have HZ7 : Hid (SB W0 w7) := SB.next HZ6.out hb7; have HU67 : Hid (SB w6 w7) := hb7; clear hb7; dsimp only)
    clear d0 d1 d2 d3
    obtain ⟨d0, d1, d2, d3⟩ := HT.out _ HZ7.out
    have HW7 : Hid (Below w.heap.size w w7) := HB.out.trans (Below.mono HZ7.out HB.out.size)
    go_upto_region 7 with (go_at_call 10; (with_reducible refine (KB.out _ _ HW7.out).mono ?_); rintro e w8 ⟨rfl, hb8⟩; have HZ8 : Hid (SB W0 w8) := SB.next HZ7.out hb8; have HU78 : Hid (SB w7 w8) := hb8; clear hb8; dsimp only)
    clear d0 d1 d2 d3
    obtain ⟨d0, d1, d2, d3⟩ := HT.out _ HZ8.out
    have HW8 : Hid (Below w.heap.size w w8) := HB.out.trans (Below.mono HZ8.out HB.out.size)
    go_upto_region 8 with (go_at_call 11; (with_reducible refine (KRB.out _ HW8.out).mono ?_); rintro e w9 ⟨rfl, hb9⟩; have HZ9 : Hid (SB W0 w9) := SB.next HZ8.out hb9; have HU89 : Hid (SB w8 w9) := hb9; clear hb9; dsimp only)
    clear d0 d1 d2 d3
    have HU59 : Hid (SB w5 w9) := SB.trans HU56.out (SB.trans HU67.out (SB.trans HU78.out HU89.out))
    generalize hWd : w9.drew = Wd
    have HZd : Hid (SB w9 Wd) := (hWd ▸ SB.drew w9 : SB w9 Wd)
    have HZ0d : Hid (SB W0 Wd) := SB.trans HZ9.out HZd.out
    have HWd : Hid (Below w.heap.size w Wd) := HB.out.trans (Below.mono HZ0d.out HB.out.size)
    have BW : Hid (∀ wq, SB Wd wq → Below w.heap.size w wq) := fun wq hq => HWd.out.trans (Below.mono hq HWd.out.size)
    have E0 : Hid (∀ wq, SB Wd wq → wq.cell? ⟨w.heap.size, 0, none⟩ = some (.int .u32 (ver : Int)) ∧ wq.cell? ⟨w.heap.size, 1, none⟩ = some (.slice A1 n1 c1) ∧ wq.cell? ⟨w.heap.size, 2, none⟩ = some (.slice A2 n2 c2) ∧ wq.cell? ⟨w.heap.size, 3, none⟩ = some (.int .u32 (lock : Int))) := fun wq hq => HT.out wq (SB.trans HZ0d.out hq)
    have CO : Hid (∀ wq, SB w9 wq → (convert 27 9 (.slice A5 n c5)).run Tryd.prog wq = .ok (.string (strB R)) wq) := fun wq hq => conv_ob HO5.out (SB.trans HU59.out hq)
    have CR : Hid (∀ wq, SB w9 wq → (convert 27 9 (.slice A n cap)).run Tryd.prog wq = .ok (.string (strB R)) wq) := fun wq hq => conv_n (HR.out.keep (HB.out.trans (Below.mono (SB.trans HZ9.out hq) HB.out.size))) HN.out
    refine wp_region_but (z := 999) (SB Wd) (by kernel_rfl) ?_
    rw [hWd]
    have hS : SB Wd Wd := SB.refl Wd
    clear hWd
    have HSd : Hid (SB Wd Wd) := hS
    refine AnyBut.takeE (i := 0) (v := ?_) rfl (by kernel_rfl) (by kernel_rfl) (by kernel_rfl) (by kernel_rfl) (fun _ _ _ h => h) (Or.inl ⟨by rfl, ?_⟩) hS ?_
    rotate_left
    · (intro wq hq; go_simp; try with_reducible rfl)
    try simp only [Act.put, List.setIfInBounds_toArray, List.set_cons_zero, List.set_cons_succ, List.getElem_toArray, List.getElem_cons_zero, List.getElem_cons_succ]
    refine AnyBut.takeE (i := 1) (v := ?_) rfl (by kernel_rfl) (by kernel_rfl) (by kernel_rfl) (by kernel_rfl) (fun _ _ _ h => h) (Or.inl ⟨by rfl, ?_⟩) hS ?_
    rotate_left
    · (intro wq hq; go_simp; try with_reducible rfl)
    try simp only [Act.put, List.setIfInBounds_toArray, List.set_cons_zero, List.set_cons_succ, List.getElem_toArray, List.getElem_cons_zero, List.getElem_cons_succ]
    refine AnyBut.takeE (i := 2) (v := .bool false) rfl (by kernel_rfl) (by kernel_rfl) (by kernel_rfl) (by kernel_rfl) (fun _ _ _ h => h) (Or.inl ⟨by rfl, ?_⟩) hS ?_
    · intro wq hq
      have hbq : (ce != ce) = false := by simp
      go_simp
    try simp only [Act.put, List.setIfInBounds_toArray, List.set_cons_zero, List.set_cons_succ, List.getElem_toArray, List.getElem_cons_zero, List.getElem_cons_succ]
    refine AnyBut.takeE (i := 3) (v := ?_) rfl (by kernel_rfl) (by kernel_rfl) (by kernel_rfl) (by kernel_rfl) (fun _ _ _ h => h) (Or.inl ⟨by rfl, ?_⟩) hS ?_
    rotate_left
    · (intro wq hq; go_simp; try with_reducible rfl)
    try simp only [Act.put, List.setIfInBounds_toArray, List.set_cons_zero, List.set_cons_succ, List.getElem_toArray, List.getElem_cons_zero, List.getElem_cons_succ]
    refine AnyBut.takeE (i := 4) (v := ?_) rfl (by kernel_rfl) (by kernel_rfl) (by kernel_rfl) (by kernel_rfl) (fun _ _ _ h => h) (Or.inl ⟨by rfl, ?_⟩) hS ?_
    rotate_left
    · (intro wq hq; go_simp; try with_reducible rfl)
    try simp only [Act.put, List.setIfInBounds_toArray, List.set_cons_zero, List.set_cons_succ, List.getElem_toArray, List.getElem_cons_zero, List.getElem_cons_succ]
    refine AnyBut.takeE (i := 5) (v := ?_) rfl (by kernel_rfl) (by kernel_rfl) (by kernel_rfl) (by kernel_rfl) (fun _ _ _ h => h) (Or.inl ⟨by rfl, ?_⟩) hS ?_
    rotate_left
    · (intro wq hq; go_simp; try with_reducible rfl)
    try simp only [Act.put, List.setIfInBounds_toArray, List.set_cons_zero, List.set_cons_succ, List.getElem_toArray, List.getElem_cons_zero, List.getElem_cons_succ]
    refine AnyBut.takeE (i := 6) (v := .bool false) rfl (by kernel_rfl) (by kernel_rfl) (by kernel_rfl) (by kernel_rfl) (fun _ _ _ h => h) (Or.inl ⟨by rfl, ?_⟩) hS ?_
    · intro wq hq
      have hbq : (ce != ce) = false := by simp
      go_simp
    try simp only [Act.put, List.setIfInBounds_toArray, List.set_cons_zero, List.set_cons_succ, List.getElem_toArray, List.getElem_cons_zero, List.getElem_cons_succ]
    refine AnyBut.takeE (i := 7) (v := ?_) rfl (by kernel_rfl) (by kernel_rfl) (by kernel_rfl) (by kernel_rfl) (fun _ _ _ h => h) (Or.inl ⟨by rfl, ?_⟩) hS ?_
    rotate_left
    · (intro wq hq; go_simp; try with_reducible rfl)
    try simp only [Act.put, List.setIfInBounds_toArray, List.set_cons_zero, List.set_cons_succ, List.getElem_toArray, List.getElem_cons_zero, List.getElem_cons_succ]
    refine AnyBut.takeE (i := 8) (v := ?_) rfl (by kernel_rfl) (by kernel_rfl) (by kernel_rfl) (by kernel_rfl) (fun _ _ _ h => h) (Or.inl ⟨by rfl, ?_⟩) hS ?_
    rotate_left
    · (intro wq hq; go_simp; try with_reducible rfl)
    try simp only [Act.put, List.setIfInBounds_toArray, List.set_cons_zero, List.set_cons_succ, List.getElem_toArray, List.getElem_cons_zero, List.getElem_cons_succ]
    refine AnyBut.takeE (i := 9) (v := .agg #[.int .u32 (ver : Int), .slice A1 n1 c1, .slice A2 n2 c2, .int .u32 (lock : Int)]) rfl (by kernel_rfl) (by kernel_rfl) (by kernel_rfl) (by kernel_rfl) (fun _ _ _ h => h) (Or.inl ⟨by rfl, ?_⟩) hS ?_
    · intro wq hq
      obtain ⟨dq0, dq1, dq2, dq3⟩ := E0.out wq (SB.trans HSd.out hq)
      go_simp
    try simp only [Act.put, List.setIfInBounds_toArray, List.set_cons_zero, List.set_cons_succ, List.getElem_toArray, List.getElem_cons_zero, List.getElem_cons_succ]
    refine AnyBut.takeE (i := 11) (v := .agg #[.int .u32 (ver : Int), .slice A1 n1 c1, .slice A2 n2 c2, .int .u32 (lock : Int)]) rfl (by kernel_rfl) (by kernel_rfl) (by kernel_rfl) (by kernel_rfl) (fun _ _ _ h => h) (Or.inl ⟨by rfl, ?_⟩) hS ?_
    · intro wq hq
      obtain ⟨dq0, dq1, dq2, dq3⟩ := E0.out wq (SB.trans HSd.out hq)
      go_simp
    try simp only [Act.put, List.setIfInBounds_toArray, List.set_cons_zero, List.set_cons_succ, List.getElem_toArray, List.getElem_cons_zero, List.getElem_cons_succ]
    refine AnyBut.gone (i := 10) (by kernel_rfl) rfl (by rfl) (fun K hK => ?_)
    go_simp
    (with_reducible refine (KC.out _ (BW.out _ HSd.out)).mono ?_)
    rintro e w11 ⟨rfl, hb⟩
    have hS11 : SB Wd w11 := SB.next hS hb
    have HS11 := Lib.hid hS11
    have HBl11 := Lib.hid hb
    clear hb
    dsimp only
    refine hK _ _ (fun _ => hS11) ?_
    clear hK K hS
    try simp only [Act.put, List.setIfInBounds_toArray, List.set_cons_zero, List.set_cons_succ, List.getElem_toArray, List.getElem_cons_zero, List.getElem_cons_succ]
    refine AnyBut.stronger (S' := SB w11) (fun _ h => Below.trans hS11 (Below.mono h hS11.size)) ?_
    clear hS11
    have hS : SB w11 w11 := SB.refl w11
    have HX11 : Hid (SB Wd w11) := SB.trans HSd.out HS11.out
    refine AnyBut.gone (i := 12) (by kernel_rfl) rfl (by rfl) (fun K hK => ?_)
    go_simp
    (with_reducible refine (KRC.out _ (BW.out _ HX11.out)).mono ?_)
    rintro e w12 ⟨rfl, hb⟩
    have hS12 : SB w11 w12 := SB.next hS hb
    have HS12 := Lib.hid hS12
    have HBl12 := Lib.hid hb
    clear hb
    dsimp only
    refine hK _ _ (fun _ => hS12) ?_
    clear hK K hS
    try simp only [Act.put, List.setIfInBounds_toArray, List.set_cons_zero, List.set_cons_succ, List.getElem_toArray, List.getElem_cons_zero, List.getElem_cons_succ]
    refine AnyBut.stronger (S' := SB w12) (fun _ h => Below.trans hS12 (Below.mono h hS12.size)) ?_
    clear hS12
    have hS : SB w12 w12 := SB.refl w12
    have HX12 : Hid (SB Wd w12) := SB.trans HX11.out HS12.out
    refine AnyBut.takeE (i := 13) (v := .bool false) rfl (by kernel_rfl) (by kernel_rfl) (by kernel_rfl) (by kernel_rfl) (fun _ _ _ h => h) (Or.inl ⟨by rfl, ?_⟩) hS ?_
    · intro wq hq
      have hbq : (ce != ce) = false := by simp
      go_simp
    try simp only [Act.put, List.setIfInBounds_toArray, List.set_cons_zero, List.set_cons_succ, List.getElem_toArray, List.getElem_cons_zero, List.getElem_cons_succ]
    refine AnyBut.takeE (i := 14) (v := ?_) rfl (by kernel_rfl) (by kernel_rfl) (by kernel_rfl) (by kernel_rfl) (fun _ _ _ h => h) (Or.inl ⟨by rfl, ?_⟩) hS ?_
    rotate_left
    · (intro wq hq; go_simp; try with_reducible rfl)
    try simp only [Act.put, List.setIfInBounds_toArray, List.set_cons_zero, List.set_cons_succ, List.getElem_toArray, List.getElem_cons_zero, List.getElem_cons_succ]
    refine AnyBut.takeE (i := 15) (v := ?_) rfl (by kernel_rfl) (by kernel_rfl) (by kernel_rfl) (by kernel_rfl) (fun _ _ _ h => h) (Or.inl ⟨by rfl, ?_⟩) hS ?_
    rotate_left
    · (intro wq hq; go_simp; try with_reducible rfl)
    try simp only [Act.put, List.setIfInBounds_toArray, List.set_cons_zero, List.set_cons_succ, List.getElem_toArray, List.getElem_cons_zero, List.getElem_cons_succ]
    refine AnyBut.takeE (i := 16) (v := .agg #[.int .u32 (ver : Int), .slice A1 n1 c1, .slice A2 n2 c2, .int .u32 (lock : Int)]) rfl (by kernel_rfl) (by kernel_rfl) (by kernel_rfl) (by kernel_rfl) (fun _ _ _ h => h) (Or.inl ⟨by rfl, ?_⟩) hS ?_
    · intro wq hq
      obtain ⟨dq0, dq1, dq2, dq3⟩ := E0.out wq (SB.trans HX12.out hq)
      go_simp
    try simp only [Act.put, List.setIfInBounds_toArray, List.set_cons_zero, List.set_cons_succ, List.getElem_toArray, List.getElem_cons_zero, List.getElem_cons_succ]
    refine AnyBut.takeE (i := 18) (v := .agg #[.int .u32 (ver : Int), .slice A1 n1 c1, .slice A2 n2 c2, .int .u32 (lock : Int)]) rfl (by kernel_rfl) (by kernel_rfl) (by kernel_rfl) (by kernel_rfl) (fun _ _ _ h => h) (Or.inl ⟨by rfl, ?_⟩) hS ?_
    · intro wq hq
      obtain ⟨dq0, dq1, dq2, dq3⟩ := E0.out wq (SB.trans HX12.out hq)
      go_simp
    try simp only [Act.put, List.setIfInBounds_toArray, List.set_cons_zero, List.set_cons_succ, List.getElem_toArray, List.getElem_cons_zero, List.getElem_cons_succ]
    refine AnyBut.gone (i := 17) (by kernel_rfl) rfl (by rfl) (fun K hK => ?_)
    go_simp
    (with_reducible refine (KWt.out _ (BW.out _ HX12.out)).mono ?_)
    rintro e w13 ⟨rfl, hb⟩
    have hS13 : SB w12 w13 := SB.next hS hb
    have HS13 := Lib.hid hS13
    have HBl13 := Lib.hid hb
    clear hb
    dsimp only
    refine hK _ _ (fun _ => hS13) ?_
    clear hK K hS
    try simp only [Act.put, List.setIfInBounds_toArray, List.set_cons_zero, List.set_cons_succ, List.getElem_toArray, List.getElem_cons_zero, List.getElem_cons_succ]
    refine AnyBut.stronger (S' := SB w13) (fun _ h => Below.trans hS13 (Below.mono h hS13.size)) ?_
    clear hS13
    have hS : SB w13 w13 := SB.refl w13
    have HX13 : Hid (SB Wd w13) := SB.trans HX12.out HS13.out
    refine AnyBut.gone (i := 19) (by kernel_rfl) rfl (by rfl) (fun K hK => ?_)
    go_simp
    (with_reducible refine (KRW.out _ (BW.out _ HX13.out)).mono ?_)
    rintro e w14 ⟨rfl, hb⟩
    have hS14 : SB w13 w14 := SB.next hS hb
    have HS14 := Lib.hid hS14
    have HBl14 := Lib.hid hb
    clear hb
    dsimp only
    refine hK _ _ (fun _ => hS14) ?_
    clear hK K hS
    try simp only [Act.put, List.setIfInBounds_toArray, List.set_cons_zero, List.set_cons_succ, List.getElem_toArray, List.getElem_cons_zero, List.getElem_cons_succ]
    refine AnyBut.stronger (S' := SB w14) (fun _ h => Below.trans hS14 (Below.mono h hS14.size)) ?_
    clear hS14
    have hS : SB w14 w14 := SB.refl w14
    have HX14 : Hid (SB Wd w14) := SB.trans HX13.out HS14.out
    refine AnyBut.takeE (i := 20) (v := .bool false) rfl (by kernel_rfl) (by kernel_rfl) (by kernel_rfl) (by kernel_rfl) (fun _ _ _ h => h) (Or.inl ⟨by rfl, ?_⟩) hS ?_
    · intro wq hq
      have hbq : (wd != wd) = false := by simp
      go_simp
    try simp only [Act.put, List.setIfInBounds_toArray, List.set_cons_zero, List.set_cons_succ, List.getElem_toArray, List.getElem_cons_zero, List.getElem_cons_succ]
    refine AnyBut.gone (i := 21) (by kernel_rfl) rfl (by rfl) (fun K hK => ?_)
    go_simp
    refine hK _ _ (fun _ => hS) ?_
    clear hK K
    refine AnyBut.done (by kernel_rfl) ?_ _
    try dsimp only [Exit.then]
    clear hS
    have HY14 : Hid (SB w9 w14) := SB.trans HZd.out HX14.out
    have hcr := CR.out _ HY14.out
    have hce1 : (ce == 0) = false := by simpa using hcne
    have hce2 : (ce != 0) = true := by simpa using hcne
    go_upto_region 12 with fail
    clear hcr hce1 hce2
    generalize hWd : w14.drew = We
    have HZe : Hid (SB w14 We) := (hWd ▸ SB.drew w14 : SB w14 We)
    have HY9 : Hid (SB w9 We) := SB.trans HY14.out HZe.out
    have HZd : Hid (SB Wd We) := SB.trans HX14.out HZe.out
    have HWe : Hid (Below w.heap.size w We) := HWd.out.trans (Below.mono HZd.out HWd.out.size)
    have BW : Hid (∀ wq, SB We wq → Below w.heap.size w wq) := fun wq hq => HWe.out.trans (Below.mono hq HWe.out.size)
    have E0 : Hid (∀ wq, SB We wq → wq.cell? ⟨w.heap.size, 0, none⟩ = some (.int .u32 (ver : Int)) ∧ wq.cell? ⟨w.heap.size, 1, none⟩ = some (.slice A1 n1 c1) ∧ wq.cell? ⟨w.heap.size, 2, none⟩ = some (.slice A2 n2 c2) ∧ wq.cell? ⟨w.heap.size, 3, none⟩ = some (.int .u32 (lock : Int))) := fun wq hq => E0.out wq (SB.trans HZd.out hq)
    have CO : Hid (∀ wq, SB We wq → (convert 27 9 (.slice A5 n c5)).run Tryd.prog wq = .ok (.string (strB R)) wq) := fun wq hq => CO.out wq (SB.trans HY9.out hq)
    have CR : Hid (∀ wq, SB We wq → (convert 27 9 (.slice A n cap)).run Tryd.prog wq = .ok (.string (strB R)) wq) := fun wq hq => CR.out wq (SB.trans HY9.out hq)
    refine wp_region_but (z := 999) (SB We) (by kernel_rfl) ?_
    rw [hWd]
    have hS : SB We We := SB.refl We
    clear hWd
    have HSe : Hid (SB We We) := hS
    refine AnyBut.takeE (i := 0) (v := ?_) rfl (by kernel_rfl) (by kernel_rfl) (by kernel_rfl) (by kernel_rfl) (fun _ _ _ h => h) (Or.inl ⟨by rfl, ?_⟩) hS ?_
    rotate_left
    · (intro wq hq; go_simp; try with_reducible rfl)
    try simp only [Act.put, List.setIfInBounds_toArray, List.set_cons_zero, List.set_cons_succ, List.getElem_toArray, List.getElem_cons_zero, List.getElem_cons_succ]
    refine AnyBut.takeE (i := 1) (v := .string (strB R)) rfl (by kernel_rfl) (by kernel_rfl) (by kernel_rfl) (by kernel_rfl) (fun _ _ _ h => h) (Or.inl ⟨by rfl, ?_⟩) hS ?_
    · intro wq hq
      have hc := CO.out wq hq
      go_simp
    try simp only [Act.put, List.setIfInBounds_toArray, List.set_cons_zero, List.set_cons_succ, List.getElem_toArray, List.getElem_cons_zero, List.getElem_cons_succ]
    refine AnyBut.takeE (i := 2) (v := ?_) rfl (by kernel_rfl) (by kernel_rfl) (by kernel_rfl) (by kernel_rfl) (fun _ _ _ h => h) (Or.inl ⟨by rfl, ?_⟩) hS ?_
    rotate_left
    · (intro wq hq; go_simp; try with_reducible rfl)
    try simp only [Act.put, List.setIfInBounds_toArray, List.set_cons_zero, List.set_cons_succ, List.getElem_toArray, List.getElem_cons_zero, List.getElem_cons_succ]
    refine AnyBut.takeE (i := 3) (v := .string (strB R)) rfl (by kernel_rfl) (by kernel_rfl) (by kernel_rfl) (by kernel_rfl) (fun _ _ _ h => h) (Or.inl ⟨by rfl, ?_⟩) hS ?_
    · intro wq hq
      have hc := CR.out wq hq
      go_simp
    try simp only [Act.put, List.setIfInBounds_toArray, List.set_cons_zero, List.set_cons_succ, List.getElem_toArray, List.getElem_cons_zero, List.getElem_cons_succ]
    refine AnyBut.takeE (i := 4) (v := .bool true) rfl (by kernel_rfl) (by kernel_rfl) (by kernel_rfl) (by kernel_rfl) (fun _ _ _ h => h) (Or.inl ⟨by rfl, ?_⟩) hS ?_
    · intro wq hq
      have hss : ((strB R).toList == (strB R).toList) = true := by simp
      go_simp
    try simp only [Act.put, List.setIfInBounds_toArray, List.set_cons_zero, List.set_cons_succ, List.getElem_toArray, List.getElem_cons_zero, List.getElem_cons_succ]
    refine AnyBut.takeE (i := 5) (v := ?_) rfl (by kernel_rfl) (by kernel_rfl) (by kernel_rfl) (by kernel_rfl) (fun _ _ _ h => h) (Or.inl ⟨by rfl, ?_⟩) hS ?_
    rotate_left
    · (intro wq hq; go_simp; try with_reducible rfl)
    try simp only [Act.put, List.setIfInBounds_toArray, List.set_cons_zero, List.set_cons_succ, List.getElem_toArray, List.getElem_cons_zero, List.getElem_cons_succ]
    refine AnyBut.takeE (i := 6) (v := .agg #[.int .u32 (ver : Int), .slice A1 n1 c1, .slice A2 n2 c2, .int .u32 (lock : Int)]) rfl (by kernel_rfl) (by kernel_rfl) (by kernel_rfl) (by kernel_rfl) (fun _ _ _ h => h) (Or.inl ⟨by rfl, ?_⟩) hS ?_
    · intro wq hq
      obtain ⟨dq0, dq1, dq2, dq3⟩ := E0.out wq (SB.trans HSe.out hq)
      go_simp
    try simp only [Act.put, List.setIfInBounds_toArray, List.set_cons_zero, List.set_cons_succ, List.getElem_toArray, List.getElem_cons_zero, List.getElem_cons_succ]
    refine AnyBut.takeE (i := 8) (v := .agg #[.int .u32 (ver : Int), .slice A1 n1 c1, .slice A2 n2 c2, .int .u32 (lock : Int)]) rfl (by kernel_rfl) (by kernel_rfl) (by kernel_rfl) (by kernel_rfl) (fun _ _ _ h => h) (Or.inl ⟨by rfl, ?_⟩) hS ?_
    · intro wq hq
      obtain ⟨dq0, dq1, dq2, dq3⟩ := E0.out wq (SB.trans HSe.out hq)
      go_simp
    try simp only [Act.put, List.setIfInBounds_toArray, List.set_cons_zero, List.set_cons_succ, List.getElem_toArray, List.getElem_cons_zero, List.getElem_cons_succ]
    refine AnyBut.gone (i := 7) (by kernel_rfl) rfl (by rfl) (fun K hK => ?_)
    go_simp
    (with_reducible refine (KI.out _ (BW.out _ HSe.out)).mono ?_)
    rintro e w21 ⟨rfl, hb⟩
    have hS21 : SB We w21 := SB.next hS hb
    have HS21 := Lib.hid hS21
    have HBl21 := Lib.hid hb
    clear hb
    dsimp only
    refine hK _ _ (fun _ => hS21) ?_
    clear hK K hS
    try simp only [Act.put, List.setIfInBounds_toArray, List.set_cons_zero, List.set_cons_succ, List.getElem_toArray, List.getElem_cons_zero, List.getElem_cons_succ]
    refine AnyBut.stronger (S' := SB w21) (fun _ h => Below.trans hS21 (Below.mono h hS21.size)) ?_
    clear hS21
    have hS : SB w21 w21 := SB.refl w21
    have HX21 : Hid (SB We w21) := SB.trans HSe.out HS21.out
    refine AnyBut.gone (i := 9) (by kernel_rfl) rfl (by rfl) (fun K hK => ?_)
    go_simp
    (with_reducible refine (KRI.out _ (BW.out _ HX21.out)).mono ?_)
    rintro e w22 ⟨rfl, hb⟩
    have hS22 : SB w21 w22 := SB.next hS hb
    have HS22 := Lib.hid hS22
    have HBl22 := Lib.hid hb
    clear hb
    dsimp only
    refine hK _ _ (fun _ => hS22) ?_
    clear hK K hS
    try simp only [Act.put, List.setIfInBounds_toArray, List.set_cons_zero, List.set_cons_succ, List.getElem_toArray, List.getElem_cons_zero, List.getElem_cons_succ]
    refine AnyBut.stronger (S' := SB w22) (fun _ h => Below.trans hS22 (Below.mono h hS22.size)) ?_
    clear hS22
    have hS : SB w22 w22 := SB.refl w22
    have HX22 : Hid (SB We w22) := SB.trans HX21.out HS22.out
    refine AnyBut.takeE (i := 10) (v := .bool true) rfl (by kernel_rfl) (by kernel_rfl) (by kernel_rfl) (by kernel_rfl) (fun _ _ _ h => h) (Or.inl ⟨by rfl, ?_⟩) hS ?_
    · intro wq hq
      have he := e1.out wq
      go_simp
    try simp only [Act.put, List.setIfInBounds_toArray, List.set_cons_zero, List.set_cons_succ, List.getElem_toArray, List.getElem_cons_zero, List.getElem_cons_succ]
    refine AnyBut.takeE (i := 11) (v := ?_) rfl (by kernel_rfl) (by kernel_rfl) (by kernel_rfl) (by kernel_rfl) (fun _ _ _ h => h) (Or.inl ⟨by rfl, ?_⟩) hS ?_
    rotate_left
    · (intro wq hq; go_simp; try with_reducible rfl)
    try simp only [Act.put, List.setIfInBounds_toArray, List.set_cons_zero, List.set_cons_succ, List.getElem_toArray, List.getElem_cons_zero, List.getElem_cons_succ]
    refine AnyBut.takeE (i := 12) (v := ?_) rfl (by kernel_rfl) (by kernel_rfl) (by kernel_rfl) (by kernel_rfl) (fun _ _ _ h => h) (Or.inl ⟨by rfl, ?_⟩) hS ?_
    rotate_left
    · (intro wq hq; go_simp; try with_reducible rfl)
    try simp only [Act.put, List.setIfInBounds_toArray, List.set_cons_zero, List.set_cons_succ, List.getElem_toArray, List.getElem_cons_zero, List.getElem_cons_succ]
    refine AnyBut.takeE (i := 13) (v := .agg #[.int .u32 (ver : Int), .slice A1 n1 c1, .slice A2 n2 c2, .int .u32 (lock : Int)]) rfl (by kernel_rfl) (by kernel_rfl) (by kernel_rfl) (by kernel_rfl) (fun _ _ _ h => h) (Or.inl ⟨by rfl, ?_⟩) hS ?_
    · intro wq hq
      obtain ⟨dq0, dq1, dq2, dq3⟩ := E0.out wq (SB.trans HX22.out hq)
      go_simp
    try simp only [Act.put, List.setIfInBounds_toArray, List.set_cons_zero, List.set_cons_succ, List.getElem_toArray, List.getElem_cons_zero, List.getElem_cons_succ]
    refine AnyBut.takeE (i := 15) (v := .agg #[.int .u32 (ver : Int), .slice A1 n1 c1, .slice A2 n2 c2, .int .u32 (lock : Int)]) rfl (by kernel_rfl) (by kernel_rfl) (by kernel_rfl) (by kernel_rfl) (fun _ _ _ h => h) (Or.inl ⟨by rfl, ?_⟩) hS ?_
    · intro wq hq
      obtain ⟨dq0, dq1, dq2, dq3⟩ := E0.out wq (SB.trans HX22.out hq)
      go_simp
    try simp only [Act.put, List.setIfInBounds_toArray, List.set_cons_zero, List.set_cons_succ, List.getElem_toArray, List.getElem_cons_zero, List.getElem_cons_succ]
    refine AnyBut.gone (i := 14) (by kernel_rfl) rfl (by rfl) (fun K hK => ?_)
    go_simp
    (with_reducible refine (KF.out _ (BW.out _ HX22.out)).mono ?_)
    rintro e w23 ⟨rfl, hb⟩
    have hS23 : SB w22 w23 := SB.next hS hb
    have HS23 := Lib.hid hS23
    have HBl23 := Lib.hid hb
    clear hb
    dsimp only
    refine hK _ _ (fun _ => hS23) ?_
    clear hK K hS
    try simp only [Act.put, List.setIfInBounds_toArray, List.set_cons_zero, List.set_cons_succ, List.getElem_toArray, List.getElem_cons_zero, List.getElem_cons_succ]
    refine AnyBut.stronger (S' := SB w23) (fun _ h => Below.trans hS23 (Below.mono h hS23.size)) ?_
    clear hS23
    have hS : SB w23 w23 := SB.refl w23
    have HX23 : Hid (SB We w23) := SB.trans HX22.out HS23.out
    refine AnyBut.gone (i := 16) (by kernel_rfl) rfl (by rfl) (fun K hK => ?_)
    go_simp
    (with_reducible refine (KRF.out _ (BW.out _ HX23.out)).mono ?_)
    rintro e w24 ⟨rfl, hb⟩
    have hS24 : SB w23 w24 := SB.next hS hb
    have HS24 := Lib.hid hS24
    have HBl24 := Lib.hid hb
    clear hb
    dsimp only
    refine hK _ _ (fun _ => hS24) ?_
    clear hK K hS
    try simp only [Act.put, List.setIfInBounds_toArray, List.set_cons_zero, List.set_cons_succ, List.getElem_toArray, List.getElem_cons_zero, List.getElem_cons_succ]
    refine AnyBut.stronger (S' := SB w24) (fun _ h => Below.trans hS24 (Below.mono h hS24.size)) ?_
    clear hS24
    have hS : SB w24 w24 := SB.refl w24
    have HX24 : Hid (SB We w24) := SB.trans HX23.out HS24.out
    refine AnyBut.takeE (i := 17) (v := .bool true) rfl (by kernel_rfl) (by kernel_rfl) (by kernel_rfl) (by kernel_rfl) (fun _ _ _ h => h) (Or.inl ⟨by rfl, ?_⟩) hS ?_
    · intro wq hq
      have he := e2.out wq
      go_simp
    try simp only [Act.put, List.setIfInBounds_toArray, List.set_cons_zero, List.set_cons_succ, List.getElem_toArray, List.getElem_cons_zero, List.getElem_cons_succ]
    refine AnyBut.takeE (i := 18) (v := ?_) rfl (by kernel_rfl) (by kernel_rfl) (by kernel_rfl) (by kernel_rfl) (fun _ _ _ h => h) (Or.inl ⟨by rfl, ?_⟩) hS ?_
    rotate_left
    · (intro wq hq; go_simp; try with_reducible rfl)
    try simp only [Act.put, List.setIfInBounds_toArray, List.set_cons_zero, List.set_cons_succ, List.getElem_toArray, List.getElem_cons_zero, List.getElem_cons_succ]
    refine AnyBut.takeE (i := 19) (v := ?_) rfl (by kernel_rfl) (by kernel_rfl) (by kernel_rfl) (by kernel_rfl) (fun _ _ _ h => h) (Or.inl ⟨by rfl, ?_⟩) hS ?_
    rotate_left
    · (intro wq hq; go_simp; try with_reducible rfl)
    try simp only [Act.put, List.setIfInBounds_toArray, List.set_cons_zero, List.set_cons_succ, List.getElem_toArray, List.getElem_cons_zero, List.getElem_cons_succ]
    refine AnyBut.gone (i := 20) (by kernel_rfl) rfl (by rfl) (fun K hK => ?_)
    go_simp
    (with_reducible refine (KAw.out _).mono ?_)
    rintro e w25 ⟨rfl, hb⟩
    have hS25 : SB w24 w25 := SB.next hS hb
    have HS25 := Lib.hid hS25
    have HBl25 := Lib.hid hb
    clear hb
    dsimp only
    refine hK _ _ (fun _ => hS25) ?_
    clear hK K hS
    try simp only [Act.put, List.setIfInBounds_toArray, List.set_cons_zero, List.set_cons_succ, List.getElem_toArray, List.getElem_cons_zero, List.getElem_cons_succ]
    refine AnyBut.stronger (S' := SB w25) (fun _ h => Below.trans hS25 (Below.mono h hS25.size)) ?_
    clear hS25
    have hS : SB w25 w25 := SB.refl w25
    have HX25 : Hid (SB We w25) := SB.trans HX24.out HS25.out
    refine AnyBut.takeE (i := 21) (v := ?_) rfl (by kernel_rfl) (by kernel_rfl) (by kernel_rfl) (by kernel_rfl) (fun _ _ _ h => h) (Or.inl ⟨by rfl, ?_⟩) hS ?_
    rotate_left
    · (intro wq hq; go_simp; try with_reducible rfl)
    try simp only [Act.put, List.setIfInBounds_toArray, List.set_cons_zero, List.set_cons_succ, List.getElem_toArray, List.getElem_cons_zero, List.getElem_cons_succ]
    refine AnyBut.gone (i := 22) (by kernel_rfl) rfl (by rfl) (fun K hK => ?_)
    go_simp
    refine hK _ _ (fun _ => hS) ?_
    clear hK K
    refine AnyBut.done (by kernel_rfl) ?_ _
    try dsimp only [Exit.then]
    clear hS
    go_wp2_with fail
    go_ret
    exact ⟨rfl, BW.out _ HX25.out⟩
end Go.Proofs.YtnkkhmgplpkjbaaDoor
