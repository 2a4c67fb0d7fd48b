/- What the document's own Same of blocks returns. The law BlockSame returns true for every two blocks that can be read. -/
import Derived.Test.YtpamepkcbhoiaaaZoa
import Derived.Test.YtpamepkcbhoiaaaZob
import Derived.Test.YtpamepkcbhoiaaaZoc
import Derived.Test.YtpamepkcbhoiaaaZod
import Derived.Test.YtpamepkcbhoiaaaZoe
import Derived.Test.YtpamepkcbhoiaaaZof
import Derived.Test.YtpamepkcbhoiaaaZog
import Derived.Test.YtpamepkcbhoiaaaZoh
import Derived.Test.YtpamepkcbhoiaaaZoi
import Derived.Test.YtpamepkcbhoiaaaZoj
import Derived.Test.YtpamepkcbhoiaaaZok
import Derived.Outline
namespace Go.Proofs.Ytpamepkcbhoiaaa
open Go.RowKit
set_option linter.unusedVariables false
set_option linter.unusedSimpArgs false
set_option maxRecDepth 100000
theorem neqH {h g : THd} (kh : HdOk h) (kg : HdOk g) (w : World) : (binOp .neq 27 (.agg (hdV h).toArray) (.agg (hdV g).toArray)).run Try.prog w = .ok (.bool (!decide (h = g))) w := by
  have h1 := eqlH kh kg w
  rw [run_eql_struct] at h1
  rw [run_neq_struct]
  generalize (Op.equalIn 10000 27 (.agg (hdV h).toArray) (.agg (hdV g).toArray)).run Try.prog w = R at h1 ⊢
  cases R <;> simp_all [Result.andThen]
set_option maxHeartbeats 8000000 in
theorem rbsame_any (x y : TBk) (v u : Value) (w : World) (h1 : Txs w w.heap.size v x.txs) (h2 : Txs w w.heap.size u y.txs) (k1 : HdOk x.hd) (k2 : HdOk y.hd) : Calls Try.prog 9 #[.agg (bkL x.hd v).toArray, .agg (bkL y.hd u).toArray] w (BoolPost (bEq x y) w) := by
  have hh1 := h1
  have hh2 := h2
  obtain ⟨A1, c1, b, o, rfl, hA, hr⟩ := Row.open h1
  obtain ⟨A2, c2, b2, o2, rfl, hA2, hr2⟩ := Row.open h2
  have hm1 : x.txs.length ≤ 9223372036854775807 := by obtain ⟨_, _, e, h3, h4, _⟩ := hh1; cases e; omega
  obtain ⟨n, hn1⟩ : ∃ n, n = x.txs.length := ⟨_, rfl⟩
  obtain ⟨n2, hn2⟩ : ∃ n, n = y.txs.length := ⟨_, rfl⟩
  obtain ⟨h, hh⟩ : ∃ h, h = x.hd := ⟨_, rfl⟩
  obtain ⟨g, hg⟩ : ∃ h, h = y.hd := ⟨_, rfl⟩
  rw [← hh] at k1
  rw [← hg] at k2
  rw [← hn1] at hm1
  have hb1 : Blk ((w.alloc (.cells (bkL h (.slice A1 n c1)).toArray 30)).alloc (.cells (bkL g (.slice A2 n2 c2)).toArray 30)) w.heap.size 30 (bkL h (.slice A1 n c1)) := by
    have := (Blk.new w 30 (bkL h (.slice A1 n c1)).toArray).alloc (.cells (bkL g (.slice A2 n2 c2)).toArray 30)
    rwa [List.toList_toArray] at this
  have hb2 : Blk ((w.alloc (.cells (bkL h (.slice A1 n c1)).toArray 30)).alloc (.cells (bkL g (.slice A2 n2 c2)).toArray 30)) (w.heap.size + 1) 30 (bkL g (.slice A2 n2 c2)) := by
    have := Blk.new (w.alloc (.cells (bkL h (.slice A1 n c1)).toArray 30)) 30 (bkL g (.slice A2 n2 c2)).toArray
    rw [List.toList_toArray] at this
    simpa using this
  have hbw : Below w.heap.size w ((w.alloc (.cells (bkL h (.slice A1 n c1)).toArray 30)).alloc (.cells (bkL g (.slice A2 n2 c2)).toArray 30)) := ((Below.refl _ _).alloc (Nat.le_refl _) _).alloc (by simp) _
  have HB := Lib.hid hbw
  have d1 := hb1.cell (j := 68) (at68 k1)
  have d2 := hb2.cell (j := 68) (at68 k2)
  have HX1 := Lib.hid hb1
  have HX2 := Lib.hid hb2
  have HK1 := Lib.hid k1
  have HK2 := Lib.hid k2
  have R1 := Lib.hid (range_hd hb1)
  have R2 := Lib.hid (range_hd hb2)
  have I1 := Lib.hid (hdinfo k1)
  have I2 := Lib.hid (hdinfo k2)
  have hq : ∀ wq : World, (binOp .neq 27 (.agg (hdV h).toArray) (.agg (hdV g).toArray)).run Try.prog wq = .ok (.bool (!decide (h = g))) wq := fun wq => neqH k1 k2 wq
  have HR := Lib.hid hr
  have HR2 := Lib.hid hr2
  have HA := Lib.hid hA
  have HA2 := Lib.hid hA2
  have Hn1 := Lib.hid hn1
  have Hn2 := Lib.hid hn2
  obtain ⟨V1, hV1⟩ : ∃ V, V = (bkL h (.slice A1 n c1)).toArray := ⟨_, rfl⟩
  obtain ⟨V2, hV2⟩ : ∃ V, V = (bkL g (.slice A2 n2 c2)).toArray := ⟨_, rfl⟩
  have HE : Hid (bEq x y = (decide (h = g) && decide (x.txs = y.txs))) := by rw [hh, hg]; rfl
  rw [← hh, ← hg, ← hn1, ← hn2]
  rw [← hV1, ← hV2] at d1 d2 HB R1 R2 HX1 HX2 ⊢
  clear hh1 hh2 hn1 hn2 hh hg k1 k2 hb1 hb2 hbw hV1 hV2 h1 h2 hr hr2 hA hA2
  cases hd : decide (h = g)
  · rw [hd] at hq HE
    go_enter Try.func9, Try.ntmps9
    go_wp2_with (first
      | (with_reducible refine wpList_load_mid rfl 27 (.tmp 6) rfl w.heap.size 0 rfl (hdV h) _ R1.out Try.underlying27 rfl I1.out ?_)
      | (with_reducible refine wpList_load_mid rfl 27 (.tmp 8) rfl (w.heap.size + 1) 0 rfl (hdV g) _ R2.out Try.underlying27 rfl I2.out ?_))
    go_ret
    exact ⟨by rw [HE.out]; rfl, HB.out⟩
  rw [hd] at hq HE
  by_cases hl : n = n2
  · subst hl
    have hnn : ((n : Int) != (n : Int)) = false := by simp
    go_enter Try.func9, Try.ntmps9
    go_upto_region 4 with (first
      | (with_reducible refine wpList_load_mid rfl 27 (.tmp 6) rfl w.heap.size 0 rfl (hdV h) _ R1.out Try.underlying27 rfl I1.out ?_)
      | (with_reducible refine wpList_load_mid rfl 27 (.tmp 8) rfl (w.heap.size + 1) 0 rfl (hdV g) _ R2.out Try.underlying27 rfl I2.out ?_))
    clear d1 d2 hq hnn
    have HX1l := Lib.hid HX1.out.lt
    have HX2l := Lib.hid HX2.out.lt
    generalize ((w.alloc (.cells V1 30)).alloc (.cells V2 30)) = W0 at HB HX1 HX2 HX1l HX2l R1 R2 ⊢
    go_loopw [5] (fun iv wq => ∃ i : Nat, i ≤ n ∧ iv = .int .i64 (i : Int) ∧ x.txs.take i = y.txs.take i ∧ SB W0 wq) (fun iv _ => n - (intOf iv).toNat)
    case atStart => exact ⟨0, Nat.zero_le _, rfl, rfl, SB.refl _⟩
    case round =>
      obtain ⟨i, hi, rfl, he, hsb⟩ := hrel
      have HBr := Lib.hid hsb
      have d1 := (HX1.out.below (show Below W0.heap.size W0 wr from hsb) HX1l.out).cell (j := 68) (at68 HK1.out)
      by_cases hlt : i < n
      · have hlt' : (i : Int) < (n : Int) := by omega
        have h0i : (0 : Int) ≤ (i : Int) := by omega
        obtain rfl := HA.out (by rw [← Hn1.out]; omega)
        obtain rfl := HA2.out (by rw [← Hn2.out]; omega)
        obtain ⟨hbl, it, ot, cu, hs⟩ := HR.out i (by rw [← Hn1.out]; exact hlt)
        obtain ⟨hbl2, is, os, cu2, hs2⟩ := HR2.out i (by rw [← Hn2.out]; exact hlt)
        have hst := take_eq_succ x.txs y.txs tx00 i (by rw [← Hn1.out]; exact hlt) (by rw [← Hn2.out]; exact hlt) he
        have hne := ne_at x.txs y.txs tx00 i
        generalize x.txs.getD i tx00 = t at cu hs hst hne
        generalize y.txs.getD i tx00 = s at cu2 hs2 hst hne
        have HWr : Hid (Below w.heap.size w wr) := HB.out.trans (Below.mono hsb HB.out.size)
        have HC1 : Hid (∀ wq, SB wr wq → wq.cell? ⟨b, o + i * 4, none⟩ = some (.int .u32 (t.ver : Int)) ∧ wq.cell? ⟨b, o + i * 4 + 1, none⟩ = some it ∧ wq.cell? ⟨b, o + i * 4 + 2, none⟩ = some ot ∧ wq.cell? ⟨b, o + i * 4 + 3, none⟩ = some (.int .u32 (t.lock : Int))) := fun wq hq => by
          have hr := range_keep cu (HWr.out.trans (Below.mono hq HWr.out.size)) hbl
          exact ⟨by simpa using hr 0 _ rfl, hr 1 _ rfl, hr 2 _ rfl, hr 3 _ rfl⟩
        have HC2 : Hid (∀ wq, SB wr wq → wq.cell? ⟨b2, o2 + i * 4, none⟩ = some (.int .u32 (s.ver : Int)) ∧ wq.cell? ⟨b2, o2 + i * 4 + 1, none⟩ = some is ∧ wq.cell? ⟨b2, o2 + i * 4 + 2, none⟩ = some os ∧ wq.cell? ⟨b2, o2 + i * 4 + 3, none⟩ = some (.int .u32 (s.lock : Int))) := fun wq hq => by
          have hr := range_keep cu2 (HWr.out.trans (Below.mono hq HWr.out.size)) hbl2
          exact ⟨by simpa using hr 0 _ rfl, hr 1 _ rfl, hr 2 _ rfl, hr 3 _ rfl⟩
        have KR : Hid (∀ wq, SB wr wq → Calls Try.prog 24 #[.agg #[.int .u32 (t.ver : Int), it, ot, .int .u32 (t.lock : Int)], .agg #[.int .u32 (s.ver : Int), is, os, .int .u32 (s.lock : Int)]] wq (EqPost (decide (t = s)) wq)) := fun wq hq => by
          have hw := HWr.out.trans (Below.mono hq HWr.out.size)
          exact rsame_tx t s it ot is os wq ((hs.keep hw (Nat.le_refl _)).up hw.size) ((hs2.keep hw (Nat.le_refl _)).up hw.size)
        have Hst := Lib.hid hst
        have Hne := Lib.hid hne
        clear hbl hbl2 cu cu2 hs hs2 hst hne he hsb
        go_upto_region 6 with fail
        clear d1
        generalize hWd : wr.drew = Wd
        have HDr : Hid (SB wr Wd) := (hWd ▸ SB.drew wr : SB wr Wd)
        refine wp_region_but (z := 999) (SB Wd) (by kernel_rfl) ?_
        rw [hWd]
        have hS : SB Wd Wd := SB.refl Wd
        clear hWd
        refine AnyBut.takeE (i := 0) (v := ?_) rfl (by kernel_rfl) (by kernel_rfl) (by kernel_rfl) (by kernel_rfl) (fun _ _ _ h => h) (Or.inl ⟨by rfl, ?_⟩) hS ?_
        rotate_left
        · (intro wq hq; go_simp; try with_reducible rfl)
        try simp only [Act.put, List.setIfInBounds_toArray, List.set_cons_zero, List.set_cons_succ, List.getElem_toArray, List.getElem_cons_zero, List.getElem_cons_succ]
        refine AnyBut.takeE (i := 1) (v := .slice (some ⟨b, o, none⟩) n c1) rfl (by kernel_rfl) (by kernel_rfl) (by kernel_rfl) (by kernel_rfl) (fun _ _ _ h => h) (Or.inl ⟨by rfl, ?_⟩) hS ?_
        · intro wq hq
          have hb1 := HX1.out.below (show Below W0.heap.size W0 wq from SB.trans HBr.out (SB.trans HDr.out hq)) HX1l.out
          have dq := hb1.cell (j := 68) (at68 HK1.out)
          go_simp
        try simp only [Act.put, List.setIfInBounds_toArray, List.set_cons_zero, List.set_cons_succ, List.getElem_toArray, List.getElem_cons_zero, List.getElem_cons_succ]
        refine AnyBut.takeE (i := 2) (v := ?_) rfl (by kernel_rfl) (by kernel_rfl) (by kernel_rfl) (by kernel_rfl) (fun _ _ _ h => h) (Or.inl ⟨by rfl, ?_⟩) hS ?_
        rotate_left
        · (intro wq hq; go_simp; try with_reducible rfl)
        try simp only [Act.put, List.setIfInBounds_toArray, List.set_cons_zero, List.set_cons_succ, List.getElem_toArray, List.getElem_cons_zero, List.getElem_cons_succ]
        refine AnyBut.takeE (i := 3) (v := ?_) rfl (by kernel_rfl) (by kernel_rfl) (by kernel_rfl) (by kernel_rfl) (fun _ _ _ h => h) (Or.inl ⟨by rfl, ?_⟩) hS ?_
        rotate_left
        · (intro wq hq; go_simp; try with_reducible rfl)
        try simp only [Act.put, List.setIfInBounds_toArray, List.set_cons_zero, List.set_cons_succ, List.getElem_toArray, List.getElem_cons_zero, List.getElem_cons_succ]
        refine AnyBut.takeE (i := 4) (v := .agg #[.int .u32 (t.ver : Int), it, ot, .int .u32 (t.lock : Int)]) rfl (by kernel_rfl) (by kernel_rfl) (by kernel_rfl) (by kernel_rfl) (fun _ _ _ h => h) (Or.inl ⟨by rfl, ?_⟩) hS ?_
        · intro wq hq
          obtain ⟨e0, e1, e2, e3⟩ := HC1.out wq (SB.trans HDr.out hq)
          go_simp
        try simp only [Act.put, List.setIfInBounds_toArray, List.set_cons_zero, List.set_cons_succ, List.getElem_toArray, List.getElem_cons_zero, List.getElem_cons_succ]
        refine AnyBut.takeE (i := 5) (v := ?_) rfl (by kernel_rfl) (by kernel_rfl) (by kernel_rfl) (by kernel_rfl) (fun _ _ _ h => h) (Or.inl ⟨by rfl, ?_⟩) hS ?_
        rotate_left
        · (intro wq hq; go_simp; try with_reducible rfl)
        try simp only [Act.put, List.setIfInBounds_toArray, List.set_cons_zero, List.set_cons_succ, List.getElem_toArray, List.getElem_cons_zero, List.getElem_cons_succ]
        refine AnyBut.takeE (i := 6) (v := .slice (some ⟨b2, o2, none⟩) n c2) rfl (by kernel_rfl) (by kernel_rfl) (by kernel_rfl) (by kernel_rfl) (fun _ _ _ h => h) (Or.inl ⟨by rfl, ?_⟩) hS ?_
        · intro wq hq
          have hb1 := HX2.out.below (show Below W0.heap.size W0 wq from SB.trans HBr.out (SB.trans HDr.out hq)) HX2l.out
          have dq := hb1.cell (j := 68) (at68 HK2.out)
          go_simp
        try simp only [Act.put, List.setIfInBounds_toArray, List.set_cons_zero, List.set_cons_succ, List.getElem_toArray, List.getElem_cons_zero, List.getElem_cons_succ]
        refine AnyBut.takeE (i := 7) (v := ?_) rfl (by kernel_rfl) (by kernel_rfl) (by kernel_rfl) (by kernel_rfl) (fun _ _ _ h => h) (Or.inl ⟨by rfl, ?_⟩) hS ?_
        rotate_left
        · (intro wq hq; go_simp; try with_reducible rfl)
        try simp only [Act.put, List.setIfInBounds_toArray, List.set_cons_zero, List.set_cons_succ, List.getElem_toArray, List.getElem_cons_zero, List.getElem_cons_succ]
        refine AnyBut.takeE (i := 8) (v := ?_) rfl (by kernel_rfl) (by kernel_rfl) (by kernel_rfl) (by kernel_rfl) (fun _ _ _ h => h) (Or.inl ⟨by rfl, ?_⟩) hS ?_
        rotate_left
        · (intro wq hq; go_simp; try with_reducible rfl)
        try simp only [Act.put, List.setIfInBounds_toArray, List.set_cons_zero, List.set_cons_succ, List.getElem_toArray, List.getElem_cons_zero, List.getElem_cons_succ]
        refine AnyBut.takeE (i := 9) (v := .agg #[.int .u32 (s.ver : Int), is, os, .int .u32 (s.lock : Int)]) rfl (by kernel_rfl) (by kernel_rfl) (by kernel_rfl) (by kernel_rfl) (fun _ _ _ h => h) (Or.inl ⟨by rfl, ?_⟩) hS ?_
        · intro wq hq
          obtain ⟨e0, e1, e2, e3⟩ := HC2.out wq (SB.trans HDr.out hq)
          go_simp
        try simp only [Act.put, List.setIfInBounds_toArray, List.set_cons_zero, List.set_cons_succ, List.getElem_toArray, List.getElem_cons_zero, List.getElem_cons_succ]
        refine AnyBut.gone (i := 10) (by kernel_rfl) rfl (by rfl) (fun K hK => ?_)
        go_simp
        (with_reducible refine (KR.out _ HDr.out).mono ?_)
        rintro e w5 ⟨rfl, hb⟩
        have hS5 : SB Wd w5 := SB.next hS hb
        have HS5 := Lib.hid hS5
        have HBl5 := Lib.hid hb
        clear hb
        dsimp only
        refine hK _ _ (fun _ => hS5) ?_
        clear hK K hS
        try simp only [Act.put, List.setIfInBounds_toArray, List.set_cons_zero, List.set_cons_succ, List.getElem_toArray, List.getElem_cons_zero, List.getElem_cons_succ]
        refine AnyBut.stronger (S' := SB w5) (fun _ h => Below.trans hS5 (Below.mono h hS5.size)) ?_
        clear hS5
        have hS : SB w5 w5 := SB.refl w5
        refine AnyBut.gone (i := 11) (by kernel_rfl) rfl (by rfl) (fun K hK => ?_)
        go_simp
        refine hK _ _ (fun _ => hS) ?_
        clear hK K
        refine AnyBut.done (by kernel_rfl) ?_ _
        try dsimp only [Exit.then]
        clear hS
        have HX5 : Hid (SB wr w5) := SB.trans HDr.out HS5.out
        have HZ5 : Hid (SB W0 w5) := SB.trans HBr.out HX5.out
        by_cases hts : t = s
        · have hdt : decide (t = s) = true := by simpa using hts
          have HT := Lib.hid (Hst.out.2 hts)
          rw [hdt]
          clear hts hdt
          go_wp2_with fail
          go_roundw
          case rel => exact ⟨i + 1, by omega, by go_num, HT.out, HZ5.out⟩
          case measure => simp [intOf]; omega
        · have hdt : decide (t = s) = false := by simpa using hts
          have HT : Hid (decide (x.txs = y.txs) = false) := show decide (x.txs = y.txs) = false by simpa using Hne.out hts
          rw [hdt]
          clear hts hdt
          go_wp2_with fail
          go_ret
          exact ⟨by rw [HE.out, HT.out]; rfl, HB.out.trans (Below.mono HZ5.out HB.out.size)⟩
      · obtain rfl : i = n := by omega
        have hlt' : ¬ (i : Int) < (i : Int) := by omega
        have HT : Hid (decide (x.txs = y.txs) = true) := show decide (x.txs = y.txs) = true by
          rw [List.take_of_length_le (by rw [← Hn1.out]; exact Nat.le_refl _), List.take_of_length_le (by rw [← Hn2.out]; exact Nat.le_refl _)] at he
          simpa using he
        clear he hsb
        go_wp2_with fail
        go_ret
        exact ⟨by rw [HE.out, HT.out]; rfl, HB.out.trans (Below.mono HBr.out HB.out.size)⟩
  · have e1 : ((n : Int) != (n2 : Int)) = true := by simp; omega
    have HT : Hid (decide (x.txs = y.txs) = false) := show decide (x.txs = y.txs) = false by
      have : x.txs ≠ y.txs := fun e => hl (by rw [Hn1.out, Hn2.out, e])
      simpa using this
    clear hl
    go_enter Try.func9, Try.ntmps9
    go_wp2_with (first
      | (with_reducible refine wpList_load_mid rfl 27 (.tmp 6) rfl w.heap.size 0 rfl (hdV h) _ R1.out Try.underlying27 rfl I1.out ?_)
      | (with_reducible refine wpList_load_mid rfl 27 (.tmp 8) rfl (w.heap.size + 1) 0 rfl (hdV g) _ R2.out Try.underlying27 rfl I2.out ?_))
    go_ret
    exact ⟨by rw [HE.out, HT.out]; rfl, HB.out⟩
open Go.RowKit
set_option linter.unusedVariables false
set_option linter.unusedSimpArgs false
set_option maxRecDepth 100000
set_option maxHeartbeats 16000000 in
theorem blsame_any (x y : TBk) (v u : Value) (w : World) (h1 : Txs w w.heap.size v x.txs) (h2 : Txs w w.heap.size u y.txs) (k1 : HdOk x.hd) (k2 : HdOk y.hd) : Calls Try.prog 4 #[.agg (bkL x.hd v).toArray, .agg (bkL y.hd u).toArray] w (AwPost w) := by
  have KW := Lib.hid (fun w => awake_any w)
  have HH1 : Hid (∀ wq, Below w.heap.size w wq → Txs wq wq.heap.size v x.txs) := fun wq hq => (h1.keep hq (Nat.le_refl _)).up hq.size
  have HH2 : Hid (∀ wq, Below w.heap.size w wq → Txs wq wq.heap.size u y.txs) := fun wq hq => (h2.keep hq (Nat.le_refl _)).up hq.size
  obtain ⟨A1, c1, rfl, _⟩ := id h1
  obtain ⟨A2, c2, rfl, _⟩ := id h2
  obtain ⟨n, hn1⟩ : ∃ n, n = x.txs.length := ⟨_, rfl⟩
  obtain ⟨n2, hn2⟩ : ∃ n, n = y.txs.length := ⟨_, rfl⟩
  rw [← hn1] at HH1 ⊢
  rw [← hn2] at HH2 ⊢
  have hb1 : Blk ((w.alloc (.cells (bkL x.hd (.slice A1 n c1)).toArray 30)).alloc (.cells (bkL y.hd (.slice A2 n2 c2)).toArray 30)) w.heap.size 30 (bkL x.hd (.slice A1 n c1)) := by
    have := (Blk.new w 30 (bkL x.hd (.slice A1 n c1)).toArray).alloc (.cells (bkL y.hd (.slice A2 n2 c2)).toArray 30)
    rwa [List.toList_toArray] at this
  have hb2 : Blk ((w.alloc (.cells (bkL x.hd (.slice A1 n c1)).toArray 30)).alloc (.cells (bkL y.hd (.slice A2 n2 c2)).toArray 30)) (w.heap.size + 1) 30 (bkL y.hd (.slice A2 n2 c2)) := by
    have := Blk.new (w.alloc (.cells (bkL x.hd (.slice A1 n c1)).toArray 30)) 30 (bkL y.hd (.slice A2 n2 c2)).toArray
    rw [List.toList_toArray] at this
    simpa using this
  have hbw : Below w.heap.size w ((w.alloc (.cells (bkL x.hd (.slice A1 n c1)).toArray 30)).alloc (.cells (bkL y.hd (.slice A2 n2 c2)).toArray 30)) := ((Below.refl _ _).alloc (Nat.le_refl _) _).alloc (by simp) _
  have HX1 := Lib.hid hb1
  have HX2 := Lib.hid hb2
  have HW := Lib.hid hbw
  have HI1 := Lib.hid (info30 (v := .slice A1 n c1) k1)
  have HI2 := Lib.hid (info30 (v := .slice A2 n2 c2) k2)
  have KL1 : Hid (∀ wq, Below w.heap.size w wq → Calls Try.prog 11 #[.agg (bkL x.hd (.slice A1 n c1)).toArray] wq (SomePost wq)) := fun wq hq => blarge_any x _ wq (HH1.out wq hq) k1
  have KL2 : Hid (∀ wq, Below w.heap.size w wq → Calls Try.prog 11 #[.agg (bkL y.hd (.slice A2 n2 c2)).toArray] wq (SomePost wq)) := fun wq hq => blarge_any y _ wq (HH2.out wq hq) k2
  obtain ⟨β, hβ⟩ : ∃ β, β = bEq x y := ⟨_, rfl⟩
  have KS : Hid (∀ wq, Below w.heap.size w wq → Calls Try.prog 12 #[.agg (bkL x.hd (.slice A1 n c1)).toArray, .agg (bkL y.hd (.slice A2 n2 c2)).toArray] wq (BoolPost β wq)) := fun wq hq => by rw [hβ]; exact bsame_any x y _ _ wq (HH1.out wq hq) (HH2.out wq hq) k1 k2
  have KD : Hid (∀ wq, Below w.heap.size w wq → Calls Try.prog 9 #[.agg (bkL x.hd (.slice A1 n c1)).toArray, .agg (bkL y.hd (.slice A2 n2 c2)).toArray] wq (BoolPost β wq)) := fun wq hq => by rw [hβ]; exact rbsame_any x y _ _ wq (HH1.out wq hq) (HH2.out wq hq) k1 k2
  have KI : Hid (∀ wq, Below w.heap.size w wq → Calls Try.prog 12 #[.agg (bkL x.hd (.slice A1 n c1)).toArray, .agg (bkL x.hd (.slice A1 n c1)).toArray] wq (BoolPost true wq)) := fun wq hq => by
    have := bsame_any x x _ _ wq (HH1.out wq hq) (HH1.out wq hq) k1 k1
    rw [show bEq x x = true by simp [bEq]] at this
    exact this
  obtain ⟨V1, hV1⟩ : ∃ V, V = (bkL x.hd (.slice A1 n c1)).toArray := ⟨_, rfl⟩
  obtain ⟨V2, hV2⟩ : ∃ V, V = (bkL y.hd (.slice A2 n2 c2)).toArray := ⟨_, rfl⟩
  rw [← hV1, ← hV2] at HX1 HX2 HW ⊢
  clear h1 h2 hb1 hb2 hbw hn1 hn2 hβ k1 k2 hV1 hV2
  go_enter Try.func4, Try.ntmps4
  go_upto_region 1 with fail
  have HX1l := Lib.hid HX1.out.lt
  have HX2l := Lib.hid HX2.out.lt
  generalize ((w.alloc (.cells V1 30)).alloc (.cells V2 30)) = W0 at HX1 HX2 HW HX1l HX2l ⊢
  go_upto_region 3 with (first
    | (refine wpList_load_on (op := ⟨some 5, _, _, _, _, _⟩) rfl 30 (.tmp 2) rfl w.heap.size 0 rfl (bkL x.hd (.slice A1 n c1)) _ HX1.out.range Try.underlying30 rfl HI1.out ?_)
    | (refine wpList_load_on (op := ⟨some 8, _, _, _, _, _⟩) rfl 30 (.tmp 3) rfl (w.heap.size + 1) 0 rfl (bkL y.hd (.slice A2 n2 c2)) _ HX2b.out.range Try.underlying30 rfl HI2.out ?_)
    | (go_at_call 11; (with_reducible refine (KL1.out _ HW.out).mono ?_); rintro e w1 ⟨γ, rfl, hb1⟩; have HB1 := Lib.hid hb1; have HX2b := Lib.hid (HX2.out.below hb1 HX2l.out); have HW1 : Hid (Below w.heap.size w w1) := HW.out.trans (hb1.mono HW.out.size); clear hb1; cases γ <;> dsimp only)
    | (go_at_call 11; (with_reducible refine (KL2.out _ HW1.out).mono ?_); rintro e w2 ⟨γ, rfl, hb2⟩; have HB2 := Lib.hid hb2; clear hb2; cases γ <;> dsimp only)
    | (go_at_call 10; (with_reducible refine (KW.out _).mono ?_); rintro e w9 ⟨rfl, hb9⟩; have HB9 := Lib.hid hb9; clear hb9; dsimp only))
  rotate_left
  · go_ret
    first
      | exact ⟨rfl, HW1.out.trans ((HB2.out.mono HW1.out.size).trans (HB9.out.mono (Nat.le_trans HW1.out.size HB2.out.size)))⟩
      | exact ⟨rfl, HW1.out.trans (HB9.out.mono HW1.out.size)⟩
  · go_ret
    first
      | exact ⟨rfl, HW1.out.trans ((HB2.out.mono HW1.out.size).trans (HB9.out.mono (Nat.le_trans HW1.out.size HB2.out.size)))⟩
      | exact ⟨rfl, HW1.out.trans (HB9.out.mono HW1.out.size)⟩
  have HW2 : Hid (Below w.heap.size w w2) := HW1.out.trans (HB2.out.mono HW1.out.size)
  have HY1 := Lib.hid ((HX1.out.below HB1.out HX1l.out).below HB2.out (HX1.out.below HB1.out HX1l.out).lt)
  have HY2 := Lib.hid (HX2b.out.below HB2.out HX2b.out.lt)
  generalize hWd : w2.drew = Wd
  have HD : Hid (SB w2 Wd) := (hWd ▸ SB.drew w2 : SB w2 Wd)
  have BW : Hid (∀ wq, SB w2 wq → Below w.heap.size w wq) := fun wq hq => HW2.out.trans (Below.mono hq HW2.out.size)
  refine wp_region_but (z := 999) (SB Wd) (by kernel_rfl) ?_
  rw [hWd]
  have hS : SB Wd Wd := SB.refl Wd
  clear hWd
  have HSd : Hid (SB Wd Wd) := hS
  refine AnyBut.takeE (i := 0) (v := .agg (bkL x.hd (.slice A1 n c1)).toArray) rfl (by kernel_rfl) (by kernel_rfl) (by kernel_rfl) (by kernel_rfl) (fun _ _ _ h => h) ?_ hS ?_
  · exact yieldsIf_load_mid (by rfl) 30 (.tmp 2) rfl (w.heap.size) 0 rfl (bkL x.hd (.slice A1 n c1)) _ (fun wq hq => (HY1.out.below (show Below w2.heap.size w2 wq from (SB.trans HD.out (SB.trans HSd.out hq))) HY1.out.lt).range) Try.underlying30 rfl HI1.out
  try simp only [Act.put, List.setIfInBounds_toArray, List.set_cons_zero, List.set_cons_succ, List.getElem_toArray, List.getElem_cons_zero, List.getElem_cons_succ]
  refine AnyBut.takeE (i := 1) (v := .agg (bkL y.hd (.slice A2 n2 c2)).toArray) rfl (by kernel_rfl) (by kernel_rfl) (by kernel_rfl) (by kernel_rfl) (fun _ _ _ h => h) ?_ hS ?_
  · exact yieldsIf_load_mid (by rfl) 30 (.tmp 3) rfl (w.heap.size + 1) 0 rfl (bkL y.hd (.slice A2 n2 c2)) _ (fun wq hq => (HY2.out.below (show Below w2.heap.size w2 wq from (SB.trans HD.out (SB.trans HSd.out hq))) HY2.out.lt).range) Try.underlying30 rfl HI2.out
  try simp only [Act.put, List.setIfInBounds_toArray, List.set_cons_zero, List.set_cons_succ, List.getElem_toArray, List.getElem_cons_zero, List.getElem_cons_succ]
  refine AnyBut.takeE (i := 3) (v := .agg (bkL x.hd (.slice A1 n c1)).toArray) rfl (by kernel_rfl) (by kernel_rfl) (by kernel_rfl) (by kernel_rfl) (fun _ _ _ h => h) ?_ hS ?_
  · exact yieldsIf_load_mid (by rfl) 30 (.tmp 2) rfl (w.heap.size) 0 rfl (bkL x.hd (.slice A1 n c1)) _ (fun wq hq => (HY1.out.below (show Below w2.heap.size w2 wq from (SB.trans HD.out (SB.trans HSd.out hq))) HY1.out.lt).range) Try.underlying30 rfl HI1.out
  try simp only [Act.put, List.setIfInBounds_toArray, List.set_cons_zero, List.set_cons_succ, List.getElem_toArray, List.getElem_cons_zero, List.getElem_cons_succ]
  refine AnyBut.takeE (i := 4) (v := .agg (bkL y.hd (.slice A2 n2 c2)).toArray) rfl (by kernel_rfl) (by kernel_rfl) (by kernel_rfl) (by kernel_rfl) (fun _ _ _ h => h) ?_ hS ?_
  · exact yieldsIf_load_mid (by rfl) 30 (.tmp 3) rfl (w.heap.size + 1) 0 rfl (bkL y.hd (.slice A2 n2 c2)) _ (fun wq hq => (HY2.out.below (show Below w2.heap.size w2 wq from (SB.trans HD.out (SB.trans HSd.out hq))) HY2.out.lt).range) Try.underlying30 rfl HI2.out
  try simp only [Act.put, List.setIfInBounds_toArray, List.set_cons_zero, List.set_cons_succ, List.getElem_toArray, List.getElem_cons_zero, List.getElem_cons_succ]
  refine AnyBut.gone (i := 2) (by kernel_rfl) rfl (by rfl) (fun K hK => ?_)
  go_simp
  (with_reducible refine (KS.out _ (BW.out _ (SB.trans HD.out HSd.out))).mono ?_)
  rintro e w11 ⟨rfl, hb⟩
  have hS11 : SB Wd w11 := SB.next hS hb
  have HS11 := Lib.hid hS11
  have HBl11 := Lib.hid hb
  clear hb
  dsimp only
  refine hK _ _ (fun _ => hS11) ?_
  clear hK K hS
  try simp only [Act.put, List.setIfInBounds_toArray, List.set_cons_zero, List.set_cons_succ, List.getElem_toArray, List.getElem_cons_zero, List.getElem_cons_succ]
  refine AnyBut.stronger (S' := SB w11) (fun _ h => Below.trans hS11 (Below.mono h hS11.size)) ?_
  clear hS11
  have hS : SB w11 w11 := SB.refl w11
  have HX11 : Hid (SB Wd w11) := SB.trans HSd.out HS11.out
  refine AnyBut.gone (i := 5) (by kernel_rfl) rfl (by rfl) (fun K hK => ?_)
  go_simp
  (with_reducible refine (KD.out _ (BW.out _ (SB.trans HD.out HX11.out))).mono ?_)
  rintro e w12 ⟨rfl, hb⟩
  have hS12 : SB w11 w12 := SB.next hS hb
  have HS12 := Lib.hid hS12
  have HBl12 := Lib.hid hb
  clear hb
  dsimp only
  refine hK _ _ (fun _ => hS12) ?_
  clear hK K hS
  try simp only [Act.put, List.setIfInBounds_toArray, List.set_cons_zero, List.set_cons_succ, List.getElem_toArray, List.getElem_cons_zero, List.getElem_cons_succ]
  refine AnyBut.stronger (S' := SB w12) (fun _ h => Below.trans hS12 (Below.mono h hS12.size)) ?_
  clear hS12
  have hS : SB w12 w12 := SB.refl w12
  have HX12 : Hid (SB Wd w12) := SB.trans HX11.out HS12.out
  refine AnyBut.takeE (i := 6) (v := .bool true) rfl (by kernel_rfl) (by kernel_rfl) (by kernel_rfl) (by kernel_rfl) (fun _ _ _ h => h) (Or.inl ⟨by rfl, ?_⟩) hS ?_
  · intro wq hq
    have hbb : (β == β) = true := by simp
    go_simp
  try simp only [Act.put, List.setIfInBounds_toArray, List.set_cons_zero, List.set_cons_succ, List.getElem_toArray, List.getElem_cons_zero, List.getElem_cons_succ]
  refine AnyBut.takeE (i := 7) (v := ?_) rfl (by kernel_rfl) (by kernel_rfl) (by kernel_rfl) (by kernel_rfl) (fun _ _ _ h => h) (Or.inl ⟨by rfl, ?_⟩) hS ?_
  rotate_left
  · (intro wq hq; go_simp; try with_reducible rfl)
  try simp only [Act.put, List.setIfInBounds_toArray, List.set_cons_zero, List.set_cons_succ, List.getElem_toArray, List.getElem_cons_zero, List.getElem_cons_succ]
  refine AnyBut.takeE (i := 8) (v := .agg (bkL x.hd (.slice A1 n c1)).toArray) rfl (by kernel_rfl) (by kernel_rfl) (by kernel_rfl) (by kernel_rfl) (fun _ _ _ h => h) ?_ hS ?_
  · exact yieldsIf_load_mid (by rfl) 30 (.tmp 2) rfl (w.heap.size) 0 rfl (bkL x.hd (.slice A1 n c1)) _ (fun wq hq => (HY1.out.below (show Below w2.heap.size w2 wq from (SB.trans HD.out (SB.trans HX12.out hq))) HY1.out.lt).range) Try.underlying30 rfl HI1.out
  try simp only [Act.put, List.setIfInBounds_toArray, List.set_cons_zero, List.set_cons_succ, List.getElem_toArray, List.getElem_cons_zero, List.getElem_cons_succ]
  refine AnyBut.takeE (i := 9) (v := .agg (bkL x.hd (.slice A1 n c1)).toArray) rfl (by kernel_rfl) (by kernel_rfl) (by kernel_rfl) (by kernel_rfl) (fun _ _ _ h => h) ?_ hS ?_
  · exact yieldsIf_load_mid (by rfl) 30 (.tmp 2) rfl (w.heap.size) 0 rfl (bkL x.hd (.slice A1 n c1)) _ (fun wq hq => (HY1.out.below (show Below w2.heap.size w2 wq from (SB.trans HD.out (SB.trans HX12.out hq))) HY1.out.lt).range) Try.underlying30 rfl HI1.out
  try simp only [Act.put, List.setIfInBounds_toArray, List.set_cons_zero, List.set_cons_succ, List.getElem_toArray, List.getElem_cons_zero, List.getElem_cons_succ]
  refine AnyBut.gone (i := 10) (by kernel_rfl) rfl (by rfl) (fun K hK => ?_)
  go_simp
  (with_reducible refine (KI.out _ (BW.out _ (SB.trans HD.out HX12.out))).mono ?_)
  rintro e w13 ⟨rfl, hb⟩
  have hS13 : SB w12 w13 := SB.next hS hb
  have HS13 := Lib.hid hS13
  have HBl13 := Lib.hid hb
  clear hb
  dsimp only
  refine hK _ _ (fun _ => hS13) ?_
  clear hK K hS
  try simp only [Act.put, List.setIfInBounds_toArray, List.set_cons_zero, List.set_cons_succ, List.getElem_toArray, List.getElem_cons_zero, List.getElem_cons_succ]
  refine AnyBut.stronger (S' := SB w13) (fun _ h => Below.trans hS13 (Below.mono h hS13.size)) ?_
  clear hS13
  have hS : SB w13 w13 := SB.refl w13
  have HX13 : Hid (SB Wd w13) := SB.trans HX12.out HS13.out
  refine AnyBut.takeE (i := 11) (v := ?_) rfl (by kernel_rfl) (by kernel_rfl) (by kernel_rfl) (by kernel_rfl) (fun _ _ _ h => h) (Or.inl ⟨by rfl, ?_⟩) hS ?_
  rotate_left
  · (intro wq hq; go_simp; try with_reducible rfl)
  try simp only [Act.put, List.setIfInBounds_toArray, List.set_cons_zero, List.set_cons_succ, List.getElem_toArray, List.getElem_cons_zero, List.getElem_cons_succ]
  refine AnyBut.takeE (i := 12) (v := ?_) rfl (by kernel_rfl) (by kernel_rfl) (by kernel_rfl) (by kernel_rfl) (fun _ _ _ h => h) (Or.inl ⟨by rfl, ?_⟩) hS ?_
  rotate_left
  · (intro wq hq; go_simp; try with_reducible rfl)
  try simp only [Act.put, List.setIfInBounds_toArray, List.set_cons_zero, List.set_cons_succ, List.getElem_toArray, List.getElem_cons_zero, List.getElem_cons_succ]
  refine AnyBut.gone (i := 13) (by kernel_rfl) rfl (by rfl) (fun K hK => ?_)
  go_simp
  (with_reducible refine (KW.out _).mono ?_)
  rintro e w14 ⟨rfl, hb⟩
  have hS14 : SB w13 w14 := SB.next hS hb
  have HS14 := Lib.hid hS14
  have HBl14 := Lib.hid hb
  clear hb
  dsimp only
  refine hK _ _ (fun _ => hS14) ?_
  clear hK K hS
  try simp only [Act.put, List.setIfInBounds_toArray, List.set_cons_zero, List.set_cons_succ, List.getElem_toArray, List.getElem_cons_zero, List.getElem_cons_succ]
  refine AnyBut.stronger (S' := SB w14) (fun _ h => Below.trans hS14 (Below.mono h hS14.size)) ?_
  clear hS14
  have hS : SB w14 w14 := SB.refl w14
  have HX14 : Hid (SB Wd w14) := SB.trans HX13.out HS14.out
  refine AnyBut.takeE (i := 14) (v := ?_) rfl (by kernel_rfl) (by kernel_rfl) (by kernel_rfl) (by kernel_rfl) (fun _ _ _ h => h) (Or.inl ⟨by rfl, ?_⟩) hS ?_
  rotate_left
  · (intro wq hq; go_simp; try with_reducible rfl)
  try simp only [Act.put, List.setIfInBounds_toArray, List.set_cons_zero, List.set_cons_succ, List.getElem_toArray, List.getElem_cons_zero, List.getElem_cons_succ]
  refine AnyBut.gone (i := 15) (by kernel_rfl) rfl (by rfl) (fun K hK => ?_)
  go_simp
  refine hK _ _ (fun _ => hS) ?_
  clear hK K
  refine AnyBut.done (by kernel_rfl) ?_ _
  try dsimp only [Exit.then]
  clear hS
  go_wp2_with fail
  go_ret
  exact ⟨rfl, BW.out _ (SB.trans HD.out HX14.out)⟩
end Go.Proofs.Ytpamepkcbhoiaaa
