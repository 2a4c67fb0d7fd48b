/- What the document's own Same returns: whether two transactions are equal. The document's own Same of two transactions. -/
import Derived.Test.YtpamepkcbhoiaaaZoa
import Derived.Test.YtpamepkcbhoiaaaZob
import Derived.Test.YtpamepkcbhoiaaaZoc
import Derived.Test.YtpamepkcbhoiaaaZod
import Derived.Test.YtpamepkcbhoiaaaZoe
import Derived.Test.YtpamepkcbhoiaaaZof
import Derived.Test.YtpamepkcbhoiaaaZog
import Derived.Test.YtpamepkcbhoiaaaZoh
import Derived.Test.YtpamepkcbhoiaaaZoi
import Derived.Test.YtpamepkcbhoiaaaZoj
import Derived.Outline
namespace Go.Proofs.Ytpamepkcbhoiaaa
open Go.RowKit
set_option linter.unusedVariables false
set_option linter.unusedSimpArgs false
set_option maxRecDepth 100000
theorem SB.range {W0 w : World} (h : SB W0 w) {b o : Nat} {vs : List Value} (hr : W0.rangeAt b o vs) (hb : b < W0.heap.size) : w.rangeAt b o vs := range_keep hr h hb
theorem SB.alloc {W0 w : World} (h : SB W0 w) (o : Obj) : SB W0 (w.alloc o) := Below.alloc h h.size o
theorem SB.setCells {W0 w : World} (h : SB W0 w) {b : Nat} (hb : W0.heap.size ≤ b) (us : List Value) (o : Nat) : SB W0 (w.setCells b o us) := below_setCells hb us o w h
theorem ws_side (A : Option Addr) (n c B : Nat) (Ls : List (List (BitVec 8))) (w : World) (h : Ws w B (.slice A n c) Ls) : ∀ i, i < n → ∃ b o, A = some ⟨b, o, none⟩ ∧ b < B ∧ ∃ t, w.cell? ⟨b, o + i, none⟩ = some t ∧ Sl w B t (Ls.getD i []) := fun i hi => by
  obtain ⟨A', c', e, _, _, hr⟩ := h
  cases e
  obtain ⟨b, o, rfl, hlt, hh⟩ := hr (by omega)
  obtain ⟨u, hc, hs⟩ := hh i hi
  rw [Nat.mul_one] at hc
  exact ⟨b, o, rfl, hlt, u, hc, hs⟩
theorem sl_val {v : Value} {L : List (BitVec 8)} {w : World} {B : Nat} (h : Sl w B v L) : ∃ A n c, v = .slice A n c := by
  obtain ⟨A, c, e, _⟩ := h
  exact ⟨A, _, c, e⟩
theorem there_blk {w : World} {b T n : Nat} {vs C : List Value} (h : Blk w b T vs) (hC : C.length = n) (hv : vs.length = n := by rfl) : w.there b 0 C.toArray.size := by
  have h2 : C.toArray.size = vs.length := by rw [List.size_toArray]; omega
  rw [h2]
  exact h.there
theorem row_side (A : Option Addr) (n c b o B : Nat) (xs : List TIn) (w : World) (h : Is w B (.slice A n c) xs) : ∀ i, i < n → ∃ b o, A = some ⟨b, o, none⟩ ∧ b < B ∧ ∃ s u, w.rangeAt b (o + i * 36) (inV (xs.getD i In0) s u) ∧ InOk w B (xs.getD i In0) s u := fun i hi => by
  obtain ⟨A', c', e, _, _, hr⟩ := h
  cases e
  obtain ⟨b, o, rfl, hlt, hh⟩ := hr (by omega)
  exact ⟨b, o, rfl, hlt, hh i hi⟩
theorem os_side (A : Option Addr) (n c B : Nat) (ys : List TOut) (w : World) (h : Os w B (.slice A n c) ys) : ∀ i, i < n → ∃ b o, A = some ⟨b, o, none⟩ ∧ b < B ∧ ∃ s, w.rangeAt b (o + i * 2) (outV (ys.getD i Out0) s) ∧ OutOk w B (ys.getD i Out0) s := fun i hi => by
  obtain ⟨A', c', e, _, _, hr⟩ := h
  cases e
  obtain ⟨b, o, rfl, hlt, hh⟩ := hr (by omega)
  exact ⟨b, o, rfl, hlt, hh i hi⟩
set_option maxHeartbeats 8000000 in
theorem rsame_main (xs ys : List TIn) (os ps : List TOut) (A1 A2 A3 A4 : Option Addr) (n1 n2 c1 c2 c3 c4 : Nat) (V1 V2 L1 L2 : Int) (w : World) (hV : V1 = V2) (hL : L1 = L2)
    (h1 : Is w w.heap.size (.slice A1 n1 c1) xs) (h2 : Os w w.heap.size (.slice A2 n2 c2) os) (h3 : Is w w.heap.size (.slice A3 n1 c3) ys) (h4 : Os w w.heap.size (.slice A4 n2 c4) ps) (e1 : n1 = xs.length) (e2 : n2 = os.length) (e3 : n1 = ys.length) (e4 : n2 = ps.length) (hm1 : n1 ≤ 9223372036854775807) (hm2 : n2 ≤ 9223372036854775807) :
    Calls Try.prog 24 #[.agg #[.int .u32 V1, .slice A1 n1 c1, .slice A2 n2 c2, .int .u32 L1], .agg #[.int .u32 V2, .slice A3 n1 c3, .slice A4 n2 c4, .int .u32 L2]] w (EqPost (decide (xs = ys) && decide (os = ps)) w) := by
  subst hV hL
  obtain ⟨w1, hw1⟩ : ∃ w1, w1 = (w.alloc (.cells #[.int .u32 V1, .slice A1 n1 c1, .slice A2 n2 c2, .int .u32 L1] 60)).alloc (.cells #[.int .u32 V1, .slice A3 n1 c3, .slice A4 n2 c4, .int .u32 L1] 60) := ⟨_, rfl⟩
  have hb1 : Below w.heap.size w w1 := by rw [hw1]; exact ((Below.refl w.heap.size w).alloc (Nat.le_refl _) _).alloc (by simp) _
  have a1 : w1.cell? ⟨w.heap.size, 1, none⟩ = some (.slice A1 n1 c1) := by rw [hw1]; exact cell_alloc _ (cell_new rfl rfl)
  have a2 : w1.cell? ⟨w.heap.size, 2, none⟩ = some (.slice A2 n2 c2) := by rw [hw1]; exact cell_alloc _ (cell_new rfl rfl)
  have a3 : w1.cell? ⟨w.heap.size + 1, 1, none⟩ = some (.slice A3 n1 c3) := by rw [hw1]; exact cell_new (by simp) rfl
  have a4 : w1.cell? ⟨w.heap.size + 1, 2, none⟩ = some (.slice A4 n2 c4) := by rw [hw1]; exact cell_new (by simp) rfl
  have HT : Hid (∀ wq, SB w1 wq → wq.cell? ⟨w.heap.size, 1, none⟩ = some (.slice A1 n1 c1) ∧ wq.cell? ⟨w.heap.size, 2, none⟩ = some (.slice A2 n2 c2) ∧ wq.cell? ⟨w.heap.size + 1, 1, none⟩ = some (.slice A3 n1 c3) ∧ wq.cell? ⟨w.heap.size + 1, 2, none⟩ = some (.slice A4 n2 c4)) := fun wq hq => ⟨hq.cell a1, hq.cell a2, hq.cell a3, hq.cell a4⟩
  have H1 := Lib.hid ((h1.keep hb1 (Nat.le_refl _)).up hb1.size)
  have H2 := Lib.hid ((h2.keep hb1 (Nat.le_refl _)).up hb1.size)
  have H3 := Lib.hid ((h3.keep hb1 (Nat.le_refl _)).up hb1.size)
  have H4 := Lib.hid ((h4.keep hb1 (Nat.le_refl _)).up hb1.size)
  have Hb1 := Lib.hid hb1
  have HE := Lib.hid (⟨e1, e2, e3, e4⟩ : n1 = xs.length ∧ n2 = os.length ∧ n1 = ys.length ∧ n2 = ps.length)
  clear h1 h2 h3 h4 e1 e2 e3 e4 a1 a2 a3 a4 hb1
  go_enter Try.func24, Try.ntmps24
  go_upto_region 3 with fail
  rw [← hw1]
  obtain ⟨tA, htA⟩ : ∃ t, t = w.heap.size := ⟨_, rfl⟩
  obtain ⟨tB, htB⟩ : ∃ t, t = w.heap.size + 1 := ⟨_, rfl⟩
  rw [← htB, ← htA] at HT ⊢
  clear hw1 htA htB
  go_wp2_with fail
  go_loopw [5] (fun iv wq => ∃ i : Nat, i ≤ n1 ∧ iv = .int .i64 (i : Int) ∧ xs.take i = ys.take i ∧ SB w1 wq) (fun iv _ => n1 - (intOf iv).toNat)
  case atStart => exact ⟨0, Nat.zero_le _, rfl, rfl, SB.refl _⟩
  case round =>
    obtain ⟨i, hi, rfl, he, hs⟩ := hrel
    have HE1 := Lib.hid he
    clear he
    by_cases hlt : i < n1
    · have hlt' : (i : Int) < (n1 : Int) := by omega
      obtain ⟨b, o, rfl, hbl, s1, u1, cu, ok1⟩ := row_side _ _ _ 0 0 _ _ _ H1.out i hlt
      obtain ⟨b2, o2, rfl, hbl2, s2, u2, cu2, ok2⟩ := row_side _ _ _ 0 0 _ _ _ H3.out i hlt
      have hT := HT.out wr hs
      obtain ⟨t1, t2, t3, t4⟩ := hT
      clear t2 t4
      go_upto_region 6 with fail
      generalize hWd : wr.drew = Wd
      have hsd : SB w1 Wd := by rw [← hWd]; exact Below.drew hs
      have E1 : Hid (∀ wq, SB Wd wq → wq.cell? ⟨tA, 1, none⟩ = some (.slice (some ⟨b, o, none⟩) n1 c1) ∧ wq.cell? ⟨tB, 1, none⟩ = some (.slice (some ⟨b2, o2, none⟩) n1 c3)) := fun wq hq => by
        obtain ⟨d1, _, d3, _⟩ := HT.out Wd hsd
        exact ⟨hq.cell d1, hq.cell d3⟩
      obtain ⟨C, hC⟩ : ∃ C, C = inV (xs.getD i In0) s1 u1 := ⟨_, rfl⟩
      obtain ⟨D, hD⟩ : ∃ D, D = inV (ys.getD i In0) s2 u2 := ⟨_, rfl⟩
      have RX : Hid (∀ wq, SB Wd wq → wq.rangeAt b (o + i * 36) C) := fun wq hq => by rw [hC]; exact hq.range (hsd.range cu hbl) (Nat.lt_of_lt_of_le hbl hsd.size)
      have RY : Hid (∀ wq, SB Wd wq → wq.rangeAt b2 (o2 + i * 36) D) := fun wq hq => by rw [hD]; exact hq.range (hsd.range cu2 hbl2) (Nat.lt_of_lt_of_le hbl2 hsd.size)
      have NC : Hid (C.length = 36) := show C.length = 36 by rw [hC]; exact inV_len ok1.2.2.1
      have ND : Hid (D.length = 36) := show D.length = 36 by rw [hD]; exact inV_len ok2.2.2.1
      have IC : Hid ((Try.prog.info? 69).map (·.size) = some C.length) := show _ = _ by rw [NC.out]; kernel_rfl
      have ID : Hid ((Try.prog.info? 69).map (·.size) = some D.length) := show _ = _ by rw [ND.out]; kernel_rfl
      have OC : Hid (∀ v ∈ C, v.oneCell' = true) := show ∀ v ∈ C, v.oneCell' = true by rw [hC]; exact inV_one ok1
      have OD : Hid (∀ v ∈ D, v.oneCell' = true) := show ∀ v ∈ D, v.oneCell' = true by rw [hD]; exact inV_one ok2
      have HC := Lib.hid hC
      have HD := Lib.hid hD
      have hz := zero60
      have HZl : Hid (Z36.length = 36) := show Z36.length = 36 by rfl
      have Hsd := Lib.hid hsd
      have OK1 := Lib.hid ok1
      have OK2 := Lib.hid ok2
      clear cu cu2 hC hD ok1 ok2 t1 t3 hs hsd
      refine wp_calm_any ?_
      refine wp_region_but (z := 999) (SB Wd) (by kernel_rfl) ?_
      rw [hWd]
      have hS : SB Wd Wd := SB.refl Wd
      clear hWd
      refine AnyBut.takeE (i := 0) (v := ?_) rfl (by kernel_rfl) (by kernel_rfl) (by kernel_rfl) (by kernel_rfl) (fun _ _ _ h => h) (Or.inl ⟨by rfl, ?_⟩) hS ?_
      rotate_left
      · (intro wq hq; go_simp; try with_reducible rfl)
      try simp only [Act.put, List.setIfInBounds_toArray, List.set_cons_zero, List.set_cons_succ, List.getElem_toArray, List.getElem_cons_zero, List.getElem_cons_succ]
      refine AnyBut.takeE (i := 1) (v := .slice (some ⟨b, o, none⟩) n1 c1) rfl (by kernel_rfl) (by kernel_rfl) (by kernel_rfl) (by kernel_rfl) (fun _ _ _ h => h) (Or.inl ⟨by rfl, ?_⟩) hS ?_
      · intro wq hq
        obtain ⟨dq1, dq2⟩ := E1.out wq hq
        go_simp
      try simp only [Act.put, List.setIfInBounds_toArray, List.set_cons_zero, List.set_cons_succ, List.getElem_toArray, List.getElem_cons_zero, List.getElem_cons_succ]
      refine AnyBut.takeE (i := 2) (v := ?_) rfl (by kernel_rfl) (by kernel_rfl) (by kernel_rfl) (by kernel_rfl) (fun _ _ _ h => h) (Or.inl ⟨by rfl, ?_⟩) hS ?_
      rotate_left
      · (intro wq hq; go_simp; try with_reducible rfl)
      try simp only [Act.put, List.setIfInBounds_toArray, List.set_cons_zero, List.set_cons_succ, List.getElem_toArray, List.getElem_cons_zero, List.getElem_cons_succ]
      refine AnyBut.takeE (i := 3) (v := ?_) rfl (by kernel_rfl) (by kernel_rfl) (by kernel_rfl) (by kernel_rfl) (fun _ _ _ h => h) (Or.inl ⟨by rfl, ?_⟩) hS ?_
      rotate_left
      · (intro wq hq; go_simp; try with_reducible rfl)
      try simp only [Act.put, List.setIfInBounds_toArray, List.set_cons_zero, List.set_cons_succ, List.getElem_toArray, List.getElem_cons_zero, List.getElem_cons_succ]
      refine AnyBut.takeE (i := 4) (v := .agg (C).toArray) rfl (by kernel_rfl) (by kernel_rfl) (by kernel_rfl) (by kernel_rfl) (fun _ _ _ h => h) ?_ hS ?_
      · exact yieldsIf_load_mid (by rfl) 69 (.tmp 50) rfl (b) (o + i * 36) rfl (C) _ RX.out Try.underlying69 rfl IC.out
      try simp only [Act.put, List.setIfInBounds_toArray, List.set_cons_zero, List.set_cons_succ, List.getElem_toArray, List.getElem_cons_zero, List.getElem_cons_succ]
      refine AnyBut.takeE (i := 5) (v := ?_) rfl (by kernel_rfl) (by kernel_rfl) (by kernel_rfl) (by kernel_rfl) (fun _ _ _ h => h) (Or.inl ⟨by rfl, ?_⟩) hS ?_
      rotate_left
      · (intro wq hq; go_simp; try with_reducible rfl)
      try simp only [Act.put, List.setIfInBounds_toArray, List.set_cons_zero, List.set_cons_succ, List.getElem_toArray, List.getElem_cons_zero, List.getElem_cons_succ]
      refine AnyBut.takeE (i := 6) (v := .slice (some ⟨b2, o2, none⟩) n1 c3) rfl (by kernel_rfl) (by kernel_rfl) (by kernel_rfl) (by kernel_rfl) (fun _ _ _ h => h) (Or.inl ⟨by rfl, ?_⟩) hS ?_
      · intro wq hq
        obtain ⟨dq1, dq2⟩ := E1.out wq hq
        go_simp
      try simp only [Act.put, List.setIfInBounds_toArray, List.set_cons_zero, List.set_cons_succ, List.getElem_toArray, List.getElem_cons_zero, List.getElem_cons_succ]
      refine AnyBut.takeE (i := 7) (v := ?_) rfl (by kernel_rfl) (by kernel_rfl) (by kernel_rfl) (by kernel_rfl) (fun _ _ _ h => h) (Or.inl ⟨by rfl, ?_⟩) hS ?_
      rotate_left
      · (intro wq hq; go_simp; try with_reducible rfl)
      try simp only [Act.put, List.setIfInBounds_toArray, List.set_cons_zero, List.set_cons_succ, List.getElem_toArray, List.getElem_cons_zero, List.getElem_cons_succ]
      refine AnyBut.takeE (i := 8) (v := ?_) rfl (by kernel_rfl) (by kernel_rfl) (by kernel_rfl) (by kernel_rfl) (fun _ _ _ h => h) (Or.inl ⟨by rfl, ?_⟩) hS ?_
      rotate_left
      · (intro wq hq; go_simp; try with_reducible rfl)
      try simp only [Act.put, List.setIfInBounds_toArray, List.set_cons_zero, List.set_cons_succ, List.getElem_toArray, List.getElem_cons_zero, List.getElem_cons_succ]
      refine AnyBut.takeE (i := 9) (v := .agg (D).toArray) rfl (by kernel_rfl) (by kernel_rfl) (by kernel_rfl) (by kernel_rfl) (fun _ _ _ h => h) ?_ hS ?_
      · exact yieldsIf_load_mid (by rfl) 69 (.tmp 55) rfl (b2) (o2 + i * 36) rfl (D) _ RY.out Try.underlying69 rfl ID.out
      try simp only [Act.put, List.setIfInBounds_toArray, List.set_cons_zero, List.set_cons_succ, List.getElem_toArray, List.getElem_cons_zero, List.getElem_cons_succ]
      have hS1 : SB Wd (Wd.alloc (.cells Z36.toArray 69)) := hS.alloc _
      have hS2 : SB Wd ((Wd.alloc (.cells Z36.toArray 69)).alloc (.cells Z36.toArray 69)) := hS1.alloc _
      have bA : Blk ((Wd.alloc (.cells Z36.toArray 69)).alloc (.cells Z36.toArray 69)) Wd.heap.size 69 Z36 := by
        have := (Blk.new Wd 69 Z36.toArray).alloc (.cells Z36.toArray 69)
        rwa [List.toList_toArray] at this
      have bB : Blk ((Wd.alloc (.cells Z36.toArray 69)).alloc (.cells Z36.toArray 69)) (Wd.heap.size + 1) 69 Z36 := by
        have := Blk.new (Wd.alloc (.cells Z36.toArray 69)) 69 Z36.toArray
        rw [List.toList_toArray, show (Wd.alloc (.cells Z36.toArray 69)).heap.size = Wd.heap.size + 1 by simp] at this
        exact this
      refine AnyBut.two (i := 10) (k := 11) (by kernel_rfl) rfl rfl rfl rfl (fun K hK => ?_) (fun K hK => ?_)
      rotate_left
      · skip
        go_simp
        refine hK _ _ (fun _ => hS1) ?_
        clear hK K
        try simp only [Act.put, List.setIfInBounds_toArray, List.set_cons_zero, List.set_cons_succ, List.getElem_toArray, List.getElem_cons_zero, List.getElem_cons_succ]
        refine AnyBut.gone (i := 10) (by kernel_rfl) rfl (by rfl) (fun K hK => ?_)
        go_simp
        refine hK _ _ (fun _ => hS2) ?_
        clear hK K
        try simp only [Act.put, List.setIfInBounds_toArray, List.set_cons_zero, List.set_cons_succ, List.getElem_toArray, List.getElem_cons_zero, List.getElem_cons_succ]
        refine AnyBut.gone (i := 12) (by kernel_rfl) rfl (by rfl) (fun K hK => ?_)
        refine wp_store_mid 69 (.tmp 6) (.tmp 51) rfl (Wd.heap.size + 1) 0 C.toArray rfl rfl (there_blk bB NC.out) (info_arr IC.out) (all_oneCell_toArray OC.out) ?_
        rw [show C.toArray.toList = C from rfl]
        have hS3 := hS2.setCells (b := Wd.heap.size + 1) (by omega) C 0
        have b6 := Blk.setCells bB C (by rw [NC.out]; rfl)
        have b7 := Blk.other_setCells (b' := Wd.heap.size + 1) (b := Wd.heap.size) (by omega) C 0 _ bA
        refine hK _ _ (fun _ => hS3) ?_
        clear hK K
        try simp only [Act.put, List.setIfInBounds_toArray, List.set_cons_zero, List.set_cons_succ, List.getElem_toArray, List.getElem_cons_zero, List.getElem_cons_succ]
        refine AnyBut.gone (i := 13) (by kernel_rfl) rfl (by rfl) (fun K hK => ?_)
        refine wp_store_mid 69 (.tmp 7) (.tmp 56) rfl (Wd.heap.size) 0 D.toArray rfl rfl (there_blk b7 ND.out) (info_arr ID.out) (all_oneCell_toArray OD.out) ?_
        rw [show D.toArray.toList = D from rfl]
        have hS4 := hS3.setCells (b := Wd.heap.size) (by omega) D 0
        have B7 := Blk.setCells b7 D (by rw [ND.out]; rfl)
        have B6 := Blk.other_setCells (b' := Wd.heap.size) (b := Wd.heap.size + 1) (by omega) D 0 _ b6
        refine hK _ _ (fun _ => hS4) ?_
        clear hK K
        try simp only [Act.put, List.setIfInBounds_toArray, List.set_cons_zero, List.set_cons_succ, List.getElem_toArray, List.getElem_cons_zero, List.getElem_cons_succ]
        refine AnyBut.done (by kernel_rfl) ?_ _
        dsimp only [Exit.then]
        generalize (((Wd.alloc (.cells Z36.toArray 69)).alloc (.cells Z36.toArray 69)).setCells (Wd.heap.size + 1) 0 C).setCells (Wd.heap.size) 0 D = w6 at hS4 B6 B7 ⊢
        clear hS3 b6 b7 hS hS1 hS2 bA bB
        generalize Wd.heap.size + 1 = g6 at B6 B7 ⊢
        generalize Wd.heap.size = g7 at B6 B7 ⊢
        have hs6 : SB w1 w6 := Below.trans Hsd.out (hS4.mono Hsd.out.size)
        have hst := take_eq_succ xs ys In0 i (by rw [← HE.out.1]; exact hlt) (by rw [← HE.out.2.2.1]; exact hlt) HE1.out
        have hne := ne_at xs ys In0 i
        have ok1 := OK1.out
        have ok2 := OK2.out
        rw [HC.out] at B6
        rw [HD.out] at B7
        clear HC HD OK1 OK2 RX RY NC ND IC ID OC OD HZl hz E1 hS4 Hsd HE1
        generalize xs.getD i In0 = x at hst hne ok1 B6
        generalize ys.getD i In0 = y at hst hne ok2 B7
        obtain ⟨hsx, hux, hl, _, _⟩ := ok1
        obtain ⟨hsy, huy, hl2, _, _⟩ := ok2
        obtain ⟨e32, e33, e34, e35⟩ := inV_at (x := x) (s := s1) (v := u1) hl
        obtain ⟨k32, k33, k34, k35⟩ := inV_at (x := y) (s := s2) (v := u2) hl2
        have K29 : Hid (∀ wq, SB w1 wq → Calls Try.prog 46 #[s1, s2] wq fun e w' => e = .returned (.bool (decide (x.sc = y.sc))) ∧ wq = w') := fun wq hq => rsame_any s1 s2 _ _ w1.heap.size wq (hsx.keep hq (Nat.le_refl _)) (hsy.keep hq (Nat.le_refl _))
        have HWx := Lib.hid hux
        have HWy := Lib.hid huy
        have mwx : x.wt.length ≤ 9223372036854775807 := by obtain ⟨_, _, e, h3, h4, _⟩ := hux; omega
        obtain ⟨As, cs, rfl, _⟩ := hsx
        obtain ⟨At, ct, rfl, _⟩ := hsy
        obtain ⟨Au, cu, rfl, _⟩ := hux
        obtain ⟨Av, cv, rfl, _⟩ := huy
        have HRx := Lib.hid B6.prev
        have HRy := Lib.hid B7.prev
        have HIx := Lib.hid (info57 (a := x.ix) hl)
        have HIy := Lib.hid (info57 (a := y.ix) hl2)
        have hq57 := neq57 x.tx y.tx x.ix y.ix hl hl2
        have cx33 := B6.cell e33
        have cx34 := B6.cell e34
        have cx35 := B6.cell e35
        have cy33 := B7.cell k33
        have cy34 := B7.cell k34
        have cy35 := B7.cell k35
        obtain ⟨l1, hl1⟩ : ∃ n, n = x.sc.length := ⟨_, rfl⟩
        obtain ⟨l2, hl22⟩ : ∃ n, n = y.sc.length := ⟨_, rfl⟩
        obtain ⟨m1, hm1'⟩ : ∃ n, n = x.wt.length := ⟨_, rfl⟩
        obtain ⟨m2, hm2'⟩ : ∃ n, n = y.wt.length := ⟨_, rfl⟩
        rw [← hl1] at cx33 K29
        rw [← hl22] at cy33 K29
        rw [← hm1'] at cx35 HWx mwx
        rw [← hm2'] at cy35 HWy
        obtain ⟨px, hpx⟩ : ∃ p, p = prevV x.tx x.ix := ⟨_, rfl⟩
        obtain ⟨py, hpy⟩ : ∃ p, p = prevV y.tx y.ix := ⟨_, rfl⟩
        rw [← hpx] at HRx HIx hq57
        rw [← hpy] at HRy HIy hq57
        obtain ⟨b1, hb1⟩ : ∃ b, b = (decide (x.tx = y.tx) && decide (x.ix = y.ix)) := ⟨_, rfl⟩
        obtain ⟨b3, hb3⟩ : ∃ b, b = decide (x.sc = y.sc) := ⟨_, rfl⟩
        rw [← hb1] at hq57
        rw [← hb3] at K29
        have HF : Hid (x ≠ y → (decide (xs = ys) && decide (os = ps)) = false) := fun h => by have : decide (xs = ys) = false := (by simpa using hne h); rw [this]; rfl
        have HSt := Lib.hid hst
        have Hs6 := Lib.hid hs6
        have HEnd : Hid (∀ wq, SB w1 wq → Below w.heap.size w wq) := fun wq hq => Hb1.out.trans (Below.mono hq Hb1.out.size)
        have Hlx := Lib.hid (⟨hm1', hm2', hb1, hb3⟩ : m1 = x.wt.length ∧ m2 = y.wt.length ∧ b1 = (decide (x.tx = y.tx) && decide (x.ix = y.ix)) ∧ b3 = decide (x.sc = y.sc))
        clear e32 e33 e34 e35 k32 k33 k34 k35 B6 B7 hl1 hl22 hm1' hm2' hpx hpy hb1 hb3 hl hl2 hst hne hs6
        cases b1 with
        | false =>
          have HN : Hid (x ≠ y) := fun e => by have := Hlx.out.2.2.1; rw [e] at this; simp at this
          go_wp2_with (first
            | (with_reducible refine wpList_load_mid rfl 66 (.tmp 57) rfl g6 0 rfl px _ HRx.out Try.underlying66 rfl HIx.out ?_)
            | (with_reducible refine wpList_load_mid rfl 66 (.tmp 59) rfl g7 0 rfl py _ HRy.out Try.underlying66 rfl HIy.out ?_))
          go_ret
          exact ⟨by rw [HF.out HN.out]; rfl, HEnd.out _ Hs6.out⟩
        | true =>
          by_cases hsq : x.sq = y.sq
          · have e2 : ((x.sq : Int) != (y.sq : Int)) = false := by simp [hsq]
            cases b3 with
            | false =>
              have HN : Hid (x ≠ y) := fun e => by have := Hlx.out.2.2.2; rw [e] at this; simp at this
              clear hsq
              go_wp2_with (first
                | (with_reducible refine wpList_load_mid rfl 66 (.tmp 57) rfl g6 0 rfl px _ HRx.out Try.underlying66 rfl HIx.out ?_)
                | (with_reducible refine wpList_load_mid rfl 66 (.tmp 59) rfl g7 0 rfl py _ HRy.out Try.underlying66 rfl HIy.out ?_)
                | (go_at_call 46; (with_reducible refine (K29.out _ Hs6.out).mono ?_); rintro e wz ⟨rfl, rfl⟩; dsimp only))
              go_ret
              exact ⟨by rw [HF.out HN.out]; rfl, HEnd.out _ Hs6.out⟩
            | true =>
              by_cases hm : m1 = m2
              · skip
                have hm2 : m2 = y.wt.length := Hlx.out.2.1
                have Hm2 := Lib.hid hm2
                have Hsq := Lib.hid hsq
                subst hm
                clear hm2 hsq
                go_wp2_with (first
                  | (with_reducible refine wpList_load_mid rfl 66 (.tmp 57) rfl g6 0 rfl px _ HRx.out Try.underlying66 rfl HIx.out ?_)
                  | (with_reducible refine wpList_load_mid rfl 66 (.tmp 59) rfl g7 0 rfl py _ HRy.out Try.underlying66 rfl HIy.out ?_)
                  | (go_at_call 46; (with_reducible refine (K29.out _ Hs6.out).mono ?_); rintro e wz ⟨rfl, rfl⟩; dsimp only))
                have HC6 := Lib.hid (⟨cx35, cy35⟩ : _ ∧ _)
                clear cx33 cx34 cx35 cy33 cy34 cy35 hq57 e2 HRx HRy HIx HIy K29
                go_loopw [8] (fun kv wq => ∃ k : Nat, k ≤ m1 ∧ kv = .int .i64 (k : Int) ∧ x.wt.take k = y.wt.take k ∧ SB w6 wq) (fun kv _ => m1 - (intOf kv).toNat)
                case atStart => exact ⟨0, Nat.zero_le _, rfl, rfl, SB.refl _⟩
                case round =>
                  obtain ⟨k, hk, rfl, hke, hks⟩ := hrel
                  have HKE := Lib.hid hke
                  clear hke
                  have d6 := hks.cell HC6.out.1
                  have d7 := hks.cell HC6.out.2
                  by_cases hkm : k < m1
                  · have hkm' : (k : Int) < (m1 : Int) := by omega
                    obtain ⟨wb, wo, rfl, hwb, t1, ht1, hst1⟩ := ws_side _ _ _ _ _ _ HWx.out k hkm
                    obtain ⟨wb2, wo2, rfl, hwb2, t2, ht2, hst2⟩ := ws_side _ _ _ _ _ _ HWy.out k hkm
                    have hstk := take_eq_succ x.wt y.wt [] k (by rw [← Hlx.out.1]; exact hkm) (by rw [← Hm2.out]; exact hkm) HKE.out
                    have hnek := ne_at x.wt y.wt [] k
                    generalize x.wt.getD k [] = T1 at hst1 hstk hnek
                    generalize y.wt.getD k [] = T2 at hst2 hstk hnek
                    have K29k : Hid (∀ wq, SB w1 wq → Calls Try.prog 46 #[t1, t2] wq fun e w' => e = .returned (.bool (decide (T1 = T2))) ∧ wq = w') := fun wq hq => rsame_any t1 t2 _ _ w1.heap.size wq (hst1.keep hq (Nat.le_refl _)) (hst2.keep hq (Nat.le_refl _))
                    obtain ⟨Ax, lx, cx, rfl⟩ := sl_val hst1
                    obtain ⟨Ay, ly, cy, rfl⟩ := sl_val hst2
                    have h16 : SB w1 wr := Below.trans Hs6.out (hks.mono Hs6.out.size)
                    have ht1' := h16.cell ht1
                    have ht2' := h16.cell ht2
                    go_upto_region 12 with fail
                    generalize hWe : wr.drew = We
                    have s6e : SB w6 We := by rw [← hWe]; exact Below.drew hks
                    have s1e : SB w1 We := by rw [← hWe]; exact Below.drew h16
                    have E2 : Hid (∀ wq, SB We wq → wq.cell? ⟨g6, 35, none⟩ = some (.slice (some ⟨wb, wo, none⟩) m1 cu) ∧ wq.cell? ⟨g7, 35, none⟩ = some (.slice (some ⟨wb2, wo2, none⟩) m1 cv) ∧ wq.cell? ⟨wb, wo + k, none⟩ = some (.slice Ax lx cx) ∧ wq.cell? ⟨wb2, wo2 + k, none⟩ = some (.slice Ay ly cy)) := fun wq hq =>
                      ⟨hq.cell (s6e.cell HC6.out.1), hq.cell (s6e.cell HC6.out.2), hq.cell (s1e.cell ht1), hq.cell (s1e.cell ht2)⟩
                    have HS6e := Lib.hid s6e
                    have HS1e := Lib.hid s1e
                    have HStk := Lib.hid hstk
                    have HNek := Lib.hid hnek
                    clear d6 d7 ht1 ht2 ht1' ht2' hst1 hst2 hstk hnek hks h16 s6e s1e
                    refine wp_calm_any ?_
                    refine wp_region_but (z := 999) (SB We) (by kernel_rfl) ?_
                    rw [hWe]
                    have hS : SB We We := SB.refl We
                    clear hWe
                    refine AnyBut.takeE (i := 0) (v := ?_) rfl (by kernel_rfl) (by kernel_rfl) (by kernel_rfl) (by kernel_rfl) (fun _ _ _ h => h) (Or.inl ⟨by rfl, ?_⟩) hS ?_
                    rotate_left
                    · (intro wq hq; go_simp; try with_reducible rfl)
                    try simp only [Act.put, List.setIfInBounds_toArray, List.set_cons_zero, List.set_cons_succ, List.getElem_toArray, List.getElem_cons_zero, List.getElem_cons_succ]
                    refine AnyBut.takeE (i := 1) (v := .slice (some ⟨wb, wo, none⟩) m1 cu) rfl (by kernel_rfl) (by kernel_rfl) (by kernel_rfl) (by kernel_rfl) (fun _ _ _ h => h) (Or.inl ⟨by rfl, ?_⟩) hS ?_
                    · intro wq hq
                      obtain ⟨dq1, dq2, dq3, dq4⟩ := E2.out wq hq
                      go_simp
                    try simp only [Act.put, List.setIfInBounds_toArray, List.set_cons_zero, List.set_cons_succ, List.getElem_toArray, List.getElem_cons_zero, List.getElem_cons_succ]
                    refine AnyBut.takeE (i := 2) (v := ?_) rfl (by kernel_rfl) (by kernel_rfl) (by kernel_rfl) (by kernel_rfl) (fun _ _ _ h => h) (Or.inl ⟨by rfl, ?_⟩) hS ?_
                    rotate_left
                    · (intro wq hq; go_simp; try with_reducible rfl)
                    try simp only [Act.put, List.setIfInBounds_toArray, List.set_cons_zero, List.set_cons_succ, List.getElem_toArray, List.getElem_cons_zero, List.getElem_cons_succ]
                    refine AnyBut.takeE (i := 3) (v := ?_) rfl (by kernel_rfl) (by kernel_rfl) (by kernel_rfl) (by kernel_rfl) (fun _ _ _ h => h) (Or.inl ⟨by rfl, ?_⟩) hS ?_
                    rotate_left
                    · (intro wq hq; go_simp; try with_reducible rfl)
                    try simp only [Act.put, List.setIfInBounds_toArray, List.set_cons_zero, List.set_cons_succ, List.getElem_toArray, List.getElem_cons_zero, List.getElem_cons_succ]
                    refine AnyBut.takeE (i := 4) (v := .slice Ax lx cx) rfl (by kernel_rfl) (by kernel_rfl) (by kernel_rfl) (by kernel_rfl) (fun _ _ _ h => h) (Or.inl ⟨by rfl, ?_⟩) hS ?_
                    · intro wq hq
                      obtain ⟨dq1, dq2, dq3, dq4⟩ := E2.out wq hq
                      go_simp
                    try simp only [Act.put, List.setIfInBounds_toArray, List.set_cons_zero, List.set_cons_succ, List.getElem_toArray, List.getElem_cons_zero, List.getElem_cons_succ]
                    refine AnyBut.takeE (i := 5) (v := ?_) rfl (by kernel_rfl) (by kernel_rfl) (by kernel_rfl) (by kernel_rfl) (fun _ _ _ h => h) (Or.inl ⟨by rfl, ?_⟩) hS ?_
                    rotate_left
                    · (intro wq hq; go_simp; try with_reducible rfl)
                    try simp only [Act.put, List.setIfInBounds_toArray, List.set_cons_zero, List.set_cons_succ, List.getElem_toArray, List.getElem_cons_zero, List.getElem_cons_succ]
                    refine AnyBut.takeE (i := 6) (v := .slice (some ⟨wb2, wo2, none⟩) m1 cv) rfl (by kernel_rfl) (by kernel_rfl) (by kernel_rfl) (by kernel_rfl) (fun _ _ _ h => h) (Or.inl ⟨by rfl, ?_⟩) hS ?_
                    · intro wq hq
                      obtain ⟨dq1, dq2, dq3, dq4⟩ := E2.out wq hq
                      go_simp
                    try simp only [Act.put, List.setIfInBounds_toArray, List.set_cons_zero, List.set_cons_succ, List.getElem_toArray, List.getElem_cons_zero, List.getElem_cons_succ]
                    refine AnyBut.takeE (i := 7) (v := ?_) rfl (by kernel_rfl) (by kernel_rfl) (by kernel_rfl) (by kernel_rfl) (fun _ _ _ h => h) (Or.inl ⟨by rfl, ?_⟩) hS ?_
                    rotate_left
                    · (intro wq hq; go_simp; try with_reducible rfl)
                    try simp only [Act.put, List.setIfInBounds_toArray, List.set_cons_zero, List.set_cons_succ, List.getElem_toArray, List.getElem_cons_zero, List.getElem_cons_succ]
                    refine AnyBut.takeE (i := 8) (v := ?_) rfl (by kernel_rfl) (by kernel_rfl) (by kernel_rfl) (by kernel_rfl) (fun _ _ _ h => h) (Or.inl ⟨by rfl, ?_⟩) hS ?_
                    rotate_left
                    · (intro wq hq; go_simp; try with_reducible rfl)
                    try simp only [Act.put, List.setIfInBounds_toArray, List.set_cons_zero, List.set_cons_succ, List.getElem_toArray, List.getElem_cons_zero, List.getElem_cons_succ]
                    refine AnyBut.takeE (i := 9) (v := .slice Ay ly cy) rfl (by kernel_rfl) (by kernel_rfl) (by kernel_rfl) (by kernel_rfl) (fun _ _ _ h => h) (Or.inl ⟨by rfl, ?_⟩) hS ?_
                    · intro wq hq
                      obtain ⟨dq1, dq2, dq3, dq4⟩ := E2.out wq hq
                      go_simp
                    try simp only [Act.put, List.setIfInBounds_toArray, List.set_cons_zero, List.set_cons_succ, List.getElem_toArray, List.getElem_cons_zero, List.getElem_cons_succ]
                    by_cases hT : T1 = T2
                    · have HTq := Lib.hid hT
                      clear E2
                      refine AnyBut.gone (i := 10) (by kernel_rfl) rfl (by rfl) (fun K hK => ?_)
                      go_simp
                      (with_reducible refine (K29k.out _ HS1e.out).mono ?_)
                      rintro e wz ⟨rfl, rfl⟩
                      dsimp only
                      rw [show decide (T1 = T2) = true by simpa using hT]; clear hT
                      refine hK _ _ (fun _ => hS) ?_
                      clear hK K
                      try simp only [Act.put, List.setIfInBounds_toArray, List.set_cons_zero, List.set_cons_succ, List.getElem_toArray, List.getElem_cons_zero, List.getElem_cons_succ]
                      refine AnyBut.gone (i := 11) (by kernel_rfl) rfl (by rfl) (fun K hK => ?_)
                      go_simp
                      refine hK _ _ (fun _ => hS) ?_
                      clear hK K
                      refine AnyBut.done (by kernel_rfl) ?_ _
                      dsimp only [Exit.then]
                      go_wp2_with fail
                      go_roundw
                      case rel => exact ⟨k + 1, by omega, by go_num, HStk.out.2 HTq.out, HS6e.out⟩
                      case measure => simp [intOf]; omega
                    · have HTq := Lib.hid hT
                      clear E2
                      refine AnyBut.gone (i := 10) (by kernel_rfl) rfl (by rfl) (fun K hK => ?_)
                      go_simp
                      (with_reducible refine (K29k.out _ HS1e.out).mono ?_)
                      rintro e wz ⟨rfl, rfl⟩
                      dsimp only
                      rw [show decide (T1 = T2) = false by simpa using hT]; clear hT
                      refine hK _ _ (fun _ => hS) ?_
                      clear hK K
                      try simp only [Act.put, List.setIfInBounds_toArray, List.set_cons_zero, List.set_cons_succ, List.getElem_toArray, List.getElem_cons_zero, List.getElem_cons_succ]
                      refine AnyBut.gone (i := 11) (by kernel_rfl) rfl (by rfl) (fun K hK => ?_)
                      go_simp
                      refine hK _ _ (fun _ => hS) ?_
                      clear hK K
                      refine AnyBut.done (by kernel_rfl) ?_ _
                      dsimp only [Exit.then]
                      have HN : Hid (x ≠ y) := fun e => HNek.out HTq.out (by rw [e])
                      go_wp2_with fail
                      go_ret
                      exact ⟨by rw [HF.out HN.out]; rfl, HEnd.out _ HS1e.out⟩
                  · obtain rfl : k = m1 := by omega
                    have hkm' : ¬ (k : Int) < (k : Int) := by omega
                    have HX : Hid (x = y) := show x = y by
                      have h := Hlx.out
                      have hwt := HKE.out
                      rw [List.take_of_length_le (by rw [← h.1]; exact Nat.le_refl _), List.take_of_length_le (by rw [← Hm2.out]; exact Nat.le_refl _)] at hwt
                      have h3 := h.2.2.1
                      have h4 := h.2.2.2
                      simp at h3 h4
                      have h5 := Hsq.out
                      cases x; cases y
                      simp at *
                      exact ⟨h3.1, h3.2, h4, h5, hwt⟩
                    have h16 : SB w1 wr := Below.trans Hs6.out (hks.mono Hs6.out.size)
                    have H16 := Lib.hid h16
                    clear h16 hks
                    go_wp2_with fail
                    go_roundw
                    case rel => exact ⟨i + 1, by omega, by go_num, HSt.out.2 HX.out, H16.out⟩
                    case measure => simp [intOf]; omega
              · have HN : Hid (x ≠ y) := fun e => by have h := Hlx.out; rw [e] at h; omega
                have e3 : ((m1 : Int) != (m2 : Int)) = true := by simp; omega
                clear hsq hm
                go_wp2_with (first
                  | (with_reducible refine wpList_load_mid rfl 66 (.tmp 57) rfl g6 0 rfl px _ HRx.out Try.underlying66 rfl HIx.out ?_)
                  | (with_reducible refine wpList_load_mid rfl 66 (.tmp 59) rfl g7 0 rfl py _ HRy.out Try.underlying66 rfl HIy.out ?_)
                  | (go_at_call 46; (with_reducible refine (K29.out _ Hs6.out).mono ?_); rintro e wz ⟨rfl, rfl⟩; dsimp only))
                go_ret
                exact ⟨by rw [HF.out HN.out]; rfl, HEnd.out _ Hs6.out⟩
          · have e2 : ((x.sq : Int) != (y.sq : Int)) = true := by simp; omega
            have HN : Hid (x ≠ y) := fun e => hsq (by rw [e])
            clear hsq
            go_wp2_with (first
              | (with_reducible refine wpList_load_mid rfl 66 (.tmp 57) rfl g6 0 rfl px _ HRx.out Try.underlying66 rfl HIx.out ?_)
              | (with_reducible refine wpList_load_mid rfl 66 (.tmp 59) rfl g7 0 rfl py _ HRy.out Try.underlying66 rfl HIy.out ?_))
            go_ret
            exact ⟨by rw [HF.out HN.out]; rfl, HEnd.out _ Hs6.out⟩
      · skip
        go_simp
        refine hK _ _ (fun _ => hS1) ?_
        clear hK K
        try simp only [Act.put, List.setIfInBounds_toArray, List.set_cons_zero, List.set_cons_succ, List.getElem_toArray, List.getElem_cons_zero, List.getElem_cons_succ]
        refine AnyBut.gone (i := 11) (by kernel_rfl) rfl (by rfl) (fun K hK => ?_)
        go_simp
        refine hK _ _ (fun _ => hS2) ?_
        clear hK K
        try simp only [Act.put, List.setIfInBounds_toArray, List.set_cons_zero, List.set_cons_succ, List.getElem_toArray, List.getElem_cons_zero, List.getElem_cons_succ]
        refine AnyBut.gone (i := 12) (by kernel_rfl) rfl (by rfl) (fun K hK => ?_)
        refine wp_store_mid 69 (.tmp 6) (.tmp 51) rfl (Wd.heap.size) 0 C.toArray rfl rfl (there_blk bA NC.out) (info_arr IC.out) (all_oneCell_toArray OC.out) ?_
        rw [show C.toArray.toList = C from rfl]
        have hS3 := hS2.setCells (b := Wd.heap.size) (by omega) C 0
        have b6 := Blk.setCells bA C (by rw [NC.out]; rfl)
        have b7 := Blk.other_setCells (b' := Wd.heap.size) (b := Wd.heap.size + 1) (by omega) C 0 _ bB
        refine hK _ _ (fun _ => hS3) ?_
        clear hK K
        try simp only [Act.put, List.setIfInBounds_toArray, List.set_cons_zero, List.set_cons_succ, List.getElem_toArray, List.getElem_cons_zero, List.getElem_cons_succ]
        refine AnyBut.gone (i := 13) (by kernel_rfl) rfl (by rfl) (fun K hK => ?_)
        refine wp_store_mid 69 (.tmp 7) (.tmp 56) rfl (Wd.heap.size + 1) 0 D.toArray rfl rfl (there_blk b7 ND.out) (info_arr ID.out) (all_oneCell_toArray OD.out) ?_
        rw [show D.toArray.toList = D from rfl]
        have hS4 := hS3.setCells (b := Wd.heap.size + 1) (by omega) D 0
        have B7 := Blk.setCells b7 D (by rw [ND.out]; rfl)
        have B6 := Blk.other_setCells (b' := Wd.heap.size + 1) (b := Wd.heap.size) (by omega) D 0 _ b6
        refine hK _ _ (fun _ => hS4) ?_
        clear hK K
        try simp only [Act.put, List.setIfInBounds_toArray, List.set_cons_zero, List.set_cons_succ, List.getElem_toArray, List.getElem_cons_zero, List.getElem_cons_succ]
        refine AnyBut.done (by kernel_rfl) ?_ _
        dsimp only [Exit.then]
        generalize (((Wd.alloc (.cells Z36.toArray 69)).alloc (.cells Z36.toArray 69)).setCells (Wd.heap.size) 0 C).setCells (Wd.heap.size + 1) 0 D = w6 at hS4 B6 B7 ⊢
        clear hS3 b6 b7 hS hS1 hS2 bA bB
        generalize Wd.heap.size + 1 = g7 at B6 B7 ⊢
        generalize Wd.heap.size = g6 at B6 B7 ⊢
        have hs6 : SB w1 w6 := Below.trans Hsd.out (hS4.mono Hsd.out.size)
        have hst := take_eq_succ xs ys In0 i (by rw [← HE.out.1]; exact hlt) (by rw [← HE.out.2.2.1]; exact hlt) HE1.out
        have hne := ne_at xs ys In0 i
        have ok1 := OK1.out
        have ok2 := OK2.out
        rw [HC.out] at B6
        rw [HD.out] at B7
        clear HC HD OK1 OK2 RX RY NC ND IC ID OC OD HZl hz E1 hS4 Hsd HE1
        generalize xs.getD i In0 = x at hst hne ok1 B6
        generalize ys.getD i In0 = y at hst hne ok2 B7
        obtain ⟨hsx, hux, hl, _, _⟩ := ok1
        obtain ⟨hsy, huy, hl2, _, _⟩ := ok2
        obtain ⟨e32, e33, e34, e35⟩ := inV_at (x := x) (s := s1) (v := u1) hl
        obtain ⟨k32, k33, k34, k35⟩ := inV_at (x := y) (s := s2) (v := u2) hl2
        have K29 : Hid (∀ wq, SB w1 wq → Calls Try.prog 46 #[s1, s2] wq fun e w' => e = .returned (.bool (decide (x.sc = y.sc))) ∧ wq = w') := fun wq hq => rsame_any s1 s2 _ _ w1.heap.size wq (hsx.keep hq (Nat.le_refl _)) (hsy.keep hq (Nat.le_refl _))
        have HWx := Lib.hid hux
        have HWy := Lib.hid huy
        have mwx : x.wt.length ≤ 9223372036854775807 := by obtain ⟨_, _, e, h3, h4, _⟩ := hux; omega
        obtain ⟨As, cs, rfl, _⟩ := hsx
        obtain ⟨At, ct, rfl, _⟩ := hsy
        obtain ⟨Au, cu, rfl, _⟩ := hux
        obtain ⟨Av, cv, rfl, _⟩ := huy
        have HRx := Lib.hid B6.prev
        have HRy := Lib.hid B7.prev
        have HIx := Lib.hid (info57 (a := x.ix) hl)
        have HIy := Lib.hid (info57 (a := y.ix) hl2)
        have hq57 := neq57 x.tx y.tx x.ix y.ix hl hl2
        have cx33 := B6.cell e33
        have cx34 := B6.cell e34
        have cx35 := B6.cell e35
        have cy33 := B7.cell k33
        have cy34 := B7.cell k34
        have cy35 := B7.cell k35
        obtain ⟨l1, hl1⟩ : ∃ n, n = x.sc.length := ⟨_, rfl⟩
        obtain ⟨l2, hl22⟩ : ∃ n, n = y.sc.length := ⟨_, rfl⟩
        obtain ⟨m1, hm1'⟩ : ∃ n, n = x.wt.length := ⟨_, rfl⟩
        obtain ⟨m2, hm2'⟩ : ∃ n, n = y.wt.length := ⟨_, rfl⟩
        rw [← hl1] at cx33 K29
        rw [← hl22] at cy33 K29
        rw [← hm1'] at cx35 HWx mwx
        rw [← hm2'] at cy35 HWy
        obtain ⟨px, hpx⟩ : ∃ p, p = prevV x.tx x.ix := ⟨_, rfl⟩
        obtain ⟨py, hpy⟩ : ∃ p, p = prevV y.tx y.ix := ⟨_, rfl⟩
        rw [← hpx] at HRx HIx hq57
        rw [← hpy] at HRy HIy hq57
        obtain ⟨b1, hb1⟩ : ∃ b, b = (decide (x.tx = y.tx) && decide (x.ix = y.ix)) := ⟨_, rfl⟩
        obtain ⟨b3, hb3⟩ : ∃ b, b = decide (x.sc = y.sc) := ⟨_, rfl⟩
        rw [← hb1] at hq57
        rw [← hb3] at K29
        have HF : Hid (x ≠ y → (decide (xs = ys) && decide (os = ps)) = false) := fun h => by have : decide (xs = ys) = false := (by simpa using hne h); rw [this]; rfl
        have HSt := Lib.hid hst
        have Hs6 := Lib.hid hs6
        have HEnd : Hid (∀ wq, SB w1 wq → Below w.heap.size w wq) := fun wq hq => Hb1.out.trans (Below.mono hq Hb1.out.size)
        have Hlx := Lib.hid (⟨hm1', hm2', hb1, hb3⟩ : m1 = x.wt.length ∧ m2 = y.wt.length ∧ b1 = (decide (x.tx = y.tx) && decide (x.ix = y.ix)) ∧ b3 = decide (x.sc = y.sc))
        clear e32 e33 e34 e35 k32 k33 k34 k35 B6 B7 hl1 hl22 hm1' hm2' hpx hpy hb1 hb3 hl hl2 hst hne hs6
        cases b1 with
        | false =>
          have HN : Hid (x ≠ y) := fun e => by have := Hlx.out.2.2.1; rw [e] at this; simp at this
          go_wp2_with (first
            | (with_reducible refine wpList_load_mid rfl 66 (.tmp 57) rfl g6 0 rfl px _ HRx.out Try.underlying66 rfl HIx.out ?_)
            | (with_reducible refine wpList_load_mid rfl 66 (.tmp 59) rfl g7 0 rfl py _ HRy.out Try.underlying66 rfl HIy.out ?_))
          go_ret
          exact ⟨by rw [HF.out HN.out]; rfl, HEnd.out _ Hs6.out⟩
        | true =>
          by_cases hsq : x.sq = y.sq
          · have e2 : ((x.sq : Int) != (y.sq : Int)) = false := by simp [hsq]
            cases b3 with
            | false =>
              have HN : Hid (x ≠ y) := fun e => by have := Hlx.out.2.2.2; rw [e] at this; simp at this
              clear hsq
              go_wp2_with (first
                | (with_reducible refine wpList_load_mid rfl 66 (.tmp 57) rfl g6 0 rfl px _ HRx.out Try.underlying66 rfl HIx.out ?_)
                | (with_reducible refine wpList_load_mid rfl 66 (.tmp 59) rfl g7 0 rfl py _ HRy.out Try.underlying66 rfl HIy.out ?_)
                | (go_at_call 46; (with_reducible refine (K29.out _ Hs6.out).mono ?_); rintro e wz ⟨rfl, rfl⟩; dsimp only))
              go_ret
              exact ⟨by rw [HF.out HN.out]; rfl, HEnd.out _ Hs6.out⟩
            | true =>
              by_cases hm : m1 = m2
              · skip
                have hm2 : m2 = y.wt.length := Hlx.out.2.1
                have Hm2 := Lib.hid hm2
                have Hsq := Lib.hid hsq
                subst hm
                clear hm2 hsq
                go_wp2_with (first
                  | (with_reducible refine wpList_load_mid rfl 66 (.tmp 57) rfl g6 0 rfl px _ HRx.out Try.underlying66 rfl HIx.out ?_)
                  | (with_reducible refine wpList_load_mid rfl 66 (.tmp 59) rfl g7 0 rfl py _ HRy.out Try.underlying66 rfl HIy.out ?_)
                  | (go_at_call 46; (with_reducible refine (K29.out _ Hs6.out).mono ?_); rintro e wz ⟨rfl, rfl⟩; dsimp only))
                have HC6 := Lib.hid (⟨cx35, cy35⟩ : _ ∧ _)
                clear cx33 cx34 cx35 cy33 cy34 cy35 hq57 e2 HRx HRy HIx HIy K29
                go_loopw [8] (fun kv wq => ∃ k : Nat, k ≤ m1 ∧ kv = .int .i64 (k : Int) ∧ x.wt.take k = y.wt.take k ∧ SB w6 wq) (fun kv _ => m1 - (intOf kv).toNat)
                case atStart => exact ⟨0, Nat.zero_le _, rfl, rfl, SB.refl _⟩
                case round =>
                  obtain ⟨k, hk, rfl, hke, hks⟩ := hrel
                  have HKE := Lib.hid hke
                  clear hke
                  have d6 := hks.cell HC6.out.1
                  have d7 := hks.cell HC6.out.2
                  by_cases hkm : k < m1
                  · have hkm' : (k : Int) < (m1 : Int) := by omega
                    obtain ⟨wb, wo, rfl, hwb, t1, ht1, hst1⟩ := ws_side _ _ _ _ _ _ HWx.out k hkm
                    obtain ⟨wb2, wo2, rfl, hwb2, t2, ht2, hst2⟩ := ws_side _ _ _ _ _ _ HWy.out k hkm
                    have hstk := take_eq_succ x.wt y.wt [] k (by rw [← Hlx.out.1]; exact hkm) (by rw [← Hm2.out]; exact hkm) HKE.out
                    have hnek := ne_at x.wt y.wt [] k
                    generalize x.wt.getD k [] = T1 at hst1 hstk hnek
                    generalize y.wt.getD k [] = T2 at hst2 hstk hnek
                    have K29k : Hid (∀ wq, SB w1 wq → Calls Try.prog 46 #[t1, t2] wq fun e w' => e = .returned (.bool (decide (T1 = T2))) ∧ wq = w') := fun wq hq => rsame_any t1 t2 _ _ w1.heap.size wq (hst1.keep hq (Nat.le_refl _)) (hst2.keep hq (Nat.le_refl _))
                    obtain ⟨Ax, lx, cx, rfl⟩ := sl_val hst1
                    obtain ⟨Ay, ly, cy, rfl⟩ := sl_val hst2
                    have h16 : SB w1 wr := Below.trans Hs6.out (hks.mono Hs6.out.size)
                    have ht1' := h16.cell ht1
                    have ht2' := h16.cell ht2
                    go_upto_region 12 with fail
                    generalize hWe : wr.drew = We
                    have s6e : SB w6 We := by rw [← hWe]; exact Below.drew hks
                    have s1e : SB w1 We := by rw [← hWe]; exact Below.drew h16
                    have E2 : Hid (∀ wq, SB We wq → wq.cell? ⟨g6, 35, none⟩ = some (.slice (some ⟨wb, wo, none⟩) m1 cu) ∧ wq.cell? ⟨g7, 35, none⟩ = some (.slice (some ⟨wb2, wo2, none⟩) m1 cv) ∧ wq.cell? ⟨wb, wo + k, none⟩ = some (.slice Ax lx cx) ∧ wq.cell? ⟨wb2, wo2 + k, none⟩ = some (.slice Ay ly cy)) := fun wq hq =>
                      ⟨hq.cell (s6e.cell HC6.out.1), hq.cell (s6e.cell HC6.out.2), hq.cell (s1e.cell ht1), hq.cell (s1e.cell ht2)⟩
                    have HS6e := Lib.hid s6e
                    have HS1e := Lib.hid s1e
                    have HStk := Lib.hid hstk
                    have HNek := Lib.hid hnek
                    clear d6 d7 ht1 ht2 ht1' ht2' hst1 hst2 hstk hnek hks h16 s6e s1e
                    refine wp_calm_any ?_
                    refine wp_region_but (z := 999) (SB We) (by kernel_rfl) ?_
                    rw [hWe]
                    have hS : SB We We := SB.refl We
                    clear hWe
                    refine AnyBut.takeE (i := 0) (v := ?_) rfl (by kernel_rfl) (by kernel_rfl) (by kernel_rfl) (by kernel_rfl) (fun _ _ _ h => h) (Or.inl ⟨by rfl, ?_⟩) hS ?_
                    rotate_left
                    · (intro wq hq; go_simp; try with_reducible rfl)
                    try simp only [Act.put, List.setIfInBounds_toArray, List.set_cons_zero, List.set_cons_succ, List.getElem_toArray, List.getElem_cons_zero, List.getElem_cons_succ]
                    refine AnyBut.takeE (i := 1) (v := .slice (some ⟨wb, wo, none⟩) m1 cu) rfl (by kernel_rfl) (by kernel_rfl) (by kernel_rfl) (by kernel_rfl) (fun _ _ _ h => h) (Or.inl ⟨by rfl, ?_⟩) hS ?_
                    · intro wq hq
                      obtain ⟨dq1, dq2, dq3, dq4⟩ := E2.out wq hq
                      go_simp
                    try simp only [Act.put, List.setIfInBounds_toArray, List.set_cons_zero, List.set_cons_succ, List.getElem_toArray, List.getElem_cons_zero, List.getElem_cons_succ]
                    refine AnyBut.takeE (i := 2) (v := ?_) rfl (by kernel_rfl) (by kernel_rfl) (by kernel_rfl) (by kernel_rfl) (fun _ _ _ h => h) (Or.inl ⟨by rfl, ?_⟩) hS ?_
                    rotate_left
                    · (intro wq hq; go_simp; try with_reducible rfl)
                    try simp only [Act.put, List.setIfInBounds_toArray, List.set_cons_zero, List.set_cons_succ, List.getElem_toArray, List.getElem_cons_zero, List.getElem_cons_succ]
                    refine AnyBut.takeE (i := 3) (v := ?_) rfl (by kernel_rfl) (by kernel_rfl) (by kernel_rfl) (by kernel_rfl) (fun _ _ _ h => h) (Or.inl ⟨by rfl, ?_⟩) hS ?_
                    rotate_left
                    · (intro wq hq; go_simp; try with_reducible rfl)
                    try simp only [Act.put, List.setIfInBounds_toArray, List.set_cons_zero, List.set_cons_succ, List.getElem_toArray, List.getElem_cons_zero, List.getElem_cons_succ]
                    refine AnyBut.takeE (i := 4) (v := .slice Ax lx cx) rfl (by kernel_rfl) (by kernel_rfl) (by kernel_rfl) (by kernel_rfl) (fun _ _ _ h => h) (Or.inl ⟨by rfl, ?_⟩) hS ?_
                    · intro wq hq
                      obtain ⟨dq1, dq2, dq3, dq4⟩ := E2.out wq hq
                      go_simp
                    try simp only [Act.put, List.setIfInBounds_toArray, List.set_cons_zero, List.set_cons_succ, List.getElem_toArray, List.getElem_cons_zero, List.getElem_cons_succ]
                    refine AnyBut.takeE (i := 5) (v := ?_) rfl (by kernel_rfl) (by kernel_rfl) (by kernel_rfl) (by kernel_rfl) (fun _ _ _ h => h) (Or.inl ⟨by rfl, ?_⟩) hS ?_
                    rotate_left
                    · (intro wq hq; go_simp; try with_reducible rfl)
                    try simp only [Act.put, List.setIfInBounds_toArray, List.set_cons_zero, List.set_cons_succ, List.getElem_toArray, List.getElem_cons_zero, List.getElem_cons_succ]
                    refine AnyBut.takeE (i := 6) (v := .slice (some ⟨wb2, wo2, none⟩) m1 cv) rfl (by kernel_rfl) (by kernel_rfl) (by kernel_rfl) (by kernel_rfl) (fun _ _ _ h => h) (Or.inl ⟨by rfl, ?_⟩) hS ?_
                    · intro wq hq
                      obtain ⟨dq1, dq2, dq3, dq4⟩ := E2.out wq hq
                      go_simp
                    try simp only [Act.put, List.setIfInBounds_toArray, List.set_cons_zero, List.set_cons_succ, List.getElem_toArray, List.getElem_cons_zero, List.getElem_cons_succ]
                    refine AnyBut.takeE (i := 7) (v := ?_) rfl (by kernel_rfl) (by kernel_rfl) (by kernel_rfl) (by kernel_rfl) (fun _ _ _ h => h) (Or.inl ⟨by rfl, ?_⟩) hS ?_
                    rotate_left
                    · (intro wq hq; go_simp; try with_reducible rfl)
                    try simp only [Act.put, List.setIfInBounds_toArray, List.set_cons_zero, List.set_cons_succ, List.getElem_toArray, List.getElem_cons_zero, List.getElem_cons_succ]
                    refine AnyBut.takeE (i := 8) (v := ?_) rfl (by kernel_rfl) (by kernel_rfl) (by kernel_rfl) (by kernel_rfl) (fun _ _ _ h => h) (Or.inl ⟨by rfl, ?_⟩) hS ?_
                    rotate_left
                    · (intro wq hq; go_simp; try with_reducible rfl)
                    try simp only [Act.put, List.setIfInBounds_toArray, List.set_cons_zero, List.set_cons_succ, List.getElem_toArray, List.getElem_cons_zero, List.getElem_cons_succ]
                    refine AnyBut.takeE (i := 9) (v := .slice Ay ly cy) rfl (by kernel_rfl) (by kernel_rfl) (by kernel_rfl) (by kernel_rfl) (fun _ _ _ h => h) (Or.inl ⟨by rfl, ?_⟩) hS ?_
                    · intro wq hq
                      obtain ⟨dq1, dq2, dq3, dq4⟩ := E2.out wq hq
                      go_simp
                    try simp only [Act.put, List.setIfInBounds_toArray, List.set_cons_zero, List.set_cons_succ, List.getElem_toArray, List.getElem_cons_zero, List.getElem_cons_succ]
                    by_cases hT : T1 = T2
                    · have HTq := Lib.hid hT
                      clear E2
                      refine AnyBut.gone (i := 10) (by kernel_rfl) rfl (by rfl) (fun K hK => ?_)
                      go_simp
                      (with_reducible refine (K29k.out _ HS1e.out).mono ?_)
                      rintro e wz ⟨rfl, rfl⟩
                      dsimp only
                      rw [show decide (T1 = T2) = true by simpa using hT]; clear hT
                      refine hK _ _ (fun _ => hS) ?_
                      clear hK K
                      try simp only [Act.put, List.setIfInBounds_toArray, List.set_cons_zero, List.set_cons_succ, List.getElem_toArray, List.getElem_cons_zero, List.getElem_cons_succ]
                      refine AnyBut.gone (i := 11) (by kernel_rfl) rfl (by rfl) (fun K hK => ?_)
                      go_simp
                      refine hK _ _ (fun _ => hS) ?_
                      clear hK K
                      refine AnyBut.done (by kernel_rfl) ?_ _
                      dsimp only [Exit.then]
                      go_wp2_with fail
                      go_roundw
                      case rel => exact ⟨k + 1, by omega, by go_num, HStk.out.2 HTq.out, HS6e.out⟩
                      case measure => simp [intOf]; omega
                    · have HTq := Lib.hid hT
                      clear E2
                      refine AnyBut.gone (i := 10) (by kernel_rfl) rfl (by rfl) (fun K hK => ?_)
                      go_simp
                      (with_reducible refine (K29k.out _ HS1e.out).mono ?_)
                      rintro e wz ⟨rfl, rfl⟩
                      dsimp only
                      rw [show decide (T1 = T2) = false by simpa using hT]; clear hT
                      refine hK _ _ (fun _ => hS) ?_
                      clear hK K
                      try simp only [Act.put, List.setIfInBounds_toArray, List.set_cons_zero, List.set_cons_succ, List.getElem_toArray, List.getElem_cons_zero, List.getElem_cons_succ]
                      refine AnyBut.gone (i := 11) (by kernel_rfl) rfl (by rfl) (fun K hK => ?_)
                      go_simp
                      refine hK _ _ (fun _ => hS) ?_
                      clear hK K
                      refine AnyBut.done (by kernel_rfl) ?_ _
                      dsimp only [Exit.then]
                      have HN : Hid (x ≠ y) := fun e => HNek.out HTq.out (by rw [e])
                      go_wp2_with fail
                      go_ret
                      exact ⟨by rw [HF.out HN.out]; rfl, HEnd.out _ HS1e.out⟩
                  · obtain rfl : k = m1 := by omega
                    have hkm' : ¬ (k : Int) < (k : Int) := by omega
                    have HX : Hid (x = y) := show x = y by
                      have h := Hlx.out
                      have hwt := HKE.out
                      rw [List.take_of_length_le (by rw [← h.1]; exact Nat.le_refl _), List.take_of_length_le (by rw [← Hm2.out]; exact Nat.le_refl _)] at hwt
                      have h3 := h.2.2.1
                      have h4 := h.2.2.2
                      simp at h3 h4
                      have h5 := Hsq.out
                      cases x; cases y
                      simp at *
                      exact ⟨h3.1, h3.2, h4, h5, hwt⟩
                    have h16 : SB w1 wr := Below.trans Hs6.out (hks.mono Hs6.out.size)
                    have H16 := Lib.hid h16
                    clear h16 hks
                    go_wp2_with fail
                    go_roundw
                    case rel => exact ⟨i + 1, by omega, by go_num, HSt.out.2 HX.out, H16.out⟩
                    case measure => simp [intOf]; omega
              · have HN : Hid (x ≠ y) := fun e => by have h := Hlx.out; rw [e] at h; omega
                have e3 : ((m1 : Int) != (m2 : Int)) = true := by simp; omega
                clear hsq hm
                go_wp2_with (first
                  | (with_reducible refine wpList_load_mid rfl 66 (.tmp 57) rfl g6 0 rfl px _ HRx.out Try.underlying66 rfl HIx.out ?_)
                  | (with_reducible refine wpList_load_mid rfl 66 (.tmp 59) rfl g7 0 rfl py _ HRy.out Try.underlying66 rfl HIy.out ?_)
                  | (go_at_call 46; (with_reducible refine (K29.out _ Hs6.out).mono ?_); rintro e wz ⟨rfl, rfl⟩; dsimp only))
                go_ret
                exact ⟨by rw [HF.out HN.out]; rfl, HEnd.out _ Hs6.out⟩
          · have e2 : ((x.sq : Int) != (y.sq : Int)) = true := by simp; omega
            have HN : Hid (x ≠ y) := fun e => hsq (by rw [e])
            clear hsq
            go_wp2_with (first
              | (with_reducible refine wpList_load_mid rfl 66 (.tmp 57) rfl g6 0 rfl px _ HRx.out Try.underlying66 rfl HIx.out ?_)
              | (with_reducible refine wpList_load_mid rfl 66 (.tmp 59) rfl g7 0 rfl py _ HRy.out Try.underlying66 rfl HIy.out ?_))
            go_ret
            exact ⟨by rw [HF.out HN.out]; rfl, HEnd.out _ Hs6.out⟩
    · obtain rfl : i = n1 := by omega
      have hlt' : ¬ (i : Int) < (i : Int) := by omega
      have HXY : Hid (xs = ys) := show xs = ys by
        have h := HE.out
        have e := HE1.out
        rw [List.take_of_length_le (by rw [← h.1]; exact Nat.le_refl _), List.take_of_length_le (by rw [← h.2.2.1]; exact Nat.le_refl _)] at e
        exact e
      have HEnd : Hid (∀ wq, SB w1 wq → Below w.heap.size w wq) := fun wq hq => Hb1.out.trans (Below.mono hq Hb1.out.size)
      have hT := HT.out wr hs
      obtain ⟨t1, t2, t3, t4⟩ := hT
      have Hs := Lib.hid hs
      clear t2 t3 t4 hs
      go_wp2_with fail
      clear t1
      go_loopw [9] (fun jv wq => ∃ j : Nat, j ≤ n2 ∧ jv = .int .i64 (j : Int) ∧ os.take j = ps.take j ∧ SB w1 wq) (fun jv _ => n2 - (intOf jv).toNat)
      case atStart => exact ⟨0, Nat.zero_le _, rfl, rfl, Hs.out⟩
      case round =>
        obtain ⟨j, hj, rfl, hje, hsj⟩ := hrel
        have HJE := Lib.hid hje
        clear hje
        have hT := HT.out wr hsj
        obtain ⟨t1, t2, t3, t4⟩ := hT
        clear t1 t3 t4
        by_cases hjn : j < n2
        · have hjn' : (j : Int) < (n2 : Int) := by omega
          obtain ⟨b, o, rfl, hbl, s1, cu, ok1⟩ := os_side _ _ _ _ _ _ H2.out j hjn
          obtain ⟨b2, o2, rfl, hbl2, s2, cu2, ok2⟩ := os_side _ _ _ _ _ _ H4.out j hjn
          have hst := take_eq_succ os ps Out0 j (by rw [← HE.out.2.1]; exact hjn) (by rw [← HE.out.2.2.2]; exact hjn) HJE.out
          have hne := ne_at os ps Out0 j
          generalize os.getD j Out0 = x at hst hne cu ok1
          generalize ps.getD j Out0 = y at hst hne cu2 ok2
          have K29 : Hid (∀ wq, SB w1 wq → Calls Try.prog 46 #[s1, s2] wq fun e w' => e = .returned (.bool (decide (x.sc = y.sc))) ∧ wq = w') := fun wq hq => rsame_any s1 s2 _ _ w1.heap.size wq (ok1.1.keep hq (Nat.le_refl _)) (ok2.1.keep hq (Nat.le_refl _))
          obtain ⟨Ax, lx, cx, rfl⟩ := sl_val ok1.1
          obtain ⟨Ay, ly, cy, rfl⟩ := sl_val ok2.1
          have x0 := cu 0 _ rfl
          have x1 := cu 1 _ rfl
          have y0 := cu2 0 _ rfl
          have y1 := cu2 1 _ rfl
          rw [Nat.add_zero] at x0 y0
          go_upto_region 17 with fail
          generalize hWe : wr.drew = We
          have s1e : SB w1 We := by rw [← hWe]; exact Below.drew hsj
          have E2 : Hid (∀ wq, SB We wq → wq.cell? ⟨tA, 2, none⟩ = some (.slice (some ⟨b, o, none⟩) n2 c2) ∧ wq.cell? ⟨tB, 2, none⟩ = some (.slice (some ⟨b2, o2, none⟩) n2 c4) ∧ wq.cell? ⟨b, o + j * 2, none⟩ = some (.int .i64 x.vl) ∧ wq.cell? ⟨b2, o2 + j * 2, none⟩ = some (.int .i64 y.vl) ∧ wq.cell? ⟨b, o + j * 2 + 1, none⟩ = some (.slice Ax lx cx) ∧ wq.cell? ⟨b2, o2 + j * 2 + 1, none⟩ = some (.slice Ay ly cy)) := fun wq hq => by
            obtain ⟨_, d2, _, d4⟩ := HT.out We s1e
            exact ⟨hq.cell d2, hq.cell d4, hq.cell (s1e.cell x0), hq.cell (s1e.cell y0), hq.cell (s1e.cell x1), hq.cell (s1e.cell y1)⟩
          have HS1e := Lib.hid s1e
          have HSt := Lib.hid hst
          have HNe := Lib.hid hne
          obtain ⟨vx, hvx⟩ : ∃ v, v = x.vl := ⟨_, rfl⟩
          obtain ⟨vy, hvy⟩ : ∃ v, v = y.vl := ⟨_, rfl⟩
          rw [← hvx, ← hvy] at E2
          have HV := Lib.hid (⟨hvx, hvy⟩ : vx = x.vl ∧ vy = y.vl)
          clear cu cu2 x0 x1 y0 y1 hst hne s1e hsj t2 hvx hvy ok1 ok2
          refine wp_calm_any ?_
          refine wp_region_but (z := 999) (SB We) (by kernel_rfl) ?_
          rw [hWe]
          have hS : SB We We := SB.refl We
          clear hWe
          refine AnyBut.takeE (i := 0) (v := ?_) rfl (by kernel_rfl) (by kernel_rfl) (by kernel_rfl) (by kernel_rfl) (fun _ _ _ h => h) (Or.inl ⟨by rfl, ?_⟩) hS ?_
          rotate_left
          · (intro wq hq; go_simp; try with_reducible rfl)
          try simp only [Act.put, List.setIfInBounds_toArray, List.set_cons_zero, List.set_cons_succ, List.getElem_toArray, List.getElem_cons_zero, List.getElem_cons_succ]
          refine AnyBut.takeE (i := 1) (v := .slice (some ⟨b, o, none⟩) n2 c2) rfl (by kernel_rfl) (by kernel_rfl) (by kernel_rfl) (by kernel_rfl) (fun _ _ _ h => h) (Or.inl ⟨by rfl, ?_⟩) hS ?_
          · intro wq hq
            obtain ⟨dq1, dq2, dq3, dq4, dq5, dq6⟩ := E2.out wq hq
            go_simp
          try simp only [Act.put, List.setIfInBounds_toArray, List.set_cons_zero, List.set_cons_succ, List.getElem_toArray, List.getElem_cons_zero, List.getElem_cons_succ]
          refine AnyBut.takeE (i := 2) (v := ?_) rfl (by kernel_rfl) (by kernel_rfl) (by kernel_rfl) (by kernel_rfl) (fun _ _ _ h => h) (Or.inl ⟨by rfl, ?_⟩) hS ?_
          rotate_left
          · (intro wq hq; go_simp; try with_reducible rfl)
          try simp only [Act.put, List.setIfInBounds_toArray, List.set_cons_zero, List.set_cons_succ, List.getElem_toArray, List.getElem_cons_zero, List.getElem_cons_succ]
          refine AnyBut.takeE (i := 3) (v := ?_) rfl (by kernel_rfl) (by kernel_rfl) (by kernel_rfl) (by kernel_rfl) (fun _ _ _ h => h) (Or.inl ⟨by rfl, ?_⟩) hS ?_
          rotate_left
          · (intro wq hq; go_simp; try with_reducible rfl)
          try simp only [Act.put, List.setIfInBounds_toArray, List.set_cons_zero, List.set_cons_succ, List.getElem_toArray, List.getElem_cons_zero, List.getElem_cons_succ]
          refine AnyBut.takeE (i := 4) (v := ?_) rfl (by kernel_rfl) (by kernel_rfl) (by kernel_rfl) (by kernel_rfl) (fun _ _ _ h => h) (Or.inl ⟨by rfl, ?_⟩) hS ?_
          rotate_left
          · (intro wq hq; go_simp; try with_reducible rfl)
          try simp only [Act.put, List.setIfInBounds_toArray, List.set_cons_zero, List.set_cons_succ, List.getElem_toArray, List.getElem_cons_zero, List.getElem_cons_succ]
          refine AnyBut.takeE (i := 5) (v := .int .i64 vx) rfl (by kernel_rfl) (by kernel_rfl) (by kernel_rfl) (by kernel_rfl) (fun _ _ _ h => h) (Or.inl ⟨by rfl, ?_⟩) hS ?_
          · intro wq hq
            obtain ⟨dq1, dq2, dq3, dq4, dq5, dq6⟩ := E2.out wq hq
            go_simp
          try simp only [Act.put, List.setIfInBounds_toArray, List.set_cons_zero, List.set_cons_succ, List.getElem_toArray, List.getElem_cons_zero, List.getElem_cons_succ]
          refine AnyBut.takeE (i := 6) (v := ?_) rfl (by kernel_rfl) (by kernel_rfl) (by kernel_rfl) (by kernel_rfl) (fun _ _ _ h => h) (Or.inl ⟨by rfl, ?_⟩) hS ?_
          rotate_left
          · (intro wq hq; go_simp; try with_reducible rfl)
          try simp only [Act.put, List.setIfInBounds_toArray, List.set_cons_zero, List.set_cons_succ, List.getElem_toArray, List.getElem_cons_zero, List.getElem_cons_succ]
          refine AnyBut.takeE (i := 7) (v := .slice (some ⟨b2, o2, none⟩) n2 c4) rfl (by kernel_rfl) (by kernel_rfl) (by kernel_rfl) (by kernel_rfl) (fun _ _ _ h => h) (Or.inl ⟨by rfl, ?_⟩) hS ?_
          · intro wq hq
            obtain ⟨dq1, dq2, dq3, dq4, dq5, dq6⟩ := E2.out wq hq
            go_simp
          try simp only [Act.put, List.setIfInBounds_toArray, List.set_cons_zero, List.set_cons_succ, List.getElem_toArray, List.getElem_cons_zero, List.getElem_cons_succ]
          refine AnyBut.takeE (i := 8) (v := ?_) rfl (by kernel_rfl) (by kernel_rfl) (by kernel_rfl) (by kernel_rfl) (fun _ _ _ h => h) (Or.inl ⟨by rfl, ?_⟩) hS ?_
          rotate_left
          · (intro wq hq; go_simp; try with_reducible rfl)
          try simp only [Act.put, List.setIfInBounds_toArray, List.set_cons_zero, List.set_cons_succ, List.getElem_toArray, List.getElem_cons_zero, List.getElem_cons_succ]
          refine AnyBut.takeE (i := 9) (v := ?_) rfl (by kernel_rfl) (by kernel_rfl) (by kernel_rfl) (by kernel_rfl) (fun _ _ _ h => h) (Or.inl ⟨by rfl, ?_⟩) hS ?_
          rotate_left
          · (intro wq hq; go_simp; try with_reducible rfl)
          try simp only [Act.put, List.setIfInBounds_toArray, List.set_cons_zero, List.set_cons_succ, List.getElem_toArray, List.getElem_cons_zero, List.getElem_cons_succ]
          refine AnyBut.takeE (i := 10) (v := ?_) rfl (by kernel_rfl) (by kernel_rfl) (by kernel_rfl) (by kernel_rfl) (fun _ _ _ h => h) (Or.inl ⟨by rfl, ?_⟩) hS ?_
          rotate_left
          · (intro wq hq; go_simp; try with_reducible rfl)
          try simp only [Act.put, List.setIfInBounds_toArray, List.set_cons_zero, List.set_cons_succ, List.getElem_toArray, List.getElem_cons_zero, List.getElem_cons_succ]
          refine AnyBut.takeE (i := 11) (v := .int .i64 vy) rfl (by kernel_rfl) (by kernel_rfl) (by kernel_rfl) (by kernel_rfl) (fun _ _ _ h => h) (Or.inl ⟨by rfl, ?_⟩) hS ?_
          · intro wq hq
            obtain ⟨dq1, dq2, dq3, dq4, dq5, dq6⟩ := E2.out wq hq
            go_simp
          try simp only [Act.put, List.setIfInBounds_toArray, List.set_cons_zero, List.set_cons_succ, List.getElem_toArray, List.getElem_cons_zero, List.getElem_cons_succ]
          by_cases hV : vx = vy
          · have e1 : (vx != vy) = false := by simp [hV]
            have HVe := Lib.hid hV
            clear hV
            refine AnyBut.takeE (i := 12) (v := ?_) rfl (by kernel_rfl) (by kernel_rfl) (by kernel_rfl) (by kernel_rfl) (fun _ _ _ h => h) (Or.inl ⟨by rfl, ?_⟩) hS ?_
            rotate_left
            · (intro wq hq; go_simp; try with_reducible rfl)
            try simp only [Act.put, List.setIfInBounds_toArray, List.set_cons_zero, List.set_cons_succ, List.getElem_toArray, List.getElem_cons_zero, List.getElem_cons_succ]
            refine AnyBut.takeE (i := 13) (v := ?_) rfl (by kernel_rfl) (by kernel_rfl) (by kernel_rfl) (by kernel_rfl) (fun _ _ _ h => h) (Or.inl ⟨by rfl, ?_⟩) hS ?_
            rotate_left
            · (intro wq hq; go_simp; try with_reducible rfl)
            try simp only [Act.put, List.setIfInBounds_toArray, List.set_cons_zero, List.set_cons_succ, List.getElem_toArray, List.getElem_cons_zero, List.getElem_cons_succ]
            refine AnyBut.takeE (i := 14) (v := ?_) rfl (by kernel_rfl) (by kernel_rfl) (by kernel_rfl) (by kernel_rfl) (fun _ _ _ h => h) (Or.inl ⟨by rfl, ?_⟩) hS ?_
            rotate_left
            · (intro wq hq; go_simp; try with_reducible rfl)
            try simp only [Act.put, List.setIfInBounds_toArray, List.set_cons_zero, List.set_cons_succ, List.getElem_toArray, List.getElem_cons_zero, List.getElem_cons_succ]
            refine AnyBut.takeE (i := 15) (v := .slice (some ⟨b, o, none⟩) n2 c2) rfl (by kernel_rfl) (by kernel_rfl) (by kernel_rfl) (by kernel_rfl) (fun _ _ _ h => h) (Or.inl ⟨by rfl, ?_⟩) hS ?_
            · intro wq hq
              obtain ⟨dq1, dq2, dq3, dq4, dq5, dq6⟩ := E2.out wq hq
              go_simp
            try simp only [Act.put, List.setIfInBounds_toArray, List.set_cons_zero, List.set_cons_succ, List.getElem_toArray, List.getElem_cons_zero, List.getElem_cons_succ]
            refine AnyBut.takeE (i := 16) (v := ?_) rfl (by kernel_rfl) (by kernel_rfl) (by kernel_rfl) (by kernel_rfl) (fun _ _ _ h => h) (Or.inl ⟨by rfl, ?_⟩) hS ?_
            rotate_left
            · (intro wq hq; go_simp; try with_reducible rfl)
            try simp only [Act.put, List.setIfInBounds_toArray, List.set_cons_zero, List.set_cons_succ, List.getElem_toArray, List.getElem_cons_zero, List.getElem_cons_succ]
            refine AnyBut.takeE (i := 17) (v := ?_) rfl (by kernel_rfl) (by kernel_rfl) (by kernel_rfl) (by kernel_rfl) (fun _ _ _ h => h) (Or.inl ⟨by rfl, ?_⟩) hS ?_
            rotate_left
            · (intro wq hq; go_simp; try with_reducible rfl)
            try simp only [Act.put, List.setIfInBounds_toArray, List.set_cons_zero, List.set_cons_succ, List.getElem_toArray, List.getElem_cons_zero, List.getElem_cons_succ]
            refine AnyBut.takeE (i := 18) (v := ?_) rfl (by kernel_rfl) (by kernel_rfl) (by kernel_rfl) (by kernel_rfl) (fun _ _ _ h => h) (Or.inl ⟨by rfl, ?_⟩) hS ?_
            rotate_left
            · (intro wq hq; go_simp; try with_reducible rfl)
            try simp only [Act.put, List.setIfInBounds_toArray, List.set_cons_zero, List.set_cons_succ, List.getElem_toArray, List.getElem_cons_zero, List.getElem_cons_succ]
            refine AnyBut.takeE (i := 19) (v := .slice Ax lx cx) rfl (by kernel_rfl) (by kernel_rfl) (by kernel_rfl) (by kernel_rfl) (fun _ _ _ h => h) (Or.inl ⟨by rfl, ?_⟩) hS ?_
            · intro wq hq
              obtain ⟨dq1, dq2, dq3, dq4, dq5, dq6⟩ := E2.out wq hq
              go_simp
            try simp only [Act.put, List.setIfInBounds_toArray, List.set_cons_zero, List.set_cons_succ, List.getElem_toArray, List.getElem_cons_zero, List.getElem_cons_succ]
            refine AnyBut.takeE (i := 20) (v := ?_) rfl (by kernel_rfl) (by kernel_rfl) (by kernel_rfl) (by kernel_rfl) (fun _ _ _ h => h) (Or.inl ⟨by rfl, ?_⟩) hS ?_
            rotate_left
            · (intro wq hq; go_simp; try with_reducible rfl)
            try simp only [Act.put, List.setIfInBounds_toArray, List.set_cons_zero, List.set_cons_succ, List.getElem_toArray, List.getElem_cons_zero, List.getElem_cons_succ]
            refine AnyBut.takeE (i := 21) (v := .slice (some ⟨b2, o2, none⟩) n2 c4) rfl (by kernel_rfl) (by kernel_rfl) (by kernel_rfl) (by kernel_rfl) (fun _ _ _ h => h) (Or.inl ⟨by rfl, ?_⟩) hS ?_
            · intro wq hq
              obtain ⟨dq1, dq2, dq3, dq4, dq5, dq6⟩ := E2.out wq hq
              go_simp
            try simp only [Act.put, List.setIfInBounds_toArray, List.set_cons_zero, List.set_cons_succ, List.getElem_toArray, List.getElem_cons_zero, List.getElem_cons_succ]
            refine AnyBut.takeE (i := 22) (v := ?_) rfl (by kernel_rfl) (by kernel_rfl) (by kernel_rfl) (by kernel_rfl) (fun _ _ _ h => h) (Or.inl ⟨by rfl, ?_⟩) hS ?_
            rotate_left
            · (intro wq hq; go_simp; try with_reducible rfl)
            try simp only [Act.put, List.setIfInBounds_toArray, List.set_cons_zero, List.set_cons_succ, List.getElem_toArray, List.getElem_cons_zero, List.getElem_cons_succ]
            refine AnyBut.takeE (i := 23) (v := ?_) rfl (by kernel_rfl) (by kernel_rfl) (by kernel_rfl) (by kernel_rfl) (fun _ _ _ h => h) (Or.inl ⟨by rfl, ?_⟩) hS ?_
            rotate_left
            · (intro wq hq; go_simp; try with_reducible rfl)
            try simp only [Act.put, List.setIfInBounds_toArray, List.set_cons_zero, List.set_cons_succ, List.getElem_toArray, List.getElem_cons_zero, List.getElem_cons_succ]
            refine AnyBut.takeE (i := 24) (v := ?_) rfl (by kernel_rfl) (by kernel_rfl) (by kernel_rfl) (by kernel_rfl) (fun _ _ _ h => h) (Or.inl ⟨by rfl, ?_⟩) hS ?_
            rotate_left
            · (intro wq hq; go_simp; try with_reducible rfl)
            try simp only [Act.put, List.setIfInBounds_toArray, List.set_cons_zero, List.set_cons_succ, List.getElem_toArray, List.getElem_cons_zero, List.getElem_cons_succ]
            refine AnyBut.takeE (i := 25) (v := .slice Ay ly cy) rfl (by kernel_rfl) (by kernel_rfl) (by kernel_rfl) (by kernel_rfl) (fun _ _ _ h => h) (Or.inl ⟨by rfl, ?_⟩) hS ?_
            · intro wq hq
              obtain ⟨dq1, dq2, dq3, dq4, dq5, dq6⟩ := E2.out wq hq
              go_simp
            try simp only [Act.put, List.setIfInBounds_toArray, List.set_cons_zero, List.set_cons_succ, List.getElem_toArray, List.getElem_cons_zero, List.getElem_cons_succ]
            clear E2
            by_cases hT : x.sc = y.sc
            · have HTq := Lib.hid hT
              refine AnyBut.gone (i := 26) (by kernel_rfl) rfl (by rfl) (fun K hK => ?_)
              go_simp
              (with_reducible refine (K29.out _ HS1e.out).mono ?_)
              rintro e wz ⟨rfl, rfl⟩
              dsimp only
              rw [show decide (x.sc = y.sc) = true by simpa using hT]; clear hT
              refine hK _ _ (fun _ => hS) ?_
              clear hK K
              try simp only [Act.put, List.setIfInBounds_toArray, List.set_cons_zero, List.set_cons_succ, List.getElem_toArray, List.getElem_cons_zero, List.getElem_cons_succ]
              refine AnyBut.gone (i := 27) (by kernel_rfl) rfl (by rfl) (fun K hK => ?_)
              go_simp
              refine hK _ _ (fun _ => hS) ?_
              clear hK K
              try simp only [Act.put, List.setIfInBounds_toArray, List.set_cons_zero, List.set_cons_succ, List.getElem_toArray, List.getElem_cons_zero, List.getElem_cons_succ]
              refine AnyBut.gone (i := 28) (by kernel_rfl) rfl (by rfl) (fun K hK => ?_)
              go_simp
              refine hK _ _ (fun _ => hS) ?_
              clear hK K
              try simp only [Act.put, List.setIfInBounds_toArray, List.set_cons_zero, List.set_cons_succ, List.getElem_toArray, List.getElem_cons_zero, List.getElem_cons_succ]
              refine AnyBut.done (by kernel_rfl) ?_ _
              dsimp only [Exit.then]
              have HX : Hid (x = y) := show x = y by
                have h1 := HV.out.1.symm.trans (HVe.out.trans HV.out.2)
                have h2 := HTq.out
                cases x; cases y; simp at *; exact ⟨h1, h2⟩
              go_wp2_with fail
              go_roundw
              case rel => exact ⟨j + 1, by omega, by go_num, HSt.out.2 HX.out, HS1e.out⟩
              case measure => simp [intOf]; omega
            · have HTq := Lib.hid hT
              refine AnyBut.gone (i := 26) (by kernel_rfl) rfl (by rfl) (fun K hK => ?_)
              go_simp
              (with_reducible refine (K29.out _ HS1e.out).mono ?_)
              rintro e wz ⟨rfl, rfl⟩
              dsimp only
              rw [show decide (x.sc = y.sc) = false by simpa using hT]; clear hT
              refine hK _ _ (fun _ => hS) ?_
              clear hK K
              try simp only [Act.put, List.setIfInBounds_toArray, List.set_cons_zero, List.set_cons_succ, List.getElem_toArray, List.getElem_cons_zero, List.getElem_cons_succ]
              refine AnyBut.gone (i := 27) (by kernel_rfl) rfl (by rfl) (fun K hK => ?_)
              go_simp
              refine hK _ _ (fun _ => hS) ?_
              clear hK K
              try simp only [Act.put, List.setIfInBounds_toArray, List.set_cons_zero, List.set_cons_succ, List.getElem_toArray, List.getElem_cons_zero, List.getElem_cons_succ]
              refine AnyBut.gone (i := 28) (by kernel_rfl) rfl (by rfl) (fun K hK => ?_)
              go_simp
              refine hK _ _ (fun _ => hS) ?_
              clear hK K
              try simp only [Act.put, List.setIfInBounds_toArray, List.set_cons_zero, List.set_cons_succ, List.getElem_toArray, List.getElem_cons_zero, List.getElem_cons_succ]
              refine AnyBut.done (by kernel_rfl) ?_ _
              dsimp only [Exit.then]
              have HN : Hid ((decide (xs = ys) && decide (os = ps)) = false) := show _ = _ by
                have h2 : os ≠ ps := HNe.out (fun e => HTq.out (by rw [e]))
                simp [h2]
              go_wp2_with fail
              go_ret
              exact ⟨by rw [HN.out]; rfl, HEnd.out _ HS1e.out⟩
          · have e1 : (vx != vy) = true := by simpa using hV
            have HVe := Lib.hid hV
            clear hV E2 K29
            refine AnyBut.takeE (i := 12) (v := ?_) rfl (by kernel_rfl) (by kernel_rfl) (by kernel_rfl) (by kernel_rfl) (fun _ _ _ h => h) (Or.inl ⟨by rfl, ?_⟩) hS ?_
            rotate_left
            · (intro wq hq; go_simp; try with_reducible rfl)
            try simp only [Act.put, List.setIfInBounds_toArray, List.set_cons_zero, List.set_cons_succ, List.getElem_toArray, List.getElem_cons_zero, List.getElem_cons_succ]
            refine AnyBut.takeE (i := 13) (v := ?_) rfl (by kernel_rfl) (by kernel_rfl) (by kernel_rfl) (by kernel_rfl) (fun _ _ _ h => h) (Or.inl ⟨by rfl, ?_⟩) hS ?_
            rotate_left
            · (intro wq hq; go_simp; try with_reducible rfl)
            try simp only [Act.put, List.setIfInBounds_toArray, List.set_cons_zero, List.set_cons_succ, List.getElem_toArray, List.getElem_cons_zero, List.getElem_cons_succ]
            refine AnyBut.takeE (i := 14) (v := undef) rfl (by kernel_rfl) (by kernel_rfl) (by kernel_rfl) (by kernel_rfl) (fun _ _ _ h => h) (Or.inr ⟨by rfl, rfl⟩) hS ?_
            try simp only [Act.put, List.setIfInBounds_toArray, List.set_cons_zero, List.set_cons_succ, List.getElem_toArray, List.getElem_cons_zero, List.getElem_cons_succ]
            refine AnyBut.takeE (i := 15) (v := undef) rfl (by kernel_rfl) (by kernel_rfl) (by kernel_rfl) (by kernel_rfl) (fun _ _ _ h => h) (Or.inr ⟨by rfl, rfl⟩) hS ?_
            try simp only [Act.put, List.setIfInBounds_toArray, List.set_cons_zero, List.set_cons_succ, List.getElem_toArray, List.getElem_cons_zero, List.getElem_cons_succ]
            refine AnyBut.takeE (i := 16) (v := undef) rfl (by kernel_rfl) (by kernel_rfl) (by kernel_rfl) (by kernel_rfl) (fun _ _ _ h => h) (Or.inr ⟨by rfl, rfl⟩) hS ?_
            try simp only [Act.put, List.setIfInBounds_toArray, List.set_cons_zero, List.set_cons_succ, List.getElem_toArray, List.getElem_cons_zero, List.getElem_cons_succ]
            refine AnyBut.takeE (i := 17) (v := undef) rfl (by kernel_rfl) (by kernel_rfl) (by kernel_rfl) (by kernel_rfl) (fun _ _ _ h => h) (Or.inr ⟨by rfl, rfl⟩) hS ?_
            try simp only [Act.put, List.setIfInBounds_toArray, List.set_cons_zero, List.set_cons_succ, List.getElem_toArray, List.getElem_cons_zero, List.getElem_cons_succ]
            refine AnyBut.takeE (i := 18) (v := undef) rfl (by kernel_rfl) (by kernel_rfl) (by kernel_rfl) (by kernel_rfl) (fun _ _ _ h => h) (Or.inr ⟨by rfl, rfl⟩) hS ?_
            try simp only [Act.put, List.setIfInBounds_toArray, List.set_cons_zero, List.set_cons_succ, List.getElem_toArray, List.getElem_cons_zero, List.getElem_cons_succ]
            refine AnyBut.takeE (i := 19) (v := undef) rfl (by kernel_rfl) (by kernel_rfl) (by kernel_rfl) (by kernel_rfl) (fun _ _ _ h => h) (Or.inr ⟨by rfl, rfl⟩) hS ?_
            try simp only [Act.put, List.setIfInBounds_toArray, List.set_cons_zero, List.set_cons_succ, List.getElem_toArray, List.getElem_cons_zero, List.getElem_cons_succ]
            refine AnyBut.takeE (i := 20) (v := undef) rfl (by kernel_rfl) (by kernel_rfl) (by kernel_rfl) (by kernel_rfl) (fun _ _ _ h => h) (Or.inr ⟨by rfl, rfl⟩) hS ?_
            try simp only [Act.put, List.setIfInBounds_toArray, List.set_cons_zero, List.set_cons_succ, List.getElem_toArray, List.getElem_cons_zero, List.getElem_cons_succ]
            refine AnyBut.takeE (i := 21) (v := undef) rfl (by kernel_rfl) (by kernel_rfl) (by kernel_rfl) (by kernel_rfl) (fun _ _ _ h => h) (Or.inr ⟨by rfl, rfl⟩) hS ?_
            try simp only [Act.put, List.setIfInBounds_toArray, List.set_cons_zero, List.set_cons_succ, List.getElem_toArray, List.getElem_cons_zero, List.getElem_cons_succ]
            refine AnyBut.takeE (i := 22) (v := undef) rfl (by kernel_rfl) (by kernel_rfl) (by kernel_rfl) (by kernel_rfl) (fun _ _ _ h => h) (Or.inr ⟨by rfl, rfl⟩) hS ?_
            try simp only [Act.put, List.setIfInBounds_toArray, List.set_cons_zero, List.set_cons_succ, List.getElem_toArray, List.getElem_cons_zero, List.getElem_cons_succ]
            refine AnyBut.takeE (i := 23) (v := undef) rfl (by kernel_rfl) (by kernel_rfl) (by kernel_rfl) (by kernel_rfl) (fun _ _ _ h => h) (Or.inr ⟨by rfl, rfl⟩) hS ?_
            try simp only [Act.put, List.setIfInBounds_toArray, List.set_cons_zero, List.set_cons_succ, List.getElem_toArray, List.getElem_cons_zero, List.getElem_cons_succ]
            refine AnyBut.takeE (i := 24) (v := undef) rfl (by kernel_rfl) (by kernel_rfl) (by kernel_rfl) (by kernel_rfl) (fun _ _ _ h => h) (Or.inr ⟨by rfl, rfl⟩) hS ?_
            try simp only [Act.put, List.setIfInBounds_toArray, List.set_cons_zero, List.set_cons_succ, List.getElem_toArray, List.getElem_cons_zero, List.getElem_cons_succ]
            refine AnyBut.takeE (i := 25) (v := undef) rfl (by kernel_rfl) (by kernel_rfl) (by kernel_rfl) (by kernel_rfl) (fun _ _ _ h => h) (Or.inr ⟨by rfl, rfl⟩) hS ?_
            try simp only [Act.put, List.setIfInBounds_toArray, List.set_cons_zero, List.set_cons_succ, List.getElem_toArray, List.getElem_cons_zero, List.getElem_cons_succ]
            refine AnyBut.takeE (i := 26) (v := undef) rfl (by kernel_rfl) (by kernel_rfl) (by kernel_rfl) (by kernel_rfl) (fun _ _ _ h => h) (Or.inr ⟨by rfl, rfl⟩) hS ?_
            try simp only [Act.put, List.setIfInBounds_toArray, List.set_cons_zero, List.set_cons_succ, List.getElem_toArray, List.getElem_cons_zero, List.getElem_cons_succ]
            refine AnyBut.takeE (i := 27) (v := undef) rfl (by kernel_rfl) (by kernel_rfl) (by kernel_rfl) (by kernel_rfl) (fun _ _ _ h => h) (Or.inr ⟨by rfl, rfl⟩) hS ?_
            try simp only [Act.put, List.setIfInBounds_toArray, List.set_cons_zero, List.set_cons_succ, List.getElem_toArray, List.getElem_cons_zero, List.getElem_cons_succ]
            refine AnyBut.gone (i := 28) (by kernel_rfl) rfl (by rfl) (fun K hK => ?_)
            go_simp
            refine hK _ _ (fun _ => hS) ?_
            clear hK K
            refine AnyBut.done (by kernel_rfl) ?_ _
            dsimp only [Exit.then]
            have HN : Hid ((decide (xs = ys) && decide (os = ps)) = false) := show _ = _ by
              have h2 : os ≠ ps := HNe.out (fun e => HVe.out (by rw [HV.out.1, HV.out.2, e]))
              simp [h2]
            go_wp2_with fail
            go_ret
            exact ⟨by rw [HN.out]; rfl, HEnd.out _ HS1e.out⟩
        · obtain rfl : j = n2 := by omega
          have hjn' : ¬ (j : Int) < (j : Int) := by omega
          have HX : Hid ((decide (xs = ys) && decide (os = ps)) = true) := show _ = _ by
            have h := HE.out
            have e := HJE.out
            rw [List.take_of_length_le (by rw [← h.2.1]; exact Nat.le_refl _), List.take_of_length_le (by rw [← h.2.2.2]; exact Nat.le_refl _)] at e
            simp [e, HXY.out]
          have Hsj := Lib.hid hsj
          clear hsj
          go_wp2_with fail
          go_ret
          exact ⟨by rw [HX.out]; rfl, HEnd.out _ Hsj.out⟩
open Go.RowKit
set_option linter.unusedVariables false
set_option linter.unusedSimpArgs false
set_option maxRecDepth 100000
set_option maxHeartbeats 4000000 in
theorem rsame_off (A1 A2 A3 A4 : Option Addr) (n1 n2 n3 n4 c1 c2 c3 c4 : Nat) (V1 V2 L1 L2 : Int) (w : World) (h : ¬ (V1 = V2 ∧ L1 = L2 ∧ n1 = n3 ∧ n2 = n4)) :
    Calls Try.prog 24 #[.agg #[.int .u32 V1, .slice A1 n1 c1, .slice A2 n2 c2, .int .u32 L1], .agg #[.int .u32 V2, .slice A3 n3 c3, .slice A4 n4 c4, .int .u32 L2]] w (EqPost false w) := by
  have HB : Hid (Below w.heap.size w ((w.alloc (.cells #[.int .u32 V1, .slice A1 n1 c1, .slice A2 n2 c2, .int .u32 L1] 60)).alloc (.cells #[.int .u32 V2, .slice A3 n3 c3, .slice A4 n4 c4, .int .u32 L2] 60))) := ((Below.refl w.heap.size w).alloc (Nat.le_refl _) _).alloc (by simp) _
  by_cases hv : V1 = V2
  · by_cases hl : L1 = L2
    · by_cases hn : n1 = n3
      · have hm : n2 ≠ n4 := fun e => h ⟨hv, hl, hn, e⟩
        have e1 : (V1 != V2) = false := by simp [hv]
        have e2 : (L1 != L2) = false := by simp [hl]
        have e3 : ((n1 : Int) != (n3 : Int)) = false := by simp; omega
        have e4 : ((n2 : Int) != (n4 : Int)) = true := by simp; omega
        clear h hm hv hl hn
        go_enter Try.func24, Try.ntmps24
        go_wp2_with fail
        go_ret
        exact ⟨rfl, HB.out⟩
      · have e1 : (V1 != V2) = false := by simp [hv]
        have e2 : (L1 != L2) = false := by simp [hl]
        have e3 : ((n1 : Int) != (n3 : Int)) = true := by simp; omega
        clear h hv hl hn
        go_enter Try.func24, Try.ntmps24
        go_wp2_with fail
        go_ret
        exact ⟨rfl, HB.out⟩
    · have e1 : (V1 != V2) = false := by simp [hv]
      have e2 : (L1 != L2) = true := by simpa using hl
      clear h hv hl
      go_enter Try.func24, Try.ntmps24
      go_wp2_with fail
      go_ret
      exact ⟨rfl, HB.out⟩
  · have e1 : (V1 != V2) = true := by simpa using hv
    clear h hv
    go_enter Try.func24, Try.ntmps24
    go_wp2_with fail
    go_ret
    exact ⟨rfl, HB.out⟩
theorem rsame_tx (x y : TTx) (i o i2 o2 : Value) (w : World) (h1 : TxOk w w.heap.size x i o) (h2 : TxOk w w.heap.size y i2 o2) : Calls Try.prog 24 #[txV x i o, txV y i2 o2] w (EqPost (decide (x = y)) w) := by
  obtain ⟨hi, ho, _, _⟩ := h1
  obtain ⟨hi2, ho2, _, _⟩ := h2
  have hi' := hi
  have ho' := ho
  have hi2' := hi2
  have ho2' := ho2
  obtain ⟨A1, c1, rfl, l1, m1, _⟩ := hi'
  obtain ⟨A2, c2, rfl, l2, m2, _⟩ := ho'
  obtain ⟨A3, c3, rfl, _⟩ := hi2'
  obtain ⟨A4, c4, rfl, _⟩ := ho2'
  unfold txV
  by_cases h : x.ver = y.ver ∧ x.lock = y.lock ∧ x.ins.length = y.ins.length ∧ x.outs.length = y.outs.length
  · obtain ⟨hv, hl, hn, hm⟩ := h
    have := rsame_main x.ins y.ins x.outs y.outs A1 A2 A3 A4 x.ins.length x.outs.length c1 c2 c3 c4 (x.ver : Int) (y.ver : Int) (x.lock : Int) (y.lock : Int) w (by rw [hv]) (by rw [hl]) hi ho (hn ▸ hi2) (hm ▸ ho2) rfl rfl hn hm (by omega) (by omega)
    rw [← tx_eq, ← hn, ← hm]
    rw [show decide (x.ver = y.ver) = true by simpa using hv, show decide (x.lock = y.lock) = true by simpa using hl]
    simpa using this
  · have e : decide (x = y) = false := by
      rw [decide_eq_false_iff_not]
      rintro rfl
      exact h ⟨rfl, rfl, rfl, rfl⟩
    rw [e]
    exact rsame_off _ _ _ _ _ _ _ _ _ _ _ _ _ _ _ _ w (fun h' => h ⟨by have := h'.1; omega, by have := h'.2.1; omega, h'.2.2.1, h'.2.2.2⟩)
end Go.Proofs.Ytpamepkcbhoiaaa
