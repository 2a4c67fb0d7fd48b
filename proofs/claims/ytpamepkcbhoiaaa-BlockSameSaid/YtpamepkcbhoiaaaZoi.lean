/- What tx.sameOut, and slices.EqualFunc over inputs and outputs, return. What tx.Same returns: whether two transactions are equal. What slices.EqualFunc of transactions and block.Same return. What the law package's given and awake return. Plain: what is laid of a block is parsed as it was, and what is parsed is laid as just those bytes; transactions that were parsed, as a list that lies there. The law package's awake returns true. -/
import Derived.Test.YtpamepkcbhoiaaaZoa
import Derived.Test.YtpamepkcbhoiaaaZob
import Derived.Test.YtpamepkcbhoiaaaZoc
import Derived.Test.YtpamepkcbhoiaaaZod
import Derived.Test.YtpamepkcbhoiaaaZoe
import Derived.Test.YtpamepkcbhoiaaaZof
import Derived.Test.YtpamepkcbhoiaaaZog
import Derived.Test.YtpamepkcbhoiaaaZoh
import Derived.Outline
import Derived.Stop.BytesEq
import Derived.Laws.StructEq
namespace Go.Proofs.Ytpamepkcbhoiaaa
open Go.RowKit
set_option linter.unusedVariables false
set_option linter.unusedSimpArgs false
set_option maxRecDepth 100000
instance decIn : DecidableEq TIn := fun x y => decidable_of_iff (x.tx = y.tx ∧ x.ix = y.ix ∧ x.sc = y.sc ∧ x.sq = y.sq ∧ x.wt = y.wt) (by
  obtain ⟨a, b, c, d, e⟩ := x
  obtain ⟨a', b', c', d', e'⟩ := y
  simp)
instance decOut : DecidableEq TOut := fun x y => decidable_of_iff (x.vl = y.vl ∧ x.sc = y.sc) (by
  obtain ⟨a, b⟩ := x
  obtain ⟨a', b'⟩ := y
  simp)
instance decTx : DecidableEq TTx := fun x y => decidable_of_iff (x.ver = y.ver ∧ x.ins = y.ins ∧ x.outs = y.outs ∧ x.lock = y.lock) (by
  obtain ⟨a, b, c, d⟩ := x
  obtain ⟨a', b', c', d'⟩ := y
  simp)
theorem in_eq (x y : TIn) : (decide (x.tx = y.tx) && decide (x.ix = y.ix) && decide (x.sq = y.sq) && decide (x.sc = y.sc) && decide (x.wt = y.wt)) = decide (x = y) := by
  obtain ⟨a, b, c, d, e⟩ := x
  obtain ⟨a', b', c', d', e'⟩ := y
  rw [Bool.eq_iff_iff]
  simp
  constructor
  · rintro ⟨⟨⟨⟨h1, h2⟩, h3⟩, h4⟩, h5⟩; exact ⟨h1, h2, h4, h3, h5⟩
  · rintro ⟨h1, h2, h3, h4, h5⟩; exact ⟨⟨⟨⟨h1, h2⟩, h4⟩, h3⟩, h5⟩
theorem out_eq (x y : TOut) : (decide (x.vl = y.vl) && decide (x.sc = y.sc)) = decide (x = y) := by
  obtain ⟨a, b⟩ := x
  obtain ⟨a', b'⟩ := y
  rw [Bool.eq_iff_iff]
  simp
theorem sameIn_eq (x y : TIn) (s u s2 u2 : Value) (w : World) (h1 : InOk w w.heap.size x s u) (h2 : InOk w w.heap.size y s2 u2) :
    Calls Try.prog 48 #[.agg (inV x s u).toArray, .agg (inV y s2 u2).toArray] w (EqPost (decide (x = y)) w) := by
  have := sameIn_any x y s u s2 u2 w h1 h2
  rwa [in_eq] at this
set_option maxHeartbeats 4000000 in
theorem sameOut_eq (x y : TOut) (s s2 : Value) (w : World) (h1 : OutOk w w.heap.size x s) (h2 : OutOk w w.heap.size y s2) :
    Calls Try.prog 50 #[.agg (outV x s).toArray, .agg (outV y s2).toArray] w (EqPost (decide (x = y)) w) := by
  rw [← out_eq]
  obtain ⟨hs, _, _⟩ := h1
  obtain ⟨hs2, _, _⟩ := h2
  have K45 : Hid (∀ wq, Below w.heap.size w wq → Calls Try.prog 63 #[s, s2] wq (EqPost (decide (x.sc = y.sc)) wq)) := fun wq hq => sameText_any s s2 _ _ wq ((hs.keep hq (Nat.le_refl _)).up hq.size) ((hs2.keep hq (Nat.le_refl _)).up hq.size)
  obtain ⟨As, cs, rfl, _⟩ := hs
  obtain ⟨As2, cs2, rfl, _⟩ := hs2
  obtain ⟨b3, hb3⟩ : ∃ b, b = decide (x.sc = y.sc) := ⟨_, rfl⟩
  rw [← hb3] at K45 ⊢
  obtain ⟨l1, hl1⟩ : ∃ n, n = x.sc.length := ⟨_, rfl⟩
  obtain ⟨l2, hl22⟩ : ∃ n, n = y.sc.length := ⟨_, rfl⟩
  rw [← hl1, ← hl22] at K45
  show Calls Try.prog 50 #[.agg #[.int .i64 x.vl, .slice As x.sc.length cs], .agg #[.int .i64 y.vl, .slice As2 y.sc.length cs2]] w _
  rw [← hl1, ← hl22]
  have HB : Hid (Below w.heap.size w ((w.alloc (.cells #[.int .i64 x.vl, .slice As l1 cs] 71)).alloc (.cells #[.int .i64 y.vl, .slice As2 l2 cs2] 71))) := ((Below.refl w.heap.size w).alloc (Nat.le_refl _) _).alloc (by simp) _
  clear hb3 hl1 hl22
  by_cases hv : x.vl = y.vl
  · have e2 : (x.vl == y.vl) = true := by simp [hv]
    have d2 : decide (x.vl = y.vl) = true := by simpa using hv
    rw [d2]
    clear hv d2
    go_enter Try.func50, Try.ntmps50
    go_wp2_with (go_at_call 63; (with_reducible refine (K45.out _ HB.out).mono ?_); rintro e w2 ⟨rfl, hb2⟩; dsimp only)
    go_ret
    exact ⟨by simp, HB.out.trans (hb2.mono HB.out.size)⟩
  · have e2 : (x.vl == y.vl) = false := by simpa using hv
    have d2 : decide (x.vl = y.vl) = false := by simpa using hv
    rw [d2]
    clear hv d2
    go_enter Try.func50, Try.ntmps50
    go_wp2_with fail
    go_ret
    exact ⟨by simp, HB.out⟩
theorem inV_one {w : World} {B : Nat} {x : TIn} {s u : Value} (h : InOk w B x s u) : ∀ v ∈ inV x s u, v.oneCell' = true := by
  obtain ⟨⟨A, c, rfl, _⟩, ⟨A2, c2, rfl, _⟩, _⟩ := h
  intro v hv
  rcases List.mem_append.1 hv with h | h
  · exact vbs_one _ _ h
  · simp at h
    rcases h with rfl | rfl | rfl | rfl <;> rfl
theorem outV_one {w : World} {B : Nat} {y : TOut} {s : Value} (h : OutOk w B y s) : ∀ v ∈ outV y s, v.oneCell' = true := by
  obtain ⟨⟨A, c, rfl, _⟩, _⟩ := h
  intro v hv
  simp [outV] at hv
  rcases hv with rfl | rfl <;> rfl
/-- A block of zeros, then stored into. -/
theorem laid_new {w : World} {T n : Nat} {Z C : List Value} (hZ : Z.length = n) (hC : C.length = n) : Blk ((w.alloc (.cells Z.toArray T)).setCells w.heap.size 0 C) w.heap.size T C ∧ Below w.heap.size w ((w.alloc (.cells Z.toArray T)).setCells w.heap.size 0 C) := by
  have hb := Blk.new w T Z.toArray
  rw [List.toList_toArray] at hb
  exact ⟨hb.setCells C (by omega), below_setCells (Nat.le_refl _) _ _ _ ((Below.refl _ _).alloc (Nat.le_refl _) _)⟩
def Z36 : List Value := inV ⟨Z32, 0, [], 0, []⟩ (.slice none 0 0) (.slice none 0 0)
def Z2 : List Value := [.int .i64 0, .slice none 0 0]
theorem zero60 (w : World) : (zeroValue 69).run Try.prog w = .ok (.agg Z36.toArray) w := by kernel_rfl
theorem zero65 (w : World) : (zeroValue 71).run Try.prog w = .ok (.agg Z2.toArray) w := by kernel_rfl
theorem there_new {w : World} {T n : Nat} {Z C : List Value} (hZ : Z.length = n) (hC : C.length = n) : (w.alloc (.cells Z.toArray T)).there w.heap.size 0 C.toArray.size := by
  have hb := Blk.new w T Z.toArray
  rw [List.toList_toArray] at hb
  have h2 : C.toArray.size = Z.length := by rw [List.size_toArray]; omega
  rw [h2]
  exact hb.there
set_option maxHeartbeats 4000000 in
theorem eqf_ins (v u : Value) (xs ys : List TIn) (w : World) (h1 : Is w w.heap.size v xs) (h2 : Is w w.heap.size u ys) :
    Calls Try.prog 47 #[v, u, .func (.func 48) #[] #[]] w (EqPost (decide (xs = ys)) w) := by
  obtain ⟨A, c, b, o, rfl, hA, hr⟩ := Row.open h1
  obtain ⟨A2, c2, b2, o2, rfl, hA2, hr2⟩ := Row.open h2
  obtain ⟨_, _, e1, hm1, hm2, _⟩ := h1
  cases e1
  have HR := Lib.hid hr
  have HR2 := Lib.hid hr2
  have HA := Lib.hid hA
  have HA2 := Lib.hid hA2
  obtain ⟨lx, hlx⟩ : ∃ n, n = xs.length := ⟨_, rfl⟩
  obtain ⟨ly, hly⟩ : ∃ n, n = ys.length := ⟨_, rfl⟩
  have Hlx := Lib.hid hlx
  have Hly := Lib.hid hly
  have hlm : lx ≤ 9223372036854775807 := by omega
  have Hb0 := Lib.hid (Below.refl w.heap.size w)
  rw [← hlx, ← hly]
  clear hr hr2 hA hA2 hm1 hm2 h2
  by_cases hl : lx = ly
  · have hly2 : ly = ys.length := hly
    clear hly
    subst hl
    clear hlx hly2
    go_enter Try.func47, Try.ntmps47
    go_wp2_with fail
    go_loopw [17] (fun iv wq => ∃ i : Nat, i ≤ lx ∧ iv = .int .i64 (i : Int) ∧ xs.take i = ys.take i ∧ Below w.heap.size w wq) (fun iv _ => lx - (intOf iv).toNat)
    case atStart => exact ⟨0, Nat.zero_le _, rfl, rfl, Hb0.out⟩
    case round =>
      obtain ⟨i, hi, rfl, he, hb⟩ := hrel
      have HE := Lib.hid he
      clear he
      by_cases hlt : i < lx
      · have hlt' : (i : Int) < (lx : Int) := by omega
        obtain rfl := HA.out (by rw [← Hlx.out]; omega)
        obtain rfl := HA2.out (by rw [← Hly.out]; omega)
        obtain ⟨hbl, s1, u1, cu, hs⟩ := HR.out i (by rw [← Hlx.out]; exact hlt)
        obtain ⟨hbl2, s2, u2, cu2, hs2⟩ := HR2.out i (by rw [← Hly.out]; exact hlt)
        have hst := take_eq_succ xs ys In0 i (by rw [← Hlx.out]; exact hlt) (by rw [← Hly.out]; exact hlt) HE.out
        have hne := ne_at xs ys In0 i
        have hs1 := (hs.keep hb (Nat.le_refl _)).up hb.size
        have hs21 := (hs2.keep hb (Nat.le_refl _)).up hb.size
        have r1 := range_keep cu hb hbl
        have r2 := range_keep cu2 hb hbl2
        have KK : Hid (∀ wq, Below wr.heap.size wr wq → Calls Try.prog 48 #[.agg (inV (xs.getD i In0) s1 u1).toArray, .agg (inV (ys.getD i In0) s2 u2).toArray] wq (EqPost (decide (xs.getD i In0 = ys.getD i In0)) wq)) := fun wq hq => sameIn_eq _ _ s1 u1 s2 u2 wq ((hs1.keep hq (Nat.le_refl _)).up hq.size) ((hs21.keep hq (Nat.le_refl _)).up hq.size)
        have o1 := inV_one hs1
        have o2' := inV_one hs21
        have n1 : (inV (xs.getD i In0) s1 u1).length = 36 := inV_len hs1.2.2.1
        have n2 : (inV (ys.getD i In0) s2 u2).length = 36 := inV_len hs21.2.2.1
        obtain ⟨C, hC⟩ : ∃ C, C = inV (xs.getD i In0) s1 u1 := ⟨_, rfl⟩
        obtain ⟨D, hD⟩ : ∃ D, D = inV (ys.getD i In0) s2 u2 := ⟨_, rfl⟩
        rw [← hC] at r1 KK o1 n1
        rw [← hD] at r2 KK o2' n2
        have R1 := Lib.hid r1
        have R2 : Hid (∀ wq, Below wr.heap.size wr wq → wq.rangeAt b2 (o2 + i * 36) D) := fun wq hq => range_keep r2 hq (Nat.lt_of_lt_of_le hbl2 hb.size)
        have O1 := Lib.hid o1
        have O2 := Lib.hid o2'
        have N1 := Lib.hid n1
        have N2 := Lib.hid n2
        have IC : Hid ((Try.prog.info? 69).map (·.size) = some C.length) := show _ = _ by rw [n1]; kernel_rfl
        have ID : Hid ((Try.prog.info? 69).map (·.size) = some D.length) := show _ = _ by rw [n2]; kernel_rfl
        have hz := zero60
        have HZl : Hid (Z36.length = 36) := show Z36.length = 36 by rfl
        clear hC hD r1 r2 o1 o2' n1 n2 hs1 hs21
        generalize xs.getD i In0 = x at KK hst hne cu hs
        generalize ys.getD i In0 = y at KK hst hne cu2 hs2
        have Hb := Lib.hid hb
        have K := KK
        by_cases hxy : x = y
        · have HT := Lib.hid (hst.2 hxy)
          rw [show decide (x = y) = true by simpa using hxy] at K
          clear hst hne hxy hbl hbl2 hb cu cu2 hs hs2
          go_upto_region 6 with (first
            | (with_reducible refine wpList_load_mid rfl 69 (.tmp 20) rfl b (o + i * 36) rfl C _ R1.out Try.underlying69 rfl IC.out ?_)
            | (with_reducible refine wpList_store_mid rfl 69 (.tmp 8) (.tmp 21) rfl wr.heap.size 0 C.toArray rfl rfl (there_new (Z := Z36) HZl.out N1.out) (info_arr IC.out) (all_oneCell_toArray O1.out) ?_))
          obtain ⟨hBC, hbC⟩ := laid_new (w := wr) (T := 69) HZl.out N1.out
          have hbC0 := hbC
          generalize (wr.alloc (.cells Z36.toArray 69)).setCells wr.heap.size 0 C = w6 at hBC hbC ⊢
          generalize hg6 : wr.heap.size = g6 at hBC ⊢
          have R26 := Lib.hid (R2.out w6 hbC)
          have HBC := Lib.hid hBC
          have HbC := Lib.hid hbC
          have Hg6 := Lib.hid hg6
          clear hbC0 hBC hbC hg6
          go_upto_region 7 with (first
            | (with_reducible refine wpList_load_mid rfl 69 (.tmp 24) rfl b2 (o2 + i * 36) rfl D _ R26.out Try.underlying69 rfl ID.out ?_)
            | (with_reducible refine wpList_store_mid rfl 69 (.tmp 9) (.tmp 25) rfl w6.heap.size 0 D.toArray rfl rfl (there_new (Z := Z36) HZl.out N2.out) (info_arr ID.out) (all_oneCell_toArray O2.out) ?_))
          obtain ⟨hBD, hbD⟩ := laid_new (w := w6) (T := 69) HZl.out N2.out
          have hBC7 := HBC.out.below hbD HBC.out.lt
          have Hw7 := Lib.hid (Below.trans HbC.out (hbD.mono HbC.out.size))
          generalize (w6.alloc (.cells Z36.toArray 69)).setCells w6.heap.size 0 D = w7 at hBD hbD hBC7 Hw7 ⊢
          clear hbD
          generalize w6.heap.size = g7 at hBD ⊢
          have RC := Lib.hid hBC7.range
          have RD := Lib.hid hBD.range
          clear hBC7 hBD
          go_wp2_with (first
            | (with_reducible refine wpList_load_mid rfl 69 (.tmp 8) rfl g6 0 rfl C _ RC.out Try.underlying69 rfl IC.out ?_)
            | (with_reducible refine wpList_load_mid rfl 69 (.tmp 9) rfl g7 0 rfl D _ RD.out Try.underlying69 rfl ID.out ?_)
            | (go_at_call 48; (with_reducible refine (K.out _ Hw7.out).mono ?_); rintro e w8 ⟨rfl, hb8⟩; dsimp only))
          go_roundw
          case rel => exact ⟨i + 1, by omega, by go_num, HT.out, Hb.out.trans ((Hw7.out.trans (hb8.mono Hw7.out.size)).mono Hb.out.size)⟩
          case measure => simp [intOf]; omega
        · have HT : Hid (decide (xs = ys) = false) := show decide (xs = ys) = false by simpa using hne hxy
          rw [show decide (x = y) = false by simpa using hxy] at K
          clear hst hne hxy hbl hbl2 hb cu cu2 hs hs2
          go_upto_region 6 with (first
            | (with_reducible refine wpList_load_mid rfl 69 (.tmp 20) rfl b (o + i * 36) rfl C _ R1.out Try.underlying69 rfl IC.out ?_)
            | (with_reducible refine wpList_store_mid rfl 69 (.tmp 8) (.tmp 21) rfl wr.heap.size 0 C.toArray rfl rfl (there_new (Z := Z36) HZl.out N1.out) (info_arr IC.out) (all_oneCell_toArray O1.out) ?_))
          obtain ⟨hBC, hbC⟩ := laid_new (w := wr) (T := 69) HZl.out N1.out
          have hbC0 := hbC
          generalize (wr.alloc (.cells Z36.toArray 69)).setCells wr.heap.size 0 C = w6 at hBC hbC ⊢
          generalize hg6 : wr.heap.size = g6 at hBC ⊢
          have R26 := Lib.hid (R2.out w6 hbC)
          have HBC := Lib.hid hBC
          have HbC := Lib.hid hbC
          have Hg6 := Lib.hid hg6
          clear hbC0 hBC hbC hg6
          go_upto_region 7 with (first
            | (with_reducible refine wpList_load_mid rfl 69 (.tmp 24) rfl b2 (o2 + i * 36) rfl D _ R26.out Try.underlying69 rfl ID.out ?_)
            | (with_reducible refine wpList_store_mid rfl 69 (.tmp 9) (.tmp 25) rfl w6.heap.size 0 D.toArray rfl rfl (there_new (Z := Z36) HZl.out N2.out) (info_arr ID.out) (all_oneCell_toArray O2.out) ?_))
          obtain ⟨hBD, hbD⟩ := laid_new (w := w6) (T := 69) HZl.out N2.out
          have hBC7 := HBC.out.below hbD HBC.out.lt
          have Hw7 := Lib.hid (Below.trans HbC.out (hbD.mono HbC.out.size))
          generalize (w6.alloc (.cells Z36.toArray 69)).setCells w6.heap.size 0 D = w7 at hBD hbD hBC7 Hw7 ⊢
          clear hbD
          generalize w6.heap.size = g7 at hBD ⊢
          have RC := Lib.hid hBC7.range
          have RD := Lib.hid hBD.range
          clear hBC7 hBD
          go_wp2_with (first
            | (with_reducible refine wpList_load_mid rfl 69 (.tmp 8) rfl g6 0 rfl C _ RC.out Try.underlying69 rfl IC.out ?_)
            | (with_reducible refine wpList_load_mid rfl 69 (.tmp 9) rfl g7 0 rfl D _ RD.out Try.underlying69 rfl ID.out ?_)
            | (go_at_call 48; (with_reducible refine (K.out _ Hw7.out).mono ?_); rintro e w8 ⟨rfl, hb8⟩; dsimp only))
          go_ret
          exact ⟨by rw [HT.out]; rfl, Hb.out.trans ((Hw7.out.trans (hb8.mono Hw7.out.size)).mono Hb.out.size)⟩
      · obtain rfl : i = lx := by omega
        have hlt' : ¬ (i : Int) < (i : Int) := by omega
        have HT : Hid (decide (xs = ys) = true) := show decide (xs = ys) = true by
          have := HE.out
          rw [List.take_of_length_le (by rw [← Hlx.out]; exact Nat.le_refl _), List.take_of_length_le (by rw [← Hly.out]; exact Nat.le_refl _)] at this
          simpa using this
        go_wp2_with fail
        go_ret
        exact ⟨by rw [HT.out]; rfl, hb⟩
  · have e1 : ((lx : Int) != (ly : Int)) = true := by simp; omega
    have HT : Hid (decide (xs = ys) = false) := show decide (xs = ys) = false by
      have : xs ≠ ys := fun e => hl (by rw [hlx, hly, e])
      simpa using this
    clear hl hlx hly
    go_enter Try.func47, Try.ntmps47
    go_wp2_with fail
    go_ret
    exact ⟨by rw [HT.out]; rfl, Hb0.out⟩
set_option maxHeartbeats 4000000 in
theorem eqf_outs (v u : Value) (xs ys : List TOut) (w : World) (h1 : Os w w.heap.size v xs) (h2 : Os w w.heap.size u ys) :
    Calls Try.prog 49 #[v, u, .func (.func 50) #[] #[]] w (EqPost (decide (xs = ys)) w) := by
  obtain ⟨A, c, b, o, rfl, hA, hr⟩ := Row.open h1
  obtain ⟨A2, c2, b2, o2, rfl, hA2, hr2⟩ := Row.open h2
  obtain ⟨_, _, e1, hm1, hm2, _⟩ := h1
  cases e1
  have HR := Lib.hid hr
  have HR2 := Lib.hid hr2
  have HA := Lib.hid hA
  have HA2 := Lib.hid hA2
  obtain ⟨lx, hlx⟩ : ∃ n, n = xs.length := ⟨_, rfl⟩
  obtain ⟨ly, hly⟩ : ∃ n, n = ys.length := ⟨_, rfl⟩
  have Hlx := Lib.hid hlx
  have Hly := Lib.hid hly
  have hlm : lx ≤ 9223372036854775807 := by omega
  have Hb0 := Lib.hid (Below.refl w.heap.size w)
  rw [← hlx, ← hly]
  clear hr hr2 hA hA2 hm1 hm2 h2
  by_cases hl : lx = ly
  · have hly2 : ly = ys.length := hly
    clear hly
    subst hl
    clear hlx hly2
    go_enter Try.func49, Try.ntmps49
    go_wp2_with fail
    go_loopw [17] (fun iv wq => ∃ i : Nat, i ≤ lx ∧ iv = .int .i64 (i : Int) ∧ xs.take i = ys.take i ∧ Below w.heap.size w wq) (fun iv _ => lx - (intOf iv).toNat)
    case atStart => exact ⟨0, Nat.zero_le _, rfl, rfl, Hb0.out⟩
    case round =>
      obtain ⟨i, hi, rfl, he, hb⟩ := hrel
      have HE := Lib.hid he
      clear he
      by_cases hlt : i < lx
      · have hlt' : (i : Int) < (lx : Int) := by omega
        obtain rfl := HA.out (by rw [← Hlx.out]; omega)
        obtain rfl := HA2.out (by rw [← Hly.out]; omega)
        obtain ⟨hbl, s1, cu, hs⟩ := HR.out i (by rw [← Hlx.out]; exact hlt)
        obtain ⟨hbl2, s2, cu2, hs2⟩ := HR2.out i (by rw [← Hly.out]; exact hlt)
        have hst := take_eq_succ xs ys Out0 i (by rw [← Hlx.out]; exact hlt) (by rw [← Hly.out]; exact hlt) HE.out
        have hne := ne_at xs ys Out0 i
        have hs1 := (hs.keep hb (Nat.le_refl _)).up hb.size
        have hs21 := (hs2.keep hb (Nat.le_refl _)).up hb.size
        have r1 := range_keep cu hb hbl
        have r2 := range_keep cu2 hb hbl2
        have KK : Hid (∀ wq, Below wr.heap.size wr wq → Calls Try.prog 50 #[.agg (outV (xs.getD i Out0) s1).toArray, .agg (outV (ys.getD i Out0) s2).toArray] wq (EqPost (decide (xs.getD i Out0 = ys.getD i Out0)) wq)) := fun wq hq => sameOut_eq _ _ s1 s2 wq ((hs1.keep hq (Nat.le_refl _)).up hq.size) ((hs21.keep hq (Nat.le_refl _)).up hq.size)
        have o1 := outV_one hs1
        have o2' := outV_one hs21
        have n1 : (outV (xs.getD i Out0) s1).length = 2 := rfl
        have n2 : (outV (ys.getD i Out0) s2).length = 2 := rfl
        obtain ⟨C, hC⟩ : ∃ C, C = outV (xs.getD i Out0) s1 := ⟨_, rfl⟩
        obtain ⟨D, hD⟩ : ∃ D, D = outV (ys.getD i Out0) s2 := ⟨_, rfl⟩
        rw [← hC] at r1 KK o1 n1
        rw [← hD] at r2 KK o2' n2
        have R1 := Lib.hid r1
        have R2 : Hid (∀ wq, Below wr.heap.size wr wq → wq.rangeAt b2 (o2 + i * 2) D) := fun wq hq => range_keep r2 hq (Nat.lt_of_lt_of_le hbl2 hb.size)
        have O1 := Lib.hid o1
        have O2 := Lib.hid o2'
        have N1 := Lib.hid n1
        have N2 := Lib.hid n2
        have IC : Hid ((Try.prog.info? 71).map (·.size) = some C.length) := show _ = _ by rw [n1]; kernel_rfl
        have ID : Hid ((Try.prog.info? 71).map (·.size) = some D.length) := show _ = _ by rw [n2]; kernel_rfl
        have hz := zero65
        have HZl : Hid (Z2.length = 2) := show Z2.length = 2 by rfl
        clear hC hD r1 r2 o1 o2' n1 n2 hs1 hs21
        generalize xs.getD i Out0 = x at KK hst hne cu hs
        generalize ys.getD i Out0 = y at KK hst hne cu2 hs2
        have Hb := Lib.hid hb
        have K := KK
        by_cases hxy : x = y
        · have HT := Lib.hid (hst.2 hxy)
          rw [show decide (x = y) = true by simpa using hxy] at K
          clear hst hne hxy hbl hbl2 hb cu cu2 hs hs2
          go_upto_region 6 with (first
            | (with_reducible refine wpList_load_mid rfl 71 (.tmp 20) rfl b (o + i * 2) rfl C _ R1.out Try.underlying71 rfl IC.out ?_)
            | (with_reducible refine wpList_store_mid rfl 71 (.tmp 8) (.tmp 21) rfl wr.heap.size 0 C.toArray rfl rfl (there_new (Z := Z2) HZl.out N1.out) (info_arr IC.out) (all_oneCell_toArray O1.out) ?_))
          obtain ⟨hBC, hbC⟩ := laid_new (w := wr) (T := 71) HZl.out N1.out
          have hbC0 := hbC
          generalize (wr.alloc (.cells Z2.toArray 71)).setCells wr.heap.size 0 C = w6 at hBC hbC ⊢
          generalize hg6 : wr.heap.size = g6 at hBC ⊢
          have R26 := Lib.hid (R2.out w6 hbC)
          have HBC := Lib.hid hBC
          have HbC := Lib.hid hbC
          have Hg6 := Lib.hid hg6
          clear hbC0 hBC hbC hg6
          go_upto_region 7 with (first
            | (with_reducible refine wpList_load_mid rfl 71 (.tmp 24) rfl b2 (o2 + i * 2) rfl D _ R26.out Try.underlying71 rfl ID.out ?_)
            | (with_reducible refine wpList_store_mid rfl 71 (.tmp 9) (.tmp 25) rfl w6.heap.size 0 D.toArray rfl rfl (there_new (Z := Z2) HZl.out N2.out) (info_arr ID.out) (all_oneCell_toArray O2.out) ?_))
          obtain ⟨hBD, hbD⟩ := laid_new (w := w6) (T := 71) HZl.out N2.out
          have hBC7 := HBC.out.below hbD HBC.out.lt
          have Hw7 := Lib.hid (Below.trans HbC.out (hbD.mono HbC.out.size))
          generalize (w6.alloc (.cells Z2.toArray 71)).setCells w6.heap.size 0 D = w7 at hBD hbD hBC7 Hw7 ⊢
          clear hbD
          generalize w6.heap.size = g7 at hBD ⊢
          have RC := Lib.hid hBC7.range
          have RD := Lib.hid hBD.range
          clear hBC7 hBD
          go_wp2_with (first
            | (with_reducible refine wpList_load_mid rfl 71 (.tmp 8) rfl g6 0 rfl C _ RC.out Try.underlying71 rfl IC.out ?_)
            | (with_reducible refine wpList_load_mid rfl 71 (.tmp 9) rfl g7 0 rfl D _ RD.out Try.underlying71 rfl ID.out ?_)
            | (go_at_call 50; (with_reducible refine (K.out _ Hw7.out).mono ?_); rintro e w8 ⟨rfl, hb8⟩; dsimp only))
          go_roundw
          case rel => exact ⟨i + 1, by omega, by go_num, HT.out, Hb.out.trans ((Hw7.out.trans (hb8.mono Hw7.out.size)).mono Hb.out.size)⟩
          case measure => simp [intOf]; omega
        · have HT : Hid (decide (xs = ys) = false) := show decide (xs = ys) = false by simpa using hne hxy
          rw [show decide (x = y) = false by simpa using hxy] at K
          clear hst hne hxy hbl hbl2 hb cu cu2 hs hs2
          go_upto_region 6 with (first
            | (with_reducible refine wpList_load_mid rfl 71 (.tmp 20) rfl b (o + i * 2) rfl C _ R1.out Try.underlying71 rfl IC.out ?_)
            | (with_reducible refine wpList_store_mid rfl 71 (.tmp 8) (.tmp 21) rfl wr.heap.size 0 C.toArray rfl rfl (there_new (Z := Z2) HZl.out N1.out) (info_arr IC.out) (all_oneCell_toArray O1.out) ?_))
          obtain ⟨hBC, hbC⟩ := laid_new (w := wr) (T := 71) HZl.out N1.out
          have hbC0 := hbC
          generalize (wr.alloc (.cells Z2.toArray 71)).setCells wr.heap.size 0 C = w6 at hBC hbC ⊢
          generalize hg6 : wr.heap.size = g6 at hBC ⊢
          have R26 := Lib.hid (R2.out w6 hbC)
          have HBC := Lib.hid hBC
          have HbC := Lib.hid hbC
          have Hg6 := Lib.hid hg6
          clear hbC0 hBC hbC hg6
          go_upto_region 7 with (first
            | (with_reducible refine wpList_load_mid rfl 71 (.tmp 24) rfl b2 (o2 + i * 2) rfl D _ R26.out Try.underlying71 rfl ID.out ?_)
            | (with_reducible refine wpList_store_mid rfl 71 (.tmp 9) (.tmp 25) rfl w6.heap.size 0 D.toArray rfl rfl (there_new (Z := Z2) HZl.out N2.out) (info_arr ID.out) (all_oneCell_toArray O2.out) ?_))
          obtain ⟨hBD, hbD⟩ := laid_new (w := w6) (T := 71) HZl.out N2.out
          have hBC7 := HBC.out.below hbD HBC.out.lt
          have Hw7 := Lib.hid (Below.trans HbC.out (hbD.mono HbC.out.size))
          generalize (w6.alloc (.cells Z2.toArray 71)).setCells w6.heap.size 0 D = w7 at hBD hbD hBC7 Hw7 ⊢
          clear hbD
          generalize w6.heap.size = g7 at hBD ⊢
          have RC := Lib.hid hBC7.range
          have RD := Lib.hid hBD.range
          clear hBC7 hBD
          go_wp2_with (first
            | (with_reducible refine wpList_load_mid rfl 71 (.tmp 8) rfl g6 0 rfl C _ RC.out Try.underlying71 rfl IC.out ?_)
            | (with_reducible refine wpList_load_mid rfl 71 (.tmp 9) rfl g7 0 rfl D _ RD.out Try.underlying71 rfl ID.out ?_)
            | (go_at_call 50; (with_reducible refine (K.out _ Hw7.out).mono ?_); rintro e w8 ⟨rfl, hb8⟩; dsimp only))
          go_ret
          exact ⟨by rw [HT.out]; rfl, Hb.out.trans ((Hw7.out.trans (hb8.mono Hw7.out.size)).mono Hb.out.size)⟩
      · obtain rfl : i = lx := by omega
        have hlt' : ¬ (i : Int) < (i : Int) := by omega
        have HT : Hid (decide (xs = ys) = true) := show decide (xs = ys) = true by
          have := HE.out
          rw [List.take_of_length_le (by rw [← Hlx.out]; exact Nat.le_refl _), List.take_of_length_le (by rw [← Hly.out]; exact Nat.le_refl _)] at this
          simpa using this
        go_wp2_with fail
        go_ret
        exact ⟨by rw [HT.out]; rfl, hb⟩
  · have e1 : ((lx : Int) != (ly : Int)) = true := by simp; omega
    have HT : Hid (decide (xs = ys) = false) := show decide (xs = ys) = false by
      have : xs ≠ ys := fun e => hl (by rw [hlx, hly, e])
      simpa using this
    clear hl hlx hly
    go_enter Try.func49, Try.ntmps49
    go_wp2_with fail
    go_ret
    exact ⟨by rw [HT.out]; rfl, Hb0.out⟩
open Go.RowKit
set_option linter.unusedVariables false
set_option linter.unusedSimpArgs false
set_option maxRecDepth 100000
theorem tx_eq (x y : TTx) : (decide (x.ver = y.ver) && decide (x.lock = y.lock) && decide (x.ins = y.ins) && decide (x.outs = y.outs)) = decide (x = y) := by
  obtain ⟨a, b, c, d⟩ := x
  obtain ⟨a', b', c', d'⟩ := y
  rw [Bool.eq_iff_iff]
  simp
  constructor
  · rintro ⟨⟨⟨h1, h2⟩, h3⟩, h4⟩; exact ⟨h1, h3, h4, h2⟩
  · rintro ⟨h1, h3, h4, h2⟩; exact ⟨⟨⟨h1, h2⟩, h3⟩, h4⟩
set_option maxHeartbeats 4000000 in
theorem same_any (x y : TTx) (i o i2 o2 : Value) (w : World) (h1 : TxOk w w.heap.size x i o) (h2 : TxOk w w.heap.size y i2 o2) : Calls Try.prog 27 #[txV x i o, txV y i2 o2] w (EqPost (decide (x = y)) w) := by
  rw [← tx_eq]
  obtain ⟨hi, ho, _, _⟩ := h1
  obtain ⟨hi2, ho2, _, _⟩ := h2
  have K30 : Hid (∀ wq, Below w.heap.size w wq → Calls Try.prog 47 #[i, i2, .func (.func 48) #[] #[]] wq (EqPost (decide (x.ins = y.ins)) wq)) := fun wq hq => eqf_ins i i2 _ _ wq ((hi.keep hq (Nat.le_refl _)).up hq.size) ((hi2.keep hq (Nat.le_refl _)).up hq.size)
  have K32 : Hid (∀ wq, Below w.heap.size w wq → Calls Try.prog 49 #[o, o2, .func (.func 50) #[] #[]] wq (EqPost (decide (x.outs = y.outs)) wq)) := fun wq hq => eqf_outs o o2 _ _ wq ((ho.keep hq (Nat.le_refl _)).up hq.size) ((ho2.keep hq (Nat.le_refl _)).up hq.size)
  obtain ⟨A1, c1, rfl, _⟩ := hi
  obtain ⟨A2, c2, rfl, _⟩ := ho
  obtain ⟨A3, c3, rfl, _⟩ := hi2
  obtain ⟨A4, c4, rfl, _⟩ := ho2
  unfold txV
  obtain ⟨n1, hn1⟩ : ∃ n, n = x.ins.length := ⟨_, rfl⟩
  obtain ⟨n2, hn2⟩ : ∃ n, n = x.outs.length := ⟨_, rfl⟩
  obtain ⟨n3, hn3⟩ : ∃ n, n = y.ins.length := ⟨_, rfl⟩
  obtain ⟨n4, hn4⟩ : ∃ n, n = y.outs.length := ⟨_, rfl⟩
  rw [← hn1, ← hn3] at K30
  rw [← hn2, ← hn4] at K32
  rw [← hn1, ← hn2, ← hn3, ← hn4]
  obtain ⟨b1, hb1⟩ : ∃ b, b = decide (x.ins = y.ins) := ⟨_, rfl⟩
  obtain ⟨b2, hb2⟩ : ∃ b, b = decide (x.outs = y.outs) := ⟨_, rfl⟩
  rw [← hb1] at K30 ⊢
  rw [← hb2] at K32 ⊢
  have HB : Hid (Below w.heap.size w ((w.alloc (.cells #[.int .u32 (x.ver : Int), .slice A1 n1 c1, .slice A2 n2 c2, .int .u32 (x.lock : Int)] 60)).alloc (.cells #[.int .u32 (y.ver : Int), .slice A3 n3 c3, .slice A4 n4 c4, .int .u32 (y.lock : Int)] 60))) := ((Below.refl w.heap.size w).alloc (Nat.le_refl _) _).alloc (by simp) _
  clear hn1 hn2 hn3 hn4 hb1 hb2
  by_cases hv : x.ver = y.ver
  · have e1 : ((x.ver : Int) == (y.ver : Int)) = true := by simp [hv]
    have d1 : decide (x.ver = y.ver) = true := by simpa using hv
    rw [d1]
    clear hv d1
    by_cases hk : x.lock = y.lock
    · have e2 : ((x.lock : Int) == (y.lock : Int)) = true := by simp [hk]
      have d2 : decide (x.lock = y.lock) = true := by simpa using hk
      rw [d2]
      clear hk d2
      cases b1 with
      | false =>
        go_enter Try.func27, Try.ntmps27
        go_wp2_with (go_at_call 47; (with_reducible refine (K30.out _ HB.out).mono ?_); rintro e w2 ⟨rfl, hb2⟩; dsimp only)
        go_ret
        exact ⟨by simp, HB.out.trans (hb2.mono HB.out.size)⟩
      | true =>
        go_enter Try.func27, Try.ntmps27
        go_wp2_with (first
          | (go_at_call 47; (with_reducible refine (K30.out _ HB.out).mono ?_); rintro e w2 ⟨rfl, hb2⟩; have HB2 : Hid (Below w.heap.size w w2) := HB.out.trans (hb2.mono HB.out.size); have d1 : w2.cell? ⟨w.heap.size, 2, none⟩ = some (.slice A2 n2 c2) := (by rw [hb2.cell (p := ⟨w.heap.size, 2, none⟩) (by simp; omega)]; exact cell_alloc _ (cell_new rfl rfl)); have d2 : w2.cell? ⟨w.heap.size + 1, 2, none⟩ = some (.slice A4 n4 c4) := (by rw [hb2.cell (p := ⟨w.heap.size + 1, 2, none⟩) (by simp)]; exact cell_new (by simp) rfl); clear hb2; dsimp only)
          | (go_at_call 49; (with_reducible refine (K32.out _ HB2.out).mono ?_); rintro e w3 ⟨rfl, hb3⟩; dsimp only))
        go_ret
        exact ⟨by simp, HB2.out.trans (hb3.mono HB2.out.size)⟩
    · have e2 : ((x.lock : Int) == (y.lock : Int)) = false := by simp; omega
      have d2 : decide (x.lock = y.lock) = false := by simpa using hk
      rw [d2]
      clear hk d2
      go_enter Try.func27, Try.ntmps27
      go_wp2_with fail
      go_ret
      exact ⟨by simp, HB.out⟩
  · have e1 : ((x.ver : Int) == (y.ver : Int)) = false := by simp; omega
    have d1 : decide (x.ver = y.ver) = false := by simpa using hv
    rw [d1]
    clear hv d1
    go_enter Try.func27, Try.ntmps27
    go_wp2_with fail
    go_ret
    exact ⟨by simp, HB.out⟩
open Go.RowKit
set_option linter.unusedVariables false
set_option linter.unusedSimpArgs false
set_option maxRecDepth 100000
theorem zero60t (w : World) : (zeroValue 60).run Try.prog w = .ok (.agg z4.toArray) w := by kernel_rfl
theorem tx4_one {w : World} {B : Nat} {t : TTx} {i o : Value} (h : TxOk w B t i o) : ∀ v ∈ tx4 t i o, v.oneCell' = true := by
  obtain ⟨⟨A1, c1, rfl, _⟩, ⟨A2, c2, rfl, _⟩, _, _⟩ := h
  intro v hv
  simp only [tx4, List.mem_cons, List.not_mem_nil, or_false] at hv
  rcases hv with rfl | rfl | rfl | rfl <;> rfl
theorem same4_eq (x y : TTx) (s u s2 u2 : Value) (w : World) (h1 : TxOk w w.heap.size x s u) (h2 : TxOk w w.heap.size y s2 u2) : Calls Try.prog 27 #[.agg (tx4 x s u).toArray, .agg (tx4 y s2 u2).toArray] w (EqPost (decide (x = y)) w) := same_any x y s u s2 u2 w h1 h2
set_option maxHeartbeats 4000000 in
theorem eqf_txs (v u : Value) (xs ys : List TTx) (w : World) (h1 : Txs w w.heap.size v xs) (h2 : Txs w w.heap.size u ys) :
    Calls Try.prog 26 #[v, u, .func (.func 27) #[] #[]] w (EqPost (decide (xs = ys)) w) := by
  obtain ⟨A, c, b, o, rfl, hA, hr⟩ := Row.open h1
  obtain ⟨A2, c2, b2, o2, rfl, hA2, hr2⟩ := Row.open h2
  obtain ⟨_, _, e1, hm1, hm2, _⟩ := h1
  cases e1
  have HR := Lib.hid hr
  have HR2 := Lib.hid hr2
  have HA := Lib.hid hA
  have HA2 := Lib.hid hA2
  obtain ⟨lx, hlx⟩ : ∃ n, n = xs.length := ⟨_, rfl⟩
  obtain ⟨ly, hly⟩ : ∃ n, n = ys.length := ⟨_, rfl⟩
  have Hlx := Lib.hid hlx
  have Hly := Lib.hid hly
  have hlm : lx ≤ 9223372036854775807 := by omega
  have Hb0 := Lib.hid (Below.refl w.heap.size w)
  rw [← hlx, ← hly]
  clear hr hr2 hA hA2 hm1 hm2 h2
  by_cases hl : lx = ly
  · have hly2 : ly = ys.length := hly
    clear hly
    subst hl
    clear hlx hly2
    go_enter Try.func26, Try.ntmps26
    go_wp2_with fail
    go_loopw [17] (fun iv wq => ∃ i : Nat, i ≤ lx ∧ iv = .int .i64 (i : Int) ∧ xs.take i = ys.take i ∧ Below w.heap.size w wq) (fun iv _ => lx - (intOf iv).toNat)
    case atStart => exact ⟨0, Nat.zero_le _, rfl, rfl, Hb0.out⟩
    case round =>
      obtain ⟨i, hi, rfl, he, hb⟩ := hrel
      have HE := Lib.hid he
      clear he
      by_cases hlt : i < lx
      · have hlt' : (i : Int) < (lx : Int) := by omega
        obtain rfl := HA.out (by rw [← Hlx.out]; omega)
        obtain rfl := HA2.out (by rw [← Hly.out]; omega)
        obtain ⟨hbl, s1, u1, cu, hs⟩ := HR.out i (by rw [← Hlx.out]; exact hlt)
        obtain ⟨hbl2, s2, u2, cu2, hs2⟩ := HR2.out i (by rw [← Hly.out]; exact hlt)
        have hst := take_eq_succ xs ys tx00 i (by rw [← Hlx.out]; exact hlt) (by rw [← Hly.out]; exact hlt) HE.out
        have hne := ne_at xs ys tx00 i
        have hs1 := (hs.keep hb (Nat.le_refl _)).up hb.size
        have hs21 := (hs2.keep hb (Nat.le_refl _)).up hb.size
        have r1 := range_keep cu hb hbl
        have r2 := range_keep cu2 hb hbl2
        have KK : Hid (∀ wq, Below wr.heap.size wr wq → Calls Try.prog 27 #[.agg (tx4 (xs.getD i tx00) s1 u1).toArray, .agg (tx4 (ys.getD i tx00) s2 u2).toArray] wq (EqPost (decide (xs.getD i tx00 = ys.getD i tx00)) wq)) := fun wq hq => same4_eq _ _ s1 u1 s2 u2 wq ((hs1.keep hq (Nat.le_refl _)).up hq.size) ((hs21.keep hq (Nat.le_refl _)).up hq.size)
        have o1 := tx4_one hs1
        have o2' := tx4_one hs21
        have n1 : (tx4 (xs.getD i tx00) s1 u1).length = 4 := rfl
        have n2 : (tx4 (ys.getD i tx00) s2 u2).length = 4 := rfl
        obtain ⟨C, hC⟩ : ∃ C, C = tx4 (xs.getD i tx00) s1 u1 := ⟨_, rfl⟩
        obtain ⟨D, hD⟩ : ∃ D, D = tx4 (ys.getD i tx00) s2 u2 := ⟨_, rfl⟩
        rw [← hC] at r1 KK o1 n1
        rw [← hD] at r2 KK o2' n2
        have R1 := Lib.hid r1
        have R2 : Hid (∀ wq, Below wr.heap.size wr wq → wq.rangeAt b2 (o2 + i * 4) D) := fun wq hq => range_keep r2 hq (Nat.lt_of_lt_of_le hbl2 hb.size)
        have O1 := Lib.hid o1
        have O2 := Lib.hid o2'
        have N1 := Lib.hid n1
        have N2 := Lib.hid n2
        have IC : Hid ((Try.prog.info? 60).map (·.size) = some C.length) := show _ = _ by rw [n1]; kernel_rfl
        have ID : Hid ((Try.prog.info? 60).map (·.size) = some D.length) := show _ = _ by rw [n2]; kernel_rfl
        have hz := zero60t
        have HZl : Hid (z4.length = 4) := show z4.length = 4 by rfl
        clear hC hD r1 r2 o1 o2' n1 n2 hs1 hs21
        generalize xs.getD i tx00 = x at KK hst hne cu hs
        generalize ys.getD i tx00 = y at KK hst hne cu2 hs2
        have Hb := Lib.hid hb
        have K := KK
        by_cases hxy : x = y
        · have HT := Lib.hid (hst.2 hxy)
          rw [show decide (x = y) = true by simpa using hxy] at K
          clear hst hne hxy hbl hbl2 hb cu cu2 hs hs2
          go_upto_region 6 with (first
            | (with_reducible refine wpList_load_mid rfl 60 (.tmp 20) rfl b (o + i * 4) rfl C _ R1.out Try.underlying60 rfl IC.out ?_)
            | (with_reducible refine wpList_store_mid rfl 60 (.tmp 8) (.tmp 21) rfl wr.heap.size 0 C.toArray rfl rfl (there_new (Z := z4) HZl.out N1.out) (info_arr IC.out) (all_oneCell_toArray O1.out) ?_))
          obtain ⟨hBC, hbC⟩ := laid_new (w := wr) (T := 60) HZl.out N1.out
          have hbC0 := hbC
          generalize (wr.alloc (.cells z4.toArray 60)).setCells wr.heap.size 0 C = w6 at hBC hbC ⊢
          generalize hg6 : wr.heap.size = g6 at hBC ⊢
          have R26 := Lib.hid (R2.out w6 hbC)
          have HBC := Lib.hid hBC
          have HbC := Lib.hid hbC
          have Hg6 := Lib.hid hg6
          clear hbC0 hBC hbC hg6
          go_upto_region 7 with (first
            | (with_reducible refine wpList_load_mid rfl 60 (.tmp 24) rfl b2 (o2 + i * 4) rfl D _ R26.out Try.underlying60 rfl ID.out ?_)
            | (with_reducible refine wpList_store_mid rfl 60 (.tmp 9) (.tmp 25) rfl w6.heap.size 0 D.toArray rfl rfl (there_new (Z := z4) HZl.out N2.out) (info_arr ID.out) (all_oneCell_toArray O2.out) ?_))
          obtain ⟨hBD, hbD⟩ := laid_new (w := w6) (T := 60) HZl.out N2.out
          have hBC7 := HBC.out.below hbD HBC.out.lt
          have Hw7 := Lib.hid (Below.trans HbC.out (hbD.mono HbC.out.size))
          generalize (w6.alloc (.cells z4.toArray 60)).setCells w6.heap.size 0 D = w7 at hBD hbD hBC7 Hw7 ⊢
          clear hbD
          generalize w6.heap.size = g7 at hBD ⊢
          have RC := Lib.hid hBC7.range
          have RD := Lib.hid hBD.range
          clear hBC7 hBD
          go_wp2_with (first
            | (with_reducible refine wpList_load_mid rfl 60 (.tmp 8) rfl g6 0 rfl C _ RC.out Try.underlying60 rfl IC.out ?_)
            | (with_reducible refine wpList_load_mid rfl 60 (.tmp 9) rfl g7 0 rfl D _ RD.out Try.underlying60 rfl ID.out ?_)
            | (go_at_call 27; (with_reducible refine (K.out _ Hw7.out).mono ?_); rintro e w8 ⟨rfl, hb8⟩; dsimp only))
          go_roundw
          case rel => exact ⟨i + 1, by omega, by go_num, HT.out, Hb.out.trans ((Hw7.out.trans (hb8.mono Hw7.out.size)).mono Hb.out.size)⟩
          case measure => simp [intOf]; omega
        · have HT : Hid (decide (xs = ys) = false) := show decide (xs = ys) = false by simpa using hne hxy
          rw [show decide (x = y) = false by simpa using hxy] at K
          clear hst hne hxy hbl hbl2 hb cu cu2 hs hs2
          go_upto_region 6 with (first
            | (with_reducible refine wpList_load_mid rfl 60 (.tmp 20) rfl b (o + i * 4) rfl C _ R1.out Try.underlying60 rfl IC.out ?_)
            | (with_reducible refine wpList_store_mid rfl 60 (.tmp 8) (.tmp 21) rfl wr.heap.size 0 C.toArray rfl rfl (there_new (Z := z4) HZl.out N1.out) (info_arr IC.out) (all_oneCell_toArray O1.out) ?_))
          obtain ⟨hBC, hbC⟩ := laid_new (w := wr) (T := 60) HZl.out N1.out
          have hbC0 := hbC
          generalize (wr.alloc (.cells z4.toArray 60)).setCells wr.heap.size 0 C = w6 at hBC hbC ⊢
          generalize hg6 : wr.heap.size = g6 at hBC ⊢
          have R26 := Lib.hid (R2.out w6 hbC)
          have HBC := Lib.hid hBC
          have HbC := Lib.hid hbC
          have Hg6 := Lib.hid hg6
          clear hbC0 hBC hbC hg6
          go_upto_region 7 with (first
            | (with_reducible refine wpList_load_mid rfl 60 (.tmp 24) rfl b2 (o2 + i * 4) rfl D _ R26.out Try.underlying60 rfl ID.out ?_)
            | (with_reducible refine wpList_store_mid rfl 60 (.tmp 9) (.tmp 25) rfl w6.heap.size 0 D.toArray rfl rfl (there_new (Z := z4) HZl.out N2.out) (info_arr ID.out) (all_oneCell_toArray O2.out) ?_))
          obtain ⟨hBD, hbD⟩ := laid_new (w := w6) (T := 60) HZl.out N2.out
          have hBC7 := HBC.out.below hbD HBC.out.lt
          have Hw7 := Lib.hid (Below.trans HbC.out (hbD.mono HbC.out.size))
          generalize (w6.alloc (.cells z4.toArray 60)).setCells w6.heap.size 0 D = w7 at hBD hbD hBC7 Hw7 ⊢
          clear hbD
          generalize w6.heap.size = g7 at hBD ⊢
          have RC := Lib.hid hBC7.range
          have RD := Lib.hid hBD.range
          clear hBC7 hBD
          go_wp2_with (first
            | (with_reducible refine wpList_load_mid rfl 60 (.tmp 8) rfl g6 0 rfl C _ RC.out Try.underlying60 rfl IC.out ?_)
            | (with_reducible refine wpList_load_mid rfl 60 (.tmp 9) rfl g7 0 rfl D _ RD.out Try.underlying60 rfl ID.out ?_)
            | (go_at_call 27; (with_reducible refine (K.out _ Hw7.out).mono ?_); rintro e w8 ⟨rfl, hb8⟩; dsimp only))
          go_ret
          exact ⟨by rw [HT.out]; rfl, Hb.out.trans ((Hw7.out.trans (hb8.mono Hw7.out.size)).mono Hb.out.size)⟩
      · obtain rfl : i = lx := by omega
        have hlt' : ¬ (i : Int) < (i : Int) := by omega
        have HT : Hid (decide (xs = ys) = true) := show decide (xs = ys) = true by
          have := HE.out
          rw [List.take_of_length_le (by rw [← Hlx.out]; exact Nat.le_refl _), List.take_of_length_le (by rw [← Hly.out]; exact Nat.le_refl _)] at this
          simpa using this
        go_wp2_with fail
        go_ret
        exact ⟨by rw [HT.out]; rfl, hb⟩
  · have e1 : ((lx : Int) != (ly : Int)) = true := by simp; omega
    have HT : Hid (decide (xs = ys) = false) := show decide (xs = ys) = false by
      have : xs ≠ ys := fun e => hl (by rw [hlx, hly, e])
      simpa using this
    clear hl hlx hly
    go_enter Try.func26, Try.ntmps26
    go_wp2_with fail
    go_ret
    exact ⟨by rw [HT.out]; rfl, Hb0.out⟩
theorem eqIn25 (d : Nat) (X Y : List (BitVec 8)) (hX : X.length = 32) (hY : Y.length = 32) (w : World) : (Op.equalIn (d + 2) 25 (.agg (vbs X).toArray) (.agg (vbs Y).toArray)).run Try.prog w = .ok (decide (X = Y)) w := by
  have eX : vbs X = (X.map UInt8.ofBitVec).map Extern.Stop.cell := by simp [vbs, Extern.Stop.cell, Bt]
  have eY : vbs Y = (Y.map UInt8.ofBitVec).map Extern.Stop.cell := by simp [vbs, Extern.Stop.cell, Bt]
  have := run_equalIn_bytes (P := Try.prog) w d 25 5 32 Try.underlying25 Try.underlying5 (fun _ => by kernel_rfl) (X.map UInt8.ofBitVec) (Y.map UInt8.ofBitVec) (by simpa using hX) (by simpa using hY)
  rw [← eX, ← eY] at this
  rw [this]
  congr 1
  rw [Bool.eq_iff_iff]
  simp only [beq_iff_eq, decide_eq_true_eq]
  constructor
  · intro h
    have := congrArg (List.map UInt8.toBitVec) h
    simpa [List.map_map, Function.comp_def] using this
  · intro h
    rw [h]
theorem eql25 (X Y : List (BitVec 8)) (hX : X.length = 32) (hY : Y.length = 32) (w : World) : (binOp .eql 25 (.agg (vbs X).toArray) (.agg (vbs Y).toArray)).run Try.prog w = .ok (.bool (decide (X = Y))) w := by
  rw [run_eql_struct, eqIn25 9998 X Y hX hY w]
  rfl
theorem neq25 (X Y : List (BitVec 8)) (hX : X.length = 32) (hY : Y.length = 32) (w : World) : (binOp .neq 25 (.agg (vbs X).toArray) (.agg (vbs Y).toArray)).run Try.prog w = .ok (.bool (!decide (X = Y))) w := by
  rw [run_neq_struct, eqIn25 9998 X Y hX hY w]
  rfl
theorem part_u32 (cs : List Value) (j : Nat) (v : Value) (hv : cs[j]? = some v) (w : World) : (part 23 cs.toArray j).run Try.prog w = .ok v w := by
  have h1 : (isAgg 23).run Try.prog w = .ok false w := by kernel_rfl
  simp [part, h1, hv]
theorem part_hash (cs : List Value) (j : Nat) (X : List (BitVec 8)) (hX : X.length = 32) (hc : (cs.drop j).take 32 = vbs X) (w : World) : (part 25 cs.toArray j).run Try.prog w = .ok (.agg (vbs X).toArray) w := by
  have h1 : (isAgg 25).run Try.prog w = .ok true w := by kernel_rfl
  have h2 : (sizeOf 25).run Try.prog w = .ok 32 w := by kernel_rfl
  simp [part, h1, h2]
  exact hc
theorem hdV_prevs {h : THd} (k : HdOk h) : ((hdV h).drop 1).take 32 = vbs h.prev := by
  unfold hdV
  rw [List.drop_succ_cons, List.drop_zero, List.take_append_of_le_length (by rw [vbs_len, k.prev]; exact Nat.le_refl _), List.take_of_length_le (by rw [vbs_len, k.prev]; exact Nat.le_refl _)]
theorem hdV_roots {h : THd} (k : HdOk h) : ((hdV h).drop 33).take 32 = vbs h.root := by
  unfold hdV
  rw [List.drop_succ_cons, List.drop_left' (by rw [vbs_len, k.prev]), List.take_append_of_le_length (by rw [vbs_len, k.root]; exact Nat.le_refl _), List.take_of_length_le (by rw [vbs_len, k.root]; exact Nat.le_refl _)]
theorem hd_eq (h g : THd) : (h = g) ↔ (h.ver = g.ver ∧ h.prev = g.prev ∧ h.root = g.root ∧ h.time = g.time ∧ h.bits = g.bits ∧ h.nonce = g.nonce) := by
  cases h; cases g; simp
instance (h g : THd) : Decidable (h = g) := decidable_of_iff _ (hd_eq h g).symm
theorem eqlH {h g : THd} (kh : HdOk h) (kg : HdOk g) (w : World) : (binOp .eql 27 (.agg (hdV h).toArray) (.agg (hdV g).toArray)).run Try.prog w = .ok (.bool (decide (h = g))) w := by
  have hS : Try.prog.underlying 27 = some (.struct (Try.prog.fieldsOf 27)) := by kernel_rfl
  have hp : Try.prog.stoodInHeld 27 = false := by kernel_rfl
  have a0 := part_u32 (hdV h) 0 (.int .u32 (h.ver : Int)) rfl
  have b0 := part_u32 (hdV g) 0 (.int .u32 (g.ver : Int)) rfl
  have a1 := part_hash (hdV h) 1 _ kh.prev (hdV_prevs kh)
  have b1 := part_hash (hdV g) 1 _ kg.prev (hdV_prevs kg)
  have a2 := part_hash (hdV h) 33 _ kh.root (hdV_roots kh)
  have b2 := part_hash (hdV g) 33 _ kg.root (hdV_roots kg)
  have a3 := part_u32 (hdV h) 65 _ (hdV_end kh (j := 0) rfl)
  have b3 := part_u32 (hdV g) 65 _ (hdV_end kg (j := 0) rfl)
  have a4 := part_u32 (hdV h) 66 _ (hdV_end kh (j := 1) rfl)
  have b4 := part_u32 (hdV g) 66 _ (hdV_end kg (j := 1) rfl)
  have a5 := part_u32 (hdV h) 67 _ (hdV_end kh (j := 2) rfl)
  have b5 := part_u32 (hdV g) 67 _ (hdV_end kg (j := 2) rfl)
  have e1 : ∀ w, (Op.equalIn 9999 25 (.agg (vbs h.prev).toArray) (.agg (vbs g.prev).toArray)).run Try.prog w = .ok (decide (h.prev = g.prev)) w := fun w => eqIn25 9997 _ _ kh.prev kg.prev w
  have e2 : ∀ w, (Op.equalIn 9999 25 (.agg (vbs h.root).toArray) (.agg (vbs g.root).toArray)).run Try.prog w = .ok (decide (h.root = g.root)) w := fun w => eqIn25 9997 _ _ kh.root kg.root w
  have hi : ∀ (a b : Nat) w, (Op.equalIn 9999 23 (.int .u32 (a : Int)) (.int .u32 (b : Int))).run Try.prog w = .ok ((a : Int) == (b : Int)) w := fun a b w => run_equalIn_int w 9998 23 .u32 .u32 _ _ Try.underlying23
  rw [run_eql_struct, show (10000 : Nat) = 9999 + 1 from rfl, run_equalIn_agg w 9999 27 _ _ hS hp]
  simp only [Program.fieldsOf, Try.underlying27]
  generalize (hdV h).toArray = P1 at a0 a1 a2 a3 a4 a5 ⊢
  generalize (hdV g).toArray = P2 at b0 b1 b2 b3 b4 b5 ⊢
  simp only [Op.eqFields, Sem.run_bind, a0, a1, a2, a3, a4, a5, b0, b1, b2, b3, b4, b5, e1, e2, hi, Result.andThen_ok, Sem.run_ite, Sem.run_pure]
  have E : decide (h = g) = (((h.ver : Int) == (g.ver : Int)) && (decide (h.prev = g.prev) && (decide (h.root = g.root) && (((h.time : Int) == (g.time : Int)) && (((h.bits : Int) == (g.bits : Int)) && ((h.nonce : Int) == (g.nonce : Int))))))) := by
    rw [Bool.eq_iff_iff]
    simp only [decide_eq_true_eq, Bool.and_eq_true, beq_iff_eq, hd_eq, Int.ofNat_inj]
  rw [E]
  generalize ((h.ver : Int) == (g.ver : Int)) = q0
  generalize decide (h.prev = g.prev) = q1
  generalize decide (h.root = g.root) = q2
  generalize ((h.time : Int) == (g.time : Int)) = q3
  generalize ((h.bits : Int) == (g.bits : Int)) = q4
  generalize ((h.nonce : Int) == (g.nonce : Int)) = q5
  cases q0 <;> cases q1 <;> cases q2 <;> cases q3 <;> cases q4 <;> cases q5 <;> rfl
/-- Are two blocks equal? -/
def bEq (x y : TBk) : Bool := decide (x.hd = y.hd) && decide (x.txs = y.txs)
set_option maxHeartbeats 4000000 in
theorem bsame_any (x y : TBk) (v u : Value) (w : World) (h1 : Txs w w.heap.size v x.txs) (h2 : Txs w w.heap.size u y.txs) (k1 : HdOk x.hd) (k2 : HdOk y.hd) : Calls Try.prog 12 #[.agg (bkL x.hd v).toArray, .agg (bkL y.hd u).toArray] w (BoolPost (bEq x y) w) := by
  have hh1 := h1
  have hh2 := h2
  obtain ⟨A1, c1, rfl, _⟩ := h1
  obtain ⟨A2, c2, rfl, _⟩ := h2
  obtain ⟨n1, hn1⟩ : ∃ n, n = x.txs.length := ⟨_, rfl⟩
  obtain ⟨n2, hn2⟩ : ∃ n, n = y.txs.length := ⟨_, rfl⟩
  obtain ⟨h, hh⟩ : ∃ h, h = x.hd := ⟨_, rfl⟩
  obtain ⟨g, hg⟩ : ∃ h, h = y.hd := ⟨_, rfl⟩
  rw [← hh] at k1
  rw [← hg] at k2
  rw [← hn1] at hh1
  rw [← hn2] at hh2
  have hb1 : Blk ((w.alloc (.cells (bkL h (.slice A1 n1 c1)).toArray 30)).alloc (.cells (bkL g (.slice A2 n2 c2)).toArray 30)) w.heap.size 30 (bkL h (.slice A1 n1 c1)) := by
    have := (Blk.new w 30 (bkL h (.slice A1 n1 c1)).toArray).alloc (.cells (bkL g (.slice A2 n2 c2)).toArray 30)
    rwa [List.toList_toArray] at this
  have hb2 : Blk ((w.alloc (.cells (bkL h (.slice A1 n1 c1)).toArray 30)).alloc (.cells (bkL g (.slice A2 n2 c2)).toArray 30)) (w.heap.size + 1) 30 (bkL g (.slice A2 n2 c2)) := by
    have := Blk.new (w.alloc (.cells (bkL h (.slice A1 n1 c1)).toArray 30)) 30 (bkL g (.slice A2 n2 c2)).toArray
    rw [List.toList_toArray] at this
    simpa using this
  have hbw : Below w.heap.size w ((w.alloc (.cells (bkL h (.slice A1 n1 c1)).toArray 30)).alloc (.cells (bkL g (.slice A2 n2 c2)).toArray 30)) := ((Below.refl _ _).alloc (Nat.le_refl _) _).alloc (by simp) _
  have K := eqf_txs (.slice A1 n1 c1) (.slice A2 n2 c2) x.txs y.txs _ ((hh1.keep hbw (Nat.le_refl _)).up hbw.size) ((hh2.keep hbw (Nat.le_refl _)).up hbw.size)
  have HK := Lib.hid K
  have HB := Lib.hid hbw
  have d1 := hb1.cell (j := 68) (at68 k1)
  have d2 := hb2.cell (j := 68) (at68 k2)
  have R1 := Lib.hid (range_hd hb1)
  have R2 := Lib.hid (range_hd hb2)
  have I1 := Lib.hid (hdinfo k1)
  have I2 := Lib.hid (hdinfo k2)
  have hq : ∀ wq : World, (binOp .eql 27 (.agg (hdV h).toArray) (.agg (hdV g).toArray)).run Try.prog wq = .ok (.bool (decide (h = g))) wq := fun wq => eqlH k1 k2 wq
  obtain ⟨V1, hV1⟩ : ∃ V, V = (bkL h (.slice A1 n1 c1)).toArray := ⟨_, rfl⟩
  obtain ⟨V2, hV2⟩ : ∃ V, V = (bkL g (.slice A2 n2 c2)).toArray := ⟨_, rfl⟩
  have HE : Hid (bEq x y = (decide (h = g) && decide (x.txs = y.txs))) := by rw [hh, hg]; rfl
  rw [← hh, ← hg, ← hn1, ← hn2]
  rw [← hV1, ← hV2] at d1 d2 HK HB R1 R2 ⊢
  clear hh1 hh2 hn1 hn2 hh hg k1 k2 hb1 hb2 hbw K hV1 hV2
  cases hd : decide (h = g)
  · rw [hd] at hq HE
    go_enter Try.func12, Try.ntmps12
    go_wp2_with (first
      | (with_reducible refine wpList_load_mid rfl 27 (.tmp 5) rfl w.heap.size 0 rfl (hdV h) _ R1.out Try.underlying27 rfl I1.out ?_)
      | (with_reducible refine wpList_load_mid rfl 27 (.tmp 7) rfl (w.heap.size + 1) 0 rfl (hdV g) _ R2.out Try.underlying27 rfl I2.out ?_))
    go_ret
    exact ⟨by rw [HE.out]; rfl, HB.out⟩
  · rw [hd] at hq HE
    go_enter Try.func12, Try.ntmps12
    go_wp2_with (first
      | (with_reducible refine wpList_load_mid rfl 27 (.tmp 5) rfl w.heap.size 0 rfl (hdV h) _ R1.out Try.underlying27 rfl I1.out ?_)
      | (with_reducible refine wpList_load_mid rfl 27 (.tmp 7) rfl (w.heap.size + 1) 0 rfl (hdV g) _ R2.out Try.underlying27 rfl I2.out ?_)
      | (go_at_call 26; go_loud ((with_reducible refine HK.out.mono ?_); rintro e w3 ⟨rfl, hb3⟩; have HB3 := Lib.hid hb3; clear hb3 HK; dsimp only)))
    go_ret
    exact ⟨by rw [HE.out]; rfl, HB.out.trans (HB3.out.mono HB.out.size)⟩
open Go.RowKit
set_option linter.unusedVariables false
set_option linter.unusedSimpArgs false
set_option maxRecDepth 100000
def IG : TIn := ⟨Z32, 0, [], 5, []⟩
def TG : TTx := ⟨1, [IG], [⟨7, [81]⟩], 9⟩
/-- The chapter's block. -/
def BG : TBk := ⟨hd0, [TG]⟩
def GivenPost (w : World) (e : Ending) (w' : World) : Prop := ∃ g, e = .returned (.agg (bkL hd0 (.slice (some ⟨g, 0, none⟩) 1 1)).toArray) ∧ Txs w' w'.heap.size (.slice (some ⟨g, 0, none⟩) 1 1) [TG] ∧ Below w.heap.size w w'
theorem sl_one {w : World} {g B : Nat} (x : BitVec 8) (h : Blk w g 5 [.int .u8 (Bt x)]) (hg : g < B) : Sl w B (.slice (some ⟨g, 0, none⟩) 1 1) [x] :=
  ⟨_, 1, rfl, fun _ => ⟨g, 0, rfl, hg, fun j hj => by
    have : j = 0 := by simp at hj; omega
    subst this
    exact h.cell rfl⟩, Nat.le_refl _, by omega, fun h => by cases h⟩
theorem tg_ok {w : World} {gi gs go : Nat} (hi : Blk w gi 69 (inV IG (.slice none 0 0) (.slice none 0 0))) (ho : Blk w go 71 [.int .i64 7, .slice (some ⟨gs, 0, none⟩) 1 1]) (hs : Blk w gs 5 [.int .u8 81]) :
    TxOk w w.heap.size TG (.slice (some ⟨gi, 0, none⟩) 1 1) (.slice (some ⟨go, 0, none⟩) 1 1) := by
  refine ⟨⟨_, 1, rfl, Nat.le_refl _, by omega, fun _ => ⟨gi, 0, rfl, hi.lt, fun j hj => ?_⟩⟩, ⟨_, 1, rfl, Nat.le_refl _, by omega, fun _ => ⟨go, 0, rfl, ho.lt, fun j hj => ?_⟩⟩, show (1 : Nat) < 4294967296 by omega, show (9 : Nat) < 4294967296 by omega⟩
  · have : j = 0 := by simp [TG] at hj; omega
    subst this
    exact ⟨.slice none 0 0, .slice none 0 0, hi.range, Sl.nil _ _, ⟨none, 0, rfl, Nat.le_refl _, by omega, fun h => by simp [TG, IG, List.getD] at h⟩, rfl, show (0 : Nat) < 4294967296 by omega, show (5 : Nat) < 4294967296 by omega⟩
  · have : j = 0 := by simp [TG] at hj; omega
    subst this
    exact ⟨.slice (some ⟨gs, 0, none⟩) 1 1, ho.range, sl_one 81 hs hs.lt, show (-9223372036854775808 : Int) ≤ 7 by omega, show (7 : Int) < 9223372036854775808 by omega⟩
theorem txs_one {w : World} {gt : Nat} {i o : Value} (h : TxOk w w.heap.size TG i o) (hb : Blk w gt 60 [.int .u32 1, i, o, .int .u32 9]) : Txs w w.heap.size (.slice (some ⟨gt, 0, none⟩) 1 1) [TG] := by
  refine ⟨_, 1, rfl, Nat.le_refl _, by omega, fun _ => ⟨gt, 0, rfl, hb.lt, fun j hj => ?_⟩⟩
  have : j = 0 := by simp at hj; omega
  subst this
  exact ⟨i, o, hb.range, h⟩
theorem built30g (A : Option Addr) (n c : Nat) : Try.prog.built 30 [(1, .slice A n c)] = some (bkL hd0 (.slice A n c)).toArray := by kernel_rfl
theorem wpList_build30g {ops : Array Oper} {rest : List Oper} {o : Oper} {a : Act} {w : World} {Q : Exit → Act → World → Prop} (hg : o.guard = none) (x1 : Operand) (ho : o.op = .build 30 #[(1, x1)])
    (A : Option Addr) (n c : Nat) (h1 : a.eval x1 = .slice A n c)
    (h : wpList Try.prog ops Q rest (a.put o.dst (.agg (bkL hd0 (.slice A n c)).toArray)) w) : wpList Try.prog ops Q (o :: rest) a w := by
  have e : Try.prog.built 30 ((#[(1, x1)] : Array (Nat × Operand)).map fun (i, x) => (i, a.eval x)).toList = some (bkL hd0 (.slice A n c)).toArray := by
    rw [← built30g A n c]
    simp [h1]
  exact wpList_build hg 30 _ ho (by rw [e]; rfl) (by rw [e]; exact h)
set_option maxHeartbeats 4000000 in
theorem given_any (w : World) : Calls Try.prog 25 #[] w (GivenPost w) := by
  have hz := bkzero
  have hbx : Blk (w.alloc (.cells (bkL hd0 (.slice none 0 0)).toArray 30)) w.heap.size 30 (bkL hd0 (.slice none 0 0)) := by
    have := Blk.new w 30 (bkL hd0 (.slice none 0 0)).toArray
    rwa [List.toList_toArray] at this
  have hW : Below w.heap.size w (w.alloc (.cells (bkL hd0 (.slice none 0 0)).toArray 30)) := (Below.refl _ _).alloc (Nat.le_refl _) _
  have HBx := Lib.hid hbx
  have HW := Lib.hid hW
  obtain ⟨b, hb⟩ : ∃ b, b = w.heap.size := ⟨_, rfl⟩
  have Hb := Lib.hid hb
  clear hbx hW
  go_enter Try.func25, Try.ntmps25
  go_upto_region 1 with fail
  have hlt : w.heap.size < (w.alloc (.cells (bkL hd0 (.slice none 0 0)).toArray 30)).heap.size := HBx.out.lt
  rw [← hb] at HBx HW hlt ⊢
  clear hb hz
  generalize (w.alloc (.cells (bkL hd0 (.slice none 0 0)).toArray 30)) = W0 at HBx HW hlt ⊢
  have Hlt := Lib.hid hlt
  have HT : Hid (∀ W, Below W0.heap.size W0 W → W.there b 0 (bkL hd0 (.slice (some ⟨W0.heap.size + 1 + 1 + 1, 0, none⟩) 1 1)).toArray.size) := fun W hq => there_bk (HBx.out.below hq HBx.out.lt) hd0_ok hd0_ok
  clear hlt
  go_wp2_with (first
    | (refine wpList_build30g rfl (.tmp 7) rfl _ _ _ rfl ?_)
    | (refine wpList_store_mid rfl 30 (.tmp 0) (.tmp 8) rfl b 0 (bkL hd0 (.slice (some ⟨W0.heap.size + 1 + 1 + 1, 0, none⟩) 1 1)).toArray rfl rfl (HT.out _ ?_) (info30v hd0_ok) (all_oneCell_toArray bkL_one) ?_))
  rotate_left
  · have key : ∀ W1 W2 W3 W4, W1 = W0.alloc (.cells (inV IG (.slice none 0 0) (.slice none 0 0)).toArray 69) → W2 = W1.alloc (.cells #[.int .u8 81] 5) → W3 = W2.alloc (.cells #[.int .i64 7, .slice (some ⟨W0.heap.size + 1, 0, none⟩) 1 1] 71) → W4 = W3.alloc (.cells #[.int .u32 1, .slice (some ⟨W0.heap.size, 0, none⟩) 1 1, .slice (some ⟨W0.heap.size + 1 + 1, 0, none⟩) 1 1, .int .u32 9] 60) →
        Txs (W4.setCells b 0 (bkL hd0 (.slice (some ⟨W0.heap.size + 1 + 1 + 1, 0, none⟩) 1 1))) (W4.setCells b 0 (bkL hd0 (.slice (some ⟨W0.heap.size + 1 + 1 + 1, 0, none⟩) 1 1))).heap.size (.slice (some ⟨W0.heap.size + 1 + 1 + 1, 0, none⟩) 1 1) [TG] ∧ Below w.heap.size w (W4.setCells b 0 (bkL hd0 (.slice (some ⟨W0.heap.size + 1 + 1 + 1, 0, none⟩) 1 1))) ∧ Blk (W4.setCells b 0 (bkL hd0 (.slice (some ⟨W0.heap.size + 1 + 1 + 1, 0, none⟩) 1 1))) b 30 (bkL hd0 (.slice (some ⟨W0.heap.size + 1 + 1 + 1, 0, none⟩) 1 1)) := by
      intro W1 W2 W3 W4 e1 e2 e3 e4
      have s1 : W1.heap.size = W0.heap.size + 1 := by rw [e1]; simp
      have s2 : W2.heap.size = W0.heap.size + 1 + 1 := by rw [e2]; simp [s1]
      have s3 : W3.heap.size = W0.heap.size + 1 + 1 + 1 := by rw [e3]; simp [s2]
      have b1 : Blk W1 W0.heap.size 69 (inV IG (.slice none 0 0) (.slice none 0 0)) := by rw [e1]; have := Blk.new W0 69 (inV IG (.slice none 0 0) (.slice none 0 0)).toArray; rwa [List.toList_toArray] at this
      have b2 : Blk W2 (W0.heap.size + 1) 5 [.int .u8 81] := by rw [e2, ← s1]; exact Blk.new W1 5 #[.int .u8 81]
      have b3 : Blk W3 (W0.heap.size + 1 + 1) 71 [.int .i64 7, .slice (some ⟨W0.heap.size + 1, 0, none⟩) 1 1] := by rw [e3, ← s2]; exact Blk.new W2 71 #[.int .i64 7, .slice (some ⟨W0.heap.size + 1, 0, none⟩) 1 1]
      have b4 : Blk W4 (W0.heap.size + 1 + 1 + 1) 60 [.int .u32 1, .slice (some ⟨W0.heap.size, 0, none⟩) 1 1, .slice (some ⟨W0.heap.size + 1 + 1, 0, none⟩) 1 1, .int .u32 9] := by rw [e4, ← s3]; exact Blk.new W3 60 #[.int .u32 1, .slice (some ⟨W0.heap.size, 0, none⟩) 1 1, .slice (some ⟨W0.heap.size + 1 + 1, 0, none⟩) 1 1, .int .u32 9]
      have c3 : Blk W4 (W0.heap.size + 1 + 1) 71 [.int .i64 7, .slice (some ⟨W0.heap.size + 1, 0, none⟩) 1 1] := by rw [e4]; exact b3.alloc _
      have c2 : Blk W4 (W0.heap.size + 1) 5 [.int .u8 81] := by rw [e4]; exact Blk.alloc (by rw [e3]; exact b2.alloc _) _
      have c1 : Blk W4 W0.heap.size 69 (inV IG (.slice none 0 0) (.slice none 0 0)) := by rw [e4]; exact Blk.alloc (by rw [e3]; exact Blk.alloc (by rw [e2]; exact b1.alloc _) _) _
      have hB : Below W0.heap.size W0 W4 := by rw [e4]; exact (by rw [e3]; exact (by rw [e2]; exact (by rw [e1]; exact (Below.refl _ _).alloc (Nat.le_refl _) _ : Below W0.heap.size W0 W1).alloc (by rw [s1]; omega) _ : Below W0.heap.size W0 W2).alloc (by rw [s2]; omega) _ : Below W0.heap.size W0 W3).alloc (by rw [s3]; omega) _
      have bx := HBx.out.below hB HBx.out.lt
      have L := bkL hd0 (.slice (some ⟨W0.heap.size + 1 + 1 + 1, 0, none⟩) 1 1)
      have hl := Hlt.out
      have ne : ∀ k, W0.heap.size ≤ k → k ≠ b := fun k hk e => by have := Hb.out; omega
      have o1 := Blk.other_setCells (ne _ (Nat.le_refl _)) (bkL hd0 (.slice (some ⟨W0.heap.size + 1 + 1 + 1, 0, none⟩) 1 1)) 0 W4 c1
      have o2 := Blk.other_setCells (ne (W0.heap.size + 1) (by omega)) (bkL hd0 (.slice (some ⟨W0.heap.size + 1 + 1 + 1, 0, none⟩) 1 1)) 0 W4 c2
      have o3 := Blk.other_setCells (ne (W0.heap.size + 1 + 1) (by omega)) (bkL hd0 (.slice (some ⟨W0.heap.size + 1 + 1 + 1, 0, none⟩) 1 1)) 0 W4 c3
      have o4 := Blk.other_setCells (ne (W0.heap.size + 1 + 1 + 1) (by omega)) (bkL hd0 (.slice (some ⟨W0.heap.size + 1 + 1 + 1, 0, none⟩) 1 1)) 0 W4 b4
      exact ⟨txs_one (tg_ok o1 o3 o2) o4, below_setCells (by rw [Hb.out]; exact Nat.le_refl _) _ 0 W4 ((show Below w.heap.size w W0 by rw [← Hb.out]; exact HW.out).trans (hB.mono (Nat.le_of_lt (Hb.out ▸ Hlt.out)))), bx.setCells _ rfl⟩
    obtain ⟨k1, k2, k3⟩ := key _ _ _ _ rfl rfl rfl rfl
    generalize hW9 : World.setCells _ b 0 _ = W9
    have k1' : Txs W9 W9.heap.size (.slice (some ⟨W0.heap.size + 1 + 1 + 1, 0, none⟩) 1 1) [TG] := by rw [← hW9]; exact k1
    have k2' : Below w.heap.size w W9 := by rw [← hW9]; exact k2
    have k3' : Blk W9 b 30 (bkL hd0 (.slice (some ⟨W0.heap.size + 1 + 1 + 1, 0, none⟩) 1 1)) := by rw [← hW9]; exact k3
    clear hW9 k1 k2 k3 key
    have hlv := run_loadVar_mid (P := Try.prog) W9 b 0 30 _ _ k3'.range Try.underlying30 rfl (info30 hd0_ok)
    exact bodyPost_ret (v := .agg (bkL hd0 (.slice (some ⟨W0.heap.size + 1 + 1 + 1, 0, none⟩) 1 1)).toArray) (by simp [results, Try.results25, asAddr, Act.put, hlv]) rfl ⟨_, rfl, k1', k2'⟩
  · exact ((((Below.refl _ _).alloc (Nat.le_refl _) _).alloc (by simp) _).alloc (by simp; omega) _).alloc (by simp; omega) _
open Go.RowKit
set_option linter.unusedVariables false
set_option linter.unusedSimpArgs false
set_option maxRecDepth 100000
theorem txs_at {w : World} {rb : Nat} : ∀ (ts : List TTx) (pre vs : List Value), TxsW w ts vs → Blk w rb 60 (pre ++ vs) → ∀ j, j < ts.length → ∃ i u, w.rangeAt rb (pre.length + j * 4) (tx4 (ts.getD j tx00) i u) ∧ TxOk w w.heap.size (ts.getD j tx00) i u
  | [], _, _, _, _, j, hj => by simp at hj
  | t :: ts, pre, _, ⟨i, u, r, e, hi, hr⟩, hb, j, hj => by
    subst e
    cases j with
    | zero =>
      refine ⟨i, u, ?_, hi.ok⟩
      simpa using range_mid hb
    | succ j =>
      have := txs_at ts (pre ++ tx4 t i u) r hr (by rw [List.append_assoc]; exact hb) j (by simp at hj; omega)
      rw [List.length_append, show (tx4 t i u).length = 4 from rfl] at this
      rw [show pre.length + (j + 1) * 4 = pre.length + 4 + j * 4 by omega]
      exact this
theorem TxsW.txs {w : World} {rb n : Nat} {ts : List TTx} {vs : List Value} (h : TxsW w ts vs) (hb : Blk w rb 60 vs) (hn : ts.length = n) (hl : n ≤ 1000000) : Txs w w.heap.size (.slice (some ⟨rb, 0, none⟩) n n) ts := by
  subst hn
  refine ⟨_, _, rfl, Nat.le_refl _, by omega, fun hp => ⟨rb, 0, rfl, hb.lt, fun j hj => ?_⟩⟩
  exact txs_at ts [] vs h hb j hj
theorem fE_zero : ∀ {ts : List TTx}, fE ts = 0 → ∀ t ∈ ts, chk t = 0
  | [], _, t, ht => by cases ht
  | s :: ts, h, t, ht => by
    unfold fE at h
    by_cases hc : chk s = 0
    · rw [if_pos hc] at h
      rcases List.mem_cons.1 ht with rfl | ht
      · exact hc
      · exact fE_zero h t ht
    · rw [if_neg hc] at h; exact absurd h hc
theorem bE_zero {x : TBk} (h : bE x = 0) : 0 < x.txs.length ∧ x.txs.length ≤ 32 ∧ (∀ t ∈ x.txs, chk t = 0) ∧ (blkB x).length ≤ 8192 := by
  unfold bE at h
  by_cases h1 : x.txs.length = 0
  · rw [if_pos h1] at h; exact absurd h (by decide)
  rw [if_neg h1] at h
  by_cases h2 : 32 < x.txs.length
  · rw [if_pos h2] at h; exact absurd h (by decide)
  rw [if_neg h2] at h
  by_cases h3 : fE x.txs = 0
  · rw [if_pos h3] at h
    by_cases h4 : 8192 < (blkB x).length
    · rw [if_pos h4] at h; exact absurd h (by decide)
    · exact ⟨by omega, by omega, fE_zero h3, by omega⟩
  · rw [if_neg h3] at h; exact absurd h h3
theorem bE_ok {x : TBk} (h1 : 0 < x.txs.length) (h2 : x.txs.length ≤ 32) (h3 : ∀ t ∈ x.txs, chk t = 0) (h4 : (blkB x).length ≤ 8192) : bE x = 0 := by
  unfold bE
  rw [if_neg (by omega), if_neg (by omega), if_pos (fE_all h3), if_neg (by omega)]
theorem rB_back : ∀ (ts : List TTx) (M : List (BitVec 8)), (∀ t ∈ ts, chk t = 0 ∧ TxIn t) → rB ts.length (some ((ts.map txB).flatten ++ M)) = (0, ts, some M)
  | [], M, _ => rfl
  | t :: ts, M, h => by
    have e : ((t :: ts).map txB).flatten ++ M = layB t (witd t) ++ ((ts.map txB).flatten ++ M) := by simp [txB]
    rw [e]
    have a := rP_back t ((ts.map txB).flatten ++ M) (h t (by simp)).1 (h t (by simp)).2
    have ih := rB_back ts M (fun s hs => h s (by simp [hs]))
    simp only [List.length_cons, rB, a, if_true, ih]
theorem bP_back {x : TBk} (h : bE x = 0) (k : HdOk x.hd) (ht : ∀ t ∈ x.txs, TxIn t) : bP (blkB x) = (0, x) := by
  obtain ⟨h1, h2, h3, h4⟩ := bE_zero h
  have h80 := hdB_len k
  have e : blkB x = hdB x.hd ++ (form x.txs.length ++ ((x.txs.map txB).flatten ++ [])) := by unfold blkB; simp
  have hl : 80 ≤ (blkB x).length := by rw [e, List.length_append, h80]; omega
  have et : (blkB x).take 80 = hdB x.hd := by rw [e, take_app _ _ 80 h80]
  have ed : (blkB x).drop 80 = form x.txs.length ++ ((x.txs.map txB).flatten ++ []) := by rw [e, drop_app _ _ 80 h80]
  obtain ⟨a, b, c⟩ := get_back x.txs.length 32 ((x.txs.map txB).flatten ++ []) h2 (by omega)
  have ek : rK (some ((blkB x).drop 80)) = (0, x.txs, some []) := by
    rw [ed]
    unfold rK
    rw [if_pos c, a, if_neg (by omega), b, rB_back x.txs [] (fun t hx => ⟨h3 t hx, ht t hx⟩)]
  unfold bP
  rw [if_neg (by omega), if_neg (by omega), ek, if_pos rfl, if_pos (show endS (some []) = true from rfl), et, hdOf_B k]
theorem rB_once : ∀ (n : Nat) (s : Option (List (BitVec 8))) (M : List (BitVec 8)), (rB n s).1 = 0 → (rB n s).2.2 = some M → s = some (((rB n s).2.1.map txB).flatten ++ M) ∧ ∀ t ∈ (rB n s).2.1, chk t = 0 ∧ TxIn t
  | 0, s, M, h, hM => ⟨by simpa [rB] using hM, fun x hx => by simp [rB] at hx⟩
  | n + 1, s, M, h, hM => by
    by_cases h0 : (rP s).1 = 0
    · simp only [rB, h0, if_true] at h hM ⊢
      obtain ⟨e, f⟩ := rB_once n _ M h hM
      obtain ⟨M1, e1, f1, f2, f3⟩ := rP_once h0
      rw [e] at e1
      injection e1 with e1
      refine ⟨by rw [List.map_cons, List.flatten_cons, List.append_assoc]; rw [← e1] at f1; exact f1, fun x hx => ?_⟩
      rcases List.mem_cons.1 hx with rfl | hx
      · exact ⟨f2, f3⟩
      · exact f x hx
    · simp only [rB, h0, if_false] at h
theorem bP_once {L : List (BitVec 8)} (h : (bP L).1 = 0) : blkB (bP L).2 = L ∧ bE (bP L).2 = 0 ∧ HdOk (bP L).2.hd ∧ 0 < (bP L).2.txs.length ∧ ∀ t ∈ (bP L).2.txs, TxIn t := by
  unfold bP at h ⊢
  by_cases h1 : 8192 < L.length
  · rw [if_pos h1] at h; exact absurd h (show ¬ (3 : Int) = 0 by decide)
  rw [if_neg h1] at h ⊢
  by_cases h2 : L.length < 80
  · rw [if_pos h2] at h; exact absurd h (show ¬ (4 : Int) = 0 by decide)
  rw [if_neg h2] at h ⊢
  by_cases h3 : (rK (some (L.drop 80))).1 = 0
  · rw [if_pos h3] at h ⊢
    by_cases h4 : endS (rK (some (L.drop 80))).2.2 = true
    · rw [if_pos h4] at h ⊢
      obtain ⟨s, hs⟩ : ∃ s, s = some (L.drop 80) := ⟨_, rfl⟩
      rw [← hs] at h3 h4 ⊢
      have hM : (rK s).2.2 = some [] := by
        cases hh : (rK s).2.2 with
        | none => rw [hh] at h4; cases h4
        | some M => rw [hh] at h4; cases M with
          | nil => rfl
          | cons => cases h4
      by_cases hg : gE s 32 = 0
      · by_cases hn : gN s = 0
        · have e : rK s = (4, [], gS s) := by unfold rK; rw [if_pos hg, if_pos hn]
          rw [e] at h3; exact absurd h3 (show ¬ (4 : Int) = 0 by decide)
        · have e : rK s = rB (gN s) (gS s) := by unfold rK; rw [if_pos hg, if_neg hn]
          rw [e] at h3 hM ⊢
          obtain ⟨Y, f1, f2, f3⟩ := get_once hg
          obtain ⟨g1, g2⟩ := rB_once _ _ [] h3 hM
          have hl := rB_len _ _ h3
          rw [f2] at g1
          injection g1 with g1
          have l80 : (L.take 80).length = 80 := by rw [List.length_take]; omega
          have eb : blkB ⟨hdOf (L.take 80), (rB (gN s) (gS s)).2.1⟩ = L := by
            unfold blkB
            dsimp only
            rw [hdB_of l80, hl, List.append_assoc, f2]
            have : form (gN s) ++ (List.map txB (rB (gN s) (some Y)).2.1).flatten = L.drop 80 := by
              rw [hs] at f1
              injection f1 with f1
              rw [List.append_nil] at g1
              rw [← g1]
              rw [hs]
              exact f1.symm
            rw [this, List.take_append_drop]
          refine ⟨eb, bE_ok (by show 0 < (rB (gN s) (gS s)).2.1.length; omega) (by show (rB (gN s) (gS s)).2.1.length ≤ 32; omega) (fun t ht => (g2 t ht).1) (by rw [eb]; omega), hdOf_ok l80, by show 0 < (rB (gN s) (gS s)).2.1.length; omega, fun t ht => (g2 t ht).2⟩
      · have e : rK s = (gE s 32, [], gS s) := by unfold rK; rw [if_neg hg]
        rw [e] at h3; exact absurd h3 hg
    · rw [if_neg h4] at h; exact absurd h (show ¬ (4 : Int) = 0 by decide)
  · rw [if_neg h3] at h; exact absurd h h3
theorem rB_034 : ∀ (n : Nat) (s : Option (List (BitVec 8))), E034 (rB n s).1
  | 0, _ => .inl rfl
  | n + 1, s => by
    by_cases h0 : (rP s).1 = 0
    · simp only [rB, h0, if_true]; exact rB_034 n _
    · simp only [rB, h0, if_false]; exact rP_034 _
theorem bP_034 (L : List (BitVec 8)) : E034 (bP L).1 := by
  unfold bP
  split
  · exact .inr (.inl rfl)
  · split
    · exact .inr (.inr rfl)
    · split
      · split
        · exact .inl rfl
        · exact .inr (.inr rfl)
      · unfold rK
        split
        · split
          · exact .inr (.inr rfl)
          · exact rB_034 _ _
        · exact gE_034 _ _
open Go.RowKit
set_option linter.unusedVariables false
set_option linter.unusedSimpArgs false
set_option maxRecDepth 100000
def AwPost (w : World) (e : Ending) (w' : World) : Prop := e = .returned (.bool true) ∧ Below w.heap.size w w'
def XG : List (BitVec 8) := blkB BG
theorem XG_len : XG.length = 142 := by decide +kernel
theorem XG_80 : XG.getD 80 0 = 1 := by decide +kernel
theorem bE_G : bE BG = 0 := by decide +kernel
theorem TG_in : TxIn TG := by
  refine ⟨fun x hx => ?_, fun y hy => ?_, by decide, by decide⟩
  · simp [TG] at hx; subst hx; exact ⟨rfl, by decide, by decide⟩
  · simp [TG] at hy; subst hy; exact ⟨by decide, by decide⟩
theorem bP_G : bP XG = (0, BG) := bP_back bE_G hd0_ok (fun t ht => by simp [BG] at ht; subst ht; exact TG_in)
theorem bEq_G : bEq BG BG = true := by simp [bEq]
theorem gput (g : Nat) (w : World) (h : Txs w w.heap.size (.slice (some ⟨g, 0, none⟩) 1 1) [TG]) : Calls Try.prog 13 #[.agg (bkL hd0 (.slice (some ⟨g, 0, none⟩) 1 1)).toArray] w fun e w' => ∃ gb c, e = .returned (.tuple #[.slice (some ⟨gb, 0, none⟩) 142 c, .int .i64 0]) ∧ Rd w' w'.heap.size (some ⟨gb, 0, none⟩) XG ∧ Below w.heap.size w w' := by
  refine (bkput_any BG _ w h hd0_ok).mono fun e w' hp => ?_
  obtain ⟨A, c, rfl, ho, hb⟩ := hp.1 bE_G
  obtain ⟨A', cap, e', hr, _⟩ := ho.rd
  cases e'
  have hl : (blkB BG).length = 142 := XG_len
  obtain ⟨gb, hgb⟩ : ∃ gb, A = some ⟨gb, 0, none⟩ := ho.form (by rw [hl]; decide)
  subst hgb
  refine ⟨gb, c, by rw [hl], hr, hb⟩
theorem gparse (gb c : Nat) (w : World) (hr : Rd w w.heap.size (some ⟨gb, 0, none⟩) XG) : Calls Try.prog 7 #[.slice (some ⟨gb, 0, none⟩) 142 c] w fun e w' => ∃ rb, e = .returned (.tuple #[.agg (bkL hd0 (.slice (some ⟨rb, 0, none⟩) 1 1)).toArray, .int .i64 0]) ∧ Txs w' w'.heap.size (.slice (some ⟨rb, 0, none⟩) 1 1) [TG] ∧ Below w.heap.size w w' := by
  have := bparse_any (some ⟨gb, 0, none⟩) XG c w hr (fun h => by cases h)
  rw [XG_len, bP_G] at this
  refine this.mono fun e w' ⟨A, n, cap, he, hb, hok, _⟩ => ?_
  obtain ⟨rb, vs, e1, e2, e3, htx, hbk⟩ := hok rfl
  have e2 : 1 = n := e2
  subst e1 e3 e2
  exact ⟨rb, he, htx.txs hbk rfl (by decide), hb⟩
set_option maxHeartbeats 8000000 in
theorem awake_any (w : World) : Calls Try.prog 10 #[] w (AwPost w) := by
  have KG := Lib.hid given_any
  have KP := Lib.hid gput
  have KR := Lib.hid gparse
  have hz := bkzero
  go_enter Try.func10, Try.ntmps10
  go_upto_region 2 with (first
    | (go_at_call 25; (with_reducible refine (KG.out _).mono ?_); rintro e w1 ⟨g, rfl, htx, hb1⟩; have HT1 := Lib.hid htx; have HB1 := Lib.hid hb1; clear htx hb1; dsimp only)
    | (go_at_call 13; (with_reducible refine (KP.out _ _ HT1.out).mono ?_); rintro e w2 ⟨gb, c, rfl, hr, hb2⟩; have HR2 := Lib.hid hr; have HB2 : Hid (Below w.heap.size w w2) := HB1.out.trans (hb2.mono HB1.out.size); clear hr hb2; dsimp only))
  go_upto_region 3 with (first
    | (go_at_call 7; (with_reducible refine (KR.out gb c _ HR2.out).mono ?_); rintro e w3 ⟨rb, rfl, htx, hb3⟩; have HT3 := Lib.hid htx; have HB3 := Lib.hid hb3; have HNew : Hid (Blk (w3.alloc (.cells (bkL hd0 (.slice none 0 0)).toArray 30)) w3.heap.size 30 (bkL hd0 (.slice none 0 0))) := (by have := Blk.new w3 30 (bkL hd0 (.slice none 0 0)).toArray; rwa [List.toList_toArray] at this); clear htx hb3; dsimp only)
    | (with_reducible refine wpList_store_mid rfl 30 (.tmp 3) (.tmp 13) rfl w3.heap.size 0 (bkL hd0 (.slice (some ⟨rb, 0, none⟩) 1 1)).toArray rfl rfl (there_bk HNew.out hd0_ok hd0_ok) (info30v hd0_ok) (all_oneCell_toArray bkL_one) ?_))
  have hbw : Below w3.heap.size w3 ((w3.alloc (.cells (bkL hd0 (.slice none 0 0)).toArray 30)).setCells w3.heap.size 0 (bkL hd0 (.slice (some ⟨rb, 0, none⟩) 1 1))) := below_setCells (Nat.le_refl _) _ 0 _ ((Below.refl _ _).alloc (Nat.le_refl _) _)
  have HX4 := Lib.hid (HNew.out.setCells (bkL hd0 (.slice (some ⟨rb, 0, none⟩) 1 1)) rfl)
  have HT4 := Lib.hid ((HT3.out.keep hbw (Nat.le_refl _)).up hbw.size)
  have HW4 : Hid (Below w.heap.size w ((w3.alloc (.cells (bkL hd0 (.slice none 0 0)).toArray 30)).setCells w3.heap.size 0 (bkL hd0 (.slice (some ⟨rb, 0, none⟩) 1 1)))) := (HB2.out.trans (HB3.out.mono HB2.out.size)).trans (hbw.mono (Nat.le_trans HB2.out.size HB3.out.size))
  have HR4 : Hid (Rd ((w3.alloc (.cells (bkL hd0 (.slice none 0 0)).toArray 30)).setCells w3.heap.size 0 (bkL hd0 (.slice (some ⟨rb, 0, none⟩) 1 1))) w2.heap.size (some ⟨gb, 0, none⟩) XG) := HR2.out.keep (HB3.out.trans (hbw.mono HB3.out.size))
  have H24 : Hid (w2.heap.size ≤ ((w3.alloc (.cells (bkL hd0 (.slice none 0 0)).toArray 30)).setCells w3.heap.size 0 (bkL hd0 (.slice (some ⟨rb, 0, none⟩) 1 1))).heap.size) := Nat.le_trans HB3.out.size hbw.size
  obtain ⟨xb, hxb⟩ : ∃ b, b = w3.heap.size := ⟨_, rfl⟩
  rw [← hxb] at HX4 HT4 HW4 HR4 H24 ⊢
  clear hbw HNew hxb hz HT3 HB3 HT1 HB1
  generalize ((w3.alloc (.cells (bkL hd0 (.slice none 0 0)).toArray 30)).setCells xb 0 (bkL hd0 (.slice (some ⟨rb, 0, none⟩) 1 1))) = W4 at HX4 HT4 HW4 HR4 H24 ⊢
  have HC : Hid (∀ wq, SB W4 wq → wq.cell? ⟨gb, 80, none⟩ = some (.int .u8 1)) := fun wq hq => by
    have hr := HR4.out.keep (Below.mono hq H24.out)
    obtain ⟨b', o', e, hlt, hc⟩ := hr (by rw [XG_len]; decide)
    cases e
    have := hc 80 (by rw [XG_len]; decide)
    rw [XG_80] at this
    simpa [Bt] using this
  generalize hWd : W4.drew = Wd
  have HD4 : Hid (SB W4 Wd) := (hWd ▸ SB.drew W4 : SB W4 Wd)
  refine wp_region_but (z := 999) (SB Wd) (by kernel_rfl) ?_
  rw [hWd]
  have hS : SB Wd Wd := SB.refl Wd
  clear hWd
  refine AnyBut.takeE (i := 0) (v := ?_) rfl (by kernel_rfl) (by kernel_rfl) (by kernel_rfl) (by kernel_rfl) (fun _ _ _ h => h) (Or.inl ⟨by rfl, ?_⟩) hS ?_
  rotate_left
  · (intro wq hq; go_simp; try with_reducible rfl)
  try simp only [Act.put, List.setIfInBounds_toArray, List.set_cons_zero, List.set_cons_succ, List.getElem_toArray, List.getElem_cons_zero, List.getElem_cons_succ]
  refine AnyBut.takeE (i := 1) (v := ?_) rfl (by kernel_rfl) (by kernel_rfl) (by kernel_rfl) (by kernel_rfl) (fun _ _ _ h => h) (Or.inl ⟨by rfl, ?_⟩) hS ?_
  rotate_left
  · (intro wq hq; go_simp; try with_reducible rfl)
  try simp only [Act.put, List.setIfInBounds_toArray, List.set_cons_zero, List.set_cons_succ, List.getElem_toArray, List.getElem_cons_zero, List.getElem_cons_succ]
  refine AnyBut.takeE (i := 2) (v := ?_) rfl (by kernel_rfl) (by kernel_rfl) (by kernel_rfl) (by kernel_rfl) (fun _ _ _ h => h) (Or.inl ⟨by rfl, ?_⟩) hS ?_
  rotate_left
  · (intro wq hq; go_simp; try with_reducible rfl)
  try simp only [Act.put, List.setIfInBounds_toArray, List.set_cons_zero, List.set_cons_succ, List.getElem_toArray, List.getElem_cons_zero, List.getElem_cons_succ]
  refine AnyBut.takeE (i := 3) (v := ?_) rfl (by kernel_rfl) (by kernel_rfl) (by kernel_rfl) (by kernel_rfl) (fun _ _ _ h => h) (Or.inl ⟨by rfl, ?_⟩) hS ?_
  rotate_left
  · (intro wq hq; go_simp; try with_reducible rfl)
  try simp only [Act.put, List.setIfInBounds_toArray, List.set_cons_zero, List.set_cons_succ, List.getElem_toArray, List.getElem_cons_zero, List.getElem_cons_succ]
  refine AnyBut.takeE (i := 4) (v := ?_) rfl (by kernel_rfl) (by kernel_rfl) (by kernel_rfl) (by kernel_rfl) (fun _ _ _ h => h) (Or.inl ⟨by rfl, ?_⟩) hS ?_
  rotate_left
  · (intro wq hq; go_simp; try with_reducible rfl)
  try simp only [Act.put, List.setIfInBounds_toArray, List.set_cons_zero, List.set_cons_succ, List.getElem_toArray, List.getElem_cons_zero, List.getElem_cons_succ]
  refine AnyBut.takeE (i := 5) (v := ?_) rfl (by kernel_rfl) (by kernel_rfl) (by kernel_rfl) (by kernel_rfl) (fun _ _ _ h => h) (Or.inl ⟨by rfl, ?_⟩) hS ?_
  rotate_left
  · (intro wq hq; go_simp; try with_reducible rfl)
  try simp only [Act.put, List.setIfInBounds_toArray, List.set_cons_zero, List.set_cons_succ, List.getElem_toArray, List.getElem_cons_zero, List.getElem_cons_succ]
  refine AnyBut.takeE (i := 6) (v := ?_) rfl (by kernel_rfl) (by kernel_rfl) (by kernel_rfl) (by kernel_rfl) (fun _ _ _ h => h) (Or.inl ⟨by rfl, ?_⟩) hS ?_
  rotate_left
  · (intro wq hq; go_simp; try with_reducible rfl)
  try simp only [Act.put, List.setIfInBounds_toArray, List.set_cons_zero, List.set_cons_succ, List.getElem_toArray, List.getElem_cons_zero, List.getElem_cons_succ]
  refine AnyBut.takeE (i := 7) (v := ?_) rfl (by kernel_rfl) (by kernel_rfl) (by kernel_rfl) (by kernel_rfl) (fun _ _ _ h => h) (Or.inl ⟨by rfl, ?_⟩) hS ?_
  rotate_left
  · (intro wq hq; go_simp; try with_reducible rfl)
  try simp only [Act.put, List.setIfInBounds_toArray, List.set_cons_zero, List.set_cons_succ, List.getElem_toArray, List.getElem_cons_zero, List.getElem_cons_succ]
  refine AnyBut.takeE (i := 8) (v := ?_) rfl (by kernel_rfl) (by kernel_rfl) (by kernel_rfl) (by kernel_rfl) (fun _ _ _ h => h) (Or.inl ⟨by rfl, ?_⟩) hS ?_
  rotate_left
  · (intro wq hq; go_simp; try with_reducible rfl)
  try simp only [Act.put, List.setIfInBounds_toArray, List.set_cons_zero, List.set_cons_succ, List.getElem_toArray, List.getElem_cons_zero, List.getElem_cons_succ]
  refine AnyBut.takeE (i := 9) (v := ?_) rfl (by kernel_rfl) (by kernel_rfl) (by kernel_rfl) (by kernel_rfl) (fun _ _ _ h => h) (Or.inl ⟨by rfl, ?_⟩) hS ?_
  rotate_left
  · (intro wq hq; go_simp; try with_reducible rfl)
  try simp only [Act.put, List.setIfInBounds_toArray, List.set_cons_zero, List.set_cons_succ, List.getElem_toArray, List.getElem_cons_zero, List.getElem_cons_succ]
  refine AnyBut.takeE (i := 10) (v := .int .u8 1) rfl (by kernel_rfl) (by kernel_rfl) (by kernel_rfl) (by kernel_rfl) (fun _ _ _ h => h) (Or.inl ⟨by rfl, ?_⟩) hS ?_
  · intro wq hq
    have dq := HC.out wq (SB.trans HD4.out hq)
    go_simp
  try simp only [Act.put, List.setIfInBounds_toArray, List.set_cons_zero, List.set_cons_succ, List.getElem_toArray, List.getElem_cons_zero, List.getElem_cons_succ]
  refine AnyBut.takeE (i := 11) (v := ?_) rfl (by kernel_rfl) (by kernel_rfl) (by kernel_rfl) (by kernel_rfl) (fun _ _ _ h => h) (Or.inl ⟨by rfl, ?_⟩) hS ?_
  rotate_left
  · (intro wq hq; go_simp; try with_reducible rfl)
  try simp only [Act.put, List.setIfInBounds_toArray, List.set_cons_zero, List.set_cons_succ, List.getElem_toArray, List.getElem_cons_zero, List.getElem_cons_succ]
  refine AnyBut.takeE (i := 12) (v := ?_) rfl (by kernel_rfl) (by kernel_rfl) (by kernel_rfl) (by kernel_rfl) (fun _ _ _ h => h) (Or.inl ⟨by rfl, ?_⟩) hS ?_
  rotate_left
  · (intro wq hq; go_simp; try with_reducible rfl)
  try simp only [Act.put, List.setIfInBounds_toArray, List.set_cons_zero, List.set_cons_succ, List.getElem_toArray, List.getElem_cons_zero, List.getElem_cons_succ]
  refine AnyBut.takeE (i := 13) (v := ?_) rfl (by kernel_rfl) (by kernel_rfl) (by kernel_rfl) (by kernel_rfl) (fun _ _ _ h => h) (Or.inl ⟨by rfl, ?_⟩) hS ?_
  rotate_left
  · (intro wq hq; go_simp; try with_reducible rfl)
  try simp only [Act.put, List.setIfInBounds_toArray, List.set_cons_zero, List.set_cons_succ, List.getElem_toArray, List.getElem_cons_zero, List.getElem_cons_succ]
  refine AnyBut.takeE (i := 14) (v := ?_) rfl (by kernel_rfl) (by kernel_rfl) (by kernel_rfl) (by kernel_rfl) (fun _ _ _ h => h) (Or.inl ⟨by rfl, ?_⟩) hS ?_
  rotate_left
  · (intro wq hq; go_simp; try with_reducible rfl)
  try simp only [Act.put, List.setIfInBounds_toArray, List.set_cons_zero, List.set_cons_succ, List.getElem_toArray, List.getElem_cons_zero, List.getElem_cons_succ]
  refine AnyBut.takeE (i := 15) (v := ?_) rfl (by kernel_rfl) (by kernel_rfl) (by kernel_rfl) (by kernel_rfl) (fun _ _ _ h => h) (Or.inl ⟨by rfl, ?_⟩) hS ?_
  rotate_left
  · (intro wq hq; go_simp; try with_reducible rfl)
  try simp only [Act.put, List.setIfInBounds_toArray, List.set_cons_zero, List.set_cons_succ, List.getElem_toArray, List.getElem_cons_zero, List.getElem_cons_succ]
  refine AnyBut.takeE (i := 16) (v := ?_) rfl (by kernel_rfl) (by kernel_rfl) (by kernel_rfl) (by kernel_rfl) (fun _ _ _ h => h) (Or.inl ⟨by rfl, ?_⟩) hS ?_
  rotate_left
  · (intro wq hq; go_simp; try with_reducible rfl)
  try simp only [Act.put, List.setIfInBounds_toArray, List.set_cons_zero, List.set_cons_succ, List.getElem_toArray, List.getElem_cons_zero, List.getElem_cons_succ]
  refine AnyBut.takeE (i := 17) (v := ?_) rfl (by kernel_rfl) (by kernel_rfl) (by kernel_rfl) (by kernel_rfl) (fun _ _ _ h => h) (Or.inl ⟨by rfl, ?_⟩) hS ?_
  rotate_left
  · (intro wq hq; go_simp; try with_reducible rfl)
  try simp only [Act.put, List.setIfInBounds_toArray, List.set_cons_zero, List.set_cons_succ, List.getElem_toArray, List.getElem_cons_zero, List.getElem_cons_succ]
  refine AnyBut.takeE (i := 18) (v := .agg (bkL hd0 (.slice (some ⟨rb, 0, none⟩) 1 1)).toArray) rfl (by kernel_rfl) (by kernel_rfl) (by kernel_rfl) (by kernel_rfl) (fun _ _ _ h => h) ?_ hS ?_
  · exact yieldsIf_load_mid (by rfl) 30 (.tmp 3) rfl xb 0 rfl (bkL hd0 (.slice (some ⟨rb, 0, none⟩) 1 1)) _ (fun wq hq => (HX4.out.below (show Below W4.heap.size W4 wq from SB.trans HD4.out hq) HX4.out.lt).range) Try.underlying30 rfl (info30 hd0_ok)
  try simp only [Act.put, List.setIfInBounds_toArray, List.set_cons_zero, List.set_cons_succ, List.getElem_toArray, List.getElem_cons_zero, List.getElem_cons_succ]
  refine AnyBut.gone (i := 19) (by kernel_rfl) rfl (by rfl) (fun K hK => ?_)
  go_simp
  (with_reducible refine (KG.out _).mono ?_)
  rintro e w6 ⟨g6, rfl, htx, hb⟩
  have HT6 := Lib.hid htx
  clear htx
  have hS6 : SB Wd w6 := SB.next hS hb
  have HS6 := Lib.hid hS6
  have HBl6 := Lib.hid hb
  clear hb
  dsimp only
  refine hK _ _ (fun _ => hS6) ?_
  clear hK K hS
  try simp only [Act.put, List.setIfInBounds_toArray, List.set_cons_zero, List.set_cons_succ, List.getElem_toArray, List.getElem_cons_zero, List.getElem_cons_succ]
  refine AnyBut.stronger (S' := SB w6) (fun _ h => Below.trans hS6 (Below.mono h hS6.size)) ?_
  clear hS6
  have hS : SB w6 w6 := SB.refl w6
  have HX6 : Hid (SB W4 w6) := SB.trans HD4.out HS6.out
  have KS : Hid (Calls Try.prog 12 #[.agg (bkL hd0 (.slice (some ⟨rb, 0, none⟩) 1 1)).toArray, .agg (bkL hd0 (.slice (some ⟨g6, 0, none⟩) 1 1)).toArray] w6 (BoolPost true w6)) := by
    have := bsame_any BG BG (.slice (some ⟨rb, 0, none⟩) 1 1) (.slice (some ⟨g6, 0, none⟩) 1 1) w6 ((HT4.out.keep HX6.out (Nat.le_refl _)).up (SB.size HX6.out)) HT6.out hd0_ok hd0_ok
    rw [bEq_G] at this
    exact this
  refine AnyBut.gone (i := 20) (by kernel_rfl) rfl (by rfl) (fun K hK => ?_)
  go_simp
  (with_reducible refine (KS.out).mono ?_)
  rintro e w7 ⟨rfl, hb⟩
  have hS7 : SB w6 w7 := SB.next hS hb
  have HS7 := Lib.hid hS7
  have HBl7 := Lib.hid hb
  clear hb
  dsimp only
  refine hK _ _ (fun _ => hS7) ?_
  clear hK K hS
  try simp only [Act.put, List.setIfInBounds_toArray, List.set_cons_zero, List.set_cons_succ, List.getElem_toArray, List.getElem_cons_zero, List.getElem_cons_succ]
  refine AnyBut.stronger (S' := SB w7) (fun _ h => Below.trans hS7 (Below.mono h hS7.size)) ?_
  clear hS7
  have hS : SB w7 w7 := SB.refl w7
  have HX7 : Hid (SB W4 w7) := SB.trans HX6.out HS7.out
  refine AnyBut.takeE (i := 21) (v := ?_) rfl (by kernel_rfl) (by kernel_rfl) (by kernel_rfl) (by kernel_rfl) (fun _ _ _ h => h) (Or.inl ⟨by rfl, ?_⟩) hS ?_
  rotate_left
  · (intro wq hq; go_simp; try with_reducible rfl)
  try simp only [Act.put, List.setIfInBounds_toArray, List.set_cons_zero, List.set_cons_succ, List.getElem_toArray, List.getElem_cons_zero, List.getElem_cons_succ]
  refine AnyBut.gone (i := 22) (by kernel_rfl) rfl (by rfl) (fun K hK => ?_)
  go_simp
  refine hK _ _ (fun _ => hS) ?_
  clear hK K
  refine AnyBut.done (by kernel_rfl) ?_ _
  try dsimp only [Exit.then]
  clear hS
  go_wp2_with fail
  go_ret
  exact ⟨rfl, HW4.out.trans (Below.mono HX7.out HW4.out.size)⟩
end Go.Proofs.Ytpamepkcbhoiaaa
